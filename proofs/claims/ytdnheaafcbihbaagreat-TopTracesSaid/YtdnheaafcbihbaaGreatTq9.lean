/-
  Texts of the proof, merged by program: TYield TParse TParse2 TInt3 TNeg TPlus TAdd TSub TShl TShl2 TAbk.
-/
import Derived.Test.YtdnheaafcbihbaaGreatTq8
import Derived.Defers
import Derived.Recover
import Derived.Deep.RegionWith
import Derived.Deep.RegionHeld3
set_option linter.unusedSimpArgs false
set_option linter.unusedVariables false
set_option maxHeartbeats 16000000
namespace Go.Proofs.YtdnheaafcbihbaaGreat
open Go Go.RowKit
def SmRet (L : Nat) (w : World) (z : Int) (e : Ending) (w' : World) : Prop := Below w.heap.size w w' /\
 ((smallB z.natAbs = true /\ ∃ v', e = .returned v' /\ IntV L w' v' z) \/ (smallB z.natAbs = false /\ ∃ u pv, e = .panicked [{ v := .iface u pv, recovered := false }]))
theorem small_any {L : Nat} {v : Value} {z : Int} {w : World} (h : IntV L w v z) (hL : L <= 17000000000000) :
 Calls Tryz.prog 139 #[v] w (SmRet L w z) := by
 obtain ⟨sb, sv, rfl, hsb, hn⟩ := h
 obtain ⟨ao, k, cap, rfl⟩ := hn.form
 have hb0 : Below w.heap.size w (w.alloc (.cells #[.bool sb, .slice ao k cap] 98)) := (Below.refl _ _).alloc (Nat.le_refl _) _
 have hb1 : Below w.heap.size w ((w.alloc (.cells #[.bool sb, .slice ao k cap] 98)).alloc (.cells #[.bool false, .slice none 0 0] 98)) := hb0.alloc (by simp) _
 have hn1 := Lib.hid (hn.below hb1)
 have HB := Lib.hid hb1
 have HN := Lib.hid hn
 have HS := Lib.hid hsb
 clear hb0 hb1 hn hsb
 by_cases hsm : smallB z.natAbs = true
 ·go_enter Tryz.func139, Tryz.ntmps139
  go_wp2_with fail
  refine (isSmall_any hn1.out hL).mono ?_
  rintro e w2 ⟨rfl, rfl⟩
  have HSM := Lib.hid hsm
  go_wp2
  have hb2 : Below w.heap.size w ((w.alloc (.cells #[.bool sb, .slice ao k cap] 98)).alloc (.cells #[.bool sb, .slice ao k cap] 98)) := ((Below.refl _ _).alloc (Nat.le_refl _) _).alloc (by simp) _
  exact bodyPost_ret (v := .agg #[.bool sb, .slice ao k cap]) (by simp [results, Tryz.results139, go_sem]) rfl ⟨hb2, .inl ⟨HSM.out, _, rfl, _, _, rfl, HS.out, HN.out.below hb2⟩⟩
 ·have hsm : smallB z.natAbs = false := by simpa using hsm
  go_enter Tryz.func139, Tryz.ntmps139
  go_wp2_with fail
  refine (isSmall_any hn1.out hL).mono ?_
  rintro e w2 ⟨rfl, rfl⟩
  have HSM := Lib.hid hsm
  go_wp2
  exact ⟨rfl, HB.out, .inr ⟨HSM.out, _, _, rfl⟩⟩
theorem catchInt_panicking (p q : Nat) (x : Bool) (a : Option Addr) (k c : Nat) (y : Int) (u : TypeId) (pv : Value) (older : List PanicEntry) (w : World)
 (h0 : w.heap[p]? = some (.cells #[.bool x, .slice a k c] 98 (0, 0))) (h1 : w.heap[q]? = some (.cells #[.int .i64 y] 29 (0, 0))) :
 CallsD Tryz.prog 197 #[.pointer (some ⟨p, 0, none⟩), .pointer (some ⟨q, 0, none⟩)] (.panicking ({ v := .iface u pv, recovered := false } :: older)) w fun e u' w' =>
  e = .returned (.tuple #[]) /\ u' = .panicking ({ v := .iface u pv, recovered := true } :: older) /\
  w' = (((w.setCell ⟨p, 0, none⟩ (.bool false)).setCell ⟨p, 1, none⟩ (.slice none 0 0)).setCell ⟨q, 0, none⟩ (.int .i64 11)).alloc (.cells #[.bool false, .slice none 0 0] 98) := by
 obtain ⟨c0, c1, f0, f1⟩ := ttwo_cells h0
 have hp : p < w.heap.size := (Array.getElem?_eq_some_iff.1 h0).1
 have hq : q < w.heap.size := (Array.getElem?_eq_some_iff.1 h1).1
 have d0 : w.cell? ⟨q, 0, none⟩ = some (.int .i64 y) := by rw [cell_of_row w q 0 _ _ (0, 0) h1]; rfl
 have g0 : w.frozen? ⟨q, 0, none⟩ = false := frozen_of_row w q 0 _ _ h1
 have hpq : ¬ p = q := fun e => by rw [e, h1] at h0; simp at h0
 refine callsD_of_wpS Tryz.func197 rfl fun c₀ cs hu => ?_
 apply wpS_seq
 apply wpS_region
 simp [wpOpsS, go_sem, recoverD, hu, Tryz.ntmps197, Exit.thenS]
 refine wpS_cond (t := true) (by simp [Act.eval, Array.replicate]) ?_
 simp only [if_true]
 refine wpS_of_wp ?_
 simp only [Array.replicate_succ, Array.replicate_zero, List.push_toArray, List.append_toArray, List.nil_append, List.cons_append, List.setIfInBounds_toArray, List.set_cons_succ, List.set_cons_zero]
 go_wp2
 simp [bodyPostS, results, Tryz.results197]
theorem catchInt_idle (p q : Addr) (w : World) :
 CallsD Tryz.prog 197 #[.pointer (some p), .pointer (some q)] .returning w fun e u' w' => e = .returned (.tuple #[]) /\ u' = .returning /\ w' = w := by
 refine callsD_of_wpS Tryz.func197 rfl fun c₀ cs hu => ?_
 apply wpS_seq
 apply wpS_region
 simp [wpOpsS, go_sem, recoverD, hu, Tryz.ntmps197, Exit.thenS]
 refine wpS_cond (t := false) (by simp [Act.eval, Array.replicate]) ?_
 simp only [Bool.false_eq_true, if_false]
 refine wpS_of_wp (wp_skip ?_)
 cases c₀
 simp_all [bodyPostS, results, Tryz.results197]
def YdRet (L : Nat) (w : World) (z : Int) (e : Ending) (w' : World) : Prop := Below w.heap.size w w' /\
 ((smallB z.natAbs = true /\ ∃ v', e = .returned (.tuple #[v', .int .i64 0]) /\ IntV L w' v' z) \/ (smallB z.natAbs = false /\ e = .returned (.tuple #[.agg #[.bool false, .slice none 0 0], .int .i64 11])))
set_option maxRecDepth 20000 in
theorem yield_any {L : Nat} {z : Int} (K : FuncId) (cap : Array Value) (w : World) (hK : ∀ W : World, (callFunc K cap).run Tryz.prog W = .ok (.enter K cap) W) (h : ∀ W, Below w.heap.size w W -> Calls Tryz.prog K cap W (SmRet L W z)) :
 Calls Tryz.prog 136 #[.func (Fn.func K) #[] cap] w (YdRet L w z) := by
 have hmf : ∀ (fn : Fn) (first cap : Array Value) (w : World), (Instr.makeFunc fn first cap).run Tryz.prog w = .ok (.func fn first cap) w := fun _ _ _ _ => rfl
 have hb0 : Below w.heap.size w ((w.alloc (.cells #[.bool false, .slice none 0 0] 98)).alloc (.cells #[.int .i64 0] 29)) := ((Below.refl _ _).alloc (Nat.le_refl _) _).alloc (by simp) _
 have H := Lib.hid h
 have HB0 := Lib.hid hb0
 clear h hb0
 go_enter_defers Tryz.func136, Tryz.ntmps136
 go_wp2_with fail
 refine (H.out _ HB0.out).mono ?_
 rintro e w1 ⟨hb1, hcase⟩
 have hx0 : w1.heap[w.heap.size]? = some (.cells #[.bool false, .slice none 0 0] 98 (0, 0)) := by
  rw [hb1.block _ (by simp; omega)]
  exact (heap_alloc_old _ _ (by simp)).trans (heap_alloc_new w _)
 have hx1 : w1.heap[w.heap.size + 1]? = some (.cells #[.int .i64 0] 29 (0, 0)) := by
  rw [hb1.block _ (by simp)]
  have := heap_alloc_new (w.alloc (.cells #[.bool false, .slice none 0 0] 98)) (.cells #[.int .i64 0] 29)
  simpa using this
 have hbw := Lib.hid (HB0.out.trans (hb1.mono (by simp; omega)))
 rcases hcase with ⟨hsm, v', rfl, sb, sv, rfl, hsb, hn⟩ | ⟨hsm, u, pv, rfl⟩
 ·obtain ⟨ao, k, c, rfl⟩ := hn.form
  obtain ⟨c0, c1, f0, f1⟩ := ttwo_cells hx0
  have d0 : w1.cell? ⟨w.heap.size + 1, 0, none⟩ = some (.int .i64 0) := by rw [cell_of_row w1 _ 0 _ _ (0, 0) hx1]; rfl
  have g0 : w1.frozen? ⟨w.heap.size + 1, 0, none⟩ = false := frozen_of_row w1 _ 0 _ _ hx1
  have hsz : w.heap.size + 1 < w1.heap.size := (Array.getElem?_eq_some_iff.1 hx1).1
  have HSM := Lib.hid hsm
  have HSB := Lib.hid hsb
  have HN := Lib.hid (hn.box hx0 (.bool sb) (.slice ao k c))
  have HX := Lib.hid (ttwo_set hx0 (.bool sb) (.slice ao k c))
  have HX1 := Lib.hid hx1
  clear hsm hsb hn hx0 hx1 hb1
  go_wp2
  refine leaves_cons (f := 197) (args := #[.pointer (some ⟨w.heap.size, 0, none⟩), .pointer (some ⟨w.heap.size + 1, 0, none⟩)]) (by simp) (by simp [go_sem]) ?_
  refine (catchInt_idle _ _ _).mono ?_
  rintro e u' w'' ⟨rfl, rfl, rfl⟩
  have hq1 : ((w1.setCell ⟨w.heap.size, 0, none⟩ (.bool sb)).setCell ⟨w.heap.size, 1, none⟩ (.slice ao k c)).heap[w.heap.size + 1]? = some (.cells #[.int .i64 0] 29 (0, 0)) := by
   rw [heap_setCell_other _ _ _ _ (by simp), heap_setCell_other _ _ _ _ (by simp)]; exact HX1.out
  obtain ⟨q0, q1, _, _⟩ := ttwo_cells ((heap_setCell_other ((w1.setCell ⟨w.heap.size, 0, none⟩ (.bool sb)).setCell ⟨w.heap.size, 1, none⟩ (.slice ao k c)) ⟨w.heap.size + 1, 0, none⟩ w.heap.size (.int .i64 0) (by simp)).trans HX.out)
  have hq2 := heap_setCell_same _ _ 0 _ _ (.int .i64 0) hq1
  have q2 := (cell_of_row _ _ 0 _ _ (0, 0) hq2)
  refine ⟨.tuple #[.agg #[.bool sb, .slice ao k c], .int .i64 0], by simp [results, Tryz.results136, go_sem, q0, q1, q2], ?_, .inl ⟨HSM.out, _, rfl, _, _, rfl, HSB.out, ?_⟩⟩
  ·exact ((hbw.out.setCell (p := ⟨w.heap.size, 0, none⟩) (Nat.le_refl _) _).setCell (p := ⟨w.heap.size, 1, none⟩) (Nat.le_refl _) _).setCell (p := ⟨w.heap.size + 1, 0, none⟩) (by simp) _
  ·obtain ⟨xs, x1, x2⟩ := HN.out
   refine ⟨xs, x1.kept (tgrowSet (tgrowRefl _ (some (w.heap.size + 1))) 0 (.int .i64 0)) (fun k' hk e => ?_), x2⟩
   exact x1.not_boxT hq1 (fun i m => by rcases i with _ | i <;> simp) (hk.trans e.symm)
 ·have HSM := Lib.hid hsm
  have HX := Lib.hid hx0
  have HX1 := Lib.hid hx1
  clear hsm hx0 hx1 hb1
  go_wp2
  refine leaves_cons (f := 197) (args := #[.pointer (some ⟨w.heap.size, 0, none⟩), .pointer (some ⟨w.heap.size + 1, 0, none⟩)]) (by simp) (by simp [go_sem]) ?_
  refine (catchInt_panicking _ _ _ _ _ _ _ u pv [] _ HX.out HX1.out).mono ?_
  rintro e u' w'' ⟨rfl, rfl, rfl⟩
  have hq1 : ((w1.setCell ⟨w.heap.size, 0, none⟩ (.bool false)).setCell ⟨w.heap.size, 1, none⟩ (.slice none 0 0)).heap[w.heap.size + 1]? = some (.cells #[.int .i64 0] 29 (0, 0)) := by
   rw [heap_setCell_other _ _ _ _ (by simp), heap_setCell_other _ _ _ _ (by simp)]; exact HX1.out
  have hp2 := ttwo_set HX.out (.bool false) (.slice none 0 0)
  have hp3 := (heap_setCell_other ((w1.setCell ⟨w.heap.size, 0, none⟩ (.bool false)).setCell ⟨w.heap.size, 1, none⟩ (.slice none 0 0)) ⟨w.heap.size + 1, 0, none⟩ w.heap.size (.int .i64 11) (by simp)).trans hp2
  have hq2 := heap_setCell_same _ _ 0 _ _ (.int .i64 11) hq1
  obtain ⟨q0, q1, _, _⟩ := ttwo_cells ((heap_alloc_old _ (.cells #[.bool false, .slice none 0 0] 98) (Array.getElem?_eq_some_iff.1 hp3).1).trans hp3)
  have q2 := (cell_of_row _ _ 0 _ _ (0, 0) ((heap_alloc_old _ (.cells #[.bool false, .slice none 0 0] 98) (Array.getElem?_eq_some_iff.1 hq2).1).trans hq2))
  refine ⟨.tuple #[.agg #[.bool false, .slice none 0 0], .int .i64 11], by simp [results, Tryz.results136, go_sem, q0, q1, q2], ?_, .inr ⟨HSM.out, rfl⟩⟩
  exact (((hbw.out.setCell (p := ⟨w.heap.size, 0, none⟩) (Nat.le_refl _) _).setCell (p := ⟨w.heap.size, 1, none⟩) (Nat.le_refl _) _).setCell (p := ⟨w.heap.size + 1, 0, none⟩) (by simp) _).alloc (by have := hbw.out.size; simpa [World.setCell] using this) _
theorem tbelowCell {w w' : World} {b o : Nat} {v : Value} (h : Below w.heap.size w w') (hc : w.cell? ⟨b, o, none⟩ = some v) : w'.cell? ⟨b, o, none⟩ = some v :=
 (h.cell (p := ⟨b, o, none⟩) (World.block_lt_of_cell? w _ hc)).trans hc
def PaRet (s : List UInt8) (w : World) (e : Ending) (w' : World) : Prop := Below w.heap.size w w' /\
 ((∃ z v', s = Dg.decZ z /\ smallB z.natAbs = true /\ e = .returned (.tuple #[v', .int .i64 0]) /\ IntV 40000 w' v' z) \/
  (∃ z, s = Dg.decZ z /\ smallB z.natAbs = false /\ e = .returned (.tuple #[.agg #[.bool false, .slice none 0 0], .int .i64 11])) \/
  ((∀ z, s ≠ Dg.decZ z) /\ e = .returned (.tuple #[.agg #[.bool false, .slice none 0 0], .int .i64 10])))
theorem Num.form2 {L : Nat} {w : World} {v : Value} {n : Int} (h : Num L w v n) : ∃ ao k cap, v = .slice ao k cap /\ (k = 0 ↔ n = 0) /\ 0 <= n := by
 obtain ⟨xs, ⟨ao, cap, e, _⟩, a2, a3, a4, _⟩ := h
 refine ⟨ao, _, cap, e, ?_, by rw [<- a4]; exact Dg.val_nonneg (by decide) a2⟩
 rw [<- a4, Dg.val_zero_iff (by decide) a2 a3]
 exact List.length_eq_zero_iff
theorem sign_any {L : Nat} {v : Value} {z : Int} {w : World} (h : IntV L w v z) :
 Calls Tryz.prog 192 #[v] w (RetV w (.int .i64 (Dg.sg z 0))) := by
 obtain ⟨sb, sv, rfl, hsb, hn⟩ := h
 obtain ⟨ao, k, cap, rfl, hk, _⟩ := hn.form2
 have hb0 : Below w.heap.size w (w.alloc (.cells #[.bool sb, .slice ao k cap] 98)) := (Below.refl _ _).alloc (Nat.le_refl _) _
 rcases Int.lt_trichotomy z 0 with h | h | h
 ·have e : sb = true := by rw [hsb]; simpa using h
  subst e
  have HS := Lib.hid (Dg.sg_lt h)
  clear hsb hk
  go_enter Tryz.func192, Tryz.ntmps192
  go_wp2
  go_ret
  exact ⟨hb0, by rw [HS.out]; rfl⟩
 ·subst h
  have e : sb = false := by rw [hsb]; rfl
  subst e
  have e2 : k = 0 := hk.2 rfl
  subst e2
  clear hsb hk
  go_enter Tryz.func192, Tryz.ntmps192
  go_wp2
  go_ret
  exact ⟨hb0, rfl⟩
 ·have e : sb = false := by rw [hsb]; simp; omega
  subst e
  have e2 : 0 < k := by
   apply Nat.pos_of_ne_zero
   intro hc
   have := hk.1 hc
   omega
  have HS := Lib.hid (Dg.sg_gt h)
  clear hsb hk
  go_enter Tryz.func192, Tryz.ntmps192
  go_wp2
  go_ret
  exact ⟨hb0, by rw [HS.out]; rfl⟩
theorem theap_last (W : World) (o : Obj) (n : Nat) (h : W.heap.size = n) : (W.alloc o).heap[n]? = some o := by subst h; exact heap_alloc_new W o
theorem int_end {L : Nat} {z : Int} {w W : World} {g : Nat} {s x : Bool} {ao bo : Option Addr} {k c k' c' : Nat} {T : TypeId} (hg : W.heap[g]? = some (.cells #[.bool x, .slice bo k' c'] T (0, 0)))
 (hb : Below w.heap.size w W) (hgw : w.heap.size <= g) (hs : s = decide (z < 0)) (hn : Num L W (.slice ao k c) z.natAbs) :
 RetInt L w z (.returned (.agg #[.bool s, .slice ao k c])) ((W.setCell ⟨g, 0, none⟩ (.bool s)).setCell ⟨g, 1, none⟩ (.slice ao k c)) /\
  ((W.setCell ⟨g, 0, none⟩ (.bool s)).setCell ⟨g, 1, none⟩ (.slice ao k c)).cell? ⟨g, 0, none⟩ = some (.bool s) /\ ((W.setCell ⟨g, 0, none⟩ (.bool s)).setCell ⟨g, 1, none⟩ (.slice ao k c)).cell? ⟨g, 1, none⟩ = some (.slice ao k c) := by
 obtain ⟨q0, q1, _, _⟩ := ttwo_cells (ttwo_set hg (.bool s) (.slice ao k c))
 exact ⟨⟨(hb.setCell (p := ⟨g, 0, none⟩) hgw _).setCell (p := ⟨g, 1, none⟩) hgw _, _, rfl, _, _, rfl, hs, hn.box hg _ _⟩, q0, q1⟩
theorem sgn_mul {y z : Int} {sa sb : Bool} (ha : sa = decide (y < 0)) (hb : sb = decide (z < 0)) : sgn (sa != sb) ((y.natAbs : Int) * z.natAbs) = y * z := by
 subst ha hb
 unfold sgn
 by_cases h1 : y < 0 <;> by_cases h2 : z < 0
 ·have e1 : (y.natAbs : Int) = -y := by omega
  have e2 : (z.natAbs : Int) = -z := by omega
  simp [h1, h2, e1, e2, Int.neg_mul, Int.mul_neg]
 ·have e1 : (y.natAbs : Int) = -y := by omega
  have e2 : (z.natAbs : Int) = z := by omega
  simp [h1, h2, e1, e2, Int.neg_mul, Int.mul_neg]
 ·have e1 : (y.natAbs : Int) = y := by omega
  have e2 : (z.natAbs : Int) = -z := by omega
  simp [h1, h2, e1, e2, Int.neg_mul, Int.mul_neg]
 ·have e1 : (y.natAbs : Int) = y := by omega
  have e2 : (z.natAbs : Int) = z := by omega
  simp [h1, h2, e1, e2]
theorem sgn_same {y z : Int} {sa sb : Bool} (ha : sa = decide (y < 0)) (hb : sb = decide (z < 0)) (h : sa = sb) : sgn sa ((y.natAbs : Int) + z.natAbs) = y + z := by
 subst ha hb
 unfold sgn
 have h' : (y < 0) ↔ (z < 0) := by simpa using h
 by_cases h1 : y < 0
 ·have := h'.1 h1
  simp [h1]; omega
 ·have : ¬ z < 0 := fun k => h1 (h'.2 k)
  simp [h1]; omega
theorem sgn_less {y z : Int} {sa sb : Bool} (ha : sa = decide (y < 0)) (hb : sb = decide (z < 0)) (h : sa ≠ sb) : sgn sb ((z.natAbs : Int) - y.natAbs) = y + z := by
 subst ha hb
 unfold sgn
 by_cases h1 : y < 0 <;> by_cases h2 : z < 0 <;> simp [h1, h2] at h ⊢ <;> omega
theorem sgn_more {y z : Int} {sa sb : Bool} (ha : sa = decide (y < 0)) (hb : sb = decide (z < 0)) (h : sa ≠ sb) : sgn sa ((y.natAbs : Int) - z.natAbs) = y + z := by
 subst ha hb
 unfold sgn
 by_cases h1 : y < 0 <;> by_cases h2 : z < 0 <;> simp [h1, h2] at h ⊢ <;> omega
set_option maxRecDepth 20000 in
theorem times_any {La Lb : Nat} {va vb : Value} {y z : Int} {w : World} (ha : IntV La w va y) (hb : IntV Lb w vb z) (h1 : La <= 536870912) (h2 : Lb <= 536870912) :
 Calls Tryz.prog 141 #[va, vb] w (RetInt (La + Lb) w (y * z)) := by
 obtain ⟨LL, hLL⟩ : ∃ LL, LL = La + Lb := ⟨_, rfl⟩
 rw [<- hLL]
 obtain ⟨sa, ua, rfl, hsa, hna⟩ := ha
 obtain ⟨sb, ub, rfl, hsb, hnb⟩ := hb
 obtain ⟨ao, ka, ca, rfl⟩ := hna.form
 obtain ⟨bo, kb, cb, rfl⟩ := hnb.form
 have hb0 : Below w.heap.size w (((w.alloc (.cells #[.bool sa, .slice ao ka ca] 98)).alloc (.cells #[.bool sb, .slice bo kb cb] 98)).alloc (.cells #[.bool false, .slice none 0 0] 98)) := (((Below.refl _ _).alloc (Nat.le_refl _) _).alloc (by simp) _).alloc (by simp; omega) _
 have HNA := Lib.hid (hna.below hb0)
 have HNB := Lib.hid (hnb.below hb0)
 have HB := Lib.hid hb0
 have HBX : Hid ((((w.alloc (.cells #[.bool sa, .slice ao ka ca] 98)).alloc (.cells #[.bool sb, .slice bo kb cb] 98)).alloc (.cells #[.bool false, .slice none 0 0] 98)).heap[w.heap.size + 2]? = some (.cells #[.bool false, .slice none 0 0] 98 (0, 0))) := theap_last _ _ _ (by simp)
 have HSA := Lib.hid hsa
 have HSB := Lib.hid hsb
 clear hna hnb hb0 hsa hsb
 go_enter Tryz.func141, Tryz.ntmps141
 go_wp2_with fail
 go_region_held3 (fun w' => w'.cell? ⟨w.heap.size, 0, none⟩ = some (.bool sa) /\ w'.cell? ⟨w.heap.size, 1, none⟩ = some (.slice ao ka ca) /\ w'.cell? ⟨w.heap.size + 1, 0, none⟩ = some (.bool sb) /\ w'.cell? ⟨w.heap.size + 1, 1, none⟩ = some (.slice bo kb cb))
  (first | exact ⟨kd0, kd1, kd2, kd3⟩ | exact ⟨kc0, kc1, kc2, kc3⟩ | exact ⟨ke0, ke1, ke2, ke3⟩ | (refine ⟨?_, ?_, ?_, ?_⟩ <;> simp [go_sem, kd0, kd1, kd2, kd3]; done) | (refine ⟨?_, ?_, ?_, ?_⟩ <;> simp [go_sem]; done) | go_keep)
  ((first | (go_at_call 199; refine (product_num (La := La) (Lb := Lb) (m := y.natAbs) (n := z.natAbs) (by exact HNA.out) (by exact HNB.out) (by omega) (by omega)).mono ?_; rintro e w1 ⟨hb1, v1, rfl, hn1, hf1⟩; have s1 := hb1.size; simp at s1; have kc0 := tbelowCell hb1 (v := .bool sa) (b := w.heap.size) (o := 0) (by simp [go_sem]); have kc1 := tbelowCell hb1 (v := .slice ao ka ca) (b := w.heap.size) (o := 1) (by simp [go_sem]); have kc2 := tbelowCell hb1 (v := .bool sb) (b := w.heap.size + 1) (o := 0) (by simp [go_sem]); have kc3 := tbelowCell hb1 (v := .slice bo kb cb) (b := w.heap.size + 1) (o := 1) (by simp [go_sem])) | (go_at_call 134; refine (signed_any (sa != sb) hn1).mono ?_; rintro e w2 ⟨hb2, v2, rfl, s, sv, rfl, hs, hn2⟩; have HS := Lib.hid hs; clear hs; obtain ⟨ao2, k2, c2, rfl⟩ := hn2.form; have s2 := hb2.size; have kd0 := tbelowCell hb2 kc0; have kd1 := tbelowCell hb2 kc1; have kd2 := tbelowCell hb2 kc2; have kd3 := tbelowCell hb2 kc3; have hbx : w2.heap[w.heap.size + 2]? = some (.cells #[.bool false, .slice none 0 0] 98 (0, 0)) := (hb2.block _ (by omega)).trans ((hb1.block _ (by simp)).trans HBX.out); obtain ⟨c0, c1, f0, f1⟩ := ttwo_cells hbx; have hsz : w.heap.size + 2 < w2.heap.size := (Array.getElem?_eq_some_iff.1 hbx).1)))
 have hball := (HB.out.drew.trans (hb1.mono (B' := w.heap.size) (by first | (simp; omega) | omega))).trans (hb2.mono (B' := w.heap.size) (by omega))
 have HE := Lib.hid (int_end (z := y * z) (s := s) (ao := ao2) (k := k2) (c := c2) hbx hball (by omega) (by rw [HS.out, sgn_mul HSA.out HSB.out]) (by have := hn2; rw [sgn_mul HSA.out HSB.out] at this; exact this.mono (L' := LL) (by omega)))
 clear hball hbx hb1 hb2 hn1 hn2 hf1
 go_wp2
 exact bodyPost_ret (v := .agg #[.bool s, .slice ao2 k2 c2]) (by simp [results, Tryz.results141, go_sem, HE.out.2.1, HE.out.2.2]) rfl HE.out.1
set_option maxRecDepth 20000 in
theorem plus_any {La Lb : Nat} {va vb : Value} {y z : Int} {w : World} (ha : IntV La w va y) (hb : IntV Lb w vb z) (h1 : La <= 536870912) (h2 : Lb <= 536870912) :
 Calls Tryz.prog 138 #[va, vb] w (RetInt (max La Lb + 1) w (y + z)) := by
 obtain ⟨LL, hLL⟩ : ∃ LL, LL = max La Lb + 1 := ⟨_, rfl⟩
 rw [<- hLL]
 obtain ⟨sa, ua, rfl, hsa, hna⟩ := ha
 obtain ⟨sb, ub, rfl, hsb, hnb⟩ := hb
 obtain ⟨ao, ka, ca, rfl⟩ := hna.form
 obtain ⟨bo, kb, cb, rfl⟩ := hnb.form
 have hb0 : Below w.heap.size w (((w.alloc (.cells #[.bool sa, .slice ao ka ca] 98)).alloc (.cells #[.bool sb, .slice bo kb cb] 98)).alloc (.cells #[.bool false, .slice none 0 0] 98)) := (((Below.refl _ _).alloc (Nat.le_refl _) _).alloc (by simp) _).alloc (by simp; omega) _
 have HNA := Lib.hid (hna.below hb0)
 have HNB := Lib.hid (hnb.below hb0)
 have HB := Lib.hid hb0
 have HBX : Hid ((((w.alloc (.cells #[.bool sa, .slice ao ka ca] 98)).alloc (.cells #[.bool sb, .slice bo kb cb] 98)).alloc (.cells #[.bool false, .slice none 0 0] 98)).heap[w.heap.size + 2]? = some (.cells #[.bool false, .slice none 0 0] 98 (0, 0))) := theap_last _ _ _ (by simp)
 have HSA := Lib.hid hsa
 have HSB := Lib.hid hsb
 clear hna hnb hb0 hsa hsb
 by_cases hss : sa = sb
 ·have t1 : (sa == sb) = true := by simpa using hss
  have HSS := Lib.hid hss
  clear hss
  go_enter Tryz.func138, Tryz.ntmps138
  go_wp2_with fail
  go_region_held3 (fun w' => w'.cell? ⟨w.heap.size, 0, none⟩ = some (.bool sa) /\ w'.cell? ⟨w.heap.size, 1, none⟩ = some (.slice ao ka ca) /\ w'.cell? ⟨w.heap.size + 1, 0, none⟩ = some (.bool sb) /\ w'.cell? ⟨w.heap.size + 1, 1, none⟩ = some (.slice bo kb cb))
   (first | exact ⟨kd0, kd1, kd2, kd3⟩ | exact ⟨kc0, kc1, kc2, kc3⟩ | exact ⟨ke0, ke1, ke2, ke3⟩ | (refine ⟨?_, ?_, ?_, ?_⟩ <;> simp [go_sem, kd0, kd1, kd2, kd3]; done) | (refine ⟨?_, ?_, ?_, ?_⟩ <;> simp [go_sem]; done) | go_keep)
   ((first | (go_at_call 194; refine (sum_num (La := La) (Lb := Lb) (m := y.natAbs) (n := z.natAbs) (by exact HNA.out) (by exact HNB.out) (by omega) (by omega)).mono ?_; rintro e w1 ⟨hb1, v1, rfl, hn1, hf1⟩; have s1 := hb1.size; simp at s1; have kc0 := tbelowCell hb1 (v := .bool sa) (b := w.heap.size) (o := 0) (by simp [go_sem]); have kc1 := tbelowCell hb1 (v := .slice ao ka ca) (b := w.heap.size) (o := 1) (by simp [go_sem]); have kc2 := tbelowCell hb1 (v := .bool sb) (b := w.heap.size + 1) (o := 0) (by simp [go_sem]); have kc3 := tbelowCell hb1 (v := .slice bo kb cb) (b := w.heap.size + 1) (o := 1) (by simp [go_sem])) | (go_at_call 134; refine (signed_any sa hn1).mono ?_; rintro e w2 ⟨hb2, v2, rfl, s, sv, rfl, hs, hn2⟩; have HS := Lib.hid hs; clear hs; obtain ⟨ao2, k2, c2, rfl⟩ := hn2.form; have s2 := hb2.size; have kd0 := tbelowCell hb2 kc0; have kd1 := tbelowCell hb2 kc1; have kd2 := tbelowCell hb2 kc2; have kd3 := tbelowCell hb2 kc3; have hbx : w2.heap[w.heap.size + 2]? = some (.cells #[.bool false, .slice none 0 0] 98 (0, 0)) := (hb2.block _ (by omega)).trans ((hb1.block _ (by simp)).trans HBX.out); obtain ⟨c0, c1, f0, f1⟩ := ttwo_cells hbx; have hsz : w.heap.size + 2 < w2.heap.size := (Array.getElem?_eq_some_iff.1 hbx).1)))
  have hball := (HB.out.drew.trans (hb1.mono (B' := w.heap.size) (by first | (simp; omega) | omega))).trans (hb2.mono (B' := w.heap.size) (by omega))
  have HE := Lib.hid (int_end (z := y + z) (s := s) (ao := ao2) (k := k2) (c := c2) hbx hball (by omega) (by rw [HS.out, sgn_same HSA.out HSB.out HSS.out]) (by have := hn2; rw [sgn_same HSA.out HSB.out HSS.out] at this; exact this.mono (L' := LL) (by omega)))
  clear hball hbx hb1 hb2 hn1 hn2 hf1
  go_wp2
  exact bodyPost_ret (v := .agg #[.bool s, .slice ao2 k2 c2]) (by simp [results, Tryz.results138, go_sem, HE.out.2.1, HE.out.2.2]) rfl HE.out.1
 ·have t1 : (sa == sb) = false := by simpa using hss
  have HSS := Lib.hid hss
  clear hss
  by_cases hlt : (y.natAbs : Int) < z.natAbs
  ·have HSG := Lib.hid (Dg.sg_lt hlt)
   go_enter Tryz.func138, Tryz.ntmps138
   go_wp2_with fail
   refine (compare_num (by exact HNA.out) (by exact HNB.out)).mono ?_
   rintro e w0 ⟨hb9, rfl⟩
   rw [HSG.out]
   have ke0 := tbelowCell hb9 (v := .bool sa) (b := w.heap.size) (o := 0) (by simp [go_sem])
   have ke1 := tbelowCell hb9 (v := .slice ao ka ca) (b := w.heap.size) (o := 1) (by simp [go_sem])
   have ke2 := tbelowCell hb9 (v := .bool sb) (b := w.heap.size + 1) (o := 0) (by simp [go_sem])
   have ke3 := tbelowCell hb9 (v := .slice bo kb cb) (b := w.heap.size + 1) (o := 1) (by simp [go_sem])
   have s0 := hb9.size
   simp at s0
   have HBX0 := Lib.hid ((hb9.block _ (by simp)).trans HBX.out)
   have HNA0 := Lib.hid (HNA.out.below hb9)
   have HNB0 := Lib.hid (HNB.out.below hb9)
   have HB0 := Lib.hid (HB.out.trans (hb9.mono (B' := w.heap.size) (by simp; omega)))
   clear hb9
   go_wp2_with fail
   go_region_held3 (fun w' => w'.cell? ⟨w.heap.size, 0, none⟩ = some (.bool sa) /\ w'.cell? ⟨w.heap.size, 1, none⟩ = some (.slice ao ka ca) /\ w'.cell? ⟨w.heap.size + 1, 0, none⟩ = some (.bool sb) /\ w'.cell? ⟨w.heap.size + 1, 1, none⟩ = some (.slice bo kb cb))
    (first | exact ⟨kd0, kd1, kd2, kd3⟩ | exact ⟨kc0, kc1, kc2, kc3⟩ | exact ⟨ke0, ke1, ke2, ke3⟩ | (refine ⟨?_, ?_, ?_, ?_⟩ <;> simp [go_sem, kd0, kd1, kd2, kd3]; done) | (refine ⟨?_, ?_, ?_, ?_⟩ <;> simp [go_sem]; done) | go_keep)
    ((first | (go_at_call 195; refine (difference_num (La := Lb) (Lb := La) (m := z.natAbs) (n := y.natAbs) (by exact HNB0.out) (by exact HNA0.out) (by omega) (by omega)).mono ?_; rintro e w1 ⟨hb1, v1, rfl, hn1, hf1⟩; have s1 := hb1.size; simp at s1; have kc0 := tbelowCell hb1 (v := .bool sa) (b := w.heap.size) (o := 0) (by exact ke0); have kc1 := tbelowCell hb1 (v := .slice ao ka ca) (b := w.heap.size) (o := 1) (by exact ke1); have kc2 := tbelowCell hb1 (v := .bool sb) (b := w.heap.size + 1) (o := 0) (by exact ke2); have kc3 := tbelowCell hb1 (v := .slice bo kb cb) (b := w.heap.size + 1) (o := 1) (by exact ke3)) | (go_at_call 134; refine (signed_any sb hn1).mono ?_; rintro e w2 ⟨hb2, v2, rfl, s, sv, rfl, hs, hn2⟩; have HS := Lib.hid hs; clear hs; obtain ⟨ao2, k2, c2, rfl⟩ := hn2.form; have s2 := hb2.size; have kd0 := tbelowCell hb2 kc0; have kd1 := tbelowCell hb2 kc1; have kd2 := tbelowCell hb2 kc2; have kd3 := tbelowCell hb2 kc3; have hbx : w2.heap[w.heap.size + 2]? = some (.cells #[.bool false, .slice none 0 0] 98 (0, 0)) := (hb2.block _ (by omega)).trans ((hb1.block _ (by first | (simp; omega) | omega)).trans HBX0.out); obtain ⟨c0, c1, f0, f1⟩ := ttwo_cells hbx; have hsz : w.heap.size + 2 < w2.heap.size := (Array.getElem?_eq_some_iff.1 hbx).1)))
   have hball := (HB0.out.drew.trans (hb1.mono (B' := w.heap.size) (by first | (simp; omega) | omega))).trans (hb2.mono (B' := w.heap.size) (by omega))
   have HE := Lib.hid (int_end (z := y + z) (s := s) (ao := ao2) (k := k2) (c := c2) hbx hball (by omega) (by rw [HS.out, sgn_less HSA.out HSB.out HSS.out]) (by have := hn2; rw [sgn_less HSA.out HSB.out HSS.out] at this; exact this.mono (L' := LL) (by omega)))
   clear hball hbx hb1 hb2 hn1 hn2 hf1
   go_wp2
   exact bodyPost_ret (v := .agg #[.bool s, .slice ao2 k2 c2]) (by simp [results, Tryz.results138, go_sem, HE.out.2.1, HE.out.2.2]) rfl HE.out.1
  ·have HLT := Lib.hid hlt
   go_enter Tryz.func138, Tryz.ntmps138
   go_wp2_with fail
   refine (compare_num (by exact HNA.out) (by exact HNB.out)).mono ?_
   rintro e w0 ⟨hb9, rfl⟩
   have hsg : ¬ Dg.sg (y.natAbs : Int) z.natAbs < 0 := by
    unfold Dg.sg
    rw [if_neg (show ¬ (y.natAbs : Int) < z.natAbs by have := HLT.out; omega)]
    split <;> omega
   obtain ⟨g, hg⟩ : ∃ g, g = Dg.sg (y.natAbs : Int) z.natAbs := ⟨_, rfl⟩
   rw [<- hg] at hsg ⊢
   clear hg
   have ke0 := tbelowCell hb9 (v := .bool sa) (b := w.heap.size) (o := 0) (by simp [go_sem])
   have ke1 := tbelowCell hb9 (v := .slice ao ka ca) (b := w.heap.size) (o := 1) (by simp [go_sem])
   have ke2 := tbelowCell hb9 (v := .bool sb) (b := w.heap.size + 1) (o := 0) (by simp [go_sem])
   have ke3 := tbelowCell hb9 (v := .slice bo kb cb) (b := w.heap.size + 1) (o := 1) (by simp [go_sem])
   have s0 := hb9.size
   simp at s0
   have HBX0 := Lib.hid ((hb9.block _ (by simp)).trans HBX.out)
   have HNA0 := Lib.hid (HNA.out.below hb9)
   have HNB0 := Lib.hid (HNB.out.below hb9)
   have HB0 := Lib.hid (HB.out.trans (hb9.mono (B' := w.heap.size) (by simp; omega)))
   clear hb9
   go_wp2_with fail
   go_region_held3 (fun w' => w'.cell? ⟨w.heap.size, 0, none⟩ = some (.bool sa) /\ w'.cell? ⟨w.heap.size, 1, none⟩ = some (.slice ao ka ca) /\ w'.cell? ⟨w.heap.size + 1, 0, none⟩ = some (.bool sb) /\ w'.cell? ⟨w.heap.size + 1, 1, none⟩ = some (.slice bo kb cb))
    (first | exact ⟨kd0, kd1, kd2, kd3⟩ | exact ⟨kc0, kc1, kc2, kc3⟩ | exact ⟨ke0, ke1, ke2, ke3⟩ | (refine ⟨?_, ?_, ?_, ?_⟩ <;> simp [go_sem, kd0, kd1, kd2, kd3]; done) | (refine ⟨?_, ?_, ?_, ?_⟩ <;> simp [go_sem]; done) | go_keep)
    ((first | (go_at_call 195; refine (difference_num (La := La) (Lb := Lb) (m := y.natAbs) (n := z.natAbs) (by exact HNA0.out) (by exact HNB0.out) (by omega) (by omega)).mono ?_; rintro e w1 ⟨hb1, v1, rfl, hn1, hf1⟩; have s1 := hb1.size; simp at s1; have kc0 := tbelowCell hb1 (v := .bool sa) (b := w.heap.size) (o := 0) (by exact ke0); have kc1 := tbelowCell hb1 (v := .slice ao ka ca) (b := w.heap.size) (o := 1) (by exact ke1); have kc2 := tbelowCell hb1 (v := .bool sb) (b := w.heap.size + 1) (o := 0) (by exact ke2); have kc3 := tbelowCell hb1 (v := .slice bo kb cb) (b := w.heap.size + 1) (o := 1) (by exact ke3)) | (go_at_call 134; refine (signed_any sa hn1).mono ?_; rintro e w2 ⟨hb2, v2, rfl, s, sv, rfl, hs, hn2⟩; have HS := Lib.hid hs; clear hs; obtain ⟨ao2, k2, c2, rfl⟩ := hn2.form; have s2 := hb2.size; have kd0 := tbelowCell hb2 kc0; have kd1 := tbelowCell hb2 kc1; have kd2 := tbelowCell hb2 kc2; have kd3 := tbelowCell hb2 kc3; have hbx : w2.heap[w.heap.size + 2]? = some (.cells #[.bool false, .slice none 0 0] 98 (0, 0)) := (hb2.block _ (by omega)).trans ((hb1.block _ (by first | (simp; omega) | omega)).trans HBX0.out); obtain ⟨c0, c1, f0, f1⟩ := ttwo_cells hbx; have hsz : w.heap.size + 2 < w2.heap.size := (Array.getElem?_eq_some_iff.1 hbx).1)))
   have hball := (HB0.out.drew.trans (hb1.mono (B' := w.heap.size) (by first | (simp; omega) | omega))).trans (hb2.mono (B' := w.heap.size) (by omega))
   have HE := Lib.hid (int_end (z := y + z) (s := s) (ao := ao2) (k := k2) (c := c2) hbx hball (by omega) (by rw [HS.out, sgn_more HSA.out HSB.out HSS.out]) (by have := hn2; rw [sgn_more HSA.out HSB.out HSS.out] at this; exact this.mono (L' := LL) (by omega)))
   clear hball hbx hb1 hb2 hn1 hn2 hf1
   go_wp2
   exact bodyPost_ret (v := .agg #[.bool s, .slice ao2 k2 c2]) (by simp [results, Tryz.results138, go_sem, HE.out.2.1, HE.out.2.2]) rfl HE.out.1
theorem enter_add (cap : Array Value) (W : World) : (callFunc 137 cap).run Tryz.prog W = .ok (.enter 137 cap) W := by
 kernel_rfl
set_option maxRecDepth 20000 in
theorem add1_any {La Lb : Nat} {y z : Int} (p q : Nat) (sa sb : Bool) (ao bo : Option Addr) (ka kb ca cb : Nat) (w : World) (hp : w.heap[p]? = some (.cells #[.bool sa, .slice ao ka ca] 98 (0, 0))) (hq : w.heap[q]? = some (.cells #[.bool sb, .slice bo kb cb] 98 (0, 0)))
 (ha : IntV La w (.agg #[.bool sa, .slice ao ka ca]) y) (hb : IntV Lb w (.agg #[.bool sb, .slice bo kb cb]) z) (h1 : La <= 536870911) (h2 : Lb <= 536870911) :
 Calls Tryz.prog 137 #[.pointer (some ⟨p, 0, none⟩), .pointer (some ⟨q, 0, none⟩)] w (SmRet (max La Lb + 1) w (y + z)) := by
 obtain ⟨p0, p1, _, _⟩ := ttwo_cells hp
 obtain ⟨q0, q1, _, _⟩ := ttwo_cells hq
 have hpl : p < w.heap.size := (Array.getElem?_eq_some_iff.1 hp).1
 have hql : q < w.heap.size := (Array.getElem?_eq_some_iff.1 hq).1
 have hb0 := Lib.hid (show Below w.heap.size w (w.alloc (.cells #[.bool false, .slice none 0 0] 98)) from (Below.refl _ _).alloc (Nat.le_refl _) _)
 have HA := Lib.hid (ha.below hb0.out)
 have HB := Lib.hid (hb.below hb0.out)
 clear hp hq ha hb
 go_enter Tryz.func137, Tryz.ntmps137
 go_wp2_with fail
 refine (plus_any (by exact HA.out) (by exact HB.out) (by omega) (by omega)).mono ?_
 rintro e w1 ⟨hb1, v1, rfl, hI1⟩
 have s1 := hb1.size
 simp at s1
 go_wp2_with fail
 refine (small_any hI1 (by omega)).mono ?_
 rintro e w2 ⟨hb2, hc⟩
 have hbx : w2.heap[w.heap.size]? = some (.cells #[.bool false, .slice none 0 0] 98 (0, 0)) := (hb2.block _ (by omega)).trans ((hb1.block _ (by simp)).trans (heap_alloc_new w _))
 have hball := (hb0.out.trans (hb1.mono (B' := w.heap.size) (by simp))).trans (hb2.mono (B' := w.heap.size) (by omega))
 rcases hc with ⟨hsm, v', rfl, s, sv, rfl, hs, hn⟩ | ⟨hsm, u, pv, rfl⟩
 ·obtain ⟨ao2, k2, c2, rfl⟩ := hn.form
  obtain ⟨c0, c1, f0, f1⟩ := ttwo_cells hbx
  have hsz : w.heap.size < w2.heap.size := (Array.getElem?_eq_some_iff.1 hbx).1
  have HE := Lib.hid (int_end (s := s) (ao := ao2) (k := k2) (c := c2) hbx hball (Nat.le_refl _) hs hn)
  have HSM := Lib.hid hsm
  clear hball hbx hb1 hb2 hs hn hsm hI1
  go_wp2
  exact bodyPost_ret (v := .agg #[.bool s, .slice ao2 k2 c2]) (by simp [results, Tryz.results137, go_sem, HE.out.2.1, HE.out.2.2]) rfl ⟨HE.out.1.1, .inl ⟨HSM.out, HE.out.1.2⟩⟩
 ·have HR : Hid (SmRet (max La Lb + 1) w (y + z) (.panicked [{ v := .iface u pv, recovered := false }]) w2) := ⟨hball, .inr ⟨hsm, u, pv, rfl⟩⟩
  clear hball hbx hb1 hb2 hsm hI1
  go_wp2
  exact ⟨rfl, HR.out⟩
set_option maxRecDepth 20000 in
theorem add_any {La Lb : Nat} {va vb : Value} {y z : Int} {w : World} (ha : IntV La w va y) (hb : IntV Lb w vb z) (h1 : La <= 536870911) (h2 : Lb <= 536870911) :
 Calls Tryz.prog 68 #[va, vb] w (YdRet (max La Lb + 1) w (y + z)) := by
 have hmf : ∀ (fn : Fn) (first cap : Array Value) (w : World), (Instr.makeFunc fn first cap).run Tryz.prog w = .ok (.func fn first cap) w := fun _ _ _ _ => rfl
 have ha' := ha
 have hb' := hb
 obtain ⟨sa, ua, rfl, hsa, hna⟩ := ha
 obtain ⟨sb, ub, rfl, hsb, hnb⟩ := hb
 obtain ⟨ao, ka, ca, rfl⟩ := hna.form
 obtain ⟨bo, kb, cb, rfl⟩ := hnb.form
 have hb0 : Below w.heap.size w (((w.alloc (.cells #[.bool sa, .slice ao ka ca] 98)).alloc (.cells #[.bool sb, .slice bo kb cb] 98)).alloc (.cells #[.bool false, .slice none 0 0] 98)) := (((Below.refl _ _).alloc (Nat.le_refl _) _).alloc (by simp) _).alloc (by simp; omega) _
 have hbox : ∀ W : World, Below (((w.alloc (.cells #[.bool sa, .slice ao ka ca] 98)).alloc (.cells #[.bool sb, .slice bo kb cb] 98)).alloc (.cells #[.bool false, .slice none 0 0] 98)).heap.size (((w.alloc (.cells #[.bool sa, .slice ao ka ca] 98)).alloc (.cells #[.bool sb, .slice bo kb cb] 98)).alloc (.cells #[.bool false, .slice none 0 0] 98)) W ->
  W.heap[w.heap.size]? = some (.cells #[.bool sa, .slice ao ka ca] 98 (0, 0)) /\ W.heap[w.heap.size + 1]? = some (.cells #[.bool sb, .slice bo kb cb] 98 (0, 0)) /\ W.heap[w.heap.size + 1 + 1]? = some (.cells #[.bool false, .slice none 0 0] 98 (0, 0)) /\ Below w.heap.size w W := by
  intro W hb
  refine ⟨?_, ?_, ?_, hb0.trans (hb.mono (by simp; omega))⟩
  ·exact (hb.block _ (by simp; omega)).trans ((heap_alloc_old _ _ (by simp; omega)).trans ((heap_alloc_old _ _ (by simp)).trans (heap_alloc_new w _)))
  ·exact (hb.block _ (by simp)).trans ((heap_alloc_old _ _ (by simp)).trans (theap_last _ _ _ (by simp)))
  ·exact (hb.block _ (by simp)).trans (theap_last _ _ _ (by simp))
 have HBOX := Lib.hid hbox
 have HA := Lib.hid ha'
 have HB := Lib.hid hb'
 clear hna hnb hb0 hsa hsb hbox ha' hb'
 go_enter Tryz.func68, Tryz.ntmps68
 go_wp2_with fail
 refine (yield_any (L := max La Lb + 1) (z := y + z) _ _ _ (enter_add _) (fun W hb => add1_any _ _ sa sb ao bo ka kb ca cb W (HBOX.out W hb).1 (HBOX.out W hb).2.1 (HA.out.below (HBOX.out W hb).2.2.2) (HB.out.below (HBOX.out W hb).2.2.2) h1 h2)).mono ?_
 rintro e w1 ⟨hb1, hc⟩
 obtain ⟨_, _, hx, hbw⟩ := HBOX.out w1 hb1
 obtain ⟨c0, c1, f0, f1⟩ := ttwo_cells hx
 have hsz1 : w.heap.size + 1 + 1 < w1.heap.size := (Array.getElem?_eq_some_iff.1 hx).1
 rcases hc with ⟨hsm, v', rfl, s, sv, rfl, hs, hn⟩ | ⟨hsm, rfl⟩
 ·obtain ⟨ao2, k2, c2, rfl⟩ := hn.form
  have HE := Lib.hid (int_end (s := s) (ao := ao2) (k := k2) (c := c2) hx hbw (by omega) hs hn)
  have HSM := Lib.hid hsm
  clear hx hbw hb1 hs hn hsm
  go_wp2
  exact bodyPost_ret (v := .tuple #[.agg #[.bool s, .slice ao2 k2 c2], .int .i64 0]) (by simp [results, Tryz.results68, go_sem, HE.out.2.1, HE.out.2.2]) rfl ⟨HE.out.1.1, .inl ⟨HSM.out, by obtain ⟨v, e, h⟩ := HE.out.1.2; cases e; exact ⟨_, rfl, h⟩⟩⟩
 ·have HE := Lib.hid (int_end (L := 0) (z := 0) (s := false) (ao := none) (k := 0) (c := 0) hx hbw (by omega) rfl ⟨[], Sl.nil _ _, Dg.Wf.nil _, Dg.Nz.nil, rfl, Nat.le_refl _⟩)
  have HSM := Lib.hid hsm
  clear hx hbw hb1 hsm
  go_wp2
  exact bodyPost_ret (v := .tuple #[.agg #[.bool false, .slice none 0 0], .int .i64 11]) (by simp [results, Tryz.results68, go_sem, HE.out.2.1, HE.out.2.2]) rfl ⟨HE.out.1.1, .inr ⟨HSM.out, rfl⟩⟩
theorem enter_mul (cap : Array Value) (W : World) : (callFunc 140 cap).run Tryz.prog W = .ok (.enter 140 cap) W := by
 kernel_rfl
set_option maxRecDepth 20000 in
theorem mul1_any {La Lb : Nat} {y z : Int} (p q : Nat) (sa sb : Bool) (ao bo : Option Addr) (ka kb ca cb : Nat) (w : World) (hp : w.heap[p]? = some (.cells #[.bool sa, .slice ao ka ca] 98 (0, 0))) (hq : w.heap[q]? = some (.cells #[.bool sb, .slice bo kb cb] 98 (0, 0)))
 (ha : IntV La w (.agg #[.bool sa, .slice ao ka ca]) y) (hb : IntV Lb w (.agg #[.bool sb, .slice bo kb cb]) z) (h1 : La <= 536870911) (h2 : Lb <= 536870911) :
 Calls Tryz.prog 140 #[.pointer (some ⟨p, 0, none⟩), .pointer (some ⟨q, 0, none⟩)] w (SmRet (La + Lb) w (y * z)) := by
 obtain ⟨p0, p1, _, _⟩ := ttwo_cells hp
 obtain ⟨q0, q1, _, _⟩ := ttwo_cells hq
 have hpl : p < w.heap.size := (Array.getElem?_eq_some_iff.1 hp).1
 have hql : q < w.heap.size := (Array.getElem?_eq_some_iff.1 hq).1
 have hb0 := Lib.hid (show Below w.heap.size w (w.alloc (.cells #[.bool false, .slice none 0 0] 98)) from (Below.refl _ _).alloc (Nat.le_refl _) _)
 have HA := Lib.hid (ha.below hb0.out)
 have HB := Lib.hid (hb.below hb0.out)
 clear hp hq ha hb
 go_enter Tryz.func140, Tryz.ntmps140
 go_wp2_with fail
 refine (times_any (by exact HA.out) (by exact HB.out) (by omega) (by omega)).mono ?_
 rintro e w1 ⟨hb1, v1, rfl, hI1⟩
 have s1 := hb1.size
 simp at s1
 go_wp2_with fail
 refine (small_any hI1 (by omega)).mono ?_
 rintro e w2 ⟨hb2, hc⟩
 have hbx : w2.heap[w.heap.size]? = some (.cells #[.bool false, .slice none 0 0] 98 (0, 0)) := (hb2.block _ (by omega)).trans ((hb1.block _ (by simp)).trans (heap_alloc_new w _))
 have hball := (hb0.out.trans (hb1.mono (B' := w.heap.size) (by simp))).trans (hb2.mono (B' := w.heap.size) (by omega))
 rcases hc with ⟨hsm, v', rfl, s, sv, rfl, hs, hn⟩ | ⟨hsm, u, pv, rfl⟩
 ·obtain ⟨ao2, k2, c2, rfl⟩ := hn.form
  obtain ⟨c0, c1, f0, f1⟩ := ttwo_cells hbx
  have hsz : w.heap.size < w2.heap.size := (Array.getElem?_eq_some_iff.1 hbx).1
  have HE := Lib.hid (int_end (s := s) (ao := ao2) (k := k2) (c := c2) hbx hball (Nat.le_refl _) hs hn)
  have HSM := Lib.hid hsm
  clear hball hbx hb1 hb2 hs hn hsm hI1
  go_wp2
  exact bodyPost_ret (v := .agg #[.bool s, .slice ao2 k2 c2]) (by simp [results, Tryz.results140, go_sem, HE.out.2.1, HE.out.2.2]) rfl ⟨HE.out.1.1, .inl ⟨HSM.out, HE.out.1.2⟩⟩
 ·have HR : Hid (SmRet (La + Lb) w (y * z) (.panicked [{ v := .iface u pv, recovered := false }]) w2) := ⟨hball, .inr ⟨hsm, u, pv, rfl⟩⟩
  clear hball hbx hb1 hb2 hsm hI1
  go_wp2
  exact ⟨rfl, HR.out⟩
set_option maxRecDepth 20000 in
theorem mul_any {La Lb : Nat} {va vb : Value} {y z : Int} {w : World} (ha : IntV La w va y) (hb : IntV Lb w vb z) (h1 : La <= 536870911) (h2 : Lb <= 536870911) :
 Calls Tryz.prog 69 #[va, vb] w (YdRet (La + Lb) w (y * z)) := by
 have hmf : ∀ (fn : Fn) (first cap : Array Value) (w : World), (Instr.makeFunc fn first cap).run Tryz.prog w = .ok (.func fn first cap) w := fun _ _ _ _ => rfl
 have ha' := ha
 have hb' := hb
 obtain ⟨sa, ua, rfl, hsa, hna⟩ := ha
 obtain ⟨sb, ub, rfl, hsb, hnb⟩ := hb
 obtain ⟨ao, ka, ca, rfl⟩ := hna.form
 obtain ⟨bo, kb, cb, rfl⟩ := hnb.form
 have hb0 : Below w.heap.size w (((w.alloc (.cells #[.bool sa, .slice ao ka ca] 98)).alloc (.cells #[.bool sb, .slice bo kb cb] 98)).alloc (.cells #[.bool false, .slice none 0 0] 98)) := (((Below.refl _ _).alloc (Nat.le_refl _) _).alloc (by simp) _).alloc (by simp; omega) _
 have hbox : ∀ W : World, Below (((w.alloc (.cells #[.bool sa, .slice ao ka ca] 98)).alloc (.cells #[.bool sb, .slice bo kb cb] 98)).alloc (.cells #[.bool false, .slice none 0 0] 98)).heap.size (((w.alloc (.cells #[.bool sa, .slice ao ka ca] 98)).alloc (.cells #[.bool sb, .slice bo kb cb] 98)).alloc (.cells #[.bool false, .slice none 0 0] 98)) W ->
  W.heap[w.heap.size]? = some (.cells #[.bool sa, .slice ao ka ca] 98 (0, 0)) /\ W.heap[w.heap.size + 1]? = some (.cells #[.bool sb, .slice bo kb cb] 98 (0, 0)) /\ W.heap[w.heap.size + 1 + 1]? = some (.cells #[.bool false, .slice none 0 0] 98 (0, 0)) /\ Below w.heap.size w W := by
  intro W hb
  refine ⟨?_, ?_, ?_, hb0.trans (hb.mono (by simp; omega))⟩
  ·exact (hb.block _ (by simp; omega)).trans ((heap_alloc_old _ _ (by simp; omega)).trans ((heap_alloc_old _ _ (by simp)).trans (heap_alloc_new w _)))
  ·exact (hb.block _ (by simp)).trans ((heap_alloc_old _ _ (by simp)).trans (theap_last _ _ _ (by simp)))
  ·exact (hb.block _ (by simp)).trans (theap_last _ _ _ (by simp))
 have HBOX := Lib.hid hbox
 have HA := Lib.hid ha'
 have HB := Lib.hid hb'
 clear hna hnb hb0 hsa hsb hbox ha' hb'
 go_enter Tryz.func69, Tryz.ntmps69
 go_wp2_with fail
 refine (yield_any (L := La + Lb) (z := y * z) _ _ _ (enter_mul _) (fun W hb => mul1_any _ _ sa sb ao bo ka kb ca cb W (HBOX.out W hb).1 (HBOX.out W hb).2.1 (HA.out.below (HBOX.out W hb).2.2.2) (HB.out.below (HBOX.out W hb).2.2.2) h1 h2)).mono ?_
 rintro e w1 ⟨hb1, hc⟩
 obtain ⟨_, _, hx, hbw⟩ := HBOX.out w1 hb1
 obtain ⟨c0, c1, f0, f1⟩ := ttwo_cells hx
 have hsz1 : w.heap.size + 1 + 1 < w1.heap.size := (Array.getElem?_eq_some_iff.1 hx).1
 rcases hc with ⟨hsm, v', rfl, s, sv, rfl, hs, hn⟩ | ⟨hsm, rfl⟩
 ·obtain ⟨ao2, k2, c2, rfl⟩ := hn.form
  have HE := Lib.hid (int_end (s := s) (ao := ao2) (k := k2) (c := c2) hx hbw (by omega) hs hn)
  have HSM := Lib.hid hsm
  clear hx hbw hb1 hs hn hsm
  go_wp2
  exact bodyPost_ret (v := .tuple #[.agg #[.bool s, .slice ao2 k2 c2], .int .i64 0]) (by simp [results, Tryz.results69, go_sem, HE.out.2.1, HE.out.2.2]) rfl ⟨HE.out.1.1, .inl ⟨HSM.out, by obtain ⟨v, e, h⟩ := HE.out.1.2; cases e; exact ⟨_, rfl, h⟩⟩⟩
 ·have HE := Lib.hid (int_end (L := 0) (z := 0) (s := false) (ao := none) (k := 0) (c := 0) hx hbw (by omega) rfl ⟨[], Sl.nil _ _, Dg.Wf.nil _, Dg.Nz.nil, rfl, Nat.le_refl _⟩)
  have HSM := Lib.hid hsm
  clear hx hbw hb1 hsm
  go_wp2
  exact bodyPost_ret (v := .tuple #[.agg #[.bool false, .slice none 0 0], .int .i64 11]) (by simp [results, Tryz.results69, go_sem, HE.out.2.1, HE.out.2.2]) rfl ⟨HE.out.1.1, .inr ⟨HSM.out, rfl⟩⟩
def YdOne (L : Nat) (z : Int) (w' : World) (s : Bool) (ao : Option Addr) (k c : Nat) (err : Int) : Prop :=
 (smallB z.natAbs = true /\ err = 0 /\ IntV L w' (.agg #[.bool s, .slice ao k c]) z) \/ (smallB z.natAbs = false /\ err = 11 /\ s = false /\ ao = none /\ k = 0 /\ c = 0)
theorem or_add' (a b : Int) (s : Nat) (ha : 0 <= a) (hb : 0 <= b) (hb1 : b < 2 ^ s) (hab : a * 2 ^ s + b < 18446744073709551616) : bits .or .u64 b (a * 2 ^ s) = a * 2 ^ s + b := by
 obtain ⟨a, rfl⟩ := Int.eq_ofNat_of_zero_le ha
 obtain ⟨b, rfl⟩ := Int.eq_ofNat_of_zero_le hb
 have e3 : ((a * 2 ^ s : Nat) : Int) = (a : Int) * 2 ^ s := by simp
 have hb2 : b < 2 ^ s := by
  have : ((2 ^ s : Nat) : Int) = 2 ^ s := by simp
  omega
 rw [<- e3, bits_or_u64_nat _ _ (by omega) (by omega), Nat.or_comm, <- Nat.shiftLeft_eq, <- Nat.shiftLeft_add_eq_or_of_lt hb2, Nat.shiftLeft_eq]
 omega
theorem shl_one (x t : Int) (s : Nat) (hs : s <= 63) (x0 : 0 <= x) (x1 : x < 18446744073709551616) (t0 : 0 <= t) (t1 : t < 2 ^ s) :
 ∃ lo hi : Int, bits .or .u64 t (IntKind.u64.wrap (x * 2 ^ s)) = lo /\ x / 2 ^ (64 - s) = hi /\ 0 <= lo /\ lo < 18446744073709551616 /\ 0 <= hi /\ hi < 2 ^ s /\ x * 2 ^ s + t = hi * 18446744073709551616 + lo := by
 have hp : (0 : Int) < 2 ^ s := Dg.pow_pos (by omega) s
 have hq : (0 : Int) < 2 ^ (64 - s) := Dg.pow_pos (by omega) _
 have hpq : (2 : Int) ^ (64 - s) * 2 ^ s = 18446744073709551616 := by
  rw [<- Int.pow_add, show 64 - s + s = 64 by omega]; rfl
 have hd0 := Int.ediv_nonneg x0 (Int.le_of_lt hq)
 have hm := Int.mul_ediv_add_emod x (2 ^ (64 - s))
 have hm0 := Int.emod_nonneg x (Int.ne_of_gt hq)
 have hm1 := Int.emod_lt_of_pos x hq
 refine ⟨_, _, rfl, rfl, ?_⟩
 generalize x / 2 ^ (64 - s) = d at *
 generalize x % 2 ^ (64 - s) = r at *
 generalize hP : (2 : Int) ^ s = p at *
 generalize (2 : Int) ^ (64 - s) = q at *
 have hd1 : d < p := by
  apply Int.lt_of_mul_lt_mul_left (a := q) ?_ (by omega)
  omega
 have e1 : x * p = d * 18446744073709551616 + r * p := by rw [<- hm, Int.add_mul, Int.mul_right_comm, hpq, Int.mul_comm]
 have e2 : (r + 1) * p <= q * p := Int.mul_le_mul_of_nonneg_right (by omega) (by omega)
 rw [hpq, Int.add_mul] at e2
 have e3 : 0 <= r * p := Int.mul_nonneg hm0 (by omega)
 have ew : IntKind.u64.wrap (x * p) = r * p := by rw [IntKind.wrap_u64, e1]; omega
 have eo : bits .or .u64 t (r * p) = r * p + t := by
  rw [<- hP]
  exact or_add' r t s hm0 t0 (by rw [hP]; exact t1) (by rw [hP]; omega)
 rw [ew, eo]
 exact ⟨by omega, by omega, hd0, hd1, by omega⟩
theorem Dg.val_set (B : Int) (xs : List Int) (i : Nat) (x : Int) (hi : i < xs.length) : val B (xs.set i x) = val B xs + B ^ i * (x - xs[i]?.getD 0) := by
 induction xs generalizing i with
 | nil => simp at hi
 | cons y xs ih =>
   cases i with
   | zero => simp [val]; omega
   | succ i =>
     simp only [List.set_cons_succ, val, List.getElem?_cons_succ]
     rw [ih i (by simpa using hi), Int.mul_add, <- Int.mul_assoc, Int.mul_comm B (B ^ i), <- Int.pow_succ]
     simp only [Nat.succ_eq_add_one]; omega
structure ShAt (xs T : List Int) (s W k : Nat) : Prop where
 len : T.length = xs.length + W + 1
 wf : Dg.Wf BW T
 eq : Dg.val BW T = Dg.val BW (xs.take k) * 2 ^ s * BW ^ W
 top : T[k + W]?.getD 0 < 2 ^ s
 zero : ∀ i, k + W < i -> T[i]?.getD 0 = 0
theorem ShAt.start (xs : List Int) (s W : Nat) : ShAt xs (List.replicate (xs.length + W + 1) 0) s W 0 := by
 have hz : ∀ i : Nat, (List.replicate (xs.length + W + 1) (0 : Int))[i]?.getD 0 = 0 := fun i => by simp [List.getElem?_replicate]; split <;> rfl
 exact ⟨by simp, Dg.Wf.zeros (by decide) _, by simp [Dg.val, Dg.val_zeros], by rw [hz]; exact Dg.pow_pos (by omega) s, fun i _ => hz i⟩
theorem ShAt.next {xs T : List Int} {s W k : Nat} {x t lo hi : Int} (h : ShAt xs T s W k) (hk : k < xs.length) (hx : x = xs[k]?.getD 0) (ht : t = T[k + W]?.getD 0)
 (l0 : 0 <= lo) (l1 : lo < 18446744073709551616) (h0 : 0 <= hi) (h1 : hi < 18446744073709551616) (h2 : hi < 2 ^ s) (he : x * 2 ^ s + t = hi * 18446744073709551616 + lo) : ShAt xs ((T.set (k + W) lo).set (k + W + 1) hi) s W (k + 1) := by
 obtain ⟨hl, hw, hv, _, hz⟩ := h
 refine ⟨by simpa using hl, (hw.set _ l0 l1).set _ h0 h1, ?_, ?_, fun i hi' => ?_⟩
 ·have z1 := hz (k + W + 1) (by omega)
  rw [Dg.val_set BW _ _ _ (by simp; omega), Dg.val_set BW _ _ _ (by omega), List.getElem?_set_ne (by omega), z1, <- ht, Dg.val_take_succD, <- hx, hv, Int.pow_succ, Int.pow_add]
  generalize Dg.val BW (xs.take k) = a
  have e1 : BW ^ k * (BW ^ W * (x * 2 ^ s + t)) = BW ^ k * (BW ^ W * (hi * 18446744073709551616 + lo)) := by rw [he]
  generalize BW ^ k = p at *
  generalize BW ^ W = q at *
  generalize (2 : Int) ^ s = r at *
  unfold BW
  simp only [Int.mul_add, Int.add_mul, Int.mul_sub, Int.mul_comm, Int.mul_left_comm, Int.mul_assoc, Int.sub_zero] at *
  omega
 ·rw [show k + 1 + W = k + W + 1 by omega, List.getElem?_set_self (by simp; omega)]; exact h2
 ·rw [List.getElem?_set_ne (by omega), List.getElem?_set_ne (by omega)]; exact hz i (by omega)
set_option maxRecDepth 20000 in
theorem shiftLeft_at (v : Value) (xs : List Int) (c : Int) (W s : Nat) (w : World) (hv : Sl .u64 w v xs) (hw : Dg.Wf BW xs) (hc0 : 0 <= c) (hc1 : c <= 9223372036854775807)
 (hq : c.tdiv 64 = W) (hr : c.tmod 64 = s) (hs : s <= 63) (hW : W <= 1099511627776) (hmx : xs.length <= 17000000000000) :
 Calls Tryz.prog 235 #[v, .int .i64 c] w (RetNum (xs.length + W + 1) w (Dg.val BW xs * 2 ^ s * BW ^ W)) := by
 obtain ⟨ao, cap, rfl, hcap, hmax, hc⟩ := hv
 unfold maxLen at hmax
 go_enter Tryz.func235, Tryz.ntmps235
 go_wp2_with (at_make; refine wpList_make_zeros _ rfl _ _ 96 rfl 165 .u64 Tryz.underlying96 info_u64 _ _ (xs.length + W + 1) rfl rfl (by omega) (by omega) (by omega) ?_)
 intro w1 hrow hbel
 go_wp2
 go_loopw [22] (fun i wr => ∃ (k : Nat) (T : List Int), k <= xs.length /\ i = .int .i64 k /\ Hid (ShAt xs T s W k) /\ Row 165 .u64 wr w.heap.size T /\ Below w.heap.size w wr) (fun i _ => xs.length - (intOf i).toNat)
 case atStart => exact ⟨0, _, Nat.zero_le _, rfl, ShAt.start xs s W, hrow, hbel⟩
 case round =>
  obtain ⟨k, T, hk, rfl, hat, hr, hbl⟩ := hrel
  clear hrow hbel
  by_cases hlt : k < xs.length
  ·obtain ⟨b, o, rfl, hbs, hcell⟩ := hc k hlt
   obtain ⟨x, hx⟩ : ∃ x, x = xs[k]?.getD 0 := ⟨_, rfl⟩
   obtain ⟨t, ht⟩ : ∃ t, t = T[k + W]?.getD 0 := ⟨_, rfl⟩
   have hxb := wfD hw k
   have htb := wfD hat.out.wf (k + W)
   have htop := hat.out.top
   rw [<- hx] at hcell hxb
   rw [<- ht] at htb htop
   have htl := hat.out.len
   have hcl := (hbl.cell (p := ⟨b, o + k, none⟩) hbs).trans hcell
   have hcz := hr.cell (i := k + W) (by omega)
   rw [<- ht] at hcz
   have hcz1 := hr.cell (i := k + W + 1) (by omega)
   have hfz := hr.free (k + W)
   have hfz1 := hr.free (k + W + 1)
   obtain ⟨lo, hi, elo, ehi, l0, l1, h0, h1, he⟩ := shl_one x t s hs hxb.1 hxb.2 htb.1 htop
   have HX := Lib.hid hx
   have HT := Lib.hid ht
   have HTL := Lib.hid htl
   have HE := Lib.hid he
   have HTop := Lib.hid htop
   have H1 := Lib.hid h1
   have hp1 : Hid ((2:Int) ^ s <= 18446744073709551616) := by
    show _ <= _
    have h3 : s < 64 := by omega
    have : (2:Nat) ^ s <= 2 ^ 64 := Nat.pow_le_pow_right (by omega) (by omega)
    have e2 : (((2:Nat) ^ s : Nat) : Int) = (2:Int) ^ s := by simp
    omega
   clear hx ht htl he htop h1 hcell
   go_wp2
   go_region
   go_wp2
   go_roundw
   case rel => exact ⟨k + 1, _, by omega, by go_num, hat.out.next hlt HX.out HT.out l0 l1 h0 (by have := hp1.out; have := H1.out; omega) H1.out HE.out, ((hr.set _ lo).drew).set _ hi, (hbl.setCell (Nat.le_refl _) _).drew.setCell (Nat.le_refl _) _⟩
   case measure => simp [intOf] <;> omega
  ·obtain rfl : k = xs.length := by omega
   have hat2 := hat.out
   have hSl := hr.slAll (n := xs.length + W + 1) (cap := xs.length + W + 1) hat2.len.symm (Nat.le_refl _) (by unfold maxLen; omega)
   have hdw := hat2.wf
   have HL := Lib.hid hat2.len
   have HV := Lib.hid hat2.eq
   clear hat2 hat
   go_wp2_with (go_at_call 196; refine (cut_num hSl hdw).mono ?_; rintro e w' ⟨v', rfl, rfl, hn, hob⟩; have HOB := Lib.hid hob; clear hob)
   go_ret
   rw [HV.out, HL.out, List.take_of_length_le (Nat.le_refl _)] at hn
   exact ⟨hbl, _, rfl, hn, (Frm.mk (Nat.le_refl _)).of HOB.out⟩
theorem swallow {M us M' : List Int} {c t : Int} (H : AmAt M us M' 1 us.length c) (hl : M.length = us.length + 1) (ht : t = M'[us.length]?.getD 0) (hc : c <= 1) :
 (M'.set us.length (IntKind.u64.wrap (t + c))).length = M.length /\ Dg.Wf BW (M'.set us.length (IntKind.u64.wrap (t + c))) /\
 ∃ d : Int, 0 <= d /\ d <= 1 /\ Dg.val BW (M'.set us.length (IntKind.u64.wrap (t + c))) + d * BW ^ (us.length + 1) = Dg.val BW M + Dg.val BW us := by
 obtain ⟨hl', hw, c0, c1, hv, hz⟩ := H
 have htb := wfD hw us.length
 rw [<- ht] at htb
 have hwr : ∃ d : Int, 0 <= d /\ d <= 1 /\ IntKind.u64.wrap (t + c) + d * 18446744073709551616 = t + c := by
  rw [IntKind.wrap_u64]
  by_cases h : t + c < 18446744073709551616
  ·exact ⟨0, by omega, by omega, by omega⟩
  ·exact ⟨1, by omega, by omega, by omega⟩
 have hw0 : 0 <= IntKind.u64.wrap (t + c) := by rw [IntKind.wrap_u64]; omega
 have hw1 : IntKind.u64.wrap (t + c) < 18446744073709551616 := by rw [IntKind.wrap_u64]; omega
 obtain ⟨d, d0, d1, hd⟩ := hwr
 generalize IntKind.u64.wrap (t + c) = s at *
 refine ⟨by simpa using hl', hw.set _ hw0 hw1, d, d0, d1, ?_⟩
 rw [Dg.val_set BW _ _ _ (by omega), <- ht]
 have e1 : Dg.val BW M' = Dg.val BW (M'.take us.length) + BW ^ us.length * t := by
  rw [ht, <- Dg.val_take_succD, List.take_of_length_le (by omega)]
 have e2 : Dg.val BW M = Dg.val BW (M.take us.length) + BW ^ us.length * t := by
  rw [ht, hz _ (Nat.le_refl _), <- Dg.val_take_succD, List.take_of_length_le (by omega)]
 rw [e1, e2, Int.pow_succ]
 rw [List.take_of_length_le (Nat.le_refl us.length)] at hv
 have e3 : BW ^ us.length * (s + d * 18446744073709551616) = BW ^ us.length * (t + c) := by rw [hd]
 generalize BW ^ us.length = p at *
 unfold BW at *
 simp only [Int.mul_add, Int.mul_sub, Int.mul_comm, Int.mul_left_comm, Int.mul_assoc] at *
 omega
def AbRet (w : World) (g : Nat) (P M S us : List Int) (e : Ending) (w' : World) : Prop :=
 ∃ (M' : List Int), e = .returned (.tuple #[]) /\ Row 165 .u64 w' g (P ++ M' ++ S) /\ w.grownBy w' (some g) /\ M'.length = M.length /\ Dg.Wf BW M' /\
   ∃ d : Int, 0 <= d /\ d <= 1 /\ Dg.val BW M' + d * BW ^ (us.length + 1) = Dg.val BW M + Dg.val BW us
theorem addBack_any (g cap : Nat) (P M S us : List Int) (va : Value) (w0 w : World) (ha : Sl .u64 w0 va us) (hb0 : Below w0.heap.size w0 w) (hg : w0.heap.size <= g)
 (hr : Row 165 .u64 w g (P ++ M ++ S)) (hM : M.length = us.length + 1) (hwM : Dg.Wf BW M) (hwa : Dg.Wf BW us) :
 Calls Tryz.prog 260 #[.slice (some ⟨g, P.length, none⟩) (us.length + 1) cap, va] w (AbRet w g P M S us) := by
 obtain ⟨ao, acap, rfl, hcap, hmax, hc⟩ := ha
 unfold maxLen at hmax
 have HM := Lib.hid hM
 clear hM
 go_enter Tryz.func260, Tryz.ntmps260
 go_wp2
 go_loopw [4, 9] (fun c i wr => ∃ (k : Nat) (cv : Int) (M' : List Int), k <= us.length /\ i = .int .i64 k /\ c = .int .u64 cv /\ cv <= 1 /\ Hid (AmAt M us M' 1 k cv) /\ Row 165 .u64 wr g (P ++ M' ++ S) /\ w.grownBy wr (some g)) (fun _ i _ => us.length - (intOf i).toNat)
 case atStart => exact ⟨0, 0, M, Nat.zero_le _, rfl, rfl, by decide, AmAt.start hwM us 1, hr, tgrowRefl _ _⟩
 case round =>
  obtain ⟨k, cv, M', hk, rfl, rfl, hz1, hat, hrr, hgr⟩ := hrel
  have hz0 : 0 <= cv := hat.out.2.2.1
  by_cases hlt : k < us.length
  ·have hMl : k < M'.length := by have := hat.out.1; have := HM.out; omega
   obtain ⟨b, o, rfl, hbs, hcell⟩ := hc k hlt
   obtain ⟨x, hx⟩ : ∃ x, x = us[k]?.getD 0 := ⟨_, rfl⟩
   obtain ⟨m, hm⟩ : ∃ m, m = M'[k]?.getD 0 := ⟨_, rfl⟩
   have hxb := wfD hwa k
   have hmb := wfD hat.out.2.1 k
   have hcl := ((tbelowGrow hgr hb0 hg).cell (p := ⟨b, o + k, none⟩) hbs).trans hcell
   have hcz := hrr.cell (i := P.length + k) (by simp; omega)
   rw [Dg.mid_get P M' S k hMl, <- hm] at hcz
   have hfz := hrr.free (P.length + k)
   rw [<- hx] at hcl hxb
   rw [<- hm] at hmb
   have HX := Lib.hid hx
   have HMM := Lib.hid hm
   clear hx hm hcell
   obtain ⟨s, d, hadd, s0, s1, d0, d1, hs⟩ := add64 m x cv hmb.1 hmb.2 hxb.1 hxb.2 hz0 hz1
   have HS := Lib.hid hs
   clear hs
   go_wp2
   have hrs := hrr.set (P.length + k) s
   rw [Dg.mid_set P M' S k s hMl] at hrs
   go_roundw
   case rel => exact ⟨k + 1, d, M'.set k s, by omega, by go_num, rfl, d1, by
    have := hat.out.next (h := 0) (l := x + cv) (s := s) (d := d) (f := 1) (by have := HM.out; omega) HX.out HMM.out (by omega) (by have := HS.out; omega) s0 s1 (by omega) (by omega)
    rw [Int.zero_add] at this
    exact this, hrs, tgrowSet hgr _ _⟩
   case measure => simp [intOf] <;> omega
  ·obtain rfl : k = us.length := by omega
   have hMl : us.length < M'.length := by have := hat.out.1; have := HM.out; omega
   obtain ⟨t, ht⟩ : ∃ t, t = M'[us.length]?.getD 0 := ⟨_, rfl⟩
   have htb := wfD hat.out.2.1 us.length
   have hcz := hrr.cell (i := P.length + us.length) (by simp; omega)
   rw [Dg.mid_get P M' S us.length hMl, <- ht] at hcz
   have hfz := hrr.free (P.length + us.length)
   have HD := Lib.hid (swallow hat.out HM.out ht hz1)
   have hrs := hrr.set (P.length + us.length) (IntKind.u64.wrap (t + cv))
   rw [Dg.mid_set P M' S _ _ hMl] at hrs
   have HRS := Lib.hid hrs
   clear ht hrs
   go_wp2
   go_end0
   exact ⟨_, rfl, HRS.out, tgrowSet hgr _ _, HD.out.1, HD.out.2.1, HD.out.2.2⟩
end Go.Proofs.YtdnheaafcbihbaaGreat
