/-
  Texts of the proof, merged by program: Rat8 Rmul Radd.
-/
import Derived.Test.YtblbheilddafbaaGreatDoorZ16
import Derived.Defers
import Derived.Recover
set_option linter.unusedVariables false
set_option linter.unusedSimpArgs false
namespace Go.Proofs.YtblbheilddafbaaGreatDoor
open Go Go.RowKit
/-- Is the fraction small? -/
def smR (p q : Int) : Bool := smallB p.natAbs && smallB (if q = 1 then 0 else q)
/-- The call returns the small fraction, or panics where it is not small. -/
def SmRat (L : Nat) (w : World) (p q : Int) (e : Ending) (w' : World) : Prop := Below w.heap.size w w' ∧
  ((smR p q = true ∧ ∃ v', e = .returned v' ∧ RatV L w' v' p q) ∨ (smR p q = false ∧ ∃ u pv, e = .panicked [{ v := .iface u pv, recovered := false }]))
set_option maxRecDepth 20000 in
set_option maxHeartbeats 1000000 in
theorem rsmall_any {L : Nat} {v : Value} {p q : Int} {w : World} (h : RatV L w v p q) (hL : L ≤ 17000000000000) :
    Calls Tryz.prog 117 #[v] w (SmRat L w p q) := by
  obtain ⟨sb, ao, ka, ca, uo, ku, cu, rfl, h1, h2, h3, h4⟩ := h.form
  have HX0 : Hid (Bxs w [.cells #[.bool sb, .slice ao ka ca, .slice uo ku cu] 76, .cells #[.bool false, .slice none 0 0, .slice none 0 0] 76] ((w.alloc (.cells #[.bool sb, .slice ao ka ca, .slice uo ku cu] 76)).alloc (.cells #[.bool false, .slice none 0 0, .slice none 0 0] 76))) :=
    ((Bxs.start w).alloc (by simp) _).alloc (by simp) _
  have HN := Lib.hid (h2.below HX0.out.1)
  have HU := Lib.hid (h3.below HX0.out.1)
  have HR := Lib.hid h
  clear h h1 h2 h3 h4
  by_cases hp : smallB p.natAbs = true
  · by_cases hu : smallB (if q = 1 then 0 else q) = true
    · have hsm : Hid (smR p q = true) := by show smR p q = true; unfold smR; rw [hp, hu]; rfl
      go_enter Tryz.func117, Tryz.ntmps117
      go_wp2_with fail
      refine (isSmall_any HN.out hL).mono ?_
      rintro e w2 ⟨rfl, rfl⟩
      go_wp2_with fail
      refine (isSmall_any HU.out hL).mono ?_
      rintro e w2 ⟨rfl, rfl⟩
      go_wp2
      have hb2 : Below w.heap.size w ((w.alloc (.cells #[.bool sb, .slice ao ka ca, .slice uo ku cu] 76)).alloc (.cells #[.bool sb, .slice ao ka ca, .slice uo ku cu] 76)) := ((Below.refl _ _).alloc (Nat.le_refl _) _).alloc (by simp) _
      exact bodyPost_ret (v := .agg #[.bool sb, .slice ao ka ca, .slice uo ku cu]) (by simp [results, Tryz.results117, go_sem]) rfl ⟨hb2, .inl ⟨hsm.out, _, rfl, HR.out.below hb2⟩⟩
    · have hu : smallB (if q = 1 then 0 else q) = false := by simpa using hu
      have hsm : Hid (smR p q = false) := by show smR p q = false; unfold smR; rw [hp, hu]; rfl
      go_enter Tryz.func117, Tryz.ntmps117
      go_wp2_with fail
      refine (isSmall_any HN.out hL).mono ?_
      rintro e w2 ⟨rfl, rfl⟩
      go_wp2_with fail
      refine (isSmall_any HU.out hL).mono ?_
      rintro e w2 ⟨rfl, rfl⟩
      go_wp2
      exact ⟨rfl, HX0.out.1, .inr ⟨hsm.out, _, _, rfl⟩⟩
  · have hp : smallB p.natAbs = false := by simpa using hp
    have hsm : Hid (smR p q = false) := by show smR p q = false; unfold smR; rw [hp]; rfl
    go_enter Tryz.func117, Tryz.ntmps117
    go_wp2_with fail
    refine (isSmall_any HN.out hL).mono ?_
    rintro e w2 ⟨rfl, rfl⟩
    go_wp2
    exact ⟨rfl, HX0.out.1, .inr ⟨hsm.out, _, _, rfl⟩⟩
theorem catchRat_panicking (p q : Nat) (x : Bool) (a b : Option Addr) (k c k' c' : Nat) (y : Int) (u : TypeId) (pv : Value) (older : List PanicEntry) (w : World)
    (h0 : w.heap[p]? = some (.cells #[.bool x, .slice a k c, .slice b k' c'] 76 (0, 0))) (h1 : w.heap[q]? = some (.cells #[.int .i64 y] 31 (0, 0))) :
    CallsD Tryz.prog 151 #[.pointer (some ⟨p, 0, none⟩), .pointer (some ⟨q, 0, none⟩)] (.panicking ({ v := .iface u pv, recovered := false } :: older)) w fun e u' w' =>
      e = .returned (.tuple #[]) ∧ u' = .panicking ({ v := .iface u pv, recovered := true } :: older) ∧
      w' = ((((w.setCell ⟨p, 0, none⟩ (.bool false)).setCell ⟨p, 1, none⟩ (.slice none 0 0)).setCell ⟨p, 2, none⟩ (.slice none 0 0)).setCell ⟨q, 0, none⟩ (.int .i64 11)).alloc (.cells #[.bool false, .slice none 0 0, .slice none 0 0] 76) := by
  obtain ⟨c0, c1, c2, f0, f1, f2⟩ := three_cells h0
  have hp : p < w.heap.size := (Array.getElem?_eq_some_iff.1 h0).1
  have hq : q < w.heap.size := (Array.getElem?_eq_some_iff.1 h1).1
  have d0 : w.cell? ⟨q, 0, none⟩ = some (.int .i64 y) := by rw [cell_of_row w q 0 _ _ (0, 0) h1]; rfl
  have g0 : w.frozen? ⟨q, 0, none⟩ = false := frozen_of_row w q 0 _ _ h1
  have hpq : ¬ p = q := fun e => by rw [e, h1] at h0; simp at h0
  refine callsD_of_wpS Tryz.func151 rfl fun c₀ cs hu => ?_
  apply wpS_seq
  apply wpS_region
  simp [wpOpsS, go_sem, recoverD, hu, Tryz.ntmps151, Exit.thenS]
  refine wpS_cond (t := true) (by simp [Act.eval, Array.replicate]) ?_
  simp only [if_true]
  refine wpS_of_wp ?_
  simp only [Array.replicate_succ, Array.replicate_zero, List.push_toArray, List.append_toArray, List.nil_append, List.cons_append, List.setIfInBounds_toArray, List.set_cons_succ, List.set_cons_zero]
  go_wp2
  simp [bodyPostS, results, Tryz.results151]
theorem catchRat_idle (p q : Addr) (w : World) :
    CallsD Tryz.prog 151 #[.pointer (some p), .pointer (some q)] .returning w fun e u' w' => e = .returned (.tuple #[]) ∧ u' = .returning ∧ w' = w := by
  refine callsD_of_wpS Tryz.func151 rfl fun c₀ cs hu => ?_
  apply wpS_seq
  apply wpS_region
  simp [wpOpsS, go_sem, recoverD, hu, Tryz.ntmps151, Exit.thenS]
  refine wpS_cond (t := false) (by simp [Act.eval, Array.replicate]) ?_
  simp only [Bool.false_eq_true, if_false]
  refine wpS_of_wp (wp_skip ?_)
  cases c₀
  simp_all [bodyPostS, results, Tryz.results151]
/-- What yield returns: a small fraction, or ErrSize. -/
def YdRat (L : Nat) (w : World) (p q : Int) (e : Ending) (w' : World) : Prop := Below w.heap.size w w' ∧
  ((smR p q = true ∧ ∃ v', e = .returned (.tuple #[v', .int .i64 0]) ∧ RatV L w' v' p q) ∨ (smR p q = false ∧ e = .returned (.tuple #[rat0, .int .i64 11])))
set_option maxRecDepth 20000 in
set_option maxHeartbeats 1000000 in
theorem ryield_any {L : Nat} {p q : Int} (K : FuncId) (fst cap : Array Value) (w : World) (hK : ∀ W : World, (callFunc K (fst ++ cap)).run Tryz.prog W = .ok (.enter K (fst ++ cap)) W) (h : ∀ W, Below w.heap.size w W → Calls Tryz.prog K (fst ++ cap) W (SmRat L W p q)) :
    Calls Tryz.prog 116 #[.func (Fn.func K) fst cap] w (YdRat L w p q) := by
  have hmf : ∀ (fn : Fn) (first cap : Array Value) (w : World), (Instr.makeFunc fn first cap).run Tryz.prog w = .ok (.func fn first cap) w := fun _ _ _ _ => rfl
  have hb0 : Below w.heap.size w ((w.alloc (.cells #[.bool false, .slice none 0 0, .slice none 0 0] 76)).alloc (.cells #[.int .i64 0] 31)) := ((Below.refl _ _).alloc (Nat.le_refl _) _).alloc (by simp) _
  have H := Lib.hid h
  have HB0 := Lib.hid hb0
  clear h hb0
  go_enter_defers Tryz.func116, Tryz.ntmps116
  go_wp2_with fail
  refine (H.out _ HB0.out).mono ?_
  rintro e w1 ⟨hb1, hcase⟩
  have hx0 : w1.heap[w.heap.size]? = some (.cells #[.bool false, .slice none 0 0, .slice none 0 0] 76 (0, 0)) := by
    rw [hb1.block _ (by simp; omega)]
    exact (heap_alloc_old _ _ (by simp)).trans (heap_alloc_new w _)
  have hx1 : w1.heap[w.heap.size + 1]? = some (.cells #[.int .i64 0] 31 (0, 0)) := by
    rw [hb1.block _ (by simp)]
    exact heap_last _ _ _ (by simp)
  have hbw := Lib.hid (HB0.out.trans (hb1.mono (by simp; omega)))
  rcases hcase with ⟨hsm, v', rfl, hR⟩ | ⟨hsm, u, pv, rfl⟩
  · obtain ⟨sb, ao, k, c, uo, k', c', rfl, hsb, hn, hu, hk⟩ := hR.form
    obtain ⟨c0, c1, c2, f0, f1, f2⟩ := three_cells hx0
    have d0 : w1.cell? ⟨w.heap.size + 1, 0, none⟩ = some (.int .i64 0) := by rw [cell_of_row w1 _ 0 _ _ (0, 0) hx1]; rfl
    have g0 : w1.frozen? ⟨w.heap.size + 1, 0, none⟩ = false := frozen_of_row w1 _ 0 _ _ hx1
    have hsz : w.heap.size + 1 < w1.heap.size := (Array.getElem?_eq_some_iff.1 hx1).1
    have HSM := Lib.hid hsm
    have HSB := Lib.hid hsb
    have HN := Lib.hid (hn.box3 hx0 (.bool sb) (.slice ao k c) (.slice uo k' c'))
    have HU := Lib.hid (hu.box3 hx0 (.bool sb) (.slice ao k c) (.slice uo k' c'))
    have HX := Lib.hid (three_set hx0 (.bool sb) (.slice ao k c) (.slice uo k' c'))
    have HX1 := Lib.hid hx1
    clear hsm hsb hn hu hk hR hx0 hx1 hb1
    go_wp2
    refine leaves_cons (f := 151) (args := #[.pointer (some ⟨w.heap.size, 0, none⟩), .pointer (some ⟨w.heap.size + 1, 0, none⟩)]) (by simp) (by simp [go_sem]) ?_
    refine (catchRat_idle _ _ _).mono ?_
    rintro e u' w'' ⟨rfl, rfl, rfl⟩
    have hq1 : (((w1.setCell ⟨w.heap.size, 0, none⟩ (.bool sb)).setCell ⟨w.heap.size, 1, none⟩ (.slice ao k c)).setCell ⟨w.heap.size, 2, none⟩ (.slice uo k' c')).heap[w.heap.size + 1]? = some (.cells #[.int .i64 0] 31 (0, 0)) := by
      rw [heap_setCell_other _ _ _ _ (by simp), heap_setCell_other _ _ _ _ (by simp), heap_setCell_other _ _ _ _ (by simp)]; exact HX1.out
    obtain ⟨q0, q1, q2', _, _, _⟩ := three_cells ((heap_setCell_other (((w1.setCell ⟨w.heap.size, 0, none⟩ (.bool sb)).setCell ⟨w.heap.size, 1, none⟩ (.slice ao k c)).setCell ⟨w.heap.size, 2, none⟩ (.slice uo k' c')) ⟨w.heap.size + 1, 0, none⟩ w.heap.size (.int .i64 0) (by simp)).trans HX.out)
    have hq2 := heap_setCell_same _ _ 0 _ _ (.int .i64 0) hq1
    have q2 := (cell_of_row _ _ 0 _ _ (0, 0) hq2)
    have hgr := growSet (growRefl (((w1.setCell ⟨w.heap.size, 0, none⟩ (.bool sb)).setCell ⟨w.heap.size, 1, none⟩ (.slice ao k c)).setCell ⟨w.heap.size, 2, none⟩ (.slice uo k' c')) (some (w.heap.size + 1))) 0 (.int .i64 0)
    refine ⟨.tuple #[.agg #[.bool sb, .slice ao k c, .slice uo k' c'], .int .i64 0], by simp [results, Tryz.results116, go_sem, q0, q1, q2, q2'], ?_, .inl ⟨HSM.out, _, rfl, _, _, _, rfl, HSB.out, ?_, ?_⟩⟩
    · exact (((hbw.out.setCell (p := ⟨w.heap.size, 0, none⟩) (Nat.le_refl _) _).setCell (p := ⟨w.heap.size, 1, none⟩) (Nat.le_refl _) _).setCell (p := ⟨w.heap.size, 2, none⟩) (Nat.le_refl _) _).setCell (p := ⟨w.heap.size + 1, 0, none⟩) (by simp) _
    · exact HN.out.keptBox hq1 (fun i m => by rcases i with _ | i <;> simp) hgr
    · exact HU.out.keptBox hq1 (fun i m => by rcases i with _ | i <;> simp) hgr
  · have HSM := Lib.hid hsm
    have HX := Lib.hid hx0
    have HX1 := Lib.hid hx1
    clear hsm hx0 hx1 hb1
    go_wp2
    refine leaves_cons (f := 151) (args := #[.pointer (some ⟨w.heap.size, 0, none⟩), .pointer (some ⟨w.heap.size + 1, 0, none⟩)]) (by simp) (by simp [go_sem]) ?_
    refine (catchRat_panicking _ _ _ _ _ _ _ _ _ _ u pv [] _ HX.out HX1.out).mono ?_
    rintro e u' w'' ⟨rfl, rfl, rfl⟩
    have hq1 : (((w1.setCell ⟨w.heap.size, 0, none⟩ (.bool false)).setCell ⟨w.heap.size, 1, none⟩ (.slice none 0 0)).setCell ⟨w.heap.size, 2, none⟩ (.slice none 0 0)).heap[w.heap.size + 1]? = some (.cells #[.int .i64 0] 31 (0, 0)) := by
      rw [heap_setCell_other _ _ _ _ (by simp), heap_setCell_other _ _ _ _ (by simp), heap_setCell_other _ _ _ _ (by simp)]; exact HX1.out
    have hp2 := three_set HX.out (.bool false) (.slice none 0 0) (.slice none 0 0)
    have hp3 := (heap_setCell_other (((w1.setCell ⟨w.heap.size, 0, none⟩ (.bool false)).setCell ⟨w.heap.size, 1, none⟩ (.slice none 0 0)).setCell ⟨w.heap.size, 2, none⟩ (.slice none 0 0)) ⟨w.heap.size + 1, 0, none⟩ w.heap.size (.int .i64 11) (by simp)).trans hp2
    have hq2 := heap_setCell_same _ _ 0 _ _ (.int .i64 11) hq1
    obtain ⟨q0, q1, q2', _, _, _⟩ := three_cells ((heap_alloc_old _ (.cells #[.bool false, .slice none 0 0, .slice none 0 0] 76) (Array.getElem?_eq_some_iff.1 hp3).1).trans hp3)
    have q2 := (cell_of_row _ _ 0 _ _ (0, 0) ((heap_alloc_old _ (.cells #[.bool false, .slice none 0 0, .slice none 0 0] 76) (Array.getElem?_eq_some_iff.1 hq2).1).trans hq2))
    refine ⟨.tuple #[rat0, .int .i64 11], by simp [results, Tryz.results116, go_sem, q0, q1, q2, q2'], ?_, .inr ⟨HSM.out, rfl⟩⟩
    exact ((((hbw.out.setCell (p := ⟨w.heap.size, 0, none⟩) (Nat.le_refl _) _).setCell (p := ⟨w.heap.size, 1, none⟩) (Nat.le_refl _) _).setCell (p := ⟨w.heap.size, 2, none⟩) (Nat.le_refl _) _).setCell (p := ⟨w.heap.size + 1, 0, none⟩) (by simp) _).alloc (by have := hbw.out.size; simpa [World.setCell] using this) _
end Go.Proofs.YtblbheilddafbaaGreatDoor

set_option linter.unusedVariables false
set_option linter.unusedSimpArgs false
namespace Go.Proofs.YtblbheilddafbaaGreatDoor
open Go Go.RowKit
theorem rsmall_yes {L : Nat} {v : Value} {p q : Int} {w : World} (h : RatV L w v p q) (hL : L ≤ 17000000000000) (hs : smR p q = true) :
    Calls Tryz.prog 117 #[v] w fun e w' => Below w.heap.size w w' ∧ ∃ v', e = .returned v' ∧ RatV L w' v' p q :=
  (rsmall_any h hL).mono fun e w' ⟨h1, h2⟩ => ⟨h1, by rcases h2 with ⟨_, h⟩ | ⟨h, _⟩; exact h; rw [hs] at h; cases h⟩
theorem rsmall_no {L : Nat} {v : Value} {p q : Int} {w : World} (h : RatV L w v p q) (hL : L ≤ 17000000000000) (hs : smR p q = false) :
    Calls Tryz.prog 117 #[v] w fun e w' => (∃ u pv, e = .panicked [{ v := .iface u pv, recovered := false }] ∧ Below w.heap.size w w') ∨ (e = .returned rat0 ∧ Hid False) :=
  (rsmall_any h hL).mono fun e w' ⟨h1, h2⟩ => by
    rcases h2 with ⟨h, _⟩ | ⟨_, u, pv, h⟩
    · rw [hs] at h; cases h
    · exact .inl ⟨u, pv, h, h1⟩
theorem two_dens {q t : Int} (hq : 0 < q) (ht : 0 < t) : 0 < q * t := Int.mul_pos hq ht
set_option maxRecDepth 20000 in
set_option maxHeartbeats 4000000 in
theorem rmul1_any {La Lb : Nat} {p q r t : Int} (i j : Nat) (sa sb : Bool) (ao uo bo yo : Option Addr) (ka ku ca cu kb cb ky cy : Nat) (w : World)
    (hp : w.heap[i]? = some (.cells #[.bool sa, .slice ao ka ca, .slice uo ku cu] 76 (0, 0))) (hj : w.heap[j]? = some (.cells #[.bool sb, .slice bo kb cb, .slice yo ky cy] 76 (0, 0)))
    (ha : RatV La w (.agg #[.bool sa, .slice ao ka ca, .slice uo ku cu]) p q) (hb : RatV Lb w (.agg #[.bool sb, .slice bo kb cb, .slice yo ky cy]) r t) (hq : 0 < q) (ht : 0 < t) (h1 : La ≤ 67108864) (h2 : Lb ≤ 67108864) (hsm : smR (frN (p * r) (q * t)) (frD (p * r) (q * t)) = true) :
    Calls Tryz.prog 124 #[.pointer (some ⟨i, 0, none⟩), .pointer (some ⟨j, 0, none⟩)] w (SmRat (La + Lb + 2) w (frN (p * r) (q * t)) (frD (p * r) (q * t))) := by

  have hil : i < w.heap.size := (Array.getElem?_eq_some_iff.1 hp).1
  have hjl : j < w.heap.size := (Array.getElem?_eq_some_iff.1 hj).1
  have hne1 : ¬ i = w.heap.size := by omega
  have hne2 : ¬ w.heap.size = i := by omega
  have hne3 : ¬ j = w.heap.size := by omega
  have hne4 : ¬ w.heap.size = j := by omega
  have HX0 : Hid (Bxs w [.cells #[.bool false, .slice none 0 0, .slice none 0 0] 76] (w.alloc (.cells #[.bool false, .slice none 0 0, .slice none 0 0] 76))) := (Bxs.start w).alloc (by simp) _
  have HT : Hid (∀ W, Below w.heap.size w W → W.cell? ⟨i, 0, none⟩ = some (.bool sa) ∧ W.cell? ⟨i, 1, none⟩ = some (.slice ao ka ca) ∧ W.cell? ⟨i, 2, none⟩ = some (.slice uo ku cu) ∧ W.cell? ⟨j, 0, none⟩ = some (.bool sb) ∧ W.cell? ⟨j, 1, none⟩ = some (.slice bo kb cb) ∧ W.cell? ⟨j, 2, none⟩ = some (.slice yo ky cy)) := fun W hW => by
    obtain ⟨a0, a1, a2, _⟩ := three_cells ((hW.block i hil).trans hp)
    obtain ⟨b0, b1, b2, _⟩ := three_cells ((hW.block j hjl).trans hj)
    exact ⟨a0, a1, a2, b0, b1, b2⟩
  have HA := Lib.hid ha
  have HB := Lib.hid hb
  obtain ⟨LL, hLL⟩ : ∃ LL, LL = La + Lb + 2 := ⟨_, rfl⟩
  obtain ⟨P, hP⟩ : ∃ P, P = frN (p * r) (q * t) := ⟨_, rfl⟩
  obtain ⟨Q, hQ⟩ : ∃ Q, Q = frD (p * r) (q * t) := ⟨_, rfl⟩
  rw [← hP, ← hQ] at hsm
  rw [← hLL, ← hP, ← hQ]
  have HM : Hid (∀ W, Below w.heap.size w W → Calls Tryz.prog 97 #[.agg #[.bool sa, .slice ao ka ca], .agg #[.bool sb, .slice bo kb cb]] W (RetInt LL W (p * r))) := fun W hW =>
    (times_any (HA.out.below hW).int (HB.out.below hW).int (by omega) (by omega)).mono fun e w' ⟨h, v', e1, hi⟩ => ⟨h, v', e1, hi.mono (by omega)⟩

  have HD1 : Hid (∀ W, Below w.heap.size w W → Calls Tryz.prog 118 #[.agg #[.bool sa, .slice ao ka ca, .slice uo ku cu]] W (RetNum (La + 1) W q)) := fun W hW => (denominator_any (HA.out.below hW) hq (by omega)).mono fun e w' ⟨h, v', e1, hi, hf⟩ => ⟨h, v', e1, hi.mono (by omega), hf⟩
  have HD2 : Hid (∀ W, Below w.heap.size w W → Calls Tryz.prog 118 #[.agg #[.bool sb, .slice bo kb cb, .slice yo ky cy]] W (RetNum (Lb + 1) W t)) := fun W hW => (denominator_any (HB.out.below hW) ht (by omega)).mono fun e w' ⟨h, v', e1, hi, hf⟩ => ⟨h, v', e1, hi.mono (by omega), hf⟩
  have HPR : Hid (∀ W v v', Num (La + 1) W v q → Num (Lb + 1) W v' t → Calls Tryz.prog 123 #[v, v'] W (RetNum LL W (q * t))) := fun W v v' hv hv' => (product_num hv hv' (by omega) (by omega)).mono fun e w' ⟨h, v', e1, hi, hf⟩ => ⟨h, v', e1, hi.mono (by omega), hf⟩
  have HLO : Hid (∀ W v v', IntV LL W v (p * r) → Num LL W v' (q * t) → Calls Tryz.prog 120 #[v, v'] W (RetRat LL W P Q)) := fun W v v' hv hv' => by
    have := lowest_any hv hv' (two_dens hq ht) (by omega) (by omega)
    rw [(fr_pos (two_dens hq ht)).1, (fr_pos (two_dens hq ht)).2, ← hP, ← hQ, Nat.max_self] at this
    exact this
  have HL : Hid (LL ≤ 17000000000000) := by show LL ≤ 17000000000000; omega
  clear ha hb hLL hP hQ hp hj

  have HSM := Lib.hid hsm
  clear hsm
  go_enter Tryz.func124, Tryz.ntmps124
  go_wp2_with fail
  obtain ⟨a0, a1, a2, a3, a4, a5⟩ := HT.out _ HX0.out.1
  go_region_held3 (fun w' => w'.cell? ⟨i, 0, none⟩ = some (.bool sa) ∧ w'.cell? ⟨i, 1, none⟩ = some (.slice ao ka ca) ∧ w'.cell? ⟨i, 2, none⟩ = some (.slice uo ku cu) ∧ w'.cell? ⟨j, 0, none⟩ = some (.bool sb) ∧ w'.cell? ⟨j, 1, none⟩ = some (.slice bo kb cb) ∧ w'.cell? ⟨j, 2, none⟩ = some (.slice yo ky cy))
    (first | exact ⟨s0, s1, s2, s3, s4, s5⟩ | exact ⟨o0, o1, o2, o3, o4, o5⟩ | exact ⟨n0, n1, n2, n3, n4, n5⟩ | exact ⟨m0, m1, m2, m3, m4, m5⟩ | exact ⟨l0, l1, l2, l3, l4, l5⟩ | exact ⟨k0, k1, k2, k3, k4, k5⟩ | exact ⟨a0, a1, a2, a3, a4, a5⟩ | (refine ⟨?_, ?_, ?_, ?_, ?_, ?_⟩ <;> simp [go_sem, s0, s1, s2, s3, s4, s5, hne1, hne2, hne3, hne4]; done) | (refine ⟨?_, ?_, ?_, ?_, ?_, ?_⟩ <;> simp [go_sem, a0, a1, a2, a3, a4, a5, hne1, hne2, hne3, hne4]; done) | go_keep)
    ((first
        | (go_at_call 97; (with_reducible refine (HM.out _ ?h1).mono ?_); (case h1 => exact HX0.out.drew.1); rintro e w2 ⟨hb2, v2, rfl, hI2⟩; have hx2 := HX0.out.drew.below hb2; obtain ⟨k0, k1, k2, k3, k4, k5⟩ := HT.out _ hx2.1)
        | (go_at_call 118; (with_reducible refine (HD1.out _ ?h2).mono ?_); (case h2 => exact hx2.1); rintro e w3 ⟨hb3, v3, rfl, hN3, _⟩; have hx3 := hx2.below hb3; obtain ⟨l0, l1, l2, l3, l4, l5⟩ := HT.out _ hx3.1)
        | (go_at_call 118; (with_reducible refine (HD2.out _ ?h3).mono ?_); (case h3 => exact hx3.1); rintro e w4 ⟨hb4, v4, rfl, hN4, _⟩; have hx4 := hx3.below hb4; obtain ⟨m0, m1, m2, m3, m4, m5⟩ := HT.out _ hx4.1)
        | (go_at_call 123; (with_reducible refine (HPR.out _ _ _ ?h4 ?h5).mono ?_); (case h4 => exact hN3.below hb4); (case h5 => exact hN4); rintro e w5 ⟨hb5, v5, rfl, hN5, _⟩; have hx5 := hx4.below hb5; obtain ⟨n0, n1, n2, n3, n4, n5⟩ := HT.out _ hx5.1)
        | (go_at_call 120; (with_reducible refine (HLO.out _ _ _ ?h6 ?h7).mono ?_); (case h6 => exact ((hI2.below hb3).below hb4).below hb5); (case h7 => exact hN5); rintro e w6 ⟨hb6, v6, rfl, hR6⟩; have hx6 := hx5.below hb6; obtain ⟨o0, o1, o2, o3, o4, o5⟩ := HT.out _ hx6.1)
        | (go_at_call 117; refine (rsmall_yes hR6 HL.out HSM.out).mono ?_; rintro e w7 ⟨hb7, v7, rfl, hR7⟩; have hx7 := hx6.below hb7; obtain ⟨s0, s1, s2, s3, s4, s5⟩ := HT.out _ hx7.1; obtain ⟨s8, ao8, k8, c8, uo8, j8, d8, rfl, hs8, hn8, hu8, hk8⟩ := hR7.form; have HS8 := Lib.hid hs8; clear hs8 hk8; have hbx := hx7.b0; obtain ⟨x0, x1, x2, f0, f1, f2⟩ := three_cells hbx; have hsz := hx7.l1)))
  have HE := Lib.hid (fun W' => rat_end (L := LL) (p := P) (q := Q) (w := w) (s := s8) (ao := ao8) (k := k8) (c := c8) (uo := uo8) (ku := j8) (cu := d8) hbx hx7.1 (Nat.le_refl _) HS8.out hn8 hu8 W')
  clear hbx hb2 hb3 hb4 hb5 hb6 hb7 hI2 hN3 hN4 hN5 hR6 hR7 hx2 hx3 hx4 hx5 hx6 hx7 hn8 hu8
  go_wp2
  have hE := HE.out _ rfl
  exact bodyPost_ret (v := .agg #[.bool s8, .slice ao8 k8 c8, .slice uo8 j8 d8]) (by simp [results, Tryz.results124, go_sem, hE.2.2.1, hE.2.2.2.1, hE.2.2.2.2]) rfl ⟨hE.1, .inl ⟨HSM.out, _, rfl, hE.2.1⟩⟩
end Go.Proofs.YtblbheilddafbaaGreatDoor

set_option linter.unusedVariables false
set_option linter.unusedSimpArgs false
namespace Go.Proofs.YtblbheilddafbaaGreatDoor
open Go Go.RowKit
set_option maxRecDepth 20000 in
set_option maxHeartbeats 4000000 in
theorem radd1_any {La Lb : Nat} {p q r t : Int} (i j : Nat) (sa sb : Bool) (ao uo bo yo : Option Addr) (ka ku ca cu kb cb ky cy : Nat) (w : World)
    (hp : w.heap[i]? = some (.cells #[.bool sa, .slice ao ka ca, .slice uo ku cu] 76 (0, 0))) (hj : w.heap[j]? = some (.cells #[.bool sb, .slice bo kb cb, .slice yo ky cy] 76 (0, 0)))
    (ha : RatV La w (.agg #[.bool sa, .slice ao ka ca, .slice uo ku cu]) p q) (hb : RatV Lb w (.agg #[.bool sb, .slice bo kb cb, .slice yo ky cy]) r t) (hq : 0 < q) (ht : 0 < t) (h1 : La ≤ 67108864) (h2 : Lb ≤ 67108864) (hsm : smR (frN (p * t + r * q) (q * t)) (frD (p * t + r * q) (q * t)) = true) :
    Calls Tryz.prog 121 #[.pointer (some ⟨i, 0, none⟩), .pointer (some ⟨j, 0, none⟩)] w (SmRat (La + Lb + 2) w (frN (p * t + r * q) (q * t)) (frD (p * t + r * q) (q * t))) := by

  have hil : i < w.heap.size := (Array.getElem?_eq_some_iff.1 hp).1
  have hjl : j < w.heap.size := (Array.getElem?_eq_some_iff.1 hj).1
  have hne1 : ¬ i = w.heap.size := by omega
  have hne2 : ¬ w.heap.size = i := by omega
  have hne3 : ¬ j = w.heap.size := by omega
  have hne4 : ¬ w.heap.size = j := by omega
  have HX0 : Hid (Bxs w [.cells #[.bool false, .slice none 0 0, .slice none 0 0] 76] (w.alloc (.cells #[.bool false, .slice none 0 0, .slice none 0 0] 76))) := (Bxs.start w).alloc (by simp) _
  have HTT : Hid (∀ W, Below w.heap.size w W → W.cell? ⟨i, 0, none⟩ = some (.bool sa) ∧ W.cell? ⟨i, 1, none⟩ = some (.slice ao ka ca) ∧ W.cell? ⟨i, 2, none⟩ = some (.slice uo ku cu) ∧ W.cell? ⟨j, 0, none⟩ = some (.bool sb) ∧ W.cell? ⟨j, 1, none⟩ = some (.slice bo kb cb) ∧ W.cell? ⟨j, 2, none⟩ = some (.slice yo ky cy)) := fun W hW => by
    obtain ⟨a0, a1, a2, _⟩ := three_cells ((hW.block i hil).trans hp)
    obtain ⟨b0, b1, b2, _⟩ := three_cells ((hW.block j hjl).trans hj)
    exact ⟨a0, a1, a2, b0, b1, b2⟩
  have HA := Lib.hid ha
  have HB := Lib.hid hb
  have HCR := Lib.hid (crossed_any (HA.out.below HX0.out.1) (HB.out.below HX0.out.1) hq ht (by omega) (by omega))
  obtain ⟨LL, hLL⟩ : ∃ LL, LL = La + Lb + 2 := ⟨_, rfl⟩
  obtain ⟨P, hP⟩ : ∃ P, P = frN (p * t + r * q) (q * t) := ⟨_, rfl⟩
  obtain ⟨Q, hQ⟩ : ∃ Q, Q = frD (p * t + r * q) (q * t) := ⟨_, rfl⟩
  rw [← hP, ← hQ] at hsm
  rw [← hLL, ← hP, ← hQ]
  have HPLUS : Hid (∀ W v v', IntV (La + Lb + 1) W v (p * t) → IntV (La + Lb + 1) W v' (r * q) → Calls Tryz.prog 95 #[v, v'] W (RetInt LL W (p * t + r * q))) := fun W v v' h h' =>
    (plus_any h h' (by omega) (by omega)).mono fun e w' ⟨h, v', e1, hi⟩ => ⟨h, v', e1, hi.mono (by omega)⟩
  have HD1 : Hid (∀ W, Below w.heap.size w W → Calls Tryz.prog 118 #[.agg #[.bool sa, .slice ao ka ca, .slice uo ku cu]] W (RetNum (La + 1) W q)) := fun W hW => (denominator_any (HA.out.below hW) hq (by omega)).mono fun e w' ⟨h, v', e1, hi, hf⟩ => ⟨h, v', e1, hi.mono (by omega), hf⟩
  have HD2 : Hid (∀ W, Below w.heap.size w W → Calls Tryz.prog 118 #[.agg #[.bool sb, .slice bo kb cb, .slice yo ky cy]] W (RetNum (Lb + 1) W t)) := fun W hW => (denominator_any (HB.out.below hW) ht (by omega)).mono fun e w' ⟨h, v', e1, hi, hf⟩ => ⟨h, v', e1, hi.mono (by omega), hf⟩
  have HPR : Hid (∀ W v v', Num (La + 1) W v q → Num (Lb + 1) W v' t → Calls Tryz.prog 123 #[v, v'] W (RetNum LL W (q * t))) := fun W v v' hv hv' => (product_num hv hv' (by omega) (by omega)).mono fun e w' ⟨h, v', e1, hi, hf⟩ => ⟨h, v', e1, hi.mono (by omega), hf⟩
  have HLO : Hid (∀ W v v', IntV LL W v (p * t + r * q) → Num LL W v' (q * t) → Calls Tryz.prog 120 #[v, v'] W (RetRat LL W P Q)) := fun W v v' hv hv' => by
    have := lowest_any hv hv' (two_dens hq ht) (by omega) (by omega)
    rw [(fr_pos (two_dens hq ht)).1, (fr_pos (two_dens hq ht)).2, ← hP, ← hQ, Nat.max_self] at this
    exact this
  have HL : Hid (LL ≤ 17000000000000) := by show LL ≤ 17000000000000; omega
  clear ha hb hLL hP hQ hp hj

  have HSM := Lib.hid hsm
  clear hsm
  go_enter Tryz.func121, Tryz.ntmps121
  obtain ⟨a0, a1, a2, a3, a4, a5⟩ := HTT.out _ HX0.out.1
  go_wp2_with fail
  refine HCR.out.mono ?_
  rintro e w1 ⟨hb1, v1, v2, rfl, hI1, hI2⟩
  obtain ⟨s1, u1, rfl, hs1, hn1⟩ := hI1
  obtain ⟨o1, k1, c1, rfl⟩ := hn1.form
  obtain ⟨s2, u2, rfl, hs2, hn2⟩ := hI2
  obtain ⟨o2, k2, c2, rfl⟩ := hn2.form
  have HX1' := Lib.hid (HX0.out.below hb1)
  have hba : Below w1.heap.size w1 ((w1.alloc (.cells #[.bool s1, .slice o1 k1 c1] 30)).alloc (.cells #[.bool s2, .slice o2 k2 c2] 30)) := ((Below.refl _ _).alloc (Nat.le_refl _) _).alloc (by simp) _
  have HX1 := Lib.hid (HX1'.out.below hba)
  have HI1 : Hid (IntV (La + Lb + 1) ((w1.alloc (.cells #[.bool s1, .slice o1 k1 c1] 30)).alloc (.cells #[.bool s2, .slice o2 k2 c2] 30)) (.agg #[.bool s1, .slice o1 k1 c1]) (p * t)) := ⟨_, _, rfl, hs1, hn1.below hba⟩
  have HI2 : Hid (IntV (La + Lb + 1) ((w1.alloc (.cells #[.bool s1, .slice o1 k1 c1] 30)).alloc (.cells #[.bool s2, .slice o2 k2 c2] 30)) (.agg #[.bool s2, .slice o2 k2 c2]) (r * q)) := ⟨_, _, rfl, hs2, hn2.below hba⟩
  have HY1 : Hid (Bxs w1 [.cells #[.bool s1, .slice o1 k1 c1] 30, .cells #[.bool s2, .slice o2 k2 c2] 30] ((w1.alloc (.cells #[.bool s1, .slice o1 k1 c1] 30)).alloc (.cells #[.bool s2, .slice o2 k2 c2] 30))) := ((Bxs.start w1).alloc (by simp) _).alloc (by simp) _
  have hl1 := HX1'.out.l1
  have hne5 : ¬ w1.heap.size = w.heap.size := by omega
  have hne6 : ¬ w.heap.size = w1.heap.size := by omega
  have hne7 : ¬ w1.heap.size + 1 = w.heap.size := by omega
  have hne8 : ¬ w.heap.size = w1.heap.size + 1 := by omega
  have HT : Hid (∀ W, Bxs w1 [.cells #[.bool s1, .slice o1 k1 c1] 30, .cells #[.bool s2, .slice o2 k2 c2] 30] W → W.cell? ⟨i, 0, none⟩ = some (.bool sa) ∧ W.cell? ⟨i, 1, none⟩ = some (.slice ao ka ca) ∧ W.cell? ⟨i, 2, none⟩ = some (.slice uo ku cu) ∧ W.cell? ⟨j, 0, none⟩ = some (.bool sb) ∧ W.cell? ⟨j, 1, none⟩ = some (.slice bo kb cb) ∧ W.cell? ⟨j, 2, none⟩ = some (.slice yo ky cy) ∧ W.cell? ⟨w1.heap.size, 0, none⟩ = some (.bool s1) ∧ W.cell? ⟨w1.heap.size, 1, none⟩ = some (.slice o1 k1 c1) ∧ W.cell? ⟨w1.heap.size + 1, 0, none⟩ = some (.bool s2) ∧ W.cell? ⟨w1.heap.size + 1, 1, none⟩ = some (.slice o2 k2 c2)) := fun W hW => by
    obtain ⟨d0, d1, d2, d3, d4, d5⟩ := HTT.out W (HX1'.out.1.trans (hW.1.mono (by omega)))
    obtain ⟨e0, e1, _⟩ := two_cells hW.b0
    obtain ⟨e2, e3, _⟩ := two_cells hW.b1
    exact ⟨d0, d1, d2, d3, d4, d5, e0, e1, e2, e3⟩
  clear hb1 hs1 hn1 hs2 hn2 hba a0 a1 a2 a3 a4 a5
  obtain ⟨a0, a1, a2, a3, a4, a5, a6, a7, a8, a9⟩ := HT.out _ HY1.out
  go_wp2_with fail
  go_region_held3 (fun W => W.cell? ⟨i, 0, none⟩ = some (.bool sa) ∧ W.cell? ⟨i, 1, none⟩ = some (.slice ao ka ca) ∧ W.cell? ⟨i, 2, none⟩ = some (.slice uo ku cu) ∧ W.cell? ⟨j, 0, none⟩ = some (.bool sb) ∧ W.cell? ⟨j, 1, none⟩ = some (.slice bo kb cb) ∧ W.cell? ⟨j, 2, none⟩ = some (.slice yo ky cy) ∧ W.cell? ⟨w1.heap.size, 0, none⟩ = some (.bool s1) ∧ W.cell? ⟨w1.heap.size, 1, none⟩ = some (.slice o1 k1 c1) ∧ W.cell? ⟨w1.heap.size + 1, 0, none⟩ = some (.bool s2) ∧ W.cell? ⟨w1.heap.size + 1, 1, none⟩ = some (.slice o2 k2 c2))
    (first | exact ⟨s0, s1, s2, s3, s4, s5, s6, s7, s8, s9⟩ | exact ⟨o0, o1, o2, o3, o4, o5, o6, o7, o8, o9⟩ | exact ⟨n0, n1, n2, n3, n4, n5, n6, n7, n8, n9⟩ | exact ⟨m0, m1, m2, m3, m4, m5, m6, m7, m8, m9⟩ | exact ⟨l0, l1, l2, l3, l4, l5, l6, l7, l8, l9⟩ | exact ⟨k0, k1, k2, k3, k4, k5, k6, k7, k8, k9⟩ | exact ⟨a0, a1, a2, a3, a4, a5, a6, a7, a8, a9⟩ | (refine ⟨?_, ?_, ?_, ?_, ?_, ?_, ?_, ?_, ?_, ?_⟩ <;> simp [go_sem, s0, s1, s2, s3, s4, s5, s6, s7, s8, s9, hne1, hne2, hne3, hne4, hne5, hne6, hne7, hne8]; done) | (refine ⟨?_, ?_, ?_, ?_, ?_, ?_, ?_, ?_, ?_, ?_⟩ <;> simp [go_sem, a0, a1, a2, a3, a4, a5, a6, a7, a8, a9, hne1, hne2, hne3, hne4, hne5, hne6, hne7, hne8]; done) | go_keep)
    ((first
      | (go_at_call 95; (with_reducible refine (HPLUS.out _ _ _ ?h1 ?h1').mono ?_); (case h1 => exact HI1.out.below (belowDrew _)); (case h1' => exact HI2.out.below (belowDrew _)); rintro e w2 ⟨hb2, v2, rfl, hI2⟩; have hx2 := HX1.out.drew.below hb2; have hy2 := HY1.out.drew.below hb2; obtain ⟨k0, k1, k2, k3, k4, k5, k6, k7, k8, k9⟩ := HT.out _ hy2)
      | (go_at_call 118; (with_reducible refine (HD1.out _ ?h2).mono ?_); (case h2 => exact hx2.1); rintro e w3 ⟨hb3, v3, rfl, hN3, _⟩; have hx3 := hx2.below hb3; have hy3 := hy2.below hb3; obtain ⟨l0, l1, l2, l3, l4, l5, l6, l7, l8, l9⟩ := HT.out _ hy3)
      | (go_at_call 118; (with_reducible refine (HD2.out _ ?h3).mono ?_); (case h3 => exact hx3.1); rintro e w4 ⟨hb4, v4, rfl, hN4, _⟩; have hx4 := hx3.below hb4; have hy4 := hy3.below hb4; obtain ⟨m0, m1, m2, m3, m4, m5, m6, m7, m8, m9⟩ := HT.out _ hy4)
      | (go_at_call 123; (with_reducible refine (HPR.out _ _ _ ?h4 ?h5).mono ?_); (case h4 => exact hN3.below hb4); (case h5 => exact hN4); rintro e w5 ⟨hb5, v5, rfl, hN5, _⟩; have hx5 := hx4.below hb5; have hy5 := hy4.below hb5; obtain ⟨n0, n1, n2, n3, n4, n5, n6, n7, n8, n9⟩ := HT.out _ hy5)
      | (go_at_call 120; (with_reducible refine (HLO.out _ _ _ ?h6 ?h7).mono ?_); (case h6 => exact ((hI2.below hb3).below hb4).below hb5); (case h7 => exact hN5); rintro e w6 ⟨hb6, v6, rfl, hR6⟩; have hx6 := hx5.below hb6; have hy6 := hy5.below hb6; obtain ⟨o0, o1, o2, o3, o4, o5, o6, o7, o8, o9⟩ := HT.out _ hy6)
      | (go_at_call 117; refine (rsmall_yes hR6 HL.out HSM.out).mono ?_; rintro e w7 ⟨hb7, v7, rfl, hR7⟩; have hx7 := hx6.below hb7; obtain ⟨s0, s1, s2, s3, s4, s5, s6, s7, s8, s9⟩ := HT.out _ (hy6.below hb7); obtain ⟨s8, ao8, k8, c8, uo8, j8, d8, rfl, hs8, hn8, hu8, hk8⟩ := hR7.form; have HS8 := Lib.hid hs8; clear hs8 hk8; have hbx := hx7.b0; obtain ⟨x0, x1, x2, f0, f1, f2⟩ := three_cells hbx; have hsz := hx7.l1)))
  have HE := Lib.hid (fun W' => rat_end (L := LL) (p := P) (q := Q) (w := w) (s := s8) (ao := ao8) (k := k8) (c := c8) (uo := uo8) (ku := j8) (cu := d8) hbx hx7.1 (Nat.le_refl _) HS8.out hn8 hu8 W')
  clear hbx hb2 hb3 hb4 hb5 hb6 hb7 hI2 hN3 hN4 hN5 hR6 hR7 hx2 hx3 hx4 hx5 hx6 hx7 hn8 hu8 hy2 hy3 hy4 hy5 hy6
  go_wp2
  have hE := HE.out _ rfl
  exact bodyPost_ret (v := .agg #[.bool s8, .slice ao8 k8 c8, .slice uo8 j8 d8]) (by simp [results, Tryz.results121, go_sem, hE.2.2.1, hE.2.2.2.1, hE.2.2.2.2]) rfl ⟨hE.1, .inl ⟨HSM.out, _, rfl, hE.2.1⟩⟩
end Go.Proofs.YtblbheilddafbaaGreatDoor
