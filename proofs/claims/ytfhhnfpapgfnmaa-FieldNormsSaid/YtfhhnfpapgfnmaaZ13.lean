/-
  Texts of the proof, merged by program: Nt Fv Ng El.
-/
import Derived.Test.YtfhhnfpapgfnmaaZ12
import Derived.Deep.OwnRows
set_option linter.unusedVariables false
set_option linter.unusedSimpArgs false
namespace Go.Proofs.Ytfhhnfpapgfnmaa
open Go Go.RowKit Go.Deep
open FFld (ints)
theorem info_u16 : (Try.prog.info? 133).map (fun i => (i.zero, i.size, i.bytes)) = some (some (.int .u16 0), 1, 2) := by kernel_rfl
theorem enter_ext (cap : Array Value) (W : World) : (callFunc 130 cap).run Try.prog W = .ok (.enter 130 cap) W := by
  kernel_rfl
/-- The closure that multiplies by the generator. -/
theorem ext1_any (p k m l o g a b8 b9 : Nat) (w : World) (h : RsOk p k m l o) (ha : a < p ^ k) (hg : g < p ^ k) (h8 : w.heap[b8]? = some (.cells #[.int .i64 p, .int .i64 l, .int .i64 o] 120 (0, 0))) (h9 : w.cell? ⟨b9, 0, none⟩ = some (.int .i64 g)) :
    Calls Try.prog 130 #[.int .i64 a, .pointer (some ⟨b8, 0, none⟩), .pointer (some ⟨b9, 0, none⟩)] w (RB w (.int .i64 (FFld.pmul p k m a k g : Nat))) := by
  obtain ⟨c0, c1, c2, _⟩ := three_cells h8
  have hP := Kept.mk (fun W => rproduct_any p k m l o h a g W ha hg)
  clear h8 ha hg h
  go_enter Try.func130, Try.ntmps130
  go_wp2_with fail
  refine (hP.out _).mono ?_
  rintro e w2 ⟨hb2, rfl⟩
  have HB := Kept.mk hb2
  clear hb2 c0 c1 c2 h9
  go_wp2
  go_ret
  exact ⟨HB.out, rfl⟩
theorem drew_heap (W : World) : W.drew.heap = W.heap := rfl
theorem made_row (K : IntKind) (n : Nat) : madeCells #[.int K 0] n = ((ints (List.replicate n 0)).map (Value.int K)).toArray := by
  apply Array.toList_inj.1
  rw [toList_madeCells_one]
  simp [ints]
/-- The blocks of newTables: the result's box, two rows, the tables' box. -/
structure NtW (w : World) (gP gL g7 p q1 q : Nat) (P L : List Nat) (W : World) : Prop where
  bel : Below w.heap.size w W
  h0 : W.heap[w.heap.size]? = some (.cells #[.int .i64 0, .slice none 0 0, .slice none 0 0] 124 (0, 0))
  rP : Row 133 .u16 W gP (ints P)
  rL : Row 133 .u16 W gL (ints L)
  h7 : W.heap[g7]? = some (.cells #[.int .i64 p, .slice (some ⟨gP, 0, none⟩) q1 q1, .slice (some ⟨gL, 0, none⟩) q q] 124 (0, 0))
  n1 : w.heap.size < gP
  n2 : w.heap.size < gL
  n3 : w.heap.size < g7
  n4 : gP ≠ gL
  n5 : gP ≠ g7
  n6 : gL ≠ g7
theorem NtW.below {w : World} {gP gL g7 p q1 q : Nat} {P L : List Nat} {W W' : World} (h : NtW w gP gL g7 p q1 q P L W) (hb : Below W.heap.size W W') : NtW w gP gL g7 p q1 q P L W' :=
  ⟨h.bel.trans (hb.mono h.bel.size), (hb.block _ (Array.getElem?_eq_some_iff.1 h.h0).1).trans h.h0, h.rP.below hb, h.rL.below hb, (hb.block _ (Array.getElem?_eq_some_iff.1 h.h7).1).trans h.h7, h.n1, h.n2, h.n3, h.n4, h.n5, h.n6⟩
theorem NtW.setP {w : World} {gP gL g7 p q1 q : Nat} {P L : List Nat} {W : World} (h : NtW w gP gL g7 p q1 q P L W) (i v : Nat) : NtW w gP gL g7 p q1 q (P.set i v) L (W.setCell ⟨gP, i, none⟩ (.int .u16 v)) := by
  have e := h.rP.set i (v : Int)
  rw [FFld.ints_set] at e
  exact ⟨h.bel.setCell (p := ⟨gP, i, none⟩) (Nat.le_of_lt h.n1) _, (heap_setCell_other _ _ _ _ (by have := h.n1; simp; omega)).trans h.h0, e, h.rL.setOther _ (fun e => h.n4 e), (heap_setCell_other _ _ _ _ (by have := h.n5; simp; omega)).trans h.h7, h.n1, h.n2, h.n3, h.n4, h.n5, h.n6⟩
theorem NtW.setL {w : World} {gP gL g7 p q1 q : Nat} {P L : List Nat} {W : World} (h : NtW w gP gL g7 p q1 q P L W) (i v : Nat) : NtW w gP gL g7 p q1 q P (L.set i v) (W.setCell ⟨gL, i, none⟩ (.int .u16 v)) := by
  have e := h.rL.set i (v : Int)
  rw [FFld.ints_set] at e
  exact ⟨h.bel.setCell (p := ⟨gL, i, none⟩) (Nat.le_of_lt h.n2) _, (heap_setCell_other _ _ _ _ (by have := h.n2; simp; omega)).trans h.h0, h.rP.setOther _ (fun e => h.n4 e.symm), e, (heap_setCell_other _ _ _ _ (by have := h.n6; simp; omega)).trans h.h7, h.n1, h.n2, h.n3, h.n4, h.n5, h.n6⟩
/-- What newTables returns. -/
def NtRet (D : FFld.FD) (h : D.Ok) (w : World) (e : Ending) (w' : World) : Prop := Below w.heap.size w w' ∧ ∃ gP gL q1 q P L, e = .returned (tbv D.p (some ⟨gP, 0, none⟩) q1 q1 (some ⟨gL, 0, none⟩) q q) ∧ Row 133 .u16 w' gP (ints P) ∧ Row 133 .u16 w' gL (ints L) ∧ FFld.TabOk D h P L ∧ D.p ^ D.k - 1 = q1 ∧ D.p ^ D.k = q
set_option maxRecDepth 20000 in
set_option maxHeartbeats 4000000 in
theorem newTables_any (D : FFld.FD) (h : D.Ok) (b8 b9 : Nat) (w : World)
    (hN : ∀ W, Below w.heap.size w W → ∀ a, a < D.p ^ D.k → Calls Try.prog 130 #[.int .i64 a, .pointer (some ⟨b8, 0, none⟩), .pointer (some ⟨b9, 0, none⟩)] W (RB W (.int .i64 (FFld.pmul D.p D.k D.m a D.k D.g : Nat)))) :
    Calls Try.prog 129 #[.int .i64 D.p, .int .i64 D.q, .func (.func 130) #[] #[.pointer (some ⟨b8, 0, none⟩), .pointer (some ⟨b9, 0, none⟩)]] w (NtRet D h w) := by
  have h1 := h.pre.pk.one_lt
  obtain ⟨q, hq⟩ : ∃ q, D.p ^ D.k = q := ⟨_, rfl⟩
  obtain ⟨q1, hq1⟩ : ∃ q1, q - 1 = q1 := ⟨_, rfl⟩
  have hqq : D.q = q := hq
  have hq6 : q ≤ 65536 := by have := h.pre.small; rw [hqq] at this; exact this
  have hq2 : 2 ≤ q := by omega
  have e0 : IntKind.i64.wrap ((q : Int) - 1) = q1 := by rw [show (q : Int) - 1 = q1 from by omega]; exact wi (by omega) (by omega)
  have hmk1 := run_make_row' (P := Try.prog) 122 133 (.int .u16 0) 2 Try.underlying122 info_u16 rfl .i64 .i64 q1 (by omega) (by omega)
  have hmk2 := run_make_row' (P := Try.prog) 122 133 (.int .u16 0) 2 Try.underlying122 info_u16 rfl .i64 .i64 q (by omega) (by omega)
  have HN := Kept.mk hN
  have HQ := Kept.mk hq
  have HQ1 := Kept.mk hq1
  have hq1a : q1 + 1 ≤ q := by omega
  have hq1b : q ≤ q1 + 1 := by omega
  rw [hqq]
  clear hqq hq hq1 hN
  go_enter Try.func129, Try.ntmps129
  go_wp2
  go_cut [7] from 10 to 17 (fun tv W => ∃ gP gL g7 : Nat, tv = .pointer (some ⟨g7, 0, none⟩) ∧ Kept (NtW w gP gL g7 D.p q1 q (List.replicate q1 0) (List.replicate q 0) W))
  case first =>
    go_region
    all_goals
      (go_wp2_with fail
       go_meet
       first
         | refine ⟨w.heap.size + 1, w.heap.size + 1 + 1, w.heap.size + 1 + 1 + 1, rfl, ⟨?_⟩⟩; ((refine ⟨?_, ?_, ?_, ?_, ?_, by omega, by omega, by omega, by omega, by omega, by omega⟩) <;> first | ((repeat (first | exact Below.refl _ _ | refine Below.drew ?_ | refine Below.alloc ?_ (by simp <;> omega) _)); done) | ((try unfold Row); (try rw [← made_row]); (try simp only [drew_heap]); (repeat (first | exact heap_last _ _ _ (by simp) | (refine (heap_alloc_old _ _ (by simp <;> omega)).trans ?_))); done))
         | refine ⟨w.heap.size + 1 + 1, w.heap.size + 1, w.heap.size + 1 + 1 + 1, rfl, ⟨?_⟩⟩; ((refine ⟨?_, ?_, ?_, ?_, ?_, by omega, by omega, by omega, by omega, by omega, by omega⟩) <;> first | ((repeat (first | exact Below.refl _ _ | refine Below.drew ?_ | refine Below.alloc ?_ (by simp <;> omega) _)); done) | ((try unfold Row); (try rw [← made_row]); (try simp only [drew_heap]); (repeat (first | exact heap_last _ _ _ (by simp) | (refine (heap_alloc_old _ _ (by simp <;> omega)).trans ?_))); done))
         | refine ⟨w.heap.size + 1, w.heap.size + 1 + 1 + 1, w.heap.size + 1 + 1, rfl, ⟨?_⟩⟩; ((refine ⟨?_, ?_, ?_, ?_, ?_, by omega, by omega, by omega, by omega, by omega, by omega⟩) <;> first | ((repeat (first | exact Below.refl _ _ | refine Below.drew ?_ | refine Below.alloc ?_ (by simp <;> omega) _)); done) | ((try unfold Row); (try rw [← made_row]); (try simp only [drew_heap]); (repeat (first | exact heap_last _ _ _ (by simp) | (refine (heap_alloc_old _ _ (by simp <;> omega)).trans ?_))); done))
         | refine ⟨w.heap.size + 1 + 1, w.heap.size + 1 + 1 + 1, w.heap.size + 1, rfl, ⟨?_⟩⟩; ((refine ⟨?_, ?_, ?_, ?_, ?_, by omega, by omega, by omega, by omega, by omega, by omega⟩) <;> first | ((repeat (first | exact Below.refl _ _ | refine Below.drew ?_ | refine Below.alloc ?_ (by simp <;> omega) _)); done) | ((try unfold Row); (try rw [← made_row]); (try simp only [drew_heap]); (repeat (first | exact heap_last _ _ _ (by simp) | (refine (heap_alloc_old _ _ (by simp <;> omega)).trans ?_))); done))
         | refine ⟨w.heap.size + 1 + 1 + 1, w.heap.size + 1, w.heap.size + 1 + 1, rfl, ⟨?_⟩⟩; ((refine ⟨?_, ?_, ?_, ?_, ?_, by omega, by omega, by omega, by omega, by omega, by omega⟩) <;> first | ((repeat (first | exact Below.refl _ _ | refine Below.drew ?_ | refine Below.alloc ?_ (by simp <;> omega) _)); done) | ((try unfold Row); (try rw [← made_row]); (try simp only [drew_heap]); (repeat (first | exact heap_last _ _ _ (by simp) | (refine (heap_alloc_old _ _ (by simp <;> omega)).trans ?_))); done))
         | refine ⟨w.heap.size + 1 + 1 + 1, w.heap.size + 1 + 1, w.heap.size + 1, rfl, ⟨?_⟩⟩; ((refine ⟨?_, ?_, ?_, ?_, ?_, by omega, by omega, by omega, by omega, by omega, by omega⟩) <;> first | ((repeat (first | exact Below.refl _ _ | refine Below.drew ?_ | refine Below.alloc ?_ (by simp <;> omega) _)); done) | ((try unfold Row); (try rw [← made_row]); (try simp only [drew_heap]); (repeat (first | exact heap_last _ _ _ (by simp) | (refine (heap_alloc_old _ _ (by simp <;> omega)).trans ?_))); done)))
  case rest =>
    obtain ⟨gP, gL, g7, rfl, hnt⟩ := hcut
    obtain ⟨c0, c1, c2, _⟩ := three_cells hnt.out.h7
    have hst := FFld.TfAt.start h
    rw [HQ.out, HQ1.out] at hst
    have HST := Kept.mk hst
    clear hst hmk1 hmk2
    go_wp2
    go_loopw [8, 20] (fun av iv wr => ∃ (a i : Nat) (P L : List Nat), a < q ∧ i ≤ q1 ∧ av = .int .i64 a ∧ iv = .int .i64 i ∧ Kept (FFld.TfAt D h P L i a) ∧ Kept (NtW w gP gL g7 D.p q1 q P L wr)) (fun _ iv _ => q1 - (intOf iv).toNat)
    case atStart => exact ⟨1, 0, _, _, by omega, by omega, rfl, rfl, HST, hnt⟩
    case round =>
      obtain ⟨a, i, P, L, haq, hiq, rfl, rfl, hat, hnt⟩ := hrel
      obtain ⟨c0, c1, c2, _⟩ := three_cells hnt.out.h7
      by_cases hlt : i < q1
      · have HNX := Kept.mk (hat.out.next (by rw [HQ.out, HQ1.out]; exact hlt))
        obtain ⟨a', ha'⟩ : ∃ a', FFld.pmul D.p D.k D.m a D.k D.g = a' := ⟨_, rfl⟩
        rw [ha'] at HNX
        have haq' : a' < q := HQ.out ▸ HNX.out.cur_lt
        have hPl : P.length = q1 := by rw [hat.out.pl, HQ.out, HQ1.out]
        have hLl : L.length = q := by rw [hat.out.ll, HQ.out]
        have hcp := hnt.out.rP.cell (i := i) (by rw [FFld.ints_len, hPl]; exact hlt)
        have hfp := hnt.out.rP.free i
        have hn2 := hnt.out.setP i a
        have hcl := hn2.rL.cell (i := a) (by rw [FFld.ints_len, hLl]; exact haq)
        have hfl := hn2.rL.free a
        obtain ⟨d0, d1, d2, _⟩ := three_cells hn2.h7
        have HN3 := Kept.mk (hn2.setL a i)
        have hC := Kept.mk (fun W (hW : Below w.heap.size w W) => HN.out W hW a (by rw [HQ.out]; exact haq))
        rw [ha'] at hC
        have ewa : IntKind.u16.wrap (a : Int) = a := by rw [IntKind.wrap_u16]; omega
        have ewi : IntKind.u16.wrap (i : Int) = i := by rw [IntKind.wrap_u16]; omega
        clear ha' hPl hLl hn2 hat hnt HST
        go_wp2_with fail
        refine (hC.out _ HN3.out.bel).mono ?_
        rintro e w3 ⟨hb3, rfl⟩
        have HN4 := Kept.mk (HN3.out.below hb3)
        clear hb3 hcp hfp hcl hfl c0 c1 c2 d0 d1 d2
        go_wp2
        go_roundw
        case rel => exact ⟨a', i + 1, _, _, haq', by omega, rfl, by go_num, HNX, HN4⟩
        case measure => simp [intOf] <;> omega
      · obtain rfl : i = q1 := by omega
        have hd : FFld.TfAt D h P L (D.p ^ D.k - 1) a := by rw [HQ.out, HQ1.out]; exact hat.out
        have HD := Kept.mk hd.done
        obtain ⟨d0, d1, d2, f0, f1, f2⟩ := three_cells hnt.out.h0
        obtain ⟨hb, e0', e1', e2'⟩ := three_end hnt.out.h0 hnt.out.bel (Nat.le_refl _) (.int .i64 D.p) (.slice (some ⟨gP, 0, none⟩) i i) (.slice (some ⟨gL, 0, none⟩) q q)
        have hn1 := hnt.out.n1
        have hn2 := hnt.out.n2
        have HB := Kept.mk hb
        have HRP := Kept.mk (((hnt.out.rP.setOther (a := ⟨w.heap.size, 0, none⟩) (.int .i64 D.p) (by simp; omega)).setOther (a := ⟨w.heap.size, 1, none⟩) (.slice (some ⟨gP, 0, none⟩) i i) (by simp; omega)).setOther (a := ⟨w.heap.size, 2, none⟩) (.slice (some ⟨gL, 0, none⟩) q q) (by simp; omega))
        have HRL := Kept.mk (((hnt.out.rL.setOther (a := ⟨w.heap.size, 0, none⟩) (.int .i64 D.p) (by simp; omega)).setOther (a := ⟨w.heap.size, 1, none⟩) (.slice (some ⟨gP, 0, none⟩) i i) (by simp; omega)).setOther (a := ⟨w.heap.size, 2, none⟩) (.slice (some ⟨gL, 0, none⟩) q q) (by simp; omega))
        clear hb hd hnt hat hn1 hn2
        go_wp2
        exact bodyPost_ret (v := tbv D.p (some ⟨gP, 0, none⟩) i i (some ⟨gL, 0, none⟩) q q) (by simp [results, Try.results129, go_sem, e0', e1', e2']) rfl ⟨HB.out, _, _, _, _, _, _, rfl, HRP.out, HRL.out, HD.out, by rw [HQ.out]; exact HQ1.out, HQ.out⟩
end Go.Proofs.Ytfhhnfpapgfnmaa

set_option linter.unusedVariables false
set_option linter.unusedSimpArgs false
namespace Go.Proofs.Ytfhhnfpapgfnmaa
open Go Go.RowKit
open FFld (ints)
/-- The arithmetic of a field: remainders, or tables. -/
def ArV (D : FFld.FD) (h : D.Ok) (w : World) (v : Value) : Prop :=
  (D.k = 1 ∧ v = .iface 118 (rmv D.p D.g)) ∨
  (2 ≤ D.k ∧ ∃ gP gL q1 q P L, v = .iface 124 (tbv D.p (some ⟨gP, 0, none⟩) q1 q1 (some ⟨gL, 0, none⟩) q q) ∧ Row 133 .u16 w gP (ints P) ∧ Row 133 .u16 w gL (ints L) ∧ FFld.TabOk D h P L ∧ D.p ^ D.k - 1 = q1 ∧ D.p ^ D.k = q)
theorem ArV.below {D : FFld.FD} {h : D.Ok} {w w' : World} {v : Value} (hv : ArV D h w v) (hb : Below w.heap.size w w') : ArV D h w' v := by
  rcases hv with hv | ⟨h1, gP, gL, q1, q, P, L, e, h2, h3, h4⟩
  · exact .inl hv
  · exact .inr ⟨h1, gP, gL, q1, q, P, L, e, h2.below hb, h3.below hb, h4⟩
/-- Block b is the field D. -/
def FldB (D : FFld.FD) (w : World) (b : Nat) : Prop := ∃ (h : D.Ok) (ar ms : Value) (ml : List Nat), w.heap[b]? = some (.cells #[ar, .int .i64 D.q, .int .i64 D.p, .int .i64 D.k, .int .i64 D.g, ms] 100 (0, 0)) ∧ ArV D h w ar ∧ Sl .i64 w ms (ints ml) ∧ FFld.Digs D.p D.m ml
theorem FldB.below {D : FFld.FD} {w w' : World} {b : Nat} (h : FldB D w b) (hb : Below w.heap.size w w') : FldB D w' b := by
  obtain ⟨h, ar, ms, ml, h1, h2, h3, h4⟩ := h
  exact ⟨h, ar, ms, ml, (hb.block _ (Array.getElem?_eq_some_iff.1 h1).1).trans h1, h2.below hb, h3.below hb, h4⟩
/-- The call returns a pointer to the field D, new. -/
def FldRet (D : FFld.FD) (w : World) (e : Ending) (w' : World) : Prop := Below w.heap.size w w' ∧ ∃ b, w.heap.size ≤ b ∧ e = .returned (.pointer (some ⟨b, 0, none⟩)) ∧ FldB D w' b
theorem digs_k1 {p : Nat} (hp : 2 ≤ p) : FFld.Digs p p [0, 1] := ⟨by simp [FFld.num], fun c hc => by simp at hc; omega, by simp⟩
set_option maxRecDepth 20000 in
set_option maxHeartbeats 2000000 in
theorem primeField_any (D : FFld.FD) (h : D.Ok) (hk : D.k = 1) (w : World) :
    Calls Try.prog 84 #[.int .i64 D.p] w (FldRet D w) := by
  have hpk := h.pre.pk
  have hm : D.m = D.p := h.pre.mod1 hk
  have hq : D.q = D.p := by unfold FFld.FD.q; rw [hk, Nat.pow_one]
  have hp1 : D.p ≤ 65536 := by have := h.pre.small; omega
  have hpk1 : FFld.PK D.p 1 D.p := ⟨hpk.p2, Nat.le_refl _⟩
  have hL := Kept.mk (fun W => leastgen_rem D h (rmv D.p 0) W (fun W x y hx hy => by
    rw [hk] at hx hy ⊢
    rw [hm]
    exact fproduct_any D.p 0 x y W hpk1 hp1 hx hy))
  rw [hq] at hL
  have HH := Kept.mk (And.intro hk hm)
  have HQ := Kept.mk hq
  have HD := Kept.mk (digs_k1 hpk.p2)
  have HO := Kept.mk h
  clear hk hm hq hpk hpk1
  go_enter Try.func84, Try.ntmps84
  go_wp2_with fail
  refine (hL.out _).mono ?_
  rintro e w1 ⟨hb1, rfl⟩
  have HB1 := Kept.mk hb1
  have hs1 := hb1.size
  clear hb1
  go_wp2
  go_ret
  obtain ⟨hk, hm⟩ := HH.out
  refine ⟨((HB1.out.alloc hs1 _).alloc (by simp; omega) _), w1.heap.size + 1, by omega, rfl, HO.out, _, .slice (some ⟨w1.heap.size, 0, none⟩) 2 2, [0, 1], ?_, .inl ⟨hk, rfl⟩, ?_, by rw [hm]; exact HD.out⟩
  · rw [HQ.out, hk]
    exact heap_last _ _ _ (by simp)
  · have hr : Row 3 .i64 (w1.alloc (.cells #[.int .i64 0, .int .i64 1] 3)) w1.heap.size (ints [0, 1]) := heap_alloc_new w1 _
    exact (hr.alloc _).slAll (by simp [ints]) (Nat.le_refl _) (by unfold maxLen; omega)
end Go.Proofs.Ytfhhnfpapgfnmaa

set_option linter.unusedVariables false
set_option linter.unusedSimpArgs false
namespace Go.Proofs.Ytfhhnfpapgfnmaa
open Go Go.RowKit
open FFld (ints)
theorem six_cells {w : World} {g : Nat} {a b c d e f : Value} {T : TypeId} (h : w.heap[g]? = some (.cells #[a, b, c, d, e, f] T (0, 0))) :
    w.cell? ⟨g, 0, none⟩ = some a ∧ w.cell? ⟨g, 1, none⟩ = some b ∧ w.cell? ⟨g, 2, none⟩ = some c ∧ w.cell? ⟨g, 3, none⟩ = some d ∧ w.cell? ⟨g, 4, none⟩ = some e ∧ w.cell? ⟨g, 5, none⟩ = some f :=
  ⟨by rw [cell_of_row w g 0 _ T (0, 0) h]; rfl, by rw [cell_of_row w g 1 _ T (0, 0) h]; rfl, by rw [cell_of_row w g 2 _ T (0, 0) h]; rfl, by rw [cell_of_row w g 3 _ T (0, 0) h]; rfl, by rw [cell_of_row w g 4 _ T (0, 0) h]; rfl, by rw [cell_of_row w g 5 _ T (0, 0) h]; rfl⟩
theorem TbW.of {D : FFld.FD} {h : D.Ok} {gP gL q1 q : Nat} {P L : List Nat} {w : World} (h1 : Row 133 .u16 w gP (ints P)) (h2 : Row 133 .u16 w gL (ints L)) (ht : FFld.TabOk D h P L) (e1 : D.p ^ D.k - 1 = q1) (e2 : D.p ^ D.k = q) :
    TbW D h w.heap.size (some ⟨gP, 0, none⟩) q1 (some ⟨gL, 0, none⟩) q P L w := by
  refine ⟨fun W hW i hi => ⟨gP, 0, rfl, ?_⟩, fun W hW i hi => ⟨gL, 0, rfl, ?_⟩, ht, e1, e2⟩
  · rw [Nat.zero_add, (h1.below hW).cell (by rw [FFld.ints_len]; exact hi), FFld.ints_get]
  · rw [Nat.zero_add, (h2.below hW).cell (by rw [FFld.ints_len]; exact hi), FFld.ints_get]
/-- What a field's arithmetic does, whatever its dynamic type. -/
structure ArOps (D : FFld.FD) (h : D.Ok) (w : World) (T : TypeId) (x : Value) (fs fp fw : FuncId) : Prop where
  ms : ∀ W, (method 251 T x "dauber/field.sum").run Try.prog W = .ok (fs, x) W
  mp : ∀ W, (method 251 T x "dauber/field.product").run Try.prog W = .ok (fp, x) W
  mw : ∀ W, (method 251 T x "dauber/field.power").run Try.prog W = .ok (fw, x) W
  cs : ∀ args W, (callFunc fs args).run Try.prog W = .ok (.enter fs args) W
  cp : ∀ args W, (callFunc fp args).run Try.prog W = .ok (.enter fp args) W
  cw : ∀ args W, (callFunc fw args).run Try.prog W = .ok (.enter fw args) W
  sum : ∀ W, Below w.heap.size w W → ∀ a b, a < D.p ^ D.k → b < D.p ^ D.k → Calls Try.prog fs #[x, .int .i64 (a : Nat), .int .i64 (b : Nat)] W (RB W (.int .i64 (FFld.padd D.p D.k a b : Nat)))
  product : ∀ W, Below w.heap.size w W → ∀ a b, a < D.p ^ D.k → b < D.p ^ D.k → Calls Try.prog fp #[x, .int .i64 (a : Nat), .int .i64 (b : Nat)] W (RB W (.int .i64 (FFld.pmul D.p D.k D.m a D.k b : Nat)))
  power : ∀ W, Below w.heap.size w W → ∀ a n, a < D.p ^ D.k → a ≠ 0 ∨ 0 < n → n ≤ 70000 → Calls Try.prog fw #[x, .int .i64 (a : Nat), .int .i64 (n : Nat)] W (RB W (.int .i64 (FFld.ppow h.pre.pk a n : Nat)))
theorem ArV.ops {D : FFld.FD} {h : D.Ok} {w : World} {v : Value} (hv : ArV D h w v) : ∃ T x fs fp fw, v = .iface T x ∧ ArOps D h w T x fs fp fw := by
  rcases hv with ⟨hk, rfl⟩ | ⟨h2, gP, gL, q1, q, P, L, rfl, r1, r2, ht, e1, e2⟩
  · have hm : D.m = D.p := h.pre.mod1 hk
    have hp1 : D.p ≤ 65536 := by
      have := h.pre.small
      unfold FFld.FD.q at this
      rw [hk, Nat.pow_one] at this
      exact this
    have hpk1 : FFld.PK D.p 1 D.p := ⟨h.pre.pk.p2, Nat.le_refl _⟩
    refine ⟨_, _, 163, 125, 162, rfl, fun _ => by kernel_rfl, fun _ => by kernel_rfl, fun _ => by kernel_rfl, fun _ _ => by kernel_rfl, fun _ _ => by kernel_rfl, fun _ _ => by kernel_rfl, ?_, ?_, ?_⟩
    · intro W _ a b ha hb
      rw [hk] at ha hb ⊢
      exact fsum_any D.p D.g a b W hpk1 hp1 ha hb
    · intro W _ a b ha hb
      rw [hk] at ha hb ⊢
      rw [hm]
      exact fproduct_any D.p D.g a b W hpk1 hp1 ha hb
    · intro W _ a n ha _ hn
      have key : ∀ (k m : Nat) (hpk : FFld.PK D.p k m) (e1 : k = 1) (e2 : m = D.p) (ha : a < D.p ^ k), Calls Try.prog 162 #[rmv D.p D.g, .int .i64 (a : Nat), .int .i64 (n : Nat)] W (RB W (.int .i64 (FFld.ppow hpk a n : Nat))) := by
        intro k m hpk e1 e2 ha
        subst e1 e2
        exact fpower_any D.p D.g a n W hpk1 hp1 ha hn
      exact key D.k D.m h.pre.pk hk hm ha
  · have htb := TbW.of r1 r2 ht e1 e2
    refine ⟨_, _, 168, 167, 166, rfl, fun _ => by kernel_rfl, fun _ => by kernel_rfl, fun _ => by kernel_rfl, fun _ _ => by kernel_rfl, fun _ _ => by kernel_rfl, fun _ _ => by kernel_rfl, ?_, ?_, ?_⟩
    · intro W hW a b ha hb
      exact tsum_any _ _ a b W (htb.below hW) ha hb
    · intro W hW a b ha hb
      exact tproduct_any _ _ a b W (htb.below hW) ha hb
    · intro W hW a n ha hne hn
      exact tpower_any _ _ a n W (htb.below hW) ha hne hn
end Go.Proofs.Ytfhhnfpapgfnmaa

set_option linter.unusedVariables false
set_option linter.unusedSimpArgs false
namespace Go.Proofs.Ytfhhnfpapgfnmaa
open Go Go.RowKit
open FFld (ints)
theorem FldB.open {D : FFld.FD} {w : World} {b : Nat} (hf : FldB D w b) : ∃ (h : D.Ok) (T : TypeId) (x : Value) (fs fp fw : FuncId) (ms : Value) (ml : List Nat), w.heap[b]? = some (.cells #[.iface T x, .int .i64 D.q, .int .i64 D.p, .int .i64 D.k, .int .i64 D.g, ms] 100 (0, 0)) ∧ ArOps D h w T x fs fp fw ∧ Sl .i64 w ms (ints ml) ∧ FFld.Digs D.p D.m ml := by
  obtain ⟨h, ar, ms, ml, h1, h2, h3, h4⟩ := hf
  obtain ⟨T, x, fs, fp, fw, rfl, ho⟩ := h2.ops
  exact ⟨h, T, x, fs, fp, fw, ms, ml, h1, ho, h3, h4⟩
theorem FldB.ok {D : FFld.FD} {w : World} {b : Nat} (hf : FldB D w b) : D.Ok := let ⟨h, _⟩ := hf; h
theorem FldB.lt {D : FFld.FD} {w : World} {b : Nat} (hf : FldB D w b) : b < w.heap.size := by
  obtain ⟨h, ar, ms, ml, h1, _⟩ := hf
  exact (Array.getElem?_eq_some_iff.1 h1).1
theorem pmul_const {p k m : Nat} (h : FFld.PK p k m) (a c : Nat) (hc : c < p) : FFld.pmul p k m a k c = FFld.pscl p k c a := by
  have hk := h.k1
  have hck : c < p ^ k := Nat.lt_of_lt_of_le hc (by have := Nat.pow_le_pow_right (n := p) (by have := h.p2; omega) hk; rw [Nat.pow_one] at this; exact this)
  rw [FFld.pmul_step h a c hck, Nat.mod_eq_of_lt hc, Nat.div_eq_of_lt hc, FFld.pmul_zero_right h, FFld.pshf_zero h, FFld.padd_zero h _ (FFld.pscl_lt h _ _)]
theorem p_le_q {D : FFld.FD} (h : D.Ok) : D.p ≤ D.p ^ D.k := by
  have := Nat.pow_le_pow_right (n := D.p) (by have := h.pre.prime.1; omega) h.pre.k1
  rw [Nat.pow_one] at this
  exact this
set_option maxRecDepth 20000 in
set_option maxHeartbeats 2000000 in
theorem negative_any {D : FFld.FD} {b : Nat} (a : Nat) (w : World) (hf : FldB D w b) (ha : a < D.p ^ D.k) :
    Calls Try.prog 91 #[.pointer (some ⟨b, 0, none⟩), .int .i64 a] w (RB w (.int .i64 (FFld.pscl D.p D.k (D.p - 1) a : Nat))) := by
  obtain ⟨h, T, x, fs, fp, fw, ms, ml, hb, ho, _, _⟩ := hf.open
  obtain ⟨c0, c1, c2, c3, c4, c5⟩ := six_cells hb
  have hp2 := h.pre.prime.1
  have hpq := p_le_q h
  have hq6 := h.pre.small
  unfold FFld.FD.q at hq6
  obtain ⟨p1, hp1⟩ : ∃ p1, D.p - 1 = p1 := ⟨_, rfl⟩
  have ep : IntKind.i64.wrap ((D.p : Int) - 1) = p1 := by rw [show (D.p : Int) - 1 = p1 from by omega]; exact wi (by omega) (by omega)
  have hP := Kept.mk (fun W (hW : Below w.heap.size w W) => ho.product W hW a p1 ha (by omega))
  rw [pmul_const h.pre.pk a p1 (by omega)] at hP
  rw [hp1]
  have hmp := ho.mp
  have hcp := ho.cp
  have HL := Kept.mk hf
  clear ho hb hp1 ha hpq hq6
  go_enter Try.func91, Try.ntmps91
  go_wp2
  go_region_held3 (fun w' => w'.cell? ⟨b, 0, none⟩ = some (.iface T x) ∧ w'.cell? ⟨b, 2, none⟩ = some (.int .i64 D.p))
    (first | exact ⟨c0, c2⟩ | exact ⟨k0, k2⟩ | go_keep)
    ((first
      | ((with_reducible refine (hP.out _ ?_).mono ?_); (exact (by first | exact Below.refl _ _ | exact (Below.refl _ _).drew)); rintro e w2 ⟨hb2, rfl⟩; have HB2 := Kept.mk (show Below w.heap.size w w2 from (by first | exact hb2 | exact (Below.refl _ _).drew.trans hb2)); have k0 := belowCell HB2.out c0; have k2 := belowCell HB2.out c2; clear hb2)))
  go_wp2
  go_ret
  exact ⟨HB2.out, rfl⟩
end Go.Proofs.Ytfhhnfpapgfnmaa
