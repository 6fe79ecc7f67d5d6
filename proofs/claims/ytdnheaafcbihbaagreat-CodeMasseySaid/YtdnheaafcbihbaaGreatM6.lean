/-
  Texts of the proof, merged by program: Nt Fv Ng El Em Wv Am.
-/
import Derived.Test.YtdnheaafcbihbaaGreatM5
import Derived.Test.YtdnheaafcbihbaaGreatM3
import Derived.Deep.OwnRows
import Derived.Lib.SliceRun
set_option linter.unusedVariables false
set_option linter.unusedSimpArgs false
namespace Go.Proofs.YtdnheaafcbihbaaGreat
open Go Go.RowKit Go.Deep
open FFld (ints)
theorem info_u16 : (Tryz.prog.info? 252).map (fun i => (i.zero, i.size, i.bytes)) = some (some (.int .u16 0), 1, 2) := by kernel_rfl
/-- The closure that multiplies by the generator. -/
theorem ext1_any (p k m l o g a b8 b9 : Nat) (w : World) (h : RsOk p k m l o) (ha : a < p ^ k) (hg : g < p ^ k) (h8 : w.heap[b8]? = some (.cells #[.int .i64 p, .int .i64 l, .int .i64 o] 217 (0, 0))) (h9 : w.cell? ⟨b9, 0, none⟩ = some (.int .i64 g)) :
    Calls Tryz.prog 210 #[.int .i64 a, .pointer (some ⟨b8, 0, none⟩), .pointer (some ⟨b9, 0, none⟩)] w (RB w (.int .i64 (FFld.pmul p k m a k g : Nat))) := by
  obtain ⟨c0, c1, c2, _⟩ := three_cells h8
  have hP := Kept.mk (fun W => rproduct_any p k m l o h a g W ha hg)
  clear h8 ha hg h
  go_enter Tryz.func210, Tryz.ntmps210
  go_wp2_with fail
  refine (hP.out _).mono ?_
  rintro e w2 ⟨hb2, rfl⟩
  have HB := Kept.mk hb2
  clear hb2 c0 c1 c2 h9
  go_wp2
  go_ret
  exact ⟨HB.out, rfl⟩
theorem drew_heap (W : World) : W.drew.heap = W.heap := rfl
theorem made_row (K : IntKind) (n : Nat) : madeCells #[.int K 0] n = ((ints (List.replicate n 0)).map (Value.int K)).toArray := by
  apply Array.toList_inj.1
  rw [toList_madeCells_one]
  simp [ints]
/-- The blocks of newTables: the result's box, two rows, the tables' box. -/
structure NtW (w : World) (gP gL g7 p q1 q : Nat) (P L : List Nat) (W : World) : Prop where
  bel : Below w.heap.size w W
  h0 : W.heap[w.heap.size]? = some (.cells #[.int .i64 0, .slice none 0 0, .slice none 0 0] 221 (0, 0))
  rP : Row 252 .u16 W gP (ints P)
  rL : Row 252 .u16 W gL (ints L)
  h7 : W.heap[g7]? = some (.cells #[.int .i64 p, .slice (some ⟨gP, 0, none⟩) q1 q1, .slice (some ⟨gL, 0, none⟩) q q] 221 (0, 0))
  n1 : w.heap.size < gP
  n2 : w.heap.size < gL
  n3 : w.heap.size < g7
  n4 : gP ≠ gL
  n5 : gP ≠ g7
  n6 : gL ≠ g7
theorem NtW.below {w : World} {gP gL g7 p q1 q : Nat} {P L : List Nat} {W W' : World} (h : NtW w gP gL g7 p q1 q P L W) (hb : Below W.heap.size W W') : NtW w gP gL g7 p q1 q P L W' :=
  ⟨h.bel.trans (hb.mono h.bel.size), (hb.block _ (Array.getElem?_eq_some_iff.1 h.h0).1).trans h.h0, h.rP.below hb, h.rL.below hb, (hb.block _ (Array.getElem?_eq_some_iff.1 h.h7).1).trans h.h7, h.n1, h.n2, h.n3, h.n4, h.n5, h.n6⟩
theorem NtW.setP {w : World} {gP gL g7 p q1 q : Nat} {P L : List Nat} {W : World} (h : NtW w gP gL g7 p q1 q P L W) (i v : Nat) : NtW w gP gL g7 p q1 q (P.set i v) L (W.setCell ⟨gP, i, none⟩ (.int .u16 v)) := by
  have e := h.rP.set i (v : Int)
  rw [FFld.ints_set] at e
  exact ⟨h.bel.setCell (p := ⟨gP, i, none⟩) (Nat.le_of_lt h.n1) _, (heap_setCell_other _ _ _ _ (by have := h.n1; simp; omega)).trans h.h0, e, h.rL.setOther _ (fun e => h.n4 e), (heap_setCell_other _ _ _ _ (by have := h.n5; simp; omega)).trans h.h7, h.n1, h.n2, h.n3, h.n4, h.n5, h.n6⟩
theorem NtW.setL {w : World} {gP gL g7 p q1 q : Nat} {P L : List Nat} {W : World} (h : NtW w gP gL g7 p q1 q P L W) (i v : Nat) : NtW w gP gL g7 p q1 q P (L.set i v) (W.setCell ⟨gL, i, none⟩ (.int .u16 v)) := by
  have e := h.rL.set i (v : Int)
  rw [FFld.ints_set] at e
  exact ⟨h.bel.setCell (p := ⟨gL, i, none⟩) (Nat.le_of_lt h.n2) _, (heap_setCell_other _ _ _ _ (by have := h.n2; simp; omega)).trans h.h0, h.rP.setOther _ (fun e => h.n4 e.symm), e, (heap_setCell_other _ _ _ _ (by have := h.n6; simp; omega)).trans h.h7, h.n1, h.n2, h.n3, h.n4, h.n5, h.n6⟩
/-- What newTables returns. -/
def NtRet (D : FFld.FD) (h : D.Ok) (w : World) (e : Ending) (w' : World) : Prop := Below w.heap.size w w' ∧ ∃ gP gL q1 q P L, e = .returned (tbv D.p (some ⟨gP, 0, none⟩) q1 q1 (some ⟨gL, 0, none⟩) q q) ∧ Row 252 .u16 w' gP (ints P) ∧ Row 252 .u16 w' gL (ints L) ∧ FFld.TabOk D h P L ∧ D.p ^ D.k - 1 = q1 ∧ D.p ^ D.k = q
set_option maxRecDepth 20000 in
set_option maxHeartbeats 4000000 in
theorem newTables_any (D : FFld.FD) (h : D.Ok) (b8 b9 : Nat) (w : World)
    (hN : ∀ W, Below w.heap.size w W → ∀ a, a < D.p ^ D.k → Calls Tryz.prog 210 #[.int .i64 a, .pointer (some ⟨b8, 0, none⟩), .pointer (some ⟨b9, 0, none⟩)] W (RB W (.int .i64 (FFld.pmul D.p D.k D.m a D.k D.g : Nat)))) :
    Calls Tryz.prog 209 #[.int .i64 D.p, .int .i64 D.q, .func (.func 210) #[] #[.pointer (some ⟨b8, 0, none⟩), .pointer (some ⟨b9, 0, none⟩)]] w (NtRet D h w) := by
  have h1 := h.pre.pk.one_lt
  obtain ⟨q, hq⟩ : ∃ q, D.p ^ D.k = q := ⟨_, rfl⟩
  obtain ⟨q1, hq1⟩ : ∃ q1, q - 1 = q1 := ⟨_, rfl⟩
  have hqq : D.q = q := hq
  have hq6 : q ≤ 65536 := by have := h.pre.small; rw [hqq] at this; exact this
  have hq2 : 2 ≤ q := by omega
  have e0 : IntKind.i64.wrap ((q : Int) - 1) = q1 := by rw [show (q : Int) - 1 = q1 from by omega]; exact wi (by omega) (by omega)
  have hmk1 := run_make_row' (P := Tryz.prog) 219 252 (.int .u16 0) 2 Tryz.underlying219 info_u16 rfl .i64 .i64 q1 (by omega) (by omega)
  have hmk2 := run_make_row' (P := Tryz.prog) 219 252 (.int .u16 0) 2 Tryz.underlying219 info_u16 rfl .i64 .i64 q (by omega) (by omega)
  have HN := Kept.mk hN
  have HQ := Kept.mk hq
  have HQ1 := Kept.mk hq1
  have hq1a : q1 + 1 ≤ q := by omega
  have hq1b : q ≤ q1 + 1 := by omega
  rw [hqq]
  clear hqq hq hq1 hN
  go_enter Tryz.func209, Tryz.ntmps209
  go_wp2
  go_cut [7] from 10 to 17 (fun tv W => ∃ gP gL g7 : Nat, tv = .pointer (some ⟨g7, 0, none⟩) ∧ Kept (NtW w gP gL g7 D.p q1 q (List.replicate q1 0) (List.replicate q 0) W))
  case first =>
    go_region
    all_goals
      (go_wp2_with fail
       go_meet
       first
         | refine ⟨w.heap.size + 1, w.heap.size + 1 + 1, w.heap.size + 1 + 1 + 1, rfl, ⟨?_⟩⟩; ((refine ⟨?_, ?_, ?_, ?_, ?_, by omega, by omega, by omega, by omega, by omega, by omega⟩) <;> first | ((repeat (first | exact Below.refl _ _ | refine Below.drew ?_ | refine Below.alloc ?_ (by simp <;> omega) _)); done) | ((try unfold Row); (try rw [← made_row]); (try simp only [drew_heap]); (repeat (first | exact heap_last _ _ _ (by simp) | (refine (heap_alloc_old _ _ (by simp <;> omega)).trans ?_))); done))
         | refine ⟨w.heap.size + 1 + 1, w.heap.size + 1, w.heap.size + 1 + 1 + 1, rfl, ⟨?_⟩⟩; ((refine ⟨?_, ?_, ?_, ?_, ?_, by omega, by omega, by omega, by omega, by omega, by omega⟩) <;> first | ((repeat (first | exact Below.refl _ _ | refine Below.drew ?_ | refine Below.alloc ?_ (by simp <;> omega) _)); done) | ((try unfold Row); (try rw [← made_row]); (try simp only [drew_heap]); (repeat (first | exact heap_last _ _ _ (by simp) | (refine (heap_alloc_old _ _ (by simp <;> omega)).trans ?_))); done))
         | refine ⟨w.heap.size + 1, w.heap.size + 1 + 1 + 1, w.heap.size + 1 + 1, rfl, ⟨?_⟩⟩; ((refine ⟨?_, ?_, ?_, ?_, ?_, by omega, by omega, by omega, by omega, by omega, by omega⟩) <;> first | ((repeat (first | exact Below.refl _ _ | refine Below.drew ?_ | refine Below.alloc ?_ (by simp <;> omega) _)); done) | ((try unfold Row); (try rw [← made_row]); (try simp only [drew_heap]); (repeat (first | exact heap_last _ _ _ (by simp) | (refine (heap_alloc_old _ _ (by simp <;> omega)).trans ?_))); done))
         | refine ⟨w.heap.size + 1 + 1, w.heap.size + 1 + 1 + 1, w.heap.size + 1, rfl, ⟨?_⟩⟩; ((refine ⟨?_, ?_, ?_, ?_, ?_, by omega, by omega, by omega, by omega, by omega, by omega⟩) <;> first | ((repeat (first | exact Below.refl _ _ | refine Below.drew ?_ | refine Below.alloc ?_ (by simp <;> omega) _)); done) | ((try unfold Row); (try rw [← made_row]); (try simp only [drew_heap]); (repeat (first | exact heap_last _ _ _ (by simp) | (refine (heap_alloc_old _ _ (by simp <;> omega)).trans ?_))); done))
         | refine ⟨w.heap.size + 1 + 1 + 1, w.heap.size + 1, w.heap.size + 1 + 1, rfl, ⟨?_⟩⟩; ((refine ⟨?_, ?_, ?_, ?_, ?_, by omega, by omega, by omega, by omega, by omega, by omega⟩) <;> first | ((repeat (first | exact Below.refl _ _ | refine Below.drew ?_ | refine Below.alloc ?_ (by simp <;> omega) _)); done) | ((try unfold Row); (try rw [← made_row]); (try simp only [drew_heap]); (repeat (first | exact heap_last _ _ _ (by simp) | (refine (heap_alloc_old _ _ (by simp <;> omega)).trans ?_))); done))
         | refine ⟨w.heap.size + 1 + 1 + 1, w.heap.size + 1 + 1, w.heap.size + 1, rfl, ⟨?_⟩⟩; ((refine ⟨?_, ?_, ?_, ?_, ?_, by omega, by omega, by omega, by omega, by omega, by omega⟩) <;> first | ((repeat (first | exact Below.refl _ _ | refine Below.drew ?_ | refine Below.alloc ?_ (by simp <;> omega) _)); done) | ((try unfold Row); (try rw [← made_row]); (try simp only [drew_heap]); (repeat (first | exact heap_last _ _ _ (by simp) | (refine (heap_alloc_old _ _ (by simp <;> omega)).trans ?_))); done)))
  case rest =>
    obtain ⟨gP, gL, g7, rfl, hnt⟩ := hcut
    obtain ⟨c0, c1, c2, _⟩ := three_cells hnt.out.h7
    have hst := FFld.TfAt.start h
    rw [HQ.out, HQ1.out] at hst
    have HST := Kept.mk hst
    clear hst hmk1 hmk2
    go_wp2
    go_loopw [8, 20] (fun av iv wr => ∃ (a i : Nat) (P L : List Nat), a < q ∧ i ≤ q1 ∧ av = .int .i64 a ∧ iv = .int .i64 i ∧ Kept (FFld.TfAt D h P L i a) ∧ Kept (NtW w gP gL g7 D.p q1 q P L wr)) (fun _ iv _ => q1 - (intOf iv).toNat)
    case atStart => exact ⟨1, 0, _, _, by omega, by omega, rfl, rfl, HST, hnt⟩
    case round =>
      obtain ⟨a, i, P, L, haq, hiq, rfl, rfl, hat, hnt⟩ := hrel
      obtain ⟨c0, c1, c2, _⟩ := three_cells hnt.out.h7
      by_cases hlt : i < q1
      · have HNX := Kept.mk (hat.out.next (by rw [HQ.out, HQ1.out]; exact hlt))
        obtain ⟨a', ha'⟩ : ∃ a', FFld.pmul D.p D.k D.m a D.k D.g = a' := ⟨_, rfl⟩
        rw [ha'] at HNX
        have haq' : a' < q := HQ.out ▸ HNX.out.cur_lt
        have hPl : P.length = q1 := by rw [hat.out.pl, HQ.out, HQ1.out]
        have hLl : L.length = q := by rw [hat.out.ll, HQ.out]
        have hcp := hnt.out.rP.cell (i := i) (by rw [FFld.ints_len, hPl]; exact hlt)
        have hfp := hnt.out.rP.free i
        have hn2 := hnt.out.setP i a
        have hcl := hn2.rL.cell (i := a) (by rw [FFld.ints_len, hLl]; exact haq)
        have hfl := hn2.rL.free a
        obtain ⟨d0, d1, d2, _⟩ := three_cells hn2.h7
        have HN3 := Kept.mk (hn2.setL a i)
        have hC := Kept.mk (fun W (hW : Below w.heap.size w W) => HN.out W hW a (by rw [HQ.out]; exact haq))
        rw [ha'] at hC
        have ewa : IntKind.u16.wrap (a : Int) = a := by rw [IntKind.wrap_u16]; omega
        have ewi : IntKind.u16.wrap (i : Int) = i := by rw [IntKind.wrap_u16]; omega
        clear ha' hPl hLl hn2 hat hnt HST
        go_wp2_with fail
        refine (hC.out _ HN3.out.bel).mono ?_
        rintro e w3 ⟨hb3, rfl⟩
        have HN4 := Kept.mk (HN3.out.below hb3)
        clear hb3 hcp hfp hcl hfl c0 c1 c2 d0 d1 d2
        go_wp2
        go_roundw
        case rel => exact ⟨a', i + 1, _, _, haq', by omega, rfl, by go_num, HNX, HN4⟩
        case measure => simp [intOf] <;> omega
      · obtain rfl : i = q1 := by omega
        have hd : FFld.TfAt D h P L (D.p ^ D.k - 1) a := by rw [HQ.out, HQ1.out]; exact hat.out
        have HD := Kept.mk hd.done
        obtain ⟨d0, d1, d2, f0, f1, f2⟩ := three_cells hnt.out.h0
        obtain ⟨hb, e0', e1', e2'⟩ := three_end hnt.out.h0 hnt.out.bel (Nat.le_refl _) (.int .i64 D.p) (.slice (some ⟨gP, 0, none⟩) i i) (.slice (some ⟨gL, 0, none⟩) q q)
        have hn1 := hnt.out.n1
        have hn2 := hnt.out.n2
        have HB := Kept.mk hb
        have HRP := Kept.mk (((hnt.out.rP.setOther (a := ⟨w.heap.size, 0, none⟩) (.int .i64 D.p) (by simp; omega)).setOther (a := ⟨w.heap.size, 1, none⟩) (.slice (some ⟨gP, 0, none⟩) i i) (by simp; omega)).setOther (a := ⟨w.heap.size, 2, none⟩) (.slice (some ⟨gL, 0, none⟩) q q) (by simp; omega))
        have HRL := Kept.mk (((hnt.out.rL.setOther (a := ⟨w.heap.size, 0, none⟩) (.int .i64 D.p) (by simp; omega)).setOther (a := ⟨w.heap.size, 1, none⟩) (.slice (some ⟨gP, 0, none⟩) i i) (by simp; omega)).setOther (a := ⟨w.heap.size, 2, none⟩) (.slice (some ⟨gL, 0, none⟩) q q) (by simp; omega))
        clear hb hd hnt hat hn1 hn2
        go_wp2
        exact bodyPost_ret (v := tbv D.p (some ⟨gP, 0, none⟩) i i (some ⟨gL, 0, none⟩) q q) (by simp [results, Tryz.results209, go_sem, e0', e1', e2']) rfl ⟨HB.out, _, _, _, _, _, _, rfl, HRP.out, HRL.out, HD.out, by rw [HQ.out]; exact HQ1.out, HQ.out⟩
end Go.Proofs.YtdnheaafcbihbaaGreat

set_option linter.unusedVariables false
set_option linter.unusedSimpArgs false
namespace Go.Proofs.YtdnheaafcbihbaaGreat
open Go Go.RowKit
open FFld (ints)
/-- The arithmetic of a field: remainders, or tables. -/
def ArV (D : FFld.FD) (h : D.Ok) (w : World) (v : Value) : Prop :=
  (D.k = 1 ∧ v = .iface 215 (rmv D.p D.g)) ∨
  (2 ≤ D.k ∧ ∃ gP gL q1 q P L, v = .iface 221 (tbv D.p (some ⟨gP, 0, none⟩) q1 q1 (some ⟨gL, 0, none⟩) q q) ∧ Row 252 .u16 w gP (ints P) ∧ Row 252 .u16 w gL (ints L) ∧ FFld.TabOk D h P L ∧ D.p ^ D.k - 1 = q1 ∧ D.p ^ D.k = q)
theorem ArV.below {D : FFld.FD} {h : D.Ok} {w w' : World} {v : Value} (hv : ArV D h w v) (hb : Below w.heap.size w w') : ArV D h w' v := by
  rcases hv with hv | ⟨h1, gP, gL, q1, q, P, L, e, h2, h3, h4⟩
  · exact .inl hv
  · exact .inr ⟨h1, gP, gL, q1, q, P, L, e, h2.below hb, h3.below hb, h4⟩
/-- Block b is the field D. -/
def FldB (D : FFld.FD) (w : World) (b : Nat) : Prop := ∃ (h : D.Ok) (ar ms : Value) (ml : List Nat), w.heap[b]? = some (.cells #[ar, .int .i64 D.q, .int .i64 D.p, .int .i64 D.k, .int .i64 D.g, ms] 179 (0, 0)) ∧ ArV D h w ar ∧ Sl .i64 w ms (ints ml) ∧ FFld.Digs D.p D.m ml
theorem FldB.below {D : FFld.FD} {w w' : World} {b : Nat} (h : FldB D w b) (hb : Below w.heap.size w w') : FldB D w' b := by
  obtain ⟨h, ar, ms, ml, h1, h2, h3, h4⟩ := h
  exact ⟨h, ar, ms, ml, (hb.block _ (Array.getElem?_eq_some_iff.1 h1).1).trans h1, h2.below hb, h3.below hb, h4⟩
/-- The call returns a pointer to the field D, new. -/
def FldRet (D : FFld.FD) (w : World) (e : Ending) (w' : World) : Prop := Below w.heap.size w w' ∧ ∃ b, w.heap.size ≤ b ∧ e = .returned (.pointer (some ⟨b, 0, none⟩)) ∧ FldB D w' b
theorem digs_k1 {p : Nat} (hp : 2 ≤ p) : FFld.Digs p p [0, 1] := ⟨by simp [FFld.num], fun c hc => by simp at hc; omega, by simp⟩
set_option maxRecDepth 20000 in
set_option maxHeartbeats 2000000 in
theorem primeField_any (D : FFld.FD) (h : D.Ok) (hk : D.k = 1) (w : World) :
    Calls Tryz.prog 146 #[.int .i64 D.p] w (FldRet D w) := by
  have hpk := h.pre.pk
  have hm : D.m = D.p := h.pre.mod1 hk
  have hq : D.q = D.p := by unfold FFld.FD.q; rw [hk, Nat.pow_one]
  have hp1 : D.p ≤ 65536 := by have := h.pre.small; omega
  have hpk1 : FFld.PK D.p 1 D.p := ⟨hpk.p2, Nat.le_refl _⟩
  have hL := Kept.mk (fun W => leastgen_rem D h (rmv D.p 0) W (fun W x y hx hy => by
    rw [hk] at hx hy ⊢
    rw [hm]
    exact fproduct_any D.p 0 x y W hpk1 hp1 hx hy))
  rw [hq] at hL
  have HH := Kept.mk (And.intro hk hm)
  have HQ := Kept.mk hq
  have HD := Kept.mk (digs_k1 hpk.p2)
  have HO := Kept.mk h
  clear hk hm hq hpk hpk1
  go_enter Tryz.func146, Tryz.ntmps146
  go_wp2_with fail
  refine (hL.out _).mono ?_
  rintro e w1 ⟨hb1, rfl⟩
  have HB1 := Kept.mk hb1
  have hs1 := hb1.size
  clear hb1
  go_wp2
  go_ret
  obtain ⟨hk, hm⟩ := HH.out
  refine ⟨((HB1.out.alloc hs1 _).alloc (by simp; omega) _), w1.heap.size + 1, by omega, rfl, HO.out, _, .slice (some ⟨w1.heap.size, 0, none⟩) 2 2, [0, 1], ?_, .inl ⟨hk, rfl⟩, ?_, by rw [hm]; exact HD.out⟩
  · rw [HQ.out, hk]
    exact heap_last _ _ _ (by simp)
  · have hr : Row 3 .i64 (w1.alloc (.cells #[.int .i64 0, .int .i64 1] 3)) w1.heap.size (ints [0, 1]) := heap_alloc_new w1 _
    exact (hr.alloc _).slAll (by simp [ints]) (Nat.le_refl _) (by unfold maxLen; omega)
end Go.Proofs.YtdnheaafcbihbaaGreat

set_option linter.unusedVariables false
set_option linter.unusedSimpArgs false
namespace Go.Proofs.YtdnheaafcbihbaaGreat
open Go Go.RowKit
open FFld (ints)
theorem six_cells {w : World} {g : Nat} {a b c d e f : Value} {T : TypeId} (h : w.heap[g]? = some (.cells #[a, b, c, d, e, f] T (0, 0))) :
    w.cell? ⟨g, 0, none⟩ = some a ∧ w.cell? ⟨g, 1, none⟩ = some b ∧ w.cell? ⟨g, 2, none⟩ = some c ∧ w.cell? ⟨g, 3, none⟩ = some d ∧ w.cell? ⟨g, 4, none⟩ = some e ∧ w.cell? ⟨g, 5, none⟩ = some f :=
  ⟨by rw [cell_of_row w g 0 _ T (0, 0) h]; rfl, by rw [cell_of_row w g 1 _ T (0, 0) h]; rfl, by rw [cell_of_row w g 2 _ T (0, 0) h]; rfl, by rw [cell_of_row w g 3 _ T (0, 0) h]; rfl, by rw [cell_of_row w g 4 _ T (0, 0) h]; rfl, by rw [cell_of_row w g 5 _ T (0, 0) h]; rfl⟩
theorem TbW.of {D : FFld.FD} {h : D.Ok} {gP gL q1 q : Nat} {P L : List Nat} {w : World} (h1 : Row 252 .u16 w gP (ints P)) (h2 : Row 252 .u16 w gL (ints L)) (ht : FFld.TabOk D h P L) (e1 : D.p ^ D.k - 1 = q1) (e2 : D.p ^ D.k = q) :
    TbW D h w.heap.size (some ⟨gP, 0, none⟩) q1 (some ⟨gL, 0, none⟩) q P L w := by
  refine ⟨fun W hW i hi => ⟨gP, 0, rfl, ?_⟩, fun W hW i hi => ⟨gL, 0, rfl, ?_⟩, ht, e1, e2⟩
  · rw [Nat.zero_add, (h1.below hW).cell (by rw [FFld.ints_len]; exact hi), FFld.ints_get]
  · rw [Nat.zero_add, (h2.below hW).cell (by rw [FFld.ints_len]; exact hi), FFld.ints_get]
/-- What a field's arithmetic does, whatever its dynamic type. -/
structure ArOps (D : FFld.FD) (h : D.Ok) (w : World) (T : TypeId) (x : Value) (fs fp fw : FuncId) : Prop where
  ms : ∀ W, (method 378 T x "dauber/field.sum").run Tryz.prog W = .ok (fs, x) W
  mp : ∀ W, (method 378 T x "dauber/field.product").run Tryz.prog W = .ok (fp, x) W
  mw : ∀ W, (method 378 T x "dauber/field.power").run Tryz.prog W = .ok (fw, x) W
  cs : ∀ args W, (callFunc fs args).run Tryz.prog W = .ok (.enter fs args) W
  cp : ∀ args W, (callFunc fp args).run Tryz.prog W = .ok (.enter fp args) W
  cw : ∀ args W, (callFunc fw args).run Tryz.prog W = .ok (.enter fw args) W
  sum : ∀ W, Below w.heap.size w W → ∀ a b, a < D.p ^ D.k → b < D.p ^ D.k → Calls Tryz.prog fs #[x, .int .i64 (a : Nat), .int .i64 (b : Nat)] W (RB W (.int .i64 (FFld.padd D.p D.k a b : Nat)))
  product : ∀ W, Below w.heap.size w W → ∀ a b, a < D.p ^ D.k → b < D.p ^ D.k → Calls Tryz.prog fp #[x, .int .i64 (a : Nat), .int .i64 (b : Nat)] W (RB W (.int .i64 (FFld.pmul D.p D.k D.m a D.k b : Nat)))
  power : ∀ W, Below w.heap.size w W → ∀ a n, a < D.p ^ D.k → a ≠ 0 ∨ 0 < n → n ≤ 70000 → Calls Tryz.prog fw #[x, .int .i64 (a : Nat), .int .i64 (n : Nat)] W (RB W (.int .i64 (FFld.ppow h.pre.pk a n : Nat)))
theorem ArV.ops {D : FFld.FD} {h : D.Ok} {w : World} {v : Value} (hv : ArV D h w v) : ∃ T x fs fp fw, v = .iface T x ∧ ArOps D h w T x fs fp fw := by
  rcases hv with ⟨hk, rfl⟩ | ⟨h2, gP, gL, q1, q, P, L, rfl, r1, r2, ht, e1, e2⟩
  · have hm : D.m = D.p := h.pre.mod1 hk
    have hp1 : D.p ≤ 65536 := by
      have := h.pre.small
      unfold FFld.FD.q at this
      rw [hk, Nat.pow_one] at this
      exact this
    have hpk1 : FFld.PK D.p 1 D.p := ⟨h.pre.pk.p2, Nat.le_refl _⟩
    refine ⟨_, _, 280, 205, 279, rfl, fun _ => by kernel_rfl, fun _ => by kernel_rfl, fun _ => by kernel_rfl, fun _ _ => by kernel_rfl, fun _ _ => by kernel_rfl, fun _ _ => by kernel_rfl, ?_, ?_, ?_⟩
    · intro W _ a b ha hb
      rw [hk] at ha hb ⊢
      exact fsum_any D.p D.g a b W hpk1 hp1 ha hb
    · intro W _ a b ha hb
      rw [hk] at ha hb ⊢
      rw [hm]
      exact fproduct_any D.p D.g a b W hpk1 hp1 ha hb
    · intro W _ a n ha _ hn
      have key : ∀ (k m : Nat) (hpk : FFld.PK D.p k m) (e1 : k = 1) (e2 : m = D.p) (ha : a < D.p ^ k), Calls Tryz.prog 279 #[rmv D.p D.g, .int .i64 (a : Nat), .int .i64 (n : Nat)] W (RB W (.int .i64 (FFld.ppow hpk a n : Nat))) := by
        intro k m hpk e1 e2 ha
        subst e1 e2
        exact fpower_any D.p D.g a n W hpk1 hp1 ha hn
      exact key D.k D.m h.pre.pk hk hm ha
  · have htb := TbW.of r1 r2 ht e1 e2
    refine ⟨_, _, 285, 284, 283, rfl, fun _ => by kernel_rfl, fun _ => by kernel_rfl, fun _ => by kernel_rfl, fun _ _ => by kernel_rfl, fun _ _ => by kernel_rfl, fun _ _ => by kernel_rfl, ?_, ?_, ?_⟩
    · intro W hW a b ha hb
      exact tsum_any _ _ a b W (htb.below hW) ha hb
    · intro W hW a b ha hb
      exact tproduct_any _ _ a b W (htb.below hW) ha hb
    · intro W hW a n ha hne hn
      exact tpower_any _ _ a n W (htb.below hW) ha hne hn
end Go.Proofs.YtdnheaafcbihbaaGreat

set_option linter.unusedVariables false
set_option linter.unusedSimpArgs false
namespace Go.Proofs.YtdnheaafcbihbaaGreat
open Go Go.RowKit
open FFld (ints)
theorem FldB.open {D : FFld.FD} {w : World} {b : Nat} (hf : FldB D w b) : ∃ (h : D.Ok) (T : TypeId) (x : Value) (fs fp fw : FuncId) (ms : Value) (ml : List Nat), w.heap[b]? = some (.cells #[.iface T x, .int .i64 D.q, .int .i64 D.p, .int .i64 D.k, .int .i64 D.g, ms] 179 (0, 0)) ∧ ArOps D h w T x fs fp fw ∧ Sl .i64 w ms (ints ml) ∧ FFld.Digs D.p D.m ml := by
  obtain ⟨h, ar, ms, ml, h1, h2, h3, h4⟩ := hf
  obtain ⟨T, x, fs, fp, fw, rfl, ho⟩ := h2.ops
  exact ⟨h, T, x, fs, fp, fw, ms, ml, h1, ho, h3, h4⟩
theorem FldB.ok {D : FFld.FD} {w : World} {b : Nat} (hf : FldB D w b) : D.Ok := let ⟨h, _⟩ := hf; h
theorem FldB.lt {D : FFld.FD} {w : World} {b : Nat} (hf : FldB D w b) : b < w.heap.size := by
  obtain ⟨h, ar, ms, ml, h1, _⟩ := hf
  exact (Array.getElem?_eq_some_iff.1 h1).1
theorem pmul_const {p k m : Nat} (h : FFld.PK p k m) (a c : Nat) (hc : c < p) : FFld.pmul p k m a k c = FFld.pscl p k c a := by
  have hk := h.k1
  have hck : c < p ^ k := Nat.lt_of_lt_of_le hc (by have := Nat.pow_le_pow_right (n := p) (by have := h.p2; omega) hk; rw [Nat.pow_one] at this; exact this)
  rw [FFld.pmul_step h a c hck, Nat.mod_eq_of_lt hc, Nat.div_eq_of_lt hc, FFld.pmul_zero_right h, FFld.pshf_zero h, FFld.padd_zero h _ (FFld.pscl_lt h _ _)]
theorem p_le_q {D : FFld.FD} (h : D.Ok) : D.p ≤ D.p ^ D.k := by
  have := Nat.pow_le_pow_right (n := D.p) (by have := h.pre.prime.1; omega) h.pre.k1
  rw [Nat.pow_one] at this
  exact this
set_option maxRecDepth 20000 in
set_option maxHeartbeats 2000000 in
theorem negative_any {D : FFld.FD} {b : Nat} (a : Nat) (w : World) (hf : FldB D w b) (ha : a < D.p ^ D.k) :
    Calls Tryz.prog 154 #[.pointer (some ⟨b, 0, none⟩), .int .i64 a] w (RB w (.int .i64 (FFld.pscl D.p D.k (D.p - 1) a : Nat))) := by
  obtain ⟨h, T, x, fs, fp, fw, ms, ml, hb, ho, _, _⟩ := hf.open
  obtain ⟨c0, c1, c2, c3, c4, c5⟩ := six_cells hb
  have hp2 := h.pre.prime.1
  have hpq := p_le_q h
  have hq6 := h.pre.small
  unfold FFld.FD.q at hq6
  obtain ⟨p1, hp1⟩ : ∃ p1, D.p - 1 = p1 := ⟨_, rfl⟩
  have ep : IntKind.i64.wrap ((D.p : Int) - 1) = p1 := by rw [show (D.p : Int) - 1 = p1 from by omega]; exact wi (by omega) (by omega)
  have hP := Kept.mk (fun W (hW : Below w.heap.size w W) => ho.product W hW a p1 ha (by omega))
  rw [pmul_const h.pre.pk a p1 (by omega)] at hP
  rw [hp1]
  have hmp := ho.mp
  have hcp := ho.cp
  have HL := Kept.mk hf
  clear ho hb hp1 ha hpq hq6
  go_enter Tryz.func154, Tryz.ntmps154
  go_wp2
  go_region_held3 (fun w' => w'.cell? ⟨b, 0, none⟩ = some (.iface T x) ∧ w'.cell? ⟨b, 2, none⟩ = some (.int .i64 D.p))
    (first | exact ⟨c0, c2⟩ | exact ⟨k0, k2⟩ | go_keep)
    ((first
      | ((with_reducible refine (hP.out _ ?_).mono ?_); (exact (by first | exact Below.refl _ _ | exact (Below.refl _ _).drew)); rintro e w2 ⟨hb2, rfl⟩; have HB2 := Kept.mk (show Below w.heap.size w w2 from (by first | exact hb2 | exact (Below.refl _ _).drew.trans hb2)); have k0 := belowCell HB2.out c0; have k2 := belowCell HB2.out c2; clear hb2)))
  go_wp2
  go_ret
  exact ⟨HB2.out, rfl⟩
end Go.Proofs.YtdnheaafcbihbaaGreat

set_option linter.unusedVariables false
set_option linter.unusedSimpArgs false
namespace Go.Proofs.YtdnheaafcbihbaaGreat
open Go Go.RowKit
open FFld (ints)
theorem bstep {w W w' : World} (h1 : Below w.heap.size w W) (h2 : Below W.heap.size W w') : Below w.heap.size w w' := h1.trans (h2.mono h1.size)
set_option maxRecDepth 20000 in
set_option maxHeartbeats 2000000 in
theorem inverse_any {D : FFld.FD} {b : Nat} (hD : D.Ok) (a : Nat) (w : World) (hf : FldB D w b) (ha : a < D.p ^ D.k) (a0 : a ≠ 0) :
    Calls Tryz.prog 152 #[.pointer (some ⟨b, 0, none⟩), .int .i64 a] w (RB w (.int .i64 (FFld.ppow hD.pre.pk a (D.q - 2) : Nat))) := by
  obtain ⟨h, T, x, fs, fp, fw, ms, ml, hb, ho, _, _⟩ := hf.open
  obtain ⟨c0, c1, c2, c3, c4, c5⟩ := six_cells hb
  have hp2 := h.pre.prime.1
  have hq6 := h.pre.small
  unfold FFld.FD.q at hq6
  have h1 := h.pre.pk.one_lt
  have hqd : D.q = D.p ^ D.k := rfl
  obtain ⟨n, hn⟩ : ∃ n, D.q - 2 = n := ⟨_, rfl⟩
  have ep : IntKind.i64.wrap ((D.q : Int) - 2) = n := by rw [show (D.q : Int) - 2 = n from by omega]; exact wi (by omega) (by omega)
  have hP := Kept.mk (fun W (hW : Below w.heap.size w W) => ho.power W hW a n ha (.inl a0) (by omega))
  rw [hn]
  have hmp := ho.mw
  have hcp := ho.cw
  clear ho hb hn ha a0 hqd h1
  go_enter Tryz.func152, Tryz.ntmps152
  go_wp2
  go_region_held3 (fun w' => w'.cell? ⟨b, 0, none⟩ = some (.iface T x) ∧ w'.cell? ⟨b, 1, none⟩ = some (.int .i64 D.q))
    (first | exact ⟨c0, c1⟩ | exact ⟨k0, k1⟩ | go_keep)
    ((first
      | ((with_reducible refine (hP.out _ (by repeat (first | (with_reducible exact Below.refl _ _) | (with_reducible exact HB2.out) | (with_reducible exact HB3.out) | (with_reducible exact HB4.out) | (with_reducible refine Below.drew ?_)))).mono ?_); rintro e w2 ⟨hb2, rfl⟩; have HB2 : Kept (Below w.heap.size w w2) := ⟨bstep (by repeat (first | (with_reducible exact Below.refl _ _) | (with_reducible exact HB2.out) | (with_reducible exact HB3.out) | (with_reducible exact HB4.out) | (with_reducible refine Below.drew ?_))) hb2⟩; have k0 := belowCell HB2.out c0; have k1 := belowCell HB2.out c1; clear hb2)))
  go_wp2
  go_ret
  exact ⟨HB2.out, rfl⟩
set_option maxRecDepth 20000 in
set_option maxHeartbeats 2000000 in
theorem difference_any {D : FFld.FD} {b : Nat} (a a' : Nat) (w : World) (hf : FldB D w b) (ha : a < D.p ^ D.k) (ha' : a' < D.p ^ D.k) :
    Calls Tryz.prog 150 #[.pointer (some ⟨b, 0, none⟩), .int .i64 a, .int .i64 a'] w (RB w (.int .i64 (FFld.padd D.p D.k a (FFld.pscl D.p D.k (D.p - 1) a') : Nat))) := by
  obtain ⟨h, T, x, fs, fp, fw, ms, ml, hb, ho, _, _⟩ := hf.open
  obtain ⟨c0, c1, c2, c3, c4, c5⟩ := six_cells hb
  have hp2 := h.pre.prime.1
  have hq6 := h.pre.small
  unfold FFld.FD.q at hq6
  have hP := Kept.mk (fun W (hW : Below w.heap.size w W) => ho.sum W hW a (FFld.pscl D.p D.k (D.p - 1) a') ha (FFld.pscl_lt h.pre.pk _ _))
  have hN := Kept.mk (fun W (hW : Below w.heap.size w W) => negative_any a' W (hf.below hW) ha')
  have hmp := ho.ms
  have hcp := ho.cs
  clear ho hb ha ha' hf
  go_enter Tryz.func150, Tryz.ntmps150
  go_wp2
  go_region_held3 (fun w' => w'.cell? ⟨b, 0, none⟩ = some (.iface T x))
    (first | exact c0 | exact k0 | exact l0 | go_keep)
    ((first
      | (go_at_call 154; (with_reducible refine (hN.out _ (by repeat (first | (with_reducible exact Below.refl _ _) | (with_reducible exact HB2.out) | (with_reducible exact HB3.out) | (with_reducible exact HB4.out) | (with_reducible refine Below.drew ?_)))).mono ?_); rintro e w2 ⟨hb2, rfl⟩; have HB2 : Kept (Below w.heap.size w w2) := ⟨bstep (by repeat (first | (with_reducible exact Below.refl _ _) | (with_reducible exact HB2.out) | (with_reducible exact HB3.out) | (with_reducible exact HB4.out) | (with_reducible refine Below.drew ?_))) hb2⟩; have k0 := belowCell HB2.out c0; clear hb2)
      | ((with_reducible refine (hP.out _ (by repeat (first | (with_reducible exact Below.refl _ _) | (with_reducible exact HB2.out) | (with_reducible exact HB3.out) | (with_reducible exact HB4.out) | (with_reducible refine Below.drew ?_)))).mono ?_); rintro e w3 ⟨hb3, rfl⟩; have HB3 : Kept (Below w.heap.size w w3) := ⟨bstep (by repeat (first | (with_reducible exact Below.refl _ _) | (with_reducible exact HB2.out) | (with_reducible exact HB3.out) | (with_reducible exact HB4.out) | (with_reducible refine Below.drew ?_))) hb3⟩; have l0 := belowCell HB3.out c0; clear hb3)))
  go_wp2
  go_ret
  exact ⟨HB3.out, rfl⟩
set_option maxRecDepth 20000 in
set_option maxHeartbeats 2000000 in
theorem reduced_any {D : FFld.FD} {b : Nat} (a : Int) (w : World) (hf : FldB D w b) (h0 : -9223372036854775808 ≤ a) (h1 : a ≤ 9223372036854775807) :
    Calls Tryz.prog 158 #[.pointer (some ⟨b, 0, none⟩), .int .i64 a] w (fun e w' => w = w' ∧ e = .returned (.int .i64 (a % D.q))) := by
  obtain ⟨h, T, x, fs, fp, fw, ms, ml, hb, ho, _, _⟩ := hf.open
  obtain ⟨c0, c1, c2, c3, c4, c5⟩ := six_cells hb
  have hp2 := h.pre.prime.1
  have hq6 := h.pre.small
  unfold FFld.FD.q at hq6
  have h12 := h.pre.pk.one_lt
  have hqd : D.q = D.p ^ D.k := rfl
  have hq2 : 2 ≤ D.q := by omega
  have hq7 : D.q ≤ 65536 := hq6
  obtain ⟨q, hq⟩ : ∃ q, D.q = q := ⟨_, rfl⟩
  rw [hq] at c1 hq2 hq7 ⊢
  have e := Int.mul_tdiv_add_tmod a q
  have e1 := Int.tmod_lt_of_pos a (show (0 : Int) < q by omega)
  have e2 : -(q : Int) < a.tmod q := by
    have := Int.tmod_lt_of_pos (-a) (show (0 : Int) < q by omega)
    rw [Int.neg_tmod] at this
    omega
  obtain ⟨r, hr⟩ : ∃ r, a.tmod q = r := ⟨_, rfl⟩
  have hres : a % q = if r < 0 then r + q else r := by
    rw [← hr]
    split
    · rw [← Int.add_emod_right, show a.tmod q + q = (a.tmod q + q) from rfl]
      conv => lhs; rw [← e, Int.add_comm ((q : Int) * a.tdiv q), Int.add_right_comm, Int.add_mul_emod_self_left]
      exact Int.emod_eq_of_lt (by omega) (by omega)
    · conv => lhs; rw [← e, Int.add_comm, Int.add_mul_emod_self_left]
      exact Int.emod_eq_of_lt (by omega) (by omega)
  have HR := Kept.mk hres
  rw [hr] at e1 e2
  clear ho hb hres e h12 hqd hq hf hq6 hp2
  by_cases hneg : r < 0
  · have HV : Kept (a % q = r + q) := ⟨by rw [HR.out, if_pos hneg]⟩
    go_enter Tryz.func158, Tryz.ntmps158
    go_wp2
    go_ret
    exact ⟨rfl, by rw [HV.out]; rfl⟩
  · have HV : Kept (a % q = r) := ⟨by rw [HR.out, if_neg hneg]⟩
    go_enter Tryz.func158, Tryz.ntmps158
    go_wp2
    go_ret
    exact ⟨rfl, by rw [HV.out]; rfl⟩
end Go.Proofs.YtdnheaafcbihbaaGreat

set_option linter.unusedVariables false
set_option linter.unusedSimpArgs false
namespace Go.Proofs.YtdnheaafcbihbaaGreat
open Go Go.RowKit
open FFld (ints)
/-- Block g holds the numbers l from its beginning on, and may be written. -/
def Wv (w : World) (g : Nat) (l : List Nat) : Prop := ∃ cur, w.heap[g]? = some (.cells cur 3 (0, 0)) ∧ l.length ≤ cur.size ∧ ∀ i, i < l.length → cur[i]? = some (.int .i64 ((l[i]?.getD 0 : Nat) : Int))
theorem Wv.cell {w : World} {g i : Nat} {l : List Nat} (h : Wv w g l) (hi : i < l.length) : w.cell? ⟨g, i, none⟩ = some (.int .i64 ((l[i]?.getD 0 : Nat) : Int)) := by
  obtain ⟨cur, h1, h2, h3⟩ := h
  rw [cell_of_row w g i cur _ (0, 0) h1]
  exact h3 i hi
theorem Wv.free {w : World} {g : Nat} {l : List Nat} (h : Wv w g l) (i : Nat) : w.frozen? ⟨g, i, none⟩ = false := by
  obtain ⟨cur, h1, h2, h3⟩ := h
  exact frozen_of_row w g i cur _ h1
theorem Wv.set {w : World} {g i : Nat} {l : List Nat} (h : Wv w g l) (v : Nat) : Wv (w.setCell ⟨g, i, none⟩ (.int .i64 v)) g (l.set i v) := by
  obtain ⟨cur, h1, h2, h3⟩ := h
  refine ⟨cur.setIfInBounds i (.int .i64 v), heap_setCell_same w g i cur _ _ h1, by simpa using h2, fun j hj => ?_⟩
  rw [List.length_set] at hj
  rw [Array.getElem?_setIfInBounds]
  by_cases e : i = j
  · subst e
    rw [if_pos rfl, if_pos (by omega), List.getElem?_set_self hj]
    rfl
  · rw [if_neg e, List.getElem?_set_ne e]
    exact h3 j hj
theorem Wv.lt {w : World} {g : Nat} {l : List Nat} (h : Wv w g l) : g < w.heap.size := by
  obtain ⟨cur, h1, _⟩ := h
  exact (Array.getElem?_eq_some_iff.1 h1).1
theorem Wv.below {w w' : World} {g : Nat} {l : List Nat} (h : Wv w g l) (hb : Below w.heap.size w w') : Wv w' g l := by
  have hl := h.lt
  obtain ⟨cur, h1, h2, h3⟩ := h
  exact ⟨cur, (hb.block _ hl).trans h1, h2, h3⟩
theorem Wv.other {w w' : World} {g g' : Nat} {l : List Nat} (h : Wv w g l) (hg : w.grownBy w' (some g')) (hne : g ≠ g') : Wv w' g l := by
  have hl := h.lt
  obtain ⟨cur, h1, h2, h3⟩ := h
  exact ⟨cur, (hg.block _ hl (by simpa using hne)).trans h1, h2, h3⟩
theorem Wv.take {w : World} {g : Nat} {l : List Nat} (h : Wv w g l) (n : Nat) : Wv w g (l.take n) := by
  obtain ⟨cur, h1, h2, h3⟩ := h
  refine ⟨cur, h1, by rw [List.length_take]; omega, fun i hi => ?_⟩
  rw [List.length_take] at hi
  rw [List.getElem?_take, if_pos (by omega)]
  exact h3 i (by omega)
theorem Mine.wv {B : Nat} {w : World} {g n c : Nat} {l : List Nat} (h : Mine 3 .i64 B w (.slice (some ⟨g, 0, none⟩) n c) (ints l)) : Wv w g l := by
  rcases h with ⟨e, hx⟩ | ⟨g', cap, cur, e, hB, hg, hn, hc, hm, ht⟩
  · cases e
  · simp only [Value.slice.injEq, Option.some.injEq, Addr.mk.injEq, and_true] at e
    obtain ⟨rfl, _, rfl⟩ := e
    refine ⟨cur, hg, by rw [FFld.ints_len] at hn; omega, fun i hi => ?_⟩
    have h1 : (cur.toList.take (ints l).length)[i]? = cur[i]? := by rw [List.getElem?_take, if_pos (by rw [FFld.ints_len]; exact hi)]; simp
    rw [← h1, ht, List.getElem?_map]
    have := FFld.ints_get l i
    rw [List.getElem?_eq_getElem (by rw [FFld.ints_len]; exact hi)] at this ⊢
    simp only [Option.getD_some] at this
    simp [this, hi]
theorem Row.wv {w : World} {g : Nat} {l : List Nat} (h : Row 3 .i64 w g (ints l)) : Wv w g l := by
  refine ⟨_, h, by simp [ints], fun i hi => ?_⟩
  have := h.cell (i := i) (by rw [FFld.ints_len]; exact hi)
  rw [cell_of_row w g i _ _ (0, 0) h, FFld.ints_get] at this
  exact this
/-- The slice over a written block. -/
theorem Wv.sl {w : World} {g n c : Nat} {l : List Nat} (h : Wv w g l) (hn : n = l.length) (hc : n ≤ c) (hm : c ≤ maxLen) : Sl .i64 w (.slice (some ⟨g, 0, none⟩) n c) (ints l) := by
  subst hn
  refine ⟨_, c, by rw [FFld.ints_len], by rw [FFld.ints_len]; exact hc, hm, fun i hi => ⟨g, 0, rfl, h.lt, ?_⟩⟩
  rw [FFld.ints_len] at hi
  rw [Nat.zero_add, h.cell hi, FFld.ints_get]
theorem Sl.news {K : IntKind} {w : World} {ad : Addr} {n cap : Nat} {xs : List Int} (h : Sl K w (.slice (some ad) n cap) xs) : ∀ j u, (xs.map (Value.int K))[j]? = some u → w.cell? (ad.add j) = some u := by
  obtain ⟨ao, c, e, hc, hm, hx⟩ := h
  intro j u hj
  have hjl : j < xs.length := by
    apply Classical.byContradiction
    intro hc'
    simp [hc'] at hj
  obtain ⟨b, o, e2, hb, hcell⟩ := hx j hjl
  simp only [Value.slice.injEq] at e
  obtain ⟨rfl, _, _⟩ := e
  simp only [Option.some.injEq] at e2
  subst e2
  have : (⟨b, o, none⟩ : Addr).add j = ⟨b, o + j, none⟩ := by simp [Addr.add]
  rw [this, hcell]
  simp [hjl] at hj ⊢
  exact hj
set_option maxHeartbeats 400000 in
theorem clone_any {v : Value} {xs : List Int} {w : World} (h : Sl .i64 w v xs) (hmx : xs.length ≤ 17000000000000) :
    Calls Tryz.prog 97 #[v] w (fun e w' => Below w.heap.size w w' ∧ ∃ v', e = .returned v' ∧ Mine 3 .i64 w.heap.size w' v' xs) := by
  have h' := h
  obtain ⟨ao, cap, rfl, hcap, hmax, hc⟩ := h
  have hnil := fun wx : World => Lib.run_eql_slice_nil (P := Tryz.prog) wx 22 3 ao xs.length cap 0 0 Tryz.underlying22
  rcases ao with _ | ad
  · have hx : xs = [] := by
      cases xs with
      | nil => rfl
      | cons x xs => obtain ⟨b, o, e, _⟩ := hc 0 (by simp); cases e
    subst hx
    simp only [Option.isNone_none, List.length_nil] at hnil ⊢
    clear hc hmax h' hmx hcap
    go_enter Tryz.func97, Tryz.ntmps97
    go_wp2
    go_ret
    exact ⟨Below.refl _ _, _, rfl, Mine.nil _ _ _ _⟩
  · simp only [Option.isNone_some] at hnil
    obtain ⟨i0, hi, hz0, hz1, hz2⟩ := info_parts info_i64
    have hown := World.ownsRow_lit (base := w.heap.size) (e := 3) (size := 1) w #[] 0 (Nat.le_refl _) (Nat.zero_le _) (by rfl)
    have hb : Below w.heap.size w (w.alloc (.cells #[] 3)) := (Below.refl _ _).alloc (Nat.le_refl _) _
    have hn := (h'.below hb).news
    have HO := Lib.hid hown
    have HN := Lib.hid hn
    have hone : ∀ u ∈ xs.map (Value.int .i64), u.oneCell' = true := by
      intro u hu
      obtain ⟨a, _, rfl⟩ := List.mem_map.1 hu
      rfl
    have hlen : (xs.map (Value.int .i64)).length = xs.length * 1 := by simp
    have hm1 : 0 + xs.length ≤ maxLen := by unfold maxLen; omega
    have hm2 : (0 + xs.length) * 8 ≤ 140737488355328 := by omega
    have hb0 : w.heap.size ≤ (w.alloc (.cells #[] 3)).heap.size := by simp
    have HB0 := Lib.hid hb0
    have HONE := Lib.hid hone
    have HLEN := Lib.hid hlen
    have HM1 := Lib.hid hm1
    have HM2 := Lib.hid hm2
    clear hn hown hc hmax h' hone hlen hm1 hm2 hb0
    go_enter Tryz.func97, Tryz.ntmps97
    go_wp2_with (at_builtin; refine wpList_append_own _ rfl _ _ 22 rfl w.heap.size 3 i0 (.int .i64 0) 1 8 Tryz.underlying22 hi hz0 hz1 hz2 rfl (by decide) _ _ _ rfl HO.out ad xs.length cap (xs.map (Value.int .i64)) rfl HLEN.out HN.out HONE.out HM1.out HM2.out HB0.out ?_)
    intro v' w1 hown1 hgrow hiff
    have HO1 := Lib.hid hown1
    have hb2 := hb.grown hgrow (by simp) (fun k hk => (HO.out.lt k hk).1)
    clear hiff hown1 hgrow hb HO HN hi hz0 hz1 hz2 hnil
    go_wp2
    go_ret
    exact ⟨hb2, _, rfl, Mine.of_owns (n := 0 + xs.length) (by simpa using HO1.out)⟩
/-- The list without the zeros at its end. -/
theorem trimmed_any (l : List Nat) (ao : Option Addr) (cap : Nat) (w : World) (h : Sl .i64 w (.slice ao l.length cap) (ints l)) :
    Calls Tryz.prog 155 #[.slice ao l.length cap] w (fun e w' => w = w' ∧ ∃ n, n ≤ l.length ∧ e = .returned (.slice ao n n) ∧ (∀ i, n ≤ i → l[i]?.getD 0 = 0) ∧ (n = 0 ∨ l[n - 1]?.getD 0 ≠ 0)) := by
  obtain ⟨ao', cap', e, hcap, hmax, hc⟩ := h
  simp only [Value.slice.injEq] at e
  obtain ⟨rfl, e2, rfl⟩ := e
  clear e2
  rw [FFld.ints_len] at hcap hc
  unfold maxLen at hmax
  have HC := Kept.mk hc
  clear hc
  go_enter Tryz.func155, Tryz.ntmps155
  go_wp2
  go_loop [3] (fun n => ∃ k : Nat, k ≤ l.length ∧ n = .int .i64 k ∧ Hid (∀ i, k ≤ i → l[i]?.getD 0 = 0)) (fun n => (intOf n).toNat)
  case atStart => exact ⟨l.length, Nat.le_refl _, rfl, fun i hi => by simp [hi]⟩
  case round =>
    obtain ⟨k, hk, rfl, hz⟩ := hrel
    by_cases h0 : 0 < k
    · obtain ⟨b, o, rfl, hb, hcell⟩ := HC.out (k - 1) (by omega)
      obtain ⟨k, rfl⟩ : ∃ j, k = j + 1 := ⟨k - 1, by omega⟩
      rw [FFld.ints_get] at hcell
      simp only [Nat.add_sub_cancel] at hcell
      obtain ⟨x, hx⟩ : ∃ x, l[k]?.getD 0 = x := ⟨_, rfl⟩
      rw [hx] at hcell
      by_cases hx0 : x = 0
      · subst hx0
        have HX := Lib.hid hx
        have e0 : (((0 : Nat) : Int) == 0) = true := rfl
        clear hx
        go_wp2
        go_round
        case rel => exact ⟨k, by omega, by go_num, fun i hi => by
          by_cases e : i = k
          · rw [e]; exact HX.out
          · exact hz.out i (by omega)⟩
        case measure => simp [intOf] <;> omega
      · have e0 : ((x : Int) == 0) = false := by rw [beq_eq_false_iff_ne]; omega
        have HX := Lib.hid (show l[k]?.getD 0 ≠ 0 by rw [hx]; exact hx0)
        clear hx hx0
        go_wp2
        go_ret
        exact ⟨rfl, k + 1, hk, rfl, hz.out, .inr (by simpa using HX.out)⟩
    · obtain rfl : k = 0 := by omega
      go_wp2
      go_ret
      exact ⟨rfl, 0, hk, rfl, hz.out, .inl rfl⟩
end Go.Proofs.YtdnheaafcbihbaaGreat

set_option linter.unusedVariables false
set_option linter.unusedSimpArgs false
namespace Go.Proofs.YtdnheaafcbihbaaGreat
open Go Go.RowKit
open FFld (ints)
/-- The cells of a slice of numbers that lies in no cell of block g. -/
def Qc (g : Nat) (ao : Option Addr) (l : List Nat) (w : World) : Prop := ∀ i, i < l.length → ∃ b o, ao = some ⟨b, o, none⟩ ∧ b ≠ g ∧ b < w.heap.size ∧ w.cell? ⟨b, o + i, none⟩ = some (.int .i64 ((l[i]?.getD 0 : Nat) : Int))
theorem Qc.grown {g : Nat} {ao : Option Addr} {l : List Nat} {w w' : World} (h : Qc g ao l w) (hg : w.grownBy w' (some g)) : Qc g ao l w' := fun i hi => by
  obtain ⟨b, o, e, h1, h2, h3⟩ := h i hi
  exact ⟨b, o, e, h1, Nat.lt_of_lt_of_le h2 hg.size, hg.cell h3 (by simpa using h1)⟩
set_option maxRecDepth 20000 in
set_option maxHeartbeats 4000000 in
theorem addMultiple_any {D : FFld.FD} {b g s n cc : Nat} {ao : Option Addr} {cap : Nat} (w0 w : World) (hf : FldB D w0 b) (hb : Below w0.heap.size w0 w) (hg : w0.heap.size ≤ g) (xs : List Nat) (hx : Wv w g xs) (hxq : ∀ c ∈ xs, c < D.p ^ D.k)
    (q : List Nat) (hq : Qc g ao q w) (hqq : ∀ c ∈ q, c < D.p ^ D.k) (hs : s + q.length ≤ xs.length) (hn : q.length ≤ n) (a : Nat) (ha : a < D.p ^ D.k) (hql : q.length ≤ 1000000) :
    Calls Tryz.prog 151 #[.pointer (some ⟨b, 0, none⟩), .slice (some ⟨g, s, none⟩) n cc, .slice ao q.length cap, .int .i64 a] w (fun e w' => e = .returned (.tuple #[]) ∧ w.grownBy w' (some g) ∧ Wv w' g (FFld.addm D xs s q a)) := by
  obtain ⟨h, T, x, fs, fp, fw, ms, ml, hbb, ho, _, _⟩ := hf.open
  have hpk := h.pre.pk
  by_cases a0 : a = 0
  · subst a0
    have hz := Kept.mk (FFld.addmF_zero hpk s q q.length hxq hs)
    have HX := Kept.mk hx
    have e0 : (((0 : Nat) : Int) == 0) = true := rfl
    clear ho hbb hf hb hx hxq hq hqq ha
    go_enter Tryz.func151, Tryz.ntmps151
    go_wp2
    exact bodyPost_ret (v := .tuple #[]) (by simp [results, Tryz.results151, go_sem]) rfl ⟨rfl, growRefl _ _, by unfold FFld.addm; rw [hz.out]; exact HX.out⟩
  · have e0 : ((a : Int) == 0) = false := by rw [beq_eq_false_iff_ne]; omega
    obtain ⟨c0, _⟩ := six_cells hbb
    have hbl : b < w0.heap.size := hf.lt
    have HS := Kept.mk ho.sum
    have HP := Kept.mk ho.product
    have hms := ho.ms
    have hmp := ho.mp
    have hcs := ho.cs
    have hcp := ho.cp
    have HQ := Kept.mk hq
    have HXQ := Kept.mk (fun j => FFld.addmF_lt (D := D) hpk s q a j hxq)
    have HQQ := Kept.mk hqq
    have HA := Kept.mk ha
    have HPK := Kept.mk hpk
    have HB := Kept.mk hb
    have HX := Kept.mk hx
    clear ho hbb hf hb hx hxq hq hqq ha hpk a0
    go_enter Tryz.func151, Tryz.ntmps151
    go_wp2
    go_loopw [14] (fun iv wr => ∃ (j : Nat), j ≤ q.length ∧ iv = .int .i64 j ∧ Kept (Wv wr g (FFld.addmF D xs s q a j)) ∧ Kept (w.grownBy wr (some g))) (fun iv _ => q.length - (intOf iv).toNat)
    case atStart => exact ⟨0, Nat.zero_le _, rfl, HX, ⟨growRefl _ _⟩⟩
    case round =>
      obtain ⟨j, hj, rfl, hwv, hgr⟩ := hrel
      by_cases hlt : j < q.length
      · obtain ⟨bq, oq, rfl, hne, hbq, hcq⟩ := (HQ.out.grown hgr.out) j hlt
        have HBW := Kept.mk (belowGrow hgr.out HB.out hg)
        have hsz := HBW.out.size
        have hgl := hwv.out.lt
        have hlen := FFld.addmF_len D xs s q a j
        have t1 := hwv.out.cell (i := s + j) (by omega)
        have f1 : wr.cell? ⟨b, 0, none⟩ = some (.iface T x) := (HBW.out.cell (p := ⟨b, 0, none⟩) hbl).trans c0
        have hqb := FFld.getD_lt (Nat.pow_pos HPK.out.p0) HQQ.out j
        have hub := FFld.getD_lt (Nat.pow_pos HPK.out.p0) (HXQ.out j) (s + j)
        obtain ⟨u, hu⟩ : ∃ u, (FFld.addmF D xs s q a j)[s + j]?.getD 0 = u := ⟨_, rfl⟩
        obtain ⟨y, hy⟩ : ∃ y, q[j]?.getD 0 = y := ⟨_, rfl⟩
        obtain ⟨z, hz⟩ : ∃ z, FFld.pmul D.p D.k D.m y D.k a = z := ⟨_, rfl⟩
        obtain ⟨v, hv⟩ : ∃ v, FFld.padd D.p D.k u z = v := ⟨_, rfl⟩
        have HV : Kept ((FFld.addmF D xs s q a j).set (s + j) v = FFld.addmF D xs s q a (j + 1)) := ⟨by simp only [FFld.addmF]; rw [hu, hy, hz, hv]⟩
        rw [hu] at t1 hub
        rw [hy] at hcq hqb
        have hP := Kept.mk (fun W (hW : Below w0.heap.size w0 W) => HP.out W hW y a hqb HA.out)
        rw [hz] at hP
        have hS := Kept.mk (fun W (hW : Below w0.heap.size w0 W) => HS.out W hW u z hub (by rw [← hz]; exact FFld.pmul_lt HPK.out _ _ _))
        rw [hv] at hS
        have hjn : j < n := by omega
        clear hu hy hz hv hqb hub hlen
        go_wp2
        refine wp_region_held_drew (S := fun w' => w'.cell? ⟨b, 0, none⟩ = some (.iface T x)) (by kernel_rfl) f1 (fun hHeld => ?_)
        refine wpAnyH_take (i := 0) (v := ?_) rfl (by kernel_rfl) (by kernel_rfl) (by kernel_rfl) (fun _ _ _ h => h) (Or.inl ⟨by rfl, ?_⟩) (by assumption) ?_
        rotate_left
        · (intro w hSw; (try dsimp only at hSw); go_simp; (try with_reducible rfl))
        try simp only [Act.put, List.getElem_toArray, List.getElem_cons_succ, List.getElem_cons_zero, List.setIfInBounds_toArray, List.set_cons_zero, List.set_cons_succ]
        refine wpAnyH_take (i := 1) (v := ?_) rfl (by kernel_rfl) (by kernel_rfl) (by kernel_rfl) (fun _ _ _ h => h) (Or.inl ⟨by rfl, ?_⟩) (by assumption) ?_
        rotate_left
        · (intro w hSw; (try dsimp only at hSw); go_simp; (try with_reducible rfl))
        try simp only [Act.put, List.getElem_toArray, List.getElem_cons_succ, List.getElem_cons_zero, List.setIfInBounds_toArray, List.set_cons_zero, List.set_cons_succ]
        refine wpAnyH_take (i := 2) (v := ?_) rfl (by kernel_rfl) (by kernel_rfl) (by kernel_rfl) (fun _ _ _ h => h) (Or.inl ⟨by rfl, ?_⟩) (by assumption) ?_
        rotate_left
        · (intro w hSw; (try dsimp only at hSw); go_simp; (try with_reducible rfl))
        try simp only [Act.put, List.getElem_toArray, List.getElem_cons_succ, List.getElem_cons_zero, List.setIfInBounds_toArray, List.set_cons_zero, List.set_cons_succ]
        refine wpAnyH_take (i := 3) (v := ?_) rfl (by kernel_rfl) (by kernel_rfl) (by kernel_rfl) (fun _ _ _ h => h) (Or.inl ⟨by rfl, ?_⟩) (by assumption) ?_
        rotate_left
        · (intro w hSw; (try dsimp only at hSw); go_simp; (try with_reducible rfl))
        try simp only [Act.put, List.getElem_toArray, List.getElem_cons_succ, List.getElem_cons_zero, List.setIfInBounds_toArray, List.set_cons_zero, List.set_cons_succ]
        refine wpAnyH_take (i := 4) (v := ?_) rfl (by kernel_rfl) (by kernel_rfl) (by kernel_rfl) (fun _ _ _ h => h) (Or.inl ⟨by rfl, ?_⟩) (by assumption) ?_
        rotate_left
        · (intro w hSw; (try dsimp only at hSw); go_simp; (try with_reducible rfl))
        try simp only [Act.put, List.getElem_toArray, List.getElem_cons_succ, List.getElem_cons_zero, List.setIfInBounds_toArray, List.set_cons_zero, List.set_cons_succ]
        refine wpAnyH_take (i := 5) (v := ?_) rfl (by kernel_rfl) (by kernel_rfl) (by kernel_rfl) (fun _ _ _ h => h) (Or.inl ⟨by rfl, ?_⟩) (by assumption) ?_
        rotate_left
        · (intro w hSw; (try dsimp only at hSw); go_simp; (try with_reducible rfl))
        try simp only [Act.put, List.getElem_toArray, List.getElem_cons_succ, List.getElem_cons_zero, List.setIfInBounds_toArray, List.set_cons_zero, List.set_cons_succ]
        refine wpAnyH_take (i := 6) (v := ?_) rfl (by kernel_rfl) (by kernel_rfl) (by kernel_rfl) (fun _ _ _ h => h) (Or.inl ⟨by rfl, ?_⟩) (by assumption) ?_
        rotate_left
        · (intro w hSw; (try dsimp only at hSw); go_simp; (try with_reducible rfl))
        try simp only [Act.put, List.getElem_toArray, List.getElem_cons_succ, List.getElem_cons_zero, List.setIfInBounds_toArray, List.set_cons_zero, List.set_cons_succ]
        refine wpAnyH_take (i := 7) (v := ?_) rfl (by kernel_rfl) (by kernel_rfl) (by kernel_rfl) (fun _ _ _ h => h) (Or.inl ⟨by rfl, ?_⟩) (by assumption) ?_
        rotate_left
        · (intro w hSw; (try dsimp only at hSw); go_simp; (try with_reducible rfl))
        try simp only [Act.put, List.getElem_toArray, List.getElem_cons_succ, List.getElem_cons_zero, List.setIfInBounds_toArray, List.set_cons_zero, List.set_cons_succ]
        refine wpAnyH_take (i := 8) (v := ?_) rfl (by kernel_rfl) (by kernel_rfl) (by kernel_rfl) (fun _ _ _ h => h) (Or.inl ⟨by rfl, ?_⟩) (by assumption) ?_
        rotate_left
        · (intro w hSw; (try dsimp only at hSw); go_simp; (try with_reducible rfl))
        try simp only [Act.put, List.getElem_toArray, List.getElem_cons_succ, List.getElem_cons_zero, List.setIfInBounds_toArray, List.set_cons_zero, List.set_cons_succ]
        refine wpAnyH_take (i := 10) (v := ?_) rfl (by kernel_rfl) (by kernel_rfl) (by kernel_rfl) (fun _ _ _ h => h) (Or.inl ⟨by rfl, ?_⟩) (by assumption) ?_
        rotate_left
        · (intro w hSw; (try dsimp only at hSw); go_simp; (try with_reducible rfl))
        try simp only [Act.put, List.getElem_toArray, List.getElem_cons_succ, List.getElem_cons_zero, List.setIfInBounds_toArray, List.set_cons_zero, List.set_cons_succ]
        refine wpAnyH_take (i := 11) (v := ?_) rfl (by kernel_rfl) (by kernel_rfl) (by kernel_rfl) (fun _ _ _ h => h) (Or.inl ⟨by rfl, ?_⟩) (by assumption) ?_
        rotate_left
        · (intro w hSw; (try dsimp only at hSw); go_simp; (try with_reducible rfl))
        try simp only [Act.put, List.getElem_toArray, List.getElem_cons_succ, List.getElem_cons_zero, List.setIfInBounds_toArray, List.set_cons_zero, List.set_cons_succ]
        refine wpAnyH_take (i := 12) (v := ?_) rfl (by kernel_rfl) (by kernel_rfl) (by kernel_rfl) (fun _ _ _ h => h) (Or.inl ⟨by rfl, ?_⟩) (by assumption) ?_
        rotate_left
        · (intro w hSw; (try dsimp only at hSw); go_simp; (try with_reducible rfl))
        try simp only [Act.put, List.getElem_toArray, List.getElem_cons_succ, List.getElem_cons_zero, List.setIfInBounds_toArray, List.set_cons_zero, List.set_cons_succ]
        refine wpAnyH_take (i := 13) (v := ?_) rfl (by kernel_rfl) (by kernel_rfl) (by kernel_rfl) (fun _ _ _ h => h) (Or.inl ⟨by rfl, ?_⟩) (by assumption) ?_
        rotate_left
        · (intro w hSw; (try dsimp only at hSw); go_simp; (try with_reducible rfl))
        try simp only [Act.put, List.getElem_toArray, List.getElem_cons_succ, List.getElem_cons_zero, List.setIfInBounds_toArray, List.set_cons_zero, List.set_cons_succ]
        refine wpAnyH_take (i := 14) (v := ?_) rfl (by kernel_rfl) (by kernel_rfl) (by kernel_rfl) (fun _ _ _ h => h) (Or.inl ⟨by rfl, ?_⟩) (by assumption) ?_
        rotate_left
        · (intro w hSw; (try dsimp only at hSw); go_simp; (try with_reducible rfl))
        try simp only [Act.put, List.getElem_toArray, List.getElem_cons_succ, List.getElem_cons_zero, List.setIfInBounds_toArray, List.set_cons_zero, List.set_cons_succ]
        refine wpAnyH_take (i := 15) (v := ?_) rfl (by kernel_rfl) (by kernel_rfl) (by kernel_rfl) (fun _ _ _ h => h) (Or.inl ⟨by rfl, ?_⟩) (by assumption) ?_
        rotate_left
        · (intro w hSw; (try dsimp only at hSw); go_simp; (try with_reducible rfl))
        try simp only [Act.put, List.getElem_toArray, List.getElem_cons_succ, List.getElem_cons_zero, List.setIfInBounds_toArray, List.set_cons_zero, List.set_cons_succ]
        refine wpAnyH_take (i := 17) (v := ?_) rfl (by kernel_rfl) (by kernel_rfl) (by kernel_rfl) (fun _ _ _ h => h) (Or.inl ⟨by rfl, ?_⟩) (by assumption) ?_
        rotate_left
        · (intro w hSw; (try dsimp only at hSw); go_simp; (try with_reducible rfl))
        try simp only [Act.put, List.getElem_toArray, List.getElem_cons_succ, List.getElem_cons_zero, List.setIfInBounds_toArray, List.set_cons_zero, List.set_cons_succ]
        refine wpAnyH_take (i := 18) (v := ?_) rfl (by kernel_rfl) (by kernel_rfl) (by kernel_rfl) (fun _ _ _ h => h) (Or.inl ⟨by rfl, ?_⟩) (by assumption) ?_
        rotate_left
        · (intro w hSw; (try dsimp only at hSw); go_simp; (try with_reducible rfl))
        try simp only [Act.put, List.getElem_toArray, List.getElem_cons_succ, List.getElem_cons_zero, List.setIfInBounds_toArray, List.set_cons_zero, List.set_cons_succ]
        refine wpAnyH_ready (rs := [9, 16]) (by kernel_rfl) (by simp) ?_
        refine AllReadyH.cons rfl (fun K hK => ?_) (AllReadyH.cons rfl (fun K hK => ?_) AllReadyH.nil)
        · go_simp
          refine hK.out _ _ f1 (fun hHeld => ?_)
          clear hK K
          try simp only [Act.put, List.getElem_toArray, List.getElem_cons_succ, List.getElem_cons_zero, List.setIfInBounds_toArray, List.set_cons_zero, List.set_cons_succ]
          refine wpAnyH_ready (rs := [16]) (by kernel_rfl) (by simp) ?_
          refine (AllReadyH.cons rfl (fun K hK => ?_) AllReadyH.nil)
          go_simp
          refine (hP.out _ HBW.out.drew).mono ?_
          rintro e w2 ⟨hb2, rfl⟩
          have HB2 := Kept.mk (bstep HBW.out.drew hb2)
          have HR2 : Kept (Below wr.heap.size wr w2) := ⟨(Below.refl _ _).drew.trans hb2⟩
          have f2 := (HR2.out.cell (p := ⟨b, 0, none⟩) (by simp only []; omega)).trans f1
          have t2 := (HR2.out.cell (p := ⟨g, s + j, none⟩) (by simp only []; omega)).trans t1
          clear hb2
          refine hK.out _ _ f2 (fun hHeld => ?_)
          clear hK K
          try simp only [Act.put, List.getElem_toArray, List.getElem_cons_succ, List.getElem_cons_zero, List.setIfInBounds_toArray, List.set_cons_zero, List.set_cons_succ]
          refine wpAnyH_ready (rs := [19]) (by kernel_rfl) (by simp) ?_
          refine (AllReadyH.cons rfl (fun K hK => ?_) AllReadyH.nil)
          go_simp
          refine (hS.out _ HB2.out).mono ?_
          rintro e w3 ⟨hb3, rfl⟩
          have HB3 := Kept.mk (bstep HB2.out hb3)
          have HR3 := Kept.mk (bstep HR2.out hb3)
          have f3 := (hb3.cell (p := ⟨b, 0, none⟩) (by have := HR2.out.size; simp only []; omega)).trans f2
          have t3 := (hb3.cell (p := ⟨g, s + j, none⟩) (by have := HR2.out.size; simp only []; omega)).trans t2
          have HW3 := Kept.mk (hwv.out.below HR3.out)
          have z3 := HW3.out.free (s + j)
          clear hb3
          refine hK.out _ _ f3 (fun hHeld => ?_)
          clear hK K
          try simp only [Act.put, List.getElem_toArray, List.getElem_cons_succ, List.getElem_cons_zero, List.setIfInBounds_toArray, List.set_cons_zero, List.set_cons_succ]
          refine wpAnyH_take (i := 20) (v := ?_) rfl (by kernel_rfl) (by kernel_rfl) (by kernel_rfl) (fun _ _ _ h => h) (Or.inl ⟨by rfl, ?_⟩) (by assumption) ?_
          rotate_left
          · (intro w hSw; (try dsimp only at hSw); go_simp; (try with_reducible rfl))
          try simp only [Act.put, List.getElem_toArray, List.getElem_cons_succ, List.getElem_cons_zero, List.setIfInBounds_toArray, List.set_cons_zero, List.set_cons_succ]
          refine wpAnyH_ready (rs := [21]) (by kernel_rfl) (by simp) ?_
          refine (AllReadyH.cons rfl (fun K hK => ?_) AllReadyH.nil)
          go_simp
          have f4 : (w3.setCell ⟨g, s + j, none⟩ (.int .i64 v)).cell? ⟨b, 0, none⟩ = some (.iface T x) := (World.cell?_of_block (heap_setCell_other w3 ⟨g, s + j, none⟩ b _ (by simp; omega))).trans f3
          refine hK.out _ _ f4 (fun hHeld => ?_)
          clear hK K
          try simp only [Act.put, List.getElem_toArray, List.getElem_cons_succ, List.getElem_cons_zero, List.setIfInBounds_toArray, List.set_cons_zero, List.set_cons_succ]
          refine wpAnyH_done (by kernel_rfl) ?_ _
          go_wp2
          go_roundw
          case rel => exact ⟨j + 1, by omega, by go_num, ⟨by have := HW3.out.set (i := s + j) v; rw [HV.out] at this; exact this⟩, ⟨growTrans hgr.out (growSet (growBelow HR3.out) _ _)⟩⟩
          case measure => simp [intOf] <;> omega
        · go_simp
          refine (hP.out _ HBW.out.drew).mono ?_
          rintro e w2 ⟨hb2, rfl⟩
          have HB2 := Kept.mk (bstep HBW.out.drew hb2)
          have HR2 : Kept (Below wr.heap.size wr w2) := ⟨(Below.refl _ _).drew.trans hb2⟩
          have f2 := (HR2.out.cell (p := ⟨b, 0, none⟩) (by simp only []; omega)).trans f1
          have t2 := (HR2.out.cell (p := ⟨g, s + j, none⟩) (by simp only []; omega)).trans t1
          clear hb2
          refine hK.out _ _ f2 (fun hHeld => ?_)
          clear hK K
          try simp only [Act.put, List.getElem_toArray, List.getElem_cons_succ, List.getElem_cons_zero, List.setIfInBounds_toArray, List.set_cons_zero, List.set_cons_succ]
          refine wpAnyH_ready (rs := [9]) (by kernel_rfl) (by simp) ?_
          refine (AllReadyH.cons rfl (fun K hK => ?_) AllReadyH.nil)
          go_simp
          refine hK.out _ _ f2 (fun hHeld => ?_)
          clear hK K
          try simp only [Act.put, List.getElem_toArray, List.getElem_cons_succ, List.getElem_cons_zero, List.setIfInBounds_toArray, List.set_cons_zero, List.set_cons_succ]
          refine wpAnyH_ready (rs := [19]) (by kernel_rfl) (by simp) ?_
          refine (AllReadyH.cons rfl (fun K hK => ?_) AllReadyH.nil)
          go_simp
          refine (hS.out _ HB2.out).mono ?_
          rintro e w3 ⟨hb3, rfl⟩
          have HB3 := Kept.mk (bstep HB2.out hb3)
          have HR3 := Kept.mk (bstep HR2.out hb3)
          have f3 := (hb3.cell (p := ⟨b, 0, none⟩) (by have := HR2.out.size; simp only []; omega)).trans f2
          have t3 := (hb3.cell (p := ⟨g, s + j, none⟩) (by have := HR2.out.size; simp only []; omega)).trans t2
          have HW3 := Kept.mk (hwv.out.below HR3.out)
          have z3 := HW3.out.free (s + j)
          clear hb3
          refine hK.out _ _ f3 (fun hHeld => ?_)
          clear hK K
          try simp only [Act.put, List.getElem_toArray, List.getElem_cons_succ, List.getElem_cons_zero, List.setIfInBounds_toArray, List.set_cons_zero, List.set_cons_succ]
          refine wpAnyH_take (i := 20) (v := ?_) rfl (by kernel_rfl) (by kernel_rfl) (by kernel_rfl) (fun _ _ _ h => h) (Or.inl ⟨by rfl, ?_⟩) (by assumption) ?_
          rotate_left
          · (intro w hSw; (try dsimp only at hSw); go_simp; (try with_reducible rfl))
          try simp only [Act.put, List.getElem_toArray, List.getElem_cons_succ, List.getElem_cons_zero, List.setIfInBounds_toArray, List.set_cons_zero, List.set_cons_succ]
          refine wpAnyH_ready (rs := [21]) (by kernel_rfl) (by simp) ?_
          refine (AllReadyH.cons rfl (fun K hK => ?_) AllReadyH.nil)
          go_simp
          have f4 : (w3.setCell ⟨g, s + j, none⟩ (.int .i64 v)).cell? ⟨b, 0, none⟩ = some (.iface T x) := (World.cell?_of_block (heap_setCell_other w3 ⟨g, s + j, none⟩ b _ (by simp; omega))).trans f3
          refine hK.out _ _ f4 (fun hHeld => ?_)
          clear hK K
          try simp only [Act.put, List.getElem_toArray, List.getElem_cons_succ, List.getElem_cons_zero, List.setIfInBounds_toArray, List.set_cons_zero, List.set_cons_succ]
          refine wpAnyH_done (by kernel_rfl) ?_ _
          go_wp2
          go_roundw
          case rel => exact ⟨j + 1, by omega, by go_num, ⟨by have := HW3.out.set (i := s + j) v; rw [HV.out] at this; exact this⟩, ⟨growTrans hgr.out (growSet (growBelow HR3.out) _ _)⟩⟩
          case measure => simp [intOf] <;> omega
      · obtain rfl : j = q.length := by omega
        go_wp2
        go_end0
        exact ⟨rfl, hgr.out, hwv.out⟩
end Go.Proofs.YtdnheaafcbihbaaGreat
