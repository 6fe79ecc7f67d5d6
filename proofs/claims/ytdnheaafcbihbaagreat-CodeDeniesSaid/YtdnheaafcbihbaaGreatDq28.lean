/-
  Texts of the proof, merged by program: Cfi.
-/
import Derived.Test.YtdnheaafcbihbaaGreatDq27
set_option linter.unusedSimpArgs false
set_option linter.unusedVariables false
set_option maxHeartbeats 16000000
namespace Go.Proofs.YtdnheaafcbihbaaGreat
open Go Go.RowKit Go.Deep
open FFld (ints)
theorem bxs_bel5 {w W : World} {os : List Obj} (h : Bxs w os W) : Below w.heap.size w W := h.1
def fitP (D : FFld.FD) (P Wd ql el : List Nat) (i : Nat) : Bool := (List.range i).all fun j => decide ((FFld.valsF D ql P P.length)[j]?.getD 0 = FFld.pmul D.p D.k D.m ((FFld.valsF D el P P.length)[j]?.getD 0) D.k (Wd[j]?.getD 0))
set_option maxRecDepth 20000 in
theorem cfits_long {D : FFld.FD} {b : Nat} (hD : D.Ok) (pa ea qa va : Option Addr) (pc ec qc vc k rad np nq ne : Nat) (P Wd : List Nat) (Q E : List Int) (w : World) (hf : FldB D w b) (hp : Sl .i64 w (.slice pa np pc) (ints P)) (hw : Sl .i64 w (.slice ea np ec) (ints Wd)) (hq : Sl .i64 w (.slice qa nq qc) Q) (he : Sl .i64 w (.slice va ne vc) E) (lp : P.length = np) (lw : Wd.length = np) (lq : Q.length = nq) (le : E.length = ne) (hpq : ∀ a ∈ P, a < D.p ^ D.k) (hwq : ∀ a ∈ Wd, a < D.p ^ D.k) (hr : rad <= np) (hnp : np <= 64) (hk : k <= 64) (hno : np < nq + rad \/ rad + 1 < ne) :
 Calls Tryz.prog 98 #[rcv b (.slice pa np pc) (.slice ea np ec) k rad, .agg #[.slice qa nq qc, .slice va ne vc]] w (RB w (.bool false)) := by
 have HX0 : Kept (Bxs w [rcbox b (.slice pa np pc) (.slice ea np ec) k rad, fabox (.slice qa nq qc) (.slice va ne vc)] ((w.alloc (rcbox b (.slice pa np pc) (.slice ea np ec) k rad)).alloc (fabox (.slice qa nq qc) (.slice va ne vc)))) := ⟨((Bxs.start w).alloc (by simp) _).alloc (by simp) _⟩
 have HLO := Kept.mk (fun (W : World) => clongest_any b np pc k rad pa (.slice ea np ec) W hr (by omega))
 have HCQ := Kept.mk (fun (W : World) (hW : Below w.heap.size w W) => fcheck_any (.slice qa nq qc) Q W (hf.below hW) (hq.below hW))
 have HCE := Kept.mk (fun (W : World) (hW : Below w.heap.size w W) => fcheck_any (.slice va ne vc) E W (hf.below hW) (he.below hW))
 have hnl : nq <= 9223372036854775807 /\ ne <= 9223372036854775807 := by
  obtain ⟨_, _, e, h1, h2, _⟩ := hq
  obtain ⟨_, _, e', h1', h2', _⟩ := he
  unfold maxLen at h2 h2'
  omega
 obtain ⟨hnl1, hnl2⟩ := hnl
 clear hf hp hw hq he lp lw lq le hpq hwq HCQ HCE
 by_cases h1 : np < nq + rad
 ·have g1 : decide (((np - rad : Nat) : Int) < (nq : Int)) = true := decide_eq_true (by omega)
  have q1 : np - rad < nq := by omega
  have q2 : ((np - rad : Nat) : Int) < (nq : Int) := by omega
  have q3 : ¬ (nq <= np - rad) := by omega
  have q4 : ¬ ((nq : Int) <= ((np - rad : Nat) : Int)) := by omega
  clear h1 hno
  go_enter Tryz.func98, Tryz.ntmps98
  have hbx := HX0.out.1
  obtain ⟨c0, c1, c2, c3, c4⟩ := five_cells_ HX0.out.b0
  obtain ⟨d0, d1, _, _⟩ := two_cells HX0.out.b1
  go_wp2_with fail
  go_upto_region 1 with fail
  refine wp_region_held_drew (S := (fun w' => w'.cell? ⟨w.heap.size, 0, none⟩ = some (.pointer (some ⟨b, 0, none⟩)) /\ w'.cell? ⟨w.heap.size, 1, none⟩ = some (.slice pa np pc) /\ w'.cell? ⟨w.heap.size, 2, none⟩ = some (.slice ea np ec) /\ w'.cell? ⟨w.heap.size, 3, none⟩ = some (.int .i64 k) /\ w'.cell? ⟨w.heap.size, 4, none⟩ = some (.int .i64 rad) /\ w'.cell? ⟨w.heap.size + 1, 0, none⟩ = some (.slice qa nq qc) /\ w'.cell? ⟨w.heap.size + 1, 1, none⟩ = some (.slice va ne vc))) (by kernel_rfl) ⟨c0, c1, c2, c3, c4, d0, d1⟩ (fun hHeld => ?_)
  refine wpAnyH_take (i := 0) (v := ?_) rfl (by kernel_rfl) (by kernel_rfl) (by kernel_rfl) (fun _ _ _ h => h) (Or.inl ⟨by rfl, ?_⟩) (by assumption) ?_
  rotate_left
  ·(intro w hSw; (try dsimp only at hSw); go_simp; (try with_reducible rfl))
  try simp only [Act.put, List.getElem_toArray, List.getElem_cons_succ, List.getElem_cons_zero, List.setIfInBounds_toArray, List.set_cons_zero, List.set_cons_succ]
  refine wpAnyH_take (i := 1) (v := ?_) rfl (by kernel_rfl) (by kernel_rfl) (by kernel_rfl) (fun _ _ _ h => h) (Or.inl ⟨by rfl, ?_⟩) (by assumption) ?_
  rotate_left
  ·(intro w hSw; (try dsimp only at hSw); go_simp; (try with_reducible rfl))
  try simp only [Act.put, List.getElem_toArray, List.getElem_cons_succ, List.getElem_cons_zero, List.setIfInBounds_toArray, List.set_cons_zero, List.set_cons_succ]
  refine wpAnyH_take (i := 2) (v := ?_) rfl (by kernel_rfl) (by kernel_rfl) (by kernel_rfl) (fun _ _ _ h => h) (Or.inl ⟨by rfl, ?_⟩) (by assumption) ?_
  rotate_left
  ·(intro w hSw; (try dsimp only at hSw); go_simp; (try with_reducible rfl))
  try simp only [Act.put, List.getElem_toArray, List.getElem_cons_succ, List.getElem_cons_zero, List.setIfInBounds_toArray, List.set_cons_zero, List.set_cons_succ]
  refine wpAnyH_take (i := 3) (v := ?_) rfl (by kernel_rfl) (by kernel_rfl) (by kernel_rfl) (fun _ _ _ h => h) (Or.inl ⟨by rfl, ?_⟩) (by assumption) ?_
  rotate_left
  ·(intro w hSw; (try dsimp only at hSw); go_simp; (try with_reducible rfl))
  try simp only [Act.put, List.getElem_toArray, List.getElem_cons_succ, List.getElem_cons_zero, List.setIfInBounds_toArray, List.set_cons_zero, List.set_cons_succ]
  refine wpAnyH_ready (rs := [4]) (by kernel_rfl) (by simp) ?_
  refine (AllReadyH.cons rfl (fun K hK => ?_) AllReadyH.nil)
  go_simp
  (with_reducible refine (HLO.out _).mono ?_)
  rintro e v1 ⟨hb1, rfl⟩
  have HB1 := Kept.mk hb1
  have jc0 := belowCell hb1 (show (((w.alloc (rcbox b (.slice pa np pc) (.slice ea np ec) k rad)).alloc (fabox (.slice qa nq qc) (.slice va ne vc)))).drew.cell? _ = _ from c0)
  have jc1 := belowCell hb1 (show (((w.alloc (rcbox b (.slice pa np pc) (.slice ea np ec) k rad)).alloc (fabox (.slice qa nq qc) (.slice va ne vc)))).drew.cell? _ = _ from c1)
  have jc2 := belowCell hb1 (show (((w.alloc (rcbox b (.slice pa np pc) (.slice ea np ec) k rad)).alloc (fabox (.slice qa nq qc) (.slice va ne vc)))).drew.cell? _ = _ from c2)
  have jc3 := belowCell hb1 (show (((w.alloc (rcbox b (.slice pa np pc) (.slice ea np ec) k rad)).alloc (fabox (.slice qa nq qc) (.slice va ne vc)))).drew.cell? _ = _ from c3)
  have jc4 := belowCell hb1 (show (((w.alloc (rcbox b (.slice pa np pc) (.slice ea np ec) k rad)).alloc (fabox (.slice qa nq qc) (.slice va ne vc)))).drew.cell? _ = _ from c4)
  have jd0 := belowCell hb1 (show (((w.alloc (rcbox b (.slice pa np pc) (.slice ea np ec) k rad)).alloc (fabox (.slice qa nq qc) (.slice va ne vc)))).drew.cell? _ = _ from d0)
  have jd1 := belowCell hb1 (show (((w.alloc (rcbox b (.slice pa np pc) (.slice ea np ec) k rad)).alloc (fabox (.slice qa nq qc) (.slice va ne vc)))).drew.cell? _ = _ from d1)
  refine hK.out _ _ ⟨jc0, jc1, jc2, jc3, jc4, jd0, jd1⟩ (fun hHeld => ?_)
  clear hK K
  try simp only [Act.put, List.getElem_toArray, List.getElem_cons_succ, List.getElem_cons_zero, List.setIfInBounds_toArray, List.set_cons_zero, List.set_cons_succ]
  refine wpAnyH_take (i := 5) (v := ?_) rfl (by kernel_rfl) (by kernel_rfl) (by kernel_rfl) (fun _ _ _ h => h) (Or.inl ⟨by rfl, ?_⟩) (by assumption) ?_
  rotate_left
  ·(intro w hSw; (try dsimp only at hSw); go_simp; (try with_reducible rfl))
  try simp only [Act.put, List.getElem_toArray, List.getElem_cons_succ, List.getElem_cons_zero, List.setIfInBounds_toArray, List.set_cons_zero, List.set_cons_succ]
  refine wpAnyH_take (i := 6) (v := ?_) rfl (by kernel_rfl) (by kernel_rfl) (by kernel_rfl) (fun _ _ _ h => h) (Or.inl ⟨by rfl, ?_⟩) (by assumption) ?_
  rotate_left
  ·(intro w hSw; (try dsimp only at hSw); go_simp; (try with_reducible rfl))
  try simp only [Act.put, List.getElem_toArray, List.getElem_cons_succ, List.getElem_cons_zero, List.setIfInBounds_toArray, List.set_cons_zero, List.set_cons_succ]
  refine wpAnyH_take (i := 7) (v := undef) rfl (by kernel_rfl) (by kernel_rfl) (by kernel_rfl) (fun _ _ _ h => h) (Or.inr ⟨by rfl, rfl⟩) (by assumption) ?_
  try simp only [Act.put, List.getElem_toArray, List.getElem_cons_succ, List.getElem_cons_zero, List.setIfInBounds_toArray, List.set_cons_zero, List.set_cons_succ]
  refine wpAnyH_take (i := 8) (v := undef) rfl (by kernel_rfl) (by kernel_rfl) (by kernel_rfl) (fun _ _ _ h => h) (Or.inr ⟨by rfl, rfl⟩) (by assumption) ?_
  try simp only [Act.put, List.getElem_toArray, List.getElem_cons_succ, List.getElem_cons_zero, List.setIfInBounds_toArray, List.set_cons_zero, List.set_cons_succ]
  refine wpAnyH_take (i := 9) (v := undef) rfl (by kernel_rfl) (by kernel_rfl) (by kernel_rfl) (fun _ _ _ h => h) (Or.inr ⟨by rfl, rfl⟩) (by assumption) ?_
  try simp only [Act.put, List.getElem_toArray, List.getElem_cons_succ, List.getElem_cons_zero, List.setIfInBounds_toArray, List.set_cons_zero, List.set_cons_succ]
  refine wpAnyH_take (i := 10) (v := undef) rfl (by kernel_rfl) (by kernel_rfl) (by kernel_rfl) (fun _ _ _ h => h) (Or.inr ⟨by rfl, rfl⟩) (by assumption) ?_
  try simp only [Act.put, List.getElem_toArray, List.getElem_cons_succ, List.getElem_cons_zero, List.setIfInBounds_toArray, List.set_cons_zero, List.set_cons_succ]
  refine wpAnyH_take (i := 11) (v := undef) rfl (by kernel_rfl) (by kernel_rfl) (by kernel_rfl) (fun _ _ _ h => h) (Or.inr ⟨by rfl, rfl⟩) (by assumption) ?_
  try simp only [Act.put, List.getElem_toArray, List.getElem_cons_succ, List.getElem_cons_zero, List.setIfInBounds_toArray, List.set_cons_zero, List.set_cons_succ]
  refine wpAnyH_take (i := 12) (v := undef) rfl (by kernel_rfl) (by kernel_rfl) (by kernel_rfl) (fun _ _ _ h => h) (Or.inr ⟨by rfl, rfl⟩) (by assumption) ?_
  try simp only [Act.put, List.getElem_toArray, List.getElem_cons_succ, List.getElem_cons_zero, List.setIfInBounds_toArray, List.set_cons_zero, List.set_cons_succ]
  refine wpAnyH_take (i := 13) (v := undef) rfl (by kernel_rfl) (by kernel_rfl) (by kernel_rfl) (fun _ _ _ h => h) (Or.inr ⟨by rfl, rfl⟩) (by assumption) ?_
  try simp only [Act.put, List.getElem_toArray, List.getElem_cons_succ, List.getElem_cons_zero, List.setIfInBounds_toArray, List.set_cons_zero, List.set_cons_succ]
  refine wpAnyH_take (i := 14) (v := ?_) rfl (by kernel_rfl) (by kernel_rfl) (by kernel_rfl) (fun _ _ _ h => h) (Or.inl ⟨by rfl, ?_⟩) (by assumption) ?_
  rotate_left
  ·(intro w hSw; (try dsimp only at hSw); go_simp; (try with_reducible rfl))
  try simp only [Act.put, List.getElem_toArray, List.getElem_cons_succ, List.getElem_cons_zero, List.setIfInBounds_toArray, List.set_cons_zero, List.set_cons_succ]
  refine wpAnyH_take (i := 15) (v := ?_) rfl (by kernel_rfl) (by kernel_rfl) (by kernel_rfl) (fun _ _ _ h => h) (Or.inl ⟨by rfl, ?_⟩) (by assumption) ?_
  rotate_left
  ·(intro w hSw; (try dsimp only at hSw); go_simp; (try with_reducible rfl))
  try simp only [Act.put, List.getElem_toArray, List.getElem_cons_succ, List.getElem_cons_zero, List.setIfInBounds_toArray, List.set_cons_zero, List.set_cons_succ]
  refine wpAnyH_done (by kernel_rfl) ?_ _
  have HBE := Kept.mk (bstep hbx.drew HB1.out)
  go_wp2
  go_ret
  exact ⟨HBE.out, rfl⟩
 ·have g1 : decide (((np - rad : Nat) : Int) < (nq : Int)) = false := decide_eq_false (by omega)
  have q1 : ¬ (np - rad < nq) := by omega
  have q2 : ¬ (((np - rad : Nat) : Int) < (nq : Int)) := by omega
  have q3 : nq <= np - rad := by omega
  have q4 : (nq : Int) <= ((np - rad : Nat) : Int) := by omega
  have q5 : rad + 1 < ne := by omega
  have q6 : (rad : Int) + 1 < (ne : Int) := by omega
  have g2 : decide ((rad : Int) + 1 < (ne : Int)) = true := decide_eq_true (by omega)
  have ew : IntKind.i64.wrap ((rad : Int) + 1) = (rad : Int) + 1 := wi (by omega) (by omega)
  clear h1 hno
  go_enter Tryz.func98, Tryz.ntmps98
  have hbx := HX0.out.1
  obtain ⟨c0, c1, c2, c3, c4⟩ := five_cells_ HX0.out.b0
  obtain ⟨d0, d1, _, _⟩ := two_cells HX0.out.b1
  go_wp2_with fail
  go_upto_region 1 with fail
  go_region_held3 (fun w' => w'.cell? ⟨w.heap.size, 0, none⟩ = some (.pointer (some ⟨b, 0, none⟩)) /\ w'.cell? ⟨w.heap.size, 1, none⟩ = some (.slice pa np pc) /\ w'.cell? ⟨w.heap.size, 2, none⟩ = some (.slice ea np ec) /\ w'.cell? ⟨w.heap.size, 3, none⟩ = some (.int .i64 k) /\ w'.cell? ⟨w.heap.size, 4, none⟩ = some (.int .i64 rad) /\ w'.cell? ⟨w.heap.size + 1, 0, none⟩ = some (.slice qa nq qc) /\ w'.cell? ⟨w.heap.size + 1, 1, none⟩ = some (.slice va ne vc))
   (first | exact ⟨jc0, jc1, jc2, jc3, jc4, jd0, jd1⟩ | exact ⟨c0, c1, c2, c3, c4, d0, d1⟩ | go_keep)
   ((first
     | (go_at_call 164; (with_reducible refine (HLO.out _).mono ?_); rintro e v1 ⟨hb1, rfl⟩; have HB1 := Kept.mk (bstep (show Below ((w.alloc (rcbox b (.slice pa np pc) (.slice ea np ec) k rad)).alloc (fabox (.slice qa nq qc) (.slice va ne vc))).heap.size ((w.alloc (rcbox b (.slice pa np pc) (.slice ea np ec) k rad)).alloc (fabox (.slice qa nq qc) (.slice va ne vc))) _ from (by first | exact Below.refl _ _ | exact (Below.refl _ _).drew)) hb1); have jc0 := belowCell HB1.out c0; have jc1 := belowCell HB1.out c1; have jc2 := belowCell HB1.out c2; have jc3 := belowCell HB1.out c3; have jc4 := belowCell HB1.out c4; have jd0 := belowCell HB1.out d0; have jd1 := belowCell HB1.out d1; clear hb1)))
  have HBE := Kept.mk (bstep hbx HB1.out)
  go_wp2
  go_ret
  exact ⟨HBE.out, rfl⟩
set_option maxRecDepth 20000 in
theorem cfits_bad {D : FFld.FD} {b : Nat} (hD : D.Ok) (pa ea qa va : Option Addr) (pc ec qc vc k rad np nq ne : Nat) (P Wd : List Nat) (Q E : List Int) (w : World) (hf : FldB D w b) (hp : Sl .i64 w (.slice pa np pc) (ints P)) (hw : Sl .i64 w (.slice ea np ec) (ints Wd)) (hq : Sl .i64 w (.slice qa nq qc) Q) (he : Sl .i64 w (.slice va ne vc) E) (lp : P.length = np) (lw : Wd.length = np) (lq : Q.length = nq) (le : E.length = ne) (hpq : ∀ a ∈ P, a < D.p ^ D.k) (hwq : ∀ a ∈ Wd, a < D.p ^ D.k) (hr : rad <= np) (hnp : np <= 64) (hk : k <= 64) (hlq : nq + rad <= np) (hle : ne <= rad + 1) (hno : (cErr D Q ≠ 0 \/ cErr D E ≠ 0) \/ nq = 0 /\ ne = 0) :
 Calls Tryz.prog 98 #[rcv b (.slice pa np pc) (.slice ea np ec) k rad, .agg #[.slice qa nq qc, .slice va ne vc]] w (RB w (.bool false)) := by
 have HX0 : Kept (Bxs w [rcbox b (.slice pa np pc) (.slice ea np ec) k rad, fabox (.slice qa nq qc) (.slice va ne vc)] ((w.alloc (rcbox b (.slice pa np pc) (.slice ea np ec) k rad)).alloc (fabox (.slice qa nq qc) (.slice va ne vc)))) := ⟨((Bxs.start w).alloc (by simp) _).alloc (by simp) _⟩
 have HLO := Kept.mk (fun (W : World) => clongest_any b np pc k rad pa (.slice ea np ec) W hr (by omega))
 have HCQ := Kept.mk (fun (W : World) (hW : Below w.heap.size w W) => fcheck_any (.slice qa nq qc) Q W (hf.below hW) (hq.below hW))
 have HCE := Kept.mk (fun (W : World) (hW : Below w.heap.size w W) => fcheck_any (.slice va ne vc) E W (hf.below hW) (he.below hW))
 have hnl : nq <= 9223372036854775807 /\ ne <= 9223372036854775807 := by
  obtain ⟨_, _, e, h1, h2, _⟩ := hq
  obtain ⟨_, _, e', h1', h2', _⟩ := he
  unfold maxLen at h2 h2'
  omega
 obtain ⟨hnl1, hnl2⟩ := hnl
 have hcl1 := cErr_le D Q
 have hcl2 := cErr_le D E
 obtain ⟨x, hx⟩ : ∃ x, cErr D Q = x := ⟨_, rfl⟩
 obtain ⟨y, hy⟩ : ∃ x, cErr D E = x := ⟨_, rfl⟩
 rw [hx] at HCQ hno hcl1
 rw [hy] at HCE hno hcl2
 clear hf hp hw hq he lp lw lq le hpq hwq hx hy
 have g1 : decide (((np - rad : Nat) : Int) < (nq : Int)) = false := decide_eq_false (by omega)
 have g2 : decide ((rad : Int) + 1 < (ne : Int)) = false := decide_eq_false (by omega)
 have q1 : ¬ (np - rad < nq) := by omega
 have q2 : ¬ (((np - rad : Nat) : Int) < (nq : Int)) := by omega
 have q3 : nq <= np - rad := by omega
 have q4 : (nq : Int) <= ((np - rad : Nat) : Int) := by omega
 have q5 : ¬ (rad + 1 < ne) := by omega
 have q6 : ¬ ((rad : Int) + 1 < (ne : Int)) := by omega
 have q7 : ne <= rad + 1 := by omega
 have q8 : (ne : Int) <= (rad : Int) + 1 := by omega
 have ew : IntKind.i64.wrap ((rad : Int) + 1) = (rad : Int) + 1 := wi (by omega) (by omega)
 go_enter Tryz.func98, Tryz.ntmps98
 have hbx := HX0.out.1
 obtain ⟨c0, c1, c2, c3, c4⟩ := five_cells_ HX0.out.b0
 obtain ⟨d0, d1, _, _⟩ := two_cells HX0.out.b1
 go_wp2_with fail
 go_upto_region 1 with fail
 go_region_held3 (fun w' => w'.cell? ⟨w.heap.size, 0, none⟩ = some (.pointer (some ⟨b, 0, none⟩)) /\ w'.cell? ⟨w.heap.size, 1, none⟩ = some (.slice pa np pc) /\ w'.cell? ⟨w.heap.size, 2, none⟩ = some (.slice ea np ec) /\ w'.cell? ⟨w.heap.size, 3, none⟩ = some (.int .i64 k) /\ w'.cell? ⟨w.heap.size, 4, none⟩ = some (.int .i64 rad) /\ w'.cell? ⟨w.heap.size + 1, 0, none⟩ = some (.slice qa nq qc) /\ w'.cell? ⟨w.heap.size + 1, 1, none⟩ = some (.slice va ne vc))
  (first | exact ⟨jc0, jc1, jc2, jc3, jc4, jd0, jd1⟩ | exact ⟨c0, c1, c2, c3, c4, d0, d1⟩ | go_keep)
  ((first
    | (go_at_call 164; (with_reducible refine (HLO.out _).mono ?_); rintro e v1 ⟨hb1, rfl⟩; have HB1 := Kept.mk (bstep (show Below ((w.alloc (rcbox b (.slice pa np pc) (.slice ea np ec) k rad)).alloc (fabox (.slice qa nq qc) (.slice va ne vc))).heap.size ((w.alloc (rcbox b (.slice pa np pc) (.slice ea np ec) k rad)).alloc (fabox (.slice qa nq qc) (.slice va ne vc))) _ from (by first | exact Below.refl _ _ | exact (Below.refl _ _).drew)) hb1); have jc0 := belowCell HB1.out c0; have jc1 := belowCell HB1.out c1; have jc2 := belowCell HB1.out c2; have jc3 := belowCell HB1.out c3; have jc4 := belowCell HB1.out c4; have jd0 := belowCell HB1.out d0; have jd1 := belowCell HB1.out d1; clear hb1)))
 have HX1 := Kept.mk (HX0.out.below HB1.out)
 clear HB1 jc0 jc1 jc2 jc3 jc4 jd0 jd1 c0 c1 c2 c3 c4 d0 d1 hbx HX0 q1 q2 q3 q4 q5 q6 q7 q8 ew
 have hbx := bxs_bel5 HX1.out
 obtain ⟨c0, c1, c2, c3, c4⟩ := five_cells_ HX1.out.b0
 obtain ⟨d0, d1, _, _⟩ := two_cells HX1.out.b1
 have hcs : (((x : Int) != 0) = true /\ ((x : Int) == 0) = false) \/ ((x : Int) != 0) = false /\ (((y : Int) != 0) = true /\ ((y : Int) == 0) = false \/ ((y : Int) != 0) = false /\ ((nq : Int) == 0) = true /\ ((ne : Int) == 0) = true) := by
  by_cases h3 : x = 0
  ·refine .inr ⟨by simp [h3], ?_⟩
   by_cases h4 : y = 0
   ·exact .inr ⟨by simp [h4], by rw [beq_iff_eq]; omega, by rw [beq_iff_eq]; omega⟩
   ·exact .inl ⟨by rw [bne_iff_ne]; omega, by rw [beq_eq_false_iff_ne]; omega⟩
  ·exact .inl ⟨by rw [bne_iff_ne]; omega, by rw [beq_eq_false_iff_ne]; omega⟩
 clear hno hcl1 hcl2
 rcases hcs with ⟨e0, e1⟩ | ⟨e0, ⟨e2, e3⟩ | ⟨e2, e3, e4⟩⟩ <;> (
  go_wp2_with fail
  (with_reducible refine (HCQ.out _ hbx).mono ?_)
  rintro e w2 ⟨rfl, rfl⟩
  first
   | (go_wp2
      go_ret
      exact ⟨hbx, rfl⟩)
   | skip
  all_goals (
   go_wp2_with fail
   (with_reducible refine (HCE.out _ hbx).mono ?_)
   rintro e w3 ⟨rfl, rfl⟩
   go_wp2
   go_ret
   exact ⟨hbx, rfl⟩))
theorem fitP_next (D : FFld.FD) (P Wd ql el : List Nat) (i : Nat) : fitP D P Wd ql el (i + 1) = (fitP D P Wd ql el i && decide ((FFld.valsF D ql P P.length)[i]?.getD 0 = FFld.pmul D.p D.k D.m ((FFld.valsF D el P P.length)[i]?.getD 0) D.k (Wd[i]?.getD 0))) := by
 unfold fitP
 rw [List.range_succ, List.all_append]
 simp
theorem fitP_no {D : FFld.FD} {P Wd ql el : List Nat} {i n : Nat} (hi : i < n) (h : ¬ (FFld.valsF D ql P P.length)[i]?.getD 0 = FFld.pmul D.p D.k D.m ((FFld.valsF D el P P.length)[i]?.getD 0) D.k (Wd[i]?.getD 0)) : fitP D P Wd ql el n = false := by
 cases e : fitP D P Wd ql el n with
 | false => rfl
 | true =>
   unfold fitP at e
   rw [List.all_eq_true] at e
   exact absurd (of_decide_eq_true (e i (List.mem_range.2 hi))) h
set_option maxRecDepth 20000 in
theorem cfits_ok {D : FFld.FD} {b : Nat} (hD : D.Ok) (pa ea qa va : Option Addr) (pc ec qc vc k rad np nq ne : Nat) (P Wd ql el : List Nat) (w : World) (hf : FldB D w b) (hp : Sl .i64 w (.slice pa np pc) (ints P)) (hw : Sl .i64 w (.slice ea np ec) (ints Wd)) (hq : Sl .i64 w (.slice qa nq qc) (ints ql)) (he : Sl .i64 w (.slice va ne vc) (ints el)) (lp : P.length = np) (lw : Wd.length = np) (lq : ql.length = nq) (le : el.length = ne) (hpq : ∀ a ∈ P, a < D.p ^ D.k) (hwq : ∀ a ∈ Wd, a < D.p ^ D.k) (hr : rad <= np) (hnp : np <= 64) (hk : k <= 64) (hqq : ∀ a ∈ ql, a < D.p ^ D.k) (heq : ∀ a ∈ el, a < D.p ^ D.k) (tq : FFld.Tz ql) (te : FFld.Tz el) (hlq : nq + rad <= np) (hle : ne <= rad + 1) (hne : nq ≠ 0 \/ ne ≠ 0) :
 Calls Tryz.prog 98 #[rcv b (.slice pa np pc) (.slice ea np ec) k rad, .agg #[.slice qa nq qc, .slice va ne vc]] w (RB w (.bool (fitP D P Wd ql el np))) := by
 have HX0 : Kept (Bxs w [rcbox b (.slice pa np pc) (.slice ea np ec) k rad, fabox (.slice qa nq qc) (.slice va ne vc)] ((w.alloc (rcbox b (.slice pa np pc) (.slice ea np ec) k rad)).alloc (fabox (.slice qa nq qc) (.slice va ne vc)))) := ⟨((Bxs.start w).alloc (by simp) _).alloc (by simp) _⟩
 have HLO := Kept.mk (fun (W : World) => clongest_any b np pc k rad pa (.slice ea np ec) W hr (by omega))
 have HCQ := Kept.mk (fun (W : World) (hW : Below w.heap.size w W) => fcheck_any (.slice qa nq qc) (ints ql) W (hf.below hW) (hq.below hW))
 have HCE := Kept.mk (fun (W : World) (hW : Below w.heap.size w W) => fcheck_any (.slice va ne vc) (ints el) W (hf.below hW) (he.below hW))
 have hnl : nq <= 9223372036854775807 /\ ne <= 9223372036854775807 := by
  obtain ⟨_, _, e, h1, h2, _⟩ := hq
  obtain ⟨_, _, e', h1', h2', _⟩ := he
  unfold maxLen at h2 h2'
  omega
 obtain ⟨hnl1, hnl2⟩ := hnl
 rw [cErr_poly hqq tq (by omega)] at HCQ
 rw [cErr_poly heq te (by omega)] at HCE
 have hq6 : D.p ^ D.k <= 65536 := hD.pre.small
 have hqd : D.q = D.p ^ D.k := rfl
 have HVQ : Kept (∀ W, Below w.heap.size w W -> Calls Tryz.prog 87 #[.pointer (some ⟨b, 0, none⟩), .slice pa np pc, .slice qa nq qc] W (fun e w' => Below W.heap.size W w' /\ ∃ wa wc, e = .returned (.slice wa np wc) /\ Sl .i64 w' (.slice wa np wc) (ints (FFld.valsF D ql P np)))) := ⟨fun W hW => by
  have h := cvalues_any hD pa qa pc qc P ql W (hf.below hW) (by rw [lp]; exact hp.below hW) (by rw [lq]; exact hq.below hW) hpq hqq (by omega) (by omega)
  rw [lp, lq] at h
  exact h.mono fun e w' ⟨hb, he, hw⟩ => ⟨hb, _, np, he, hw.sl (by rw [FFld.valsF_len, lp]) (Nat.le_refl _) (by unfold maxLen; omega)⟩⟩
 have HVE : Kept (∀ W, Below w.heap.size w W -> Calls Tryz.prog 87 #[.pointer (some ⟨b, 0, none⟩), .slice pa np pc, .slice va ne vc] W (fun e w' => Below W.heap.size W w' /\ ∃ wa wc, e = .returned (.slice wa np wc) /\ Sl .i64 w' (.slice wa np wc) (ints (FFld.valsF D el P np)))) := ⟨fun W hW => by
  have h := cvalues_any hD pa va pc vc P el W (hf.below hW) (by rw [lp]; exact hp.below hW) (by rw [le]; exact he.below hW) hpq heq (by omega) (by omega)
  rw [lp, le] at h
  exact h.mono fun e w' ⟨hb, he, hw⟩ => ⟨hb, _, np, he, hw.sl (by rw [FFld.valsF_len, lp]) (Nat.le_refl _) (by unfold maxLen; omega)⟩⟩
 have HMU : Kept (∀ W x y, Below w.heap.size w W -> x < D.p ^ D.k -> y < D.p ^ D.k -> Calls Tryz.prog 82 #[.pointer (some ⟨b, 0, none⟩), .int .i64 (x : Nat), .int .i64 (y : Nat)] W (RB W (.int .i64 (FFld.pmul D.p D.k D.m x D.k y : Nat)))) := ⟨fun W x y hW hx hy => fmul_any (x : Int) (y : Int) W (hf.below hW) (by omega) (by omega) (by omega) (by omega) x y (md_nat (by omega)) (md_nat (by omega)) hx hy⟩
 have HWS := Kept.mk hw
 have HLW := Kept.mk lw
 have HLP := Kept.mk lp
 have HWQ := Kept.mk hwq
 have HK := Kept.mk hD.pre.pk
 have hec : np <= ec /\ ec <= 9223372036854775807 := by
  obtain ⟨_, _, e, h1, h2, _⟩ := hw
  simp only [Value.slice.injEq] at e
  obtain ⟨_, e1, e2⟩ := e
  rw [FFld.ints_len] at e1 h1
  unfold maxLen at h2
  omega
 obtain ⟨hec1, hec2⟩ := hec
 clear hf hp hw hq he lp lw lq le hpq hwq hqq heq tq te hqd
 have g1 : decide (((np - rad : Nat) : Int) < (nq : Int)) = false := decide_eq_false (by omega)
 have g2 : decide ((rad : Int) + 1 < (ne : Int)) = false := decide_eq_false (by omega)
 have q1 : ¬ (np - rad < nq) := by omega
 have q2 : ¬ (((np - rad : Nat) : Int) < (nq : Int)) := by omega
 have q3 : nq <= np - rad := by omega
 have q4 : (nq : Int) <= ((np - rad : Nat) : Int) := by omega
 have q5 : ¬ (rad + 1 < ne) := by omega
 have q6 : ¬ ((rad : Int) + 1 < (ne : Int)) := by omega
 have q7 : ne <= rad + 1 := by omega
 have q8 : (ne : Int) <= (rad : Int) + 1 := by omega
 have ew : IntKind.i64.wrap ((rad : Int) + 1) = (rad : Int) + 1 := wi (by omega) (by omega)
 go_enter Tryz.func98, Tryz.ntmps98
 have hbx := HX0.out.1
 obtain ⟨c0, c1, c2, c3, c4⟩ := five_cells_ HX0.out.b0
 obtain ⟨d0, d1, _, _⟩ := two_cells HX0.out.b1
 go_wp2_with fail
 go_upto_region 1 with fail
 go_region_held3 (fun w' => w'.cell? ⟨w.heap.size, 0, none⟩ = some (.pointer (some ⟨b, 0, none⟩)) /\ w'.cell? ⟨w.heap.size, 1, none⟩ = some (.slice pa np pc) /\ w'.cell? ⟨w.heap.size, 2, none⟩ = some (.slice ea np ec) /\ w'.cell? ⟨w.heap.size, 3, none⟩ = some (.int .i64 k) /\ w'.cell? ⟨w.heap.size, 4, none⟩ = some (.int .i64 rad) /\ w'.cell? ⟨w.heap.size + 1, 0, none⟩ = some (.slice qa nq qc) /\ w'.cell? ⟨w.heap.size + 1, 1, none⟩ = some (.slice va ne vc))
  (first | exact ⟨jc0, jc1, jc2, jc3, jc4, jd0, jd1⟩ | exact ⟨c0, c1, c2, c3, c4, d0, d1⟩ | go_keep)
  ((first
    | (go_at_call 164; (with_reducible refine (HLO.out _).mono ?_); rintro e v1 ⟨hb1, rfl⟩; have HB1 := Kept.mk (bstep (show Below ((w.alloc (rcbox b (.slice pa np pc) (.slice ea np ec) k rad)).alloc (fabox (.slice qa nq qc) (.slice va ne vc))).heap.size ((w.alloc (rcbox b (.slice pa np pc) (.slice ea np ec) k rad)).alloc (fabox (.slice qa nq qc) (.slice va ne vc))) _ from (by first | exact Below.refl _ _ | exact (Below.refl _ _).drew)) hb1); have jc0 := belowCell HB1.out c0; have jc1 := belowCell HB1.out c1; have jc2 := belowCell HB1.out c2; have jc3 := belowCell HB1.out c3; have jc4 := belowCell HB1.out c4; have jd0 := belowCell HB1.out d0; have jd1 := belowCell HB1.out d1; clear hb1)))
 have HX1 := Kept.mk (HX0.out.below HB1.out)
 clear HB1 jc0 jc1 jc2 jc3 jc4 jd0 jd1 c0 c1 c2 c3 c4 d0 d1 hbx HX0 q1 q2 q3 q4 q5 q6 q7 q8 ew
 have hbx := bxs_bel5 HX1.out
 obtain ⟨c0, c1, c2, c3, c4⟩ := five_cells_ HX1.out.b0
 obtain ⟨d0, d1, _, _⟩ := two_cells HX1.out.b1
 have HBX := Kept.mk hbx
 go_wp2_with fail
 (with_reducible refine (HCQ.out _ hbx).mono ?_)
 rintro e w2 ⟨rfl, rfl⟩
 go_wp2_with fail
 (with_reducible refine (HCE.out _ hbx).mono ?_)
 rintro e w3 ⟨rfl, rfl⟩
 have hc5 : ((nq : Int) == 0) = true /\ ((ne : Int) == 0) = false \/ ((nq : Int) == 0) = false /\ True := by
  by_cases hn0 : nq = 0
  ·exact .inl ⟨by rw [beq_iff_eq]; omega, by rw [beq_eq_false_iff_ne]; omega⟩
  ·exact .inr ⟨by rw [beq_eq_false_iff_ne]; omega, trivial⟩
 clear hne
 rcases hc5 with ⟨e5, e6⟩ | ⟨e5, e6⟩ <;> (
  go_upto_region 7 with fail
  go_region_held3 (fun w' => w'.cell? ⟨w.heap.size, 0, none⟩ = some (.pointer (some ⟨b, 0, none⟩)) /\ w'.cell? ⟨w.heap.size, 1, none⟩ = some (.slice pa np pc) /\ w'.cell? ⟨w.heap.size, 2, none⟩ = some (.slice ea np ec) /\ w'.cell? ⟨w.heap.size, 3, none⟩ = some (.int .i64 k) /\ w'.cell? ⟨w.heap.size, 4, none⟩ = some (.int .i64 rad) /\ w'.cell? ⟨w.heap.size + 1, 0, none⟩ = some (.slice qa nq qc) /\ w'.cell? ⟨w.heap.size + 1, 1, none⟩ = some (.slice va ne vc))
   (first | exact ⟨lc0, lc1, lc2, lc3, lc4, ld0, ld1⟩ | exact ⟨jc0, jc1, jc2, jc3, jc4, jd0, jd1⟩ | exact ⟨c0, c1, c2, c3, c4, d0, d1⟩ | go_keep)
   ((first
     | (go_at_call 87; (with_reducible refine (HVQ.out _ ?h1).mono ?_); (case h1 => first | exact HBX.out | exact HBX.out.drew); rintro e v3 ⟨hb3, qa', qc', rfl, hsq⟩; have HB3 := Kept.mk (bstep (show Below v1.heap.size v1 _ from (by first | exact Below.refl _ _ | exact (Below.refl _ _).drew)) hb3); have jc0 := belowCell HB3.out c0; have jc1 := belowCell HB3.out c1; have jc2 := belowCell HB3.out c2; have jc3 := belowCell HB3.out c3; have jc4 := belowCell HB3.out c4; have jd0 := belowCell HB3.out d0; have jd1 := belowCell HB3.out d1; have HSQ := Kept.mk hsq; clear hb3 hsq)
     | (go_at_call 87; (with_reducible refine (HVE.out _ ?h1).mono ?_); (case h1 => first | exact bstep HBX.out HB3.out | exact (bstep HBX.out HB3.out).drew); rintro e v4 ⟨hb4, ve', vc', rfl, hse⟩; have HB4 := Kept.mk (bstep (show Below v1.heap.size v1 _ from (by first | exact HB3.out | exact HB3.out.drew)) hb4); have lc0 := belowCell HB4.out c0; have lc1 := belowCell HB4.out c1; have lc2 := belowCell HB4.out c2; have lc3 := belowCell HB4.out c3; have lc4 := belowCell HB4.out c4; have ld0 := belowCell HB4.out d0; have ld1 := belowCell HB4.out d1; have HSE := Kept.mk hse; have HSQ2 := Kept.mk (HSQ.out.below (show Below v3.heap.size v3 _ from (by first | exact hb4 | exact ((Below.refl _ _).drew.trans hb4)))); clear hb4 hse)))
  have HX4 := Kept.mk (HX1.out.below HB4.out)
  have HB5 := Kept.mk (bstep HBX.out HB4.out)
  clear HB3 HB4 HSQ jc0 lc0 jc1 lc1 jc2 lc2 jc3 lc3 jc4 lc4 jd0 ld0 jd1 ld1 c0 c1 c2 c3 c4 d0 d1
  obtain ⟨c0, c1, c2, c3, c4⟩ := five_cells_ HX4.out.b0
  obtain ⟨hqc1, hqc2⟩ : np <= qc' /\ qc' <= maxLen := by
   obtain ⟨_, _, e, h1, h2, _⟩ := HSQ2.out
   simp only [Value.slice.injEq] at e
   obtain ⟨_, h3, h4⟩ := e
   rw [<- h3, <- h4] at h1
   exact ⟨h1, by rw [h4]; exact h2⟩
  obtain ⟨hvc1, hvc2⟩ : np <= vc' /\ vc' <= maxLen := by
   obtain ⟨_, _, e, h1, h2, _⟩ := HSE.out
   simp only [Value.slice.injEq] at e
   obtain ⟨_, h3, h4⟩ := e
   rw [<- h3, <- h4] at h1
   exact ⟨h1, by rw [h4]; exact h2⟩
  unfold maxLen at hqc2 hvc2
  go_wp2
  go_loopw [68] (fun iv wr => ∃ (i : Nat), i <= np /\ iv = .int .i64 i /\ Kept (fitP D P Wd ql el i = true) /\ Kept (Below v4.heap.size v4 wr)) (fun iv _ => np - (intOf iv).toNat)
  case atStart => exact ⟨0, Nat.zero_le _, rfl, ⟨rfl⟩, ⟨Below.refl _ _⟩⟩
  case round =>
   obtain ⟨i, hin, rfl, hat, hbq⟩ := hrel
   have hbw := bstep HB5.out hbq.out
   by_cases hlt : i < np
   ·obtain ⟨bw, ow, rfl, _, u0⟩ := (HWS.out.below hbw).news_ i (by rw [FFld.ints_len, HLW.out]; exact hlt)
    obtain ⟨bq, oq, rfl, _, u1⟩ := (HSQ2.out.below hbq.out).news_ i (by rw [FFld.ints_len, FFld.valsF_len, HLP.out]; exact hlt)
    obtain ⟨be, oe, rfl, _, u2⟩ := (HSE.out.below hbq.out).news_ i (by rw [FFld.ints_len, FFld.valsF_len, HLP.out]; exact hlt)
    rw [FFld.ints_get] at u0 u1 u2
    obtain ⟨z, hz⟩ : ∃ y, Wd[i]?.getD 0 = y := ⟨_, rfl⟩
    obtain ⟨x, hx⟩ : ∃ y, (FFld.valsF D ql P np)[i]?.getD 0 = y := ⟨_, rfl⟩
    obtain ⟨y, hy⟩ : ∃ y, (FFld.valsF D el P np)[i]?.getD 0 = y := ⟨_, rfl⟩
    rw [hz] at u0
    rw [hx] at u1
    rw [hy] at u2
    have hzq : z < D.p ^ D.k := by rw [<- hz]; exact HWQ.out _ (FFld.get_mem (by rw [HLW.out]; exact hlt))
    have hyq : y < D.p ^ D.k := by
     rw [<- hy]
     have h := vals_get (D := D) el P (j := i) (by rw [HLP.out]; exact hlt)
     rw [HLP.out] at h
     rw [h]
     exact FFld.hornF_lt HK.out _ _ _
    obtain ⟨t, ht⟩ : ∃ t, FFld.pmul D.p D.k D.m y D.k z = t := ⟨_, rfl⟩
    have HM : Kept (∀ W, Below w.heap.size w W -> Calls Tryz.prog 82 #[.pointer (some ⟨b, 0, none⟩), .int .i64 (y : Nat), .int .i64 (z : Nat)] W (RB W (.int .i64 (t : Nat)))) := ⟨fun W hW => by rw [<- ht]; exact HMU.out W y z hW hyq hzq⟩
    have HBV := Kept.mk hbw
    have i0 := belowCell hbq.out c0
    have HFT : Kept (((FFld.valsF D ql P P.length)[i]?.getD 0 = FFld.pmul D.p D.k D.m ((FFld.valsF D el P P.length)[i]?.getD 0) D.k (Wd[i]?.getD 0)) ↔ x = t) := ⟨by rw [HLP.out, hx, hy, hz, ht]⟩
    clear hz hx hy hzq hyq ht hbw
    have hcase : ((x : Int) != (t : Int)) = decide (¬ x = t) := by
     by_cases h : x = t
     ·simp [h]
     ·rw [decide_eq_true h, bne_iff_ne]; omega
    go_wp2_with fail
    go_upto_region 11 with fail
    by_cases hxt : x = t
    ·have HN : Kept (fitP D P Wd ql el (i + 1) = true) := ⟨by rw [fitP_next, hat.out, decide_eq_true (HFT.out.2 hxt)]; rfl⟩
     subst hxt
     have e0 : ((x : Int) != (x : Int)) = false := by simp
     clear hcase
     go_region_held3 (fun w' => w'.cell? ⟨bq, oq + i, none⟩ = some (.int .i64 (x : Nat)) /\ w'.cell? ⟨be, oe + i, none⟩ = some (.int .i64 (y : Nat)) /\ w'.cell? ⟨w.heap.size, 0, none⟩ = some (.pointer (some ⟨b, 0, none⟩)))
      (first | exact ⟨ja, jb, jc⟩ | exact ⟨u1, u2, i0⟩ | go_keep)
      ((first
        | (go_at_call 82; (with_reducible refine (HM.out _ ?h1).mono ?_); (case h1 => first | exact HBV.out | exact HBV.out.drew); rintro e v5 ⟨hb5, rfl⟩; have HB6 := Kept.mk (bstep (show Below wr.heap.size wr _ from (by first | exact Below.refl _ _ | exact (Below.refl _ _).drew)) hb5); have ja := belowCell HB6.out u1; have jb := belowCell HB6.out u2; have jc := belowCell HB6.out i0; clear hb5)))
     have HB7 := Kept.mk (bstep hbq.out HB6.out)
     go_wp2
     go_roundw
     case rel => exact ⟨i + 1, by omega, by go_num, HN, HB7⟩
     case measure => simp [intOf] <;> omega
    ·have HN : Kept (fitP D P Wd ql el np = false) := ⟨fitP_no hlt (fun h => hxt (HFT.out.1 h))⟩
     have e0 : ((x : Int) != (t : Int)) = true := by rw [hcase, decide_eq_true hxt]
     have e1 : ((x : Int) == (t : Int)) = false := by rw [beq_eq_false_iff_ne]; omega
     clear hcase hxt
     go_region_held3 (fun w' => w'.cell? ⟨bq, oq + i, none⟩ = some (.int .i64 (x : Nat)) /\ w'.cell? ⟨be, oe + i, none⟩ = some (.int .i64 (y : Nat)) /\ w'.cell? ⟨w.heap.size, 0, none⟩ = some (.pointer (some ⟨b, 0, none⟩)))
      (first | exact ⟨ja, jb, jc⟩ | exact ⟨u1, u2, i0⟩ | go_keep)
      ((first
        | (go_at_call 82; (with_reducible refine (HM.out _ ?h1).mono ?_); (case h1 => first | exact HBV.out | exact HBV.out.drew); rintro e v5 ⟨hb5, rfl⟩; have HB6 := Kept.mk (bstep (show Below wr.heap.size wr _ from (by first | exact Below.refl _ _ | exact (Below.refl _ _).drew)) hb5); have ja := belowCell HB6.out u1; have jb := belowCell HB6.out u2; have jc := belowCell HB6.out i0; clear hb5)))
     have HB7 := Kept.mk (bstep HB5.out (bstep hbq.out HB6.out))
     go_wp2
     go_ret
     exact ⟨HB7.out, by rw [HN.out]; rfl⟩
   ·obtain rfl : i = np := by omega
    have HB7 := Kept.mk (bstep HB5.out hbq.out)
    go_wp2
    go_ret
    exact ⟨HB7.out, by rw [hat.out]; rfl⟩
 )
end Go.Proofs.YtdnheaafcbihbaaGreat
