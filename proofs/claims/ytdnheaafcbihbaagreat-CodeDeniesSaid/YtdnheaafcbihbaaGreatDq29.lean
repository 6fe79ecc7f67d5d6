/-
  Texts of the proof, merged by program: Rde.
-/
import Derived.Test.YtdnheaafcbihbaaGreatDq28
set_option linter.unusedSimpArgs false
set_option linter.unusedVariables false
set_option maxHeartbeats 16000000
namespace Go.Proofs.YtdnheaafcbihbaaGreat
open Go Go.RowKit Go.Deep
open FFld (ints)
abbrev rfabox (u v : Value) : Obj := .cells #[u, v] 58
set_option maxRecDepth 20000 in
theorem rdenies_no {D : FFld.FD} (hD : D.Ok) (ax aw ae qa va : Option Addr) (cx cw ce qc vc n m k nq ne : Nat) (xs ws : List Nat) (es Q E : List Int) (w : World) (hx : Sl .i64 w (.slice ax n cx) (ints xs)) (hw : Sl .i64 w (.slice aw n cw) (ints ws)) (he : Sl .i64 w (.slice ae m ce) es) (hQ : Sl .i64 w (.slice qa nq qc) Q) (hE : Sl .i64 w (.slice va ne vc) E) (hc : CodeV D xs n k) (le : es.length = m) (hwe : elsB D (ints ws) = true) (hkm : m + k <= n) (hb : belB n es = true) (hd : difB es m = true) (lQ : Q.length = nq) (lE : E.length = ne) (hno : (n - m < nq + (n - m - k) / 2 \/ (n - m - k) / 2 + 1 < ne) \/ (cErr D Q ≠ 0 \/ cErr D E ≠ 0) \/ nq = 0 /\ ne = 0) :
 Calls Tryz.prog 40 #[cdv D.q ax n cx k, .slice aw n cw, .slice ae m ce, .agg #[.slice qa nq qc, .slice va ne vc]] w (RB w (.bool false)) := by
 have hq6 : D.p ^ D.k <= 65536 := hD.pre.small
 have hq0 : D.q = D.p ^ D.k := rfl
 have h64 := hc.n64
 have HX0 : Kept (Bxs w [rcdbox D.q ax n cx k, rfabox (.slice qa nq qc) (.slice va ne vc)] ((w.alloc (rcdbox D.q ax n cx k)).alloc (rfabox (.slice qa nq qc) (.slice va ne vc)))) := ⟨((Bxs.start w).alloc (by simp) _).alloc (by simp) _⟩
 have HCK : Kept (∀ W, Below w.heap.size w W -> Calls Tryz.prog 19 #[cdv D.q ax n cx k] W (RB W (.int .i64 0))) := ⟨fun W hW => by
  have h := rccheck_any D.q k ax cx (ints xs) W (by rw [FFld.ints_len, hc.len]; exact hx.below hW) (by omega) (by omega) (by omega) (by have := hc.kn; omega)
  rw [FFld.ints_len, hc.len, hc.chk] at h
  exact h⟩
 have HRC := Kept.mk (fun (W : World) (hW : Below w.heap.size w W) => rreceived_ok hD ax aw ae cx cw ce n m k (ints ws) es W (hw.below hW) (he.below hW) le hwe hb hd hkm (by omega))
 have HNW := Kept.mk (fun W => rnew_any (D.q : Int) W (by omega) (by omega))
 obtain ⟨t, ht⟩ : ∃ r, (n - m - k) / 2 = r := ⟨_, rfl⟩
 have HRA : Kept (∀ W, Calls Tryz.prog 42 #[cdv D.q ax n cx k, .int .i64 m] W (RB W (.int .i64 (t : Nat)))) := ⟨fun W => by
  have h := rradius_any D.q ax n cx k m W hkm (by omega)
  rw [ht] at h
  exact h⟩
 have HCQ := Kept.mk (fun (W : World) (hW : Below w.heap.size w W) => rcheck_any D (.slice qa nq qc) Q W (hQ.below hW))
 have HCE := Kept.mk (fun (W : World) (hW : Below w.heap.size w W) => rcheck_any D (.slice va ne vc) E W (hE.below hW))
 have htn : t + m <= n := by omega
 have hnl : nq <= 9223372036854775807 /\ ne <= 9223372036854775807 := by
  obtain ⟨_, _, e, h1, h2, _⟩ := hQ
  obtain ⟨_, _, e', h1', h2', _⟩ := hE
  simp only [Value.slice.injEq] at e e'
  unfold maxLen at h2 h2'
  omega
 obtain ⟨hnl1, hnl2⟩ := hnl
 have er1 : (n : Int) - (m : Int) = ((n - m : Nat) : Int) := by omega
 have er2 : ((n - m : Nat) : Int) - (t : Int) = ((n - m - t : Nat) : Int) := by omega
 have HD := Kept.mk hD
 rw [ht] at hno
 have hcl1 := cErr_le D Q
 have hcl2 := cErr_le D E
 obtain ⟨x, hxx⟩ : ∃ x, cErr D Q = x := ⟨_, rfl⟩
 obtain ⟨y, hyy⟩ : ∃ x, cErr D E = x := ⟨_, rfl⟩
 rw [hxx] at HCQ hno hcl1
 rw [hyy] at HCE hno hcl2
 clear hx hw he hQ hE hc le hwe hb hd ht hq0
 clear hxx hyy lQ lE
 have hcs : (n - m - t < nq /\ ((n - m - t : Nat) : Int) < (nq : Int)) \/ ¬ (n - m - t < nq) /\ ¬ (((n - m - t : Nat) : Int) < (nq : Int)) /\ nq <= n - m - t /\ (nq : Int) <= ((n - m - t : Nat) : Int) /\ ((t + 1 < ne /\ ((t : Int) + 1) < (ne : Int)) \/ ¬ (t + 1 < ne) /\ ¬ (((t : Int) + 1) < (ne : Int)) /\ ne <= t + 1 /\ (ne : Int) <= (t : Int) + 1 /\ (((x : Int) != 0) = true /\ ((x : Int) == 0) = false \/ ((x : Int) != 0) = false /\ (((y : Int) != 0) = true /\ ((y : Int) == 0) = false \/ ((y : Int) != 0) = false /\ ((nq : Int) == 0) = true /\ ((ne : Int) == 0) = true))) := by
  by_cases h1 : n - m - t < nq
  ·exact .inl ⟨h1, by omega⟩
  refine .inr ⟨h1, by omega, by omega, by omega, ?_⟩
  by_cases h2 : t + 1 < ne
  ·exact .inl ⟨h2, by omega⟩
  refine .inr ⟨h2, by omega, by omega, by omega, ?_⟩
  by_cases h3 : x = 0
  ·refine .inr ⟨by simp [h3], ?_⟩
   by_cases h4 : y = 0
   ·exact .inr ⟨by simp [h4], by rw [beq_iff_eq]; omega, by rw [beq_iff_eq]; omega⟩
   ·exact .inl ⟨by rw [bne_iff_ne]; omega, by rw [beq_eq_false_iff_ne]; omega⟩
  ·exact .inl ⟨by rw [bne_iff_ne]; omega, by rw [beq_eq_false_iff_ne]; omega⟩
 clear hno hcl1 hcl2
 rcases hcs with ⟨q1, q2⟩ | ⟨q1, q2, q3, q4, ⟨r1, r2⟩ | ⟨r1, r2, r3, r4, ⟨e0, e1⟩ | ⟨e0, ⟨e2, e3⟩ | ⟨e2, e3, e4⟩⟩⟩⟩ <;> (
  go_enter Tryz.func40, Tryz.ntmps40
  obtain ⟨c0, c1, c2, _⟩ := three_cells HX0.out.b0
  obtain ⟨d0, d1, _, _⟩ := two_cells HX0.out.b1
  have hbx := HX0.out.1
  go_wp2_with fail
  refine (HCK.out _ hbx).mono ?_
  rintro e w1 ⟨hb1, rfl⟩
  have HX1 := Kept.mk (HX0.out.below hb1)
  clear hb1 c0 c1 c2 d0 d1 hbx HX0 HCK
  obtain ⟨c0, c1, c2, _⟩ := three_cells HX1.out.b0
  obtain ⟨d0, d1, _, _⟩ := two_cells HX1.out.b1
  have hbx := HX1.out.1
  go_wp2_with fail
  refine (HRC.out _ hbx).mono ?_
  rintro e w2 ⟨hb2, rfl⟩
  have HX2 := Kept.mk (HX1.out.below hb2)
  clear hb2 c0 c1 c2 d0 d1 hbx HX1 HRC
  obtain ⟨c0, c1, c2, _⟩ := three_cells HX2.out.b0
  obtain ⟨d0, d1, _, _⟩ := two_cells HX2.out.b1
  go_wp2_with fail
  refine (HNW.out _).mono ?_
  rintro e w3 ⟨hb3, ⟨D', hD', hq', rfl⟩ | ⟨hno', rfl⟩⟩
  ·obtain rfl : D' = D := FFld.FD.uniq hD' HD.out (by omega)
   have hal : Below w3.heap.size w3 (w3.alloc (rbox D'.q D'.p D'.k D'.m)) := (Below.refl _ _).alloc (Nat.le_refl _) _
   have hG := heap_alloc_new w3 (rbox D'.q D'.p D'.k D'.m)
   have HX3 := Kept.mk ((HX2.out.below hb3).below hal)
   obtain ⟨g5, hg⟩ : ∃ x, w3.heap.size = x := ⟨_, rfl⟩
   obtain ⟨W4, hW4⟩ : ∃ W, w3.alloc (rbox D'.q D'.p D'.k D'.m) = W := ⟨_, rfl⟩
   rw [hW4, hg] at hG
   rw [hW4] at HX3
   go_upto_region 4 with fail
   try rw [hW4]
   try rw [hg]
   clear hb3 hq' hal hg hW4 hD' HNW c0 c1 c2 d0 d1 HX2
   obtain ⟨c0, c1, c2, _⟩ := three_cells HX3.out.b0
   obtain ⟨d0, d1, _, _⟩ := two_cells HX3.out.b1
   have HG := Kept.mk hG
   clear hG
   go_wp2_with fail
   refine (HRA.out _).mono ?_
   rintro e w5 ⟨hb5, rfl⟩
   have HG5 := Kept.mk ((hb5.block _ (Array.getElem?_eq_some_iff.1 HG.out).1).trans HG.out)
   have HX5 := Kept.mk (HX3.out.below hb5)
   clear hb5 c0 c1 c2 d0 d1 HX3 HRA HG
   obtain ⟨c0, c1, c2, _⟩ := three_cells HX5.out.b0
   obtain ⟨d0, d1, _, _⟩ := two_cells HX5.out.b1
   obtain ⟨i0, i1, i2, i3⟩ := four_cells HG5.out
   have hbx := HX5.out.1
   first
    | (go_wp2
       go_ret
       exact ⟨hbx, rfl⟩)
    | skip
   all_goals (
    go_wp2_with fail
    (with_reducible refine (HCQ.out _ hbx).mono ?_)
    rintro e w6 ⟨hb6, rfl⟩
    have HG5 := Kept.mk ((hb6.block _ (Array.getElem?_eq_some_iff.1 HG5.out).1).trans HG5.out)
    have HX5 := Kept.mk (HX5.out.below hb6)
    clear hb6 c0 c1 c2 d0 d1 i0 i1 i2 i3 hbx
    obtain ⟨c0, c1, c2, _⟩ := three_cells HX5.out.b0
    obtain ⟨d0, d1, _, _⟩ := two_cells HX5.out.b1
    obtain ⟨i0, i1, i2, i3⟩ := four_cells HG5.out
    have hbx := HX5.out.1
    first
     | (go_wp2
        go_ret
        exact ⟨hbx, rfl⟩)
     | skip)
   all_goals (
    go_wp2_with fail
    (with_reducible refine (HCE.out _ hbx).mono ?_)
    rintro e w6 ⟨hb6, rfl⟩
    have HG5 := Kept.mk ((hb6.block _ (Array.getElem?_eq_some_iff.1 HG5.out).1).trans HG5.out)
    have HX5 := Kept.mk (HX5.out.below hb6)
    clear hb6 c0 c1 c2 d0 d1 i0 i1 i2 i3 hbx
    obtain ⟨c0, c1, c2, _⟩ := three_cells HX5.out.b0
    obtain ⟨d0, d1, _, _⟩ := two_cells HX5.out.b1
    obtain ⟨i0, i1, i2, i3⟩ := four_cells HG5.out
    have hbx := HX5.out.1
    go_wp2
    go_ret
    exact ⟨hbx, rfl⟩)
  ·exact absurd ⟨D, HD.out, rfl⟩ hno'
 )
end Go.Proofs.YtdnheaafcbihbaaGreat
