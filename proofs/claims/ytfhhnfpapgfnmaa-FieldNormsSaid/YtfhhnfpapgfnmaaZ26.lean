/-
  Texts of the proof, merged by program: Awa Awb Soa.
-/
import Derived.Test.YtfhhnfpapgfnmaaZ19
import Derived.Test.YtfhhnfpapgfnmaaZ11
import Derived.Test.YtfhhnfpapgfnmaaZ25
import Derived.Test.YtfhhnfpapgfnmaaZ17
import Derived.Test.YtfhhnfpapgfnmaaZ18
import Derived.Test.YtfhhnfpapgfnmaaZ9
set_option linter.unusedVariables false
set_option linter.unusedSimpArgs false
namespace Go.Proofs.Ytfhhnfpapgfnmaa
open Go Go.RowKit Go.Deep
open FFld (ints)
namespace FFld
theorem prime_of {n : Nat} (h : isP n = true) : Prime n := isP_prime h
theorem fit_pow {p k : Nat} (hp : Prime p) (hk : 1 ≤ k) (hq : p ^ k ≤ 65536) : Fit ((p ^ k : Nat) : Int) := by
  obtain ⟨m, g, h⟩ := FD.exists p k hp hk hq
  exact ⟨⟨p, k, m, g⟩, h, rfl⟩
theorem ok8 : ∃ g, FD.Ok ⟨2, 3, 11, g⟩ := by
  have hpre : FD.Pre ⟨2, 3, 11, 0⟩ := ⟨prime_of (by decide), by decide, by decide, fun h => by simp at h, fun _ => ⟨by decide, by decide, (irr_iff 2 3 11).1 (by decide), fun n h1 h2 hi => by
    have h1' : 8 ≤ n := h1
    have h2' : n < 11 := h2
    rw [← irr_iff] at hi
    have : n = 8 ∨ n = 9 ∨ n = 10 := by omega
    rcases this with rfl | rfl | rfl <;> exact absurd hi (by decide)⟩⟩
  exact FD.with_gen 2 3 11 hpre (nzd_cert (g := 2) (fs := [7]) hpre.pk (by decide) (by decide))
theorem q8 {D : FD} (h : D.Ok) (e : D.q = 8) : D = ⟨2, 3, 11, 2⟩ := by
  obtain ⟨g, hg⟩ := ok8
  have hD : D = ⟨2, 3, 11, g⟩ := FD.uniq h hg (by rw [e]; rfl)
  subst hD
  have h1 : 1 ≤ g := hg.g1
  have e7 : ((2 : Nat) ^ 3 - 1) / 7 = 1 := by decide
  have h2 : 2 ≤ g := hg.not_gen (a := 1) (r := 7) h1 (by decide) (show (7 : Nat) < 2 ^ 3 by decide) (fun ht => ht (show (7 : Nat) ∣ 2 ^ 3 - 1 by decide) (prime_of (by decide)) (by
    show ppow hg.pre.pk 1 (((2 : Nat) ^ 3 - 1) / 7) = 1
    rw [e7]
    exact ppow_one hg.pre.pk 1 (show (1 : Nat) < 2 ^ 3 by decide)))
  have h3 : 2 = g := hg.gen (a := 2) (by decide) h2 (fun r hr1 hr2 hd hp he => by
    have hd' : r ∣ 7 := hd
    have : r = 7 := by
      have h8 : r < 8 := hr2
      have h5 := Nat.le_of_dvd (by decide) hd'
      have : r = 2 ∨ r = 3 ∨ r = 4 ∨ r = 5 ∨ r = 6 ∨ r = 7 := by omega
      rcases this with rfl | rfl | rfl | rfl | rfl | rfl
      all_goals first | rfl | exact absurd hd' (by decide)
    subst this
    have e1 : ppow hg.pre.pk 2 (((2 : Nat) ^ 3 - 1) / 7) = 1 := he
    rw [e7, ppow_one hg.pre.pk 2 (show (2 : Nat) < 2 ^ 3 by decide)] at e1
    exact absurd e1 (by decide))
  subst h3
  rfl
theorem q5 {D : FD} (h : D.Ok) (e : D.q = 5) : ∃ g, D = ⟨5, 1, 5, g⟩ := by
  obtain ⟨g, hg⟩ := FD.prime_exists 5 (prime_of (by decide)) (by decide)
  exact ⟨g, FD.uniq h hg (by rw [e]; rfl)⟩
theorem digs11 {l : List Nat} (h : Digs 2 11 l) : l = [1, 1, 0, 1] := by
  have h1 := h.len (k := 4) (by decide) (by decide)
  have hv := h.val
  have hlt := h.lt
  match l, h1, hv, hlt with
  | [], _, hv, _ => simp [num] at hv
  | [a], _, hv, hlt => have := hlt a (by simp); simp [num] at hv; omega
  | [a, b], _, hv, hlt => have := hlt a (by simp); have := hlt b (by simp); simp [num] at hv; omega
  | [a, b, c], _, hv, hlt => have := hlt a (by simp); have := hlt b (by simp); have := hlt c (by simp); simp [num] at hv; omega
  | [a, b, c, d], _, hv, hlt =>
    have := hlt a (by simp)
    have := hlt b (by simp)
    have := hlt c (by simp)
    have := hlt d (by simp)
    simp only [num] at hv
    have : a = 1 ∧ b = 1 ∧ c = 0 ∧ d = 1 := by omega
    obtain ⟨rfl, rfl, rfl, rfl⟩ := this
    rfl
theorem mul8 : pmul 2 3 11 2 3 4 = 3 := by decide
theorem tr8 (h : PK 2 3 11) : Go.Proofs.Ytfhhnfpapgfnmaa.cjf h 1 (fun t c => padd 2 3 t c) 0 3 = 1 := by
  have e : ∀ i, Go.Proofs.Ytfhhnfpapgfnmaa.cjg h 1 i = 1 := fun i => by
    induction i with
    | zero => rfl
    | succ i ih =>
      show ppow h (Go.Proofs.Ytfhhnfpapgfnmaa.cjg h 1 i) 2 = 1
      rw [ih, ppow_small h 1 (by decide)]
  simp only [Go.Proofs.Ytfhhnfpapgfnmaa.cjf, e]
  decide
end FFld
theorem elim5 (g : Nat) (h : FFld.PK 5 1 5) : FFld.elimF ⟨5, 1, 5, g⟩ h ⟨[[1, 2], [2, 4]], idM 2, []⟩ 2 = ⟨[[1, 2], [0, 0]], [[1, 0], [3, 1]], [0]⟩ := by
  kernel_rfl
theorem sop5 (g : Nat) : sopV ⟨5, 1, 5, g⟩ ⟨[[1, 2], [0, 0]], [[1, 0], [3, 1]], [0]⟩ [1, 3] 1 ≠ 0 := by
  have : sopV ⟨5, 1, 5, g⟩ ⟨[[1, 2], [0, 0]], [[1, 0], [3, 1]], [0]⟩ [1, 3] 1 = 1 := by kernel_rfl
  rw [this]
  decide
end Go.Proofs.Ytfhhnfpapgfnmaa

set_option linter.unusedVariables false
set_option linter.unusedSimpArgs false
namespace Go.Proofs.Ytfhhnfpapgfnmaa
open Go Go.RowKit Go.Deep
open FFld (ints)
/-- The literals of awake. -/
abbrev awL (w : World) : World := (((w.alloc (.cells #[.int .i64 1, .int .i64 2] 3)).alloc (.cells #[.int .i64 2, .int .i64 4] 3)).alloc (.cells #[.slice (some ⟨w.heap.size, 0, none⟩) 2 2, .slice (some ⟨w.heap.size + 1, 0, none⟩) 2 2] 34)).alloc (.cells #[.int .i64 1, .int .i64 3] 3)
theorem awL_bxs (w : World) : Bxs w [.cells #[.int .i64 1, .int .i64 2] 3, .cells #[.int .i64 2, .int .i64 4] 3, .cells #[.slice (some ⟨w.heap.size, 0, none⟩) 2 2, .slice (some ⟨w.heap.size + 1, 0, none⟩) 2 2] 34, .cells #[.int .i64 1, .int .i64 3] 3] (awL w) :=
  ((((Bxs.start w).alloc (by simp) _).alloc (by simp) _).alloc (by simp) _).alloc (by simp) _
theorem awL_facts (w : World) : Below w.heap.size w (awL w) ∧ Sls (awL w) (some ⟨w.heap.size + 1 + 1, 0, none⟩) ([[1, 2], [2, 4]].map ints) ∧ Sl .i64 (awL w) (.slice (some ⟨w.heap.size + 1 + 1 + 1, 0, none⟩) 2 2) (ints [1, 3]) := by
  have hx := awL_bxs w
  have h0 : Row 3 .i64 (awL w) w.heap.size (ints [1, 2]) := hx.2.2 0 _ rfl
  have h1 : Row 3 .i64 (awL w) (w.heap.size + 1) (ints [2, 4]) := hx.2.2 1 _ rfl
  have h2 : (awL w).heap[w.heap.size + 1 + 1]? = some (.cells #[.slice (some ⟨w.heap.size, 0, none⟩) 2 2, .slice (some ⟨w.heap.size + 1, 0, none⟩) 2 2] 34 (0, 0)) := hx.2.2 2 _ rfl
  have h3 : Row 3 .i64 (awL w) (w.heap.size + 1 + 1 + 1) (ints [1, 3]) := hx.2.2 3 _ rfl
  obtain ⟨c0, c1, _⟩ := two_cells h2
  have hl2 : w.heap.size + 1 + 1 < (awL w).heap.size := (Array.getElem?_eq_some_iff.1 h2).1
  refine ⟨hx.1, fun i hi => ?_, h3.slAll rfl (Nat.le_refl _) (by decide)⟩
  have hi' : i < 2 := hi
  have : i = 0 ∨ i = 1 := by omega
  rcases this with rfl | rfl
  · exact ⟨_, _, _, rfl, hl2, c0, h0.slAll rfl (Nat.le_refl _) (by decide)⟩
  · exact ⟨_, _, _, rfl, hl2, c1, h1.slAll rfl (Nat.le_refl _) (by decide)⟩
theorem wf5 (g : Nat) : FFld.Wfm ⟨5, 1, 5, g⟩ 2 [[1, 2], [2, 4]] := fun r hr => by
  simp only [List.mem_cons, List.not_mem_nil, or_false] at hr
  rcases hr with rfl | rfl
  · exact ⟨rfl, fun a ha => by show a < 5 ^ 1; simp at ha; omega⟩
  · exact ⟨rfl, fun a ha => by show a < 5 ^ 1; simp at ha; omega⟩
theorem deny5 {g b : Nat} {w : World} (hf : FldB ⟨5, 1, 5, g⟩ w b) : Calls Try.prog 40 #[.pointer (some ⟨b, 0, none⟩), .slice (some ⟨w.heap.size + 1 + 1, 0, none⟩) 2 2, .slice (some ⟨w.heap.size + 1 + 1 + 1, 0, none⟩) 2 2] (awL w) (fun e w' => Below (awL w).heap.size (awL w) w' ∧ ∃ ao c, e = .returned (.tuple #[.slice ao 2 c, .bool true])) := by
  obtain ⟨hb, h1, h2⟩ := awL_facts w
  have h := deny_any hf.ok [[1, 2], [2, 4]] (some ⟨w.heap.size + 1 + 1, 0, none⟩) 2 (.slice (some ⟨w.heap.size + 1 + 1 + 1, 0, none⟩) 2 2) [1, 3] 2 2 (awL w) (hf.below hb) h1 (Nat.le_refl _) (by decide) h2 rfl (by decide) (wf5 g) (by decide) (fun h => by simp at h) rfl (fun a ha => by show a < 5 ^ 1; simp at ha; omega)
  rw [elim5] at h
  refine h.mono ?_
  rintro e w' ⟨hb', ⟨i, vd, _, _, _, rfl, _, ao, c, rfl⟩ | ⟨hz, _⟩⟩
  · exact ⟨hb', ao, c, rfl⟩
  · exact absurd (hz 1 (by decide) (by decide)) (sop5 g)
set_option maxRecDepth 20000 in
set_option maxHeartbeats 8000000 in
theorem awake_any (w : World) : Calls Try.prog 49 #[] w (RB w (.bool true)) := by
  have HN8 := Kept.mk (fnew_any 8 w (by omega) (by omega))
  have HN5 := Kept.mk (fun W => fnew_any 5 W (by omega) (by omega))
  have HT8 := Kept.mk FFld.tr8
  go_enter Try.func49, Try.ntmps49
  go_wp2_with fail
  refine HN8.out.mono ?_
  rintro e w1 ⟨hb1, h⟩
  have HB1 := Kept.mk hb1
  clear hb1 HN8
  rcases h with ⟨D, b, hq, hbb, rfl, hf⟩ | ⟨hn, rfl⟩
  · have hD : D = ⟨2, 3, 11, 2⟩ := FFld.q8 hf.ok (by omega)
    subst hD
    have HF := Kept.mk hf
    have HM := Kept.mk (fmodulus_any w1 hf)
    clear hf hq
    go_wp2_with fail
    refine HM.out.mono ?_
    rintro e w2 ⟨hb2, vm, ml, rfl, hsm, hdm⟩
    have hml := FFld.digs11 hdm
    subst hml
    obtain ⟨am, cm, rfl, hcm, hxm⟩ := hsm.form
    have HB2 := Kept.mk (bstep HB1.out hb2)
    have HF2 := Kept.mk (HF.out.below hb2)
    have HSM := Kept.mk hsm
    clear hb2 hsm hdm HM HF
    go_wp2_with fail
    refine (HN5.out _).mono ?_
    rintro e w3 ⟨hb3, h⟩
    have HB3 := Kept.mk (bstep HB2.out hb3)
    have HR3 := Kept.mk hb3
    clear hb3 HN5
    rcases h with ⟨D5, b5, hq5, hbb5, rfl, hf5⟩ | ⟨hn, rfl⟩
    · obtain ⟨g, hD5⟩ := FFld.q5 hf5.ok (by omega)
      subst hD5
      have HF5 := Kept.mk hf5
      clear hf5 hq5
      go_wp2_with fail
      refine (deny5 HF5.out).mono ?_
      rintro e w5 ⟨hb5, ao5, c5, rfl⟩
      have hba := (awL_facts w3).1
      have HB5 := Kept.mk (bstep (bstep HB3.out hba) hb5)
      have hR5 := bstep (bstep HR3.out hba) hb5
      have HF8 := Kept.mk (HF2.out.below hR5)
      obtain ⟨gm, om, rfl, hgm, hcell⟩ := (HSM.out.below hR5).news_at 2 (by decide)
      have hcell' : w5.cell? ⟨gm, om + 2, none⟩ = some (.int .i64 0) := hcell
      have HG := Kept.mk (generator_any w5 HF8.out)
      have HMU := Kept.mk (fmul_any 2 4 w5 HF8.out (by omega) (by omega) (by omega) (by omega) 2 4 (by decide) (by decide) (by decide) (by decide))
      rw [FFld.mul8] at HMU
      have HTR := Kept.mk (fun W (hW : Below w5.heap.size w5 W) => trace_any HF8.out.ok 1 W (HF8.out.below hW) (by omega) (by omega) 1 (by decide) (by decide))
      rw [HT8.out] at HTR
      clear hb5 hba hR5 hcell
      have hcm4 : 4 ≤ cm := hcm
      have e4 : (ints [1, 1, 0, 1]).length = 4 := rfl
      rw [e4]
      go_wp2_with fail
      refine HG.out.mono ?_
      rintro e w6 ⟨rfl, rfl⟩
      go_wp2_with fail
      refine HMU.out.mono ?_
      rintro e w6 ⟨hb6, rfl⟩
      have HB6 := Kept.mk hb6
      clear hb6
      go_wp2_with fail
      refine (HTR.out _ HB6.out).mono ?_
      rintro e w7 ⟨hb7, rfl⟩
      have HB7 := Kept.mk (bstep HB5.out (bstep HB6.out hb7))
      clear hb7
      go_wp2
      go_ret
      exact ⟨HB7.out, rfl⟩
    · exfalso
      exact hn (FFld.fit_pow (p := 5) (k := 1) (FFld.prime_of (by decide)) (by decide) (by decide))
  · exfalso
    exact hn (FFld.fit_pow (p := 2) (k := 3) (FFld.prime_of (by decide)) (by decide) (by decide))
end Go.Proofs.Ytfhhnfpapgfnmaa

set_option linter.unusedVariables false
set_option linter.unusedSimpArgs false
namespace Go.Proofs.Ytfhhnfpapgfnmaa
open Go Go.RowKit Go.Deep
open FFld (ints)
/-- What some returns: a field, by both, of an order up to most or 27. -/
def SoRet (most : Int) (w : World) (e : Ending) (w' : World) : Prop := Below w.heap.size w w' ∧ ∃ (D : FFld.FD) (b : Nat), D.Ok ∧ ((D.q : Int) ≤ most ∨ D.q ≤ 27) ∧ w.heap.size ≤ b ∧ FldB D w' b ∧ e = .returned (.tuple #[.pointer (some ⟨b, 0, none⟩), rfv D.q D.p D.k D.m])
def smL : List Nat := [2, 3, 4, 5, 7, 8, 9, 11, 13, 16, 25, 27]
theorem sm_fit (t : Nat) (ht : t < 12) : FFld.Fit ((smL[t]?.getD 0 : Nat) : Int) ∧ smL[t]?.getD 0 ≤ 27 := by
  have h : ∀ p k : Nat, FFld.isP p = true → 1 ≤ k → p ^ k ≤ 27 → FFld.Fit ((p ^ k : Nat) : Int) ∧ p ^ k ≤ 27 := fun p k hp hk hq => ⟨FFld.fit_pow (FFld.prime_of hp) hk (by omega), hq⟩
  have : t = 0 ∨ t = 1 ∨ t = 2 ∨ t = 3 ∨ t = 4 ∨ t = 5 ∨ t = 6 ∨ t = 7 ∨ t = 8 ∨ t = 9 ∨ t = 10 ∨ t = 11 := by omega
  rcases this with rfl | rfl | rfl | rfl | rfl | rfl | rfl | rfl | rfl | rfl | rfl | rfl
  · exact h 2 1 (by decide) (by decide) (by decide)
  · exact h 3 1 (by decide) (by decide) (by decide)
  · exact h 2 2 (by decide) (by decide) (by decide)
  · exact h 5 1 (by decide) (by decide) (by decide)
  · exact h 7 1 (by decide) (by decide) (by decide)
  · exact h 2 3 (by decide) (by decide) (by decide)
  · exact h 3 2 (by decide) (by decide) (by decide)
  · exact h 11 1 (by decide) (by decide) (by decide)
  · exact h 13 1 (by decide) (by decide) (by decide)
  · exact h 2 4 (by decide) (by decide) (by decide)
  · exact h 5 2 (by decide) (by decide) (by decide)
  · exact h 3 3 (by decide) (by decide) (by decide)
abbrev smbox : Obj := .cells #[.int .i64 2, .int .i64 3, .int .i64 4, .int .i64 5, .int .i64 7, .int .i64 8, .int .i64 9, .int .i64 11, .int .i64 13, .int .i64 16, .int .i64 25, .int .i64 27] 115
theorem sm_cell {W : World} {g : Nat} (h : W.heap[g]? = some smbox) (t : Nat) (ht : t < 12) : W.cell? ⟨g, t, none⟩ = some (.int .i64 ((smL[t]?.getD 0 : Nat) : Int)) := by
  rw [cell_of_row W g t _ _ (0, 0) h]
  have : t = 0 ∨ t = 1 ∨ t = 2 ∨ t = 3 ∨ t = 4 ∨ t = 5 ∨ t = 6 ∨ t = 7 ∨ t = 8 ∨ t = 9 ∨ t = 10 ∨ t = 11 := by omega
  rcases this with rfl | rfl | rfl | rfl | rfl | rfl | rfl | rfl | rfl | rfl | rfl | rfl <;> rfl
theorem Row.grown {E : TypeId} {K : IntKind} {w w' : World} {g k : Nat} {xs : List Int} (h : Row E K w g xs) (hg : w.grownBy w' (some k)) (hne : g ≠ k) : Row E K w' g xs := (hg.block _ h.lt (by simpa using hne)).trans h
/-- The result's box, which is not the field's, is written. -/
theorem FldB.res {D : FFld.FD} {W W' : World} {b g : Nat} (h : FldB D W b) (hz : W.heap[g]? = some rzbox) (hg : W.grownBy W' (some g)) : FldB D W' b := by
  obtain ⟨h, ar, ms, ml, h1, h2, h3, h4⟩ := h
  have hbg : b ≠ g := fun e => by
    subst e
    rw [hz] at h1
    have := congrArg (fun o : Option Obj => match o with | some (.cells a _ _) => a.size | _ => 0) h1
    simp at this
  refine ⟨h, ar, ms, ml, (hg.block _ (Array.getElem?_eq_some_iff.1 h1).1 (by simpa using hbg)).trans h1, ?_, ?_, h4⟩
  · rcases h2 with hv | ⟨k2, gP, gL, q1, q, P, L, e, r1, r2, rest⟩
    · exact .inl hv
    · have ty : ∀ x xs, Row 133 .u16 W x xs → x ≠ g := fun x xs hr e => by
        subst e
        unfold Row at hr
        rw [hz] at hr
        have := congrArg (fun o : Option Obj => match o with | some (.cells _ t _) => t | _ => 0) hr
        have h9 : (23 : TypeId) = 133 := this
        exact absurd h9 (by decide)
      exact .inr ⟨k2, gP, gL, q1, q, P, L, e, r1.grown hg (ty _ _ r1), r2.grown hg (ty _ _ r2), rest⟩
  · refine h3.kept hg (fun k hk e => ?_)
    cases e
    obtain ⟨ao, cap, rfl, hc, hm, hx⟩ := h3
    by_cases hl : ml = []
    · subst hl
      cases ao <;> simp [live, ints] at hk
    · have hpos : 0 < ml.length := List.length_pos_iff.2 hl
      obtain ⟨b', o, rfl, hb', hcell⟩ := hx (ml.length - 1) (by rw [FFld.ints_len]; omega)
      have hk' := live_own hk
      simp [Value.ownBlock] at hk'
      subst hk'
      rw [FFld.ints_get, cell_of_row W b' _ _ _ (0, 0) hz] at hcell
      have hlast : ml[ml.length - 1]?.getD 0 ≠ 0 := fun e => h4.nz (by
        rw [List.getLast?_eq_getElem?, List.getElem?_eq_getElem (by omega)]
        rw [List.getElem?_eq_getElem (by omega)] at e
        simpa using e)
      generalize ml[ml.length - 1]?.getD 0 = z at hcell hlast
      generalize o + (ml.length - 1) = n at hcell
      have : n = 0 ∨ n = 1 ∨ n = 2 ∨ n = 3 ∨ 4 ≤ n := by omega
      rcases this with rfl | rfl | rfl | rfl | h4
      · simp at hcell; omega
      · simp at hcell; omega
      · simp at hcell; omega
      · simp at hcell; omega
      · rw [Array.getElem?_eq_none (by simpa using h4)] at hcell
        cases hcell
/-- The boxes of some. -/
structure SoW (w : World) (g7 q p k m : Nat) (W : World) : Prop where
  bel : Below w.heap.size w W
  b5 : W.heap[w.heap.size]? = some rzbox
  b6 : W.heap[w.heap.size + 1]? = some smbox
  b7 : W.heap[g7]? = some (rbox q p k m)
  n7 : w.heap.size + 1 < g7
theorem SoW.below {w : World} {g7 q p k m : Nat} {W W' : World} (h : SoW w g7 q p k m W) (hb : Below W.heap.size W W') : SoW w g7 q p k m W' :=
  ⟨h.bel.trans (hb.mono h.bel.size), (hb.block _ (Array.getElem?_eq_some_iff.1 h.b5).1).trans h.b5, (hb.block _ (Array.getElem?_eq_some_iff.1 h.b6).1).trans h.b6, (hb.block _ (Array.getElem?_eq_some_iff.1 h.b7).1).trans h.b7, h.n7⟩
theorem SoW.set {w : World} {g7 q p k m : Nat} {W : World} (h : SoW w g7 q p k m W) (q' p' k' m' : Nat) : SoW w g7 q' p' k' m' ((((W.setCell ⟨g7, 0, none⟩ (.int .i64 q')).setCell ⟨g7, 1, none⟩ (.int .i64 p')).setCell ⟨g7, 2, none⟩ (.int .i64 k')).setCell ⟨g7, 3, none⟩ (.int .i64 m')) := by
  have hg : W.grownBy ((((W.setCell ⟨g7, 0, none⟩ (.int .i64 q')).setCell ⟨g7, 1, none⟩ (.int .i64 p')).setCell ⟨g7, 2, none⟩ (.int .i64 k')).setCell ⟨g7, 3, none⟩ (.int .i64 m')) (some g7) := growSet (growSet (growSet (growSet (growRefl _ _) _ _) _ _) _ _) _ _
  have n7 := h.n7
  exact ⟨belowGrow hg h.bel (by omega), (hg.block _ (Array.getElem?_eq_some_iff.1 h.b5).1 (by simp; omega)).trans h.b5, (hg.block _ (Array.getElem?_eq_some_iff.1 h.b6).1 (by simp; omega)).trans h.b6, four_set h.b7 _ _ _ _, n7⟩
theorem SoW.start {w w1 : World} (h : Bxs w [rzbox, smbox] w1) (q p k m : Nat) : SoW w w1.heap.size q p k m (w1.alloc (rbox q p k m)) := by
  have hb : Below w1.heap.size w1 (w1.alloc (rbox q p k m)) := (Below.refl _ _).alloc (Nat.le_refl _) _
  have hx := h.below hb
  have := h.2.1
  simp at this
  exact ⟨hx.1, hx.b0, hx.b1, heap_alloc_new _ _, by omega⟩
set_option maxRecDepth 20000 in
set_option maxHeartbeats 8000000 in
theorem some_any (order most : Int) (w : World) (h0 : -9223372036854775808 ≤ order) (h1 : order ≤ 9223372036854775807) (hm0 : 0 ≤ most) (hm1 : most ≤ 65536) :
    Calls Try.prog 50 #[.int .i64 order, .int .i64 most] w (SoRet most w) := by
  have HR := Kept.mk (fun W o (a : -9223372036854775808 ≤ o) (b : o ≤ 9223372036854775807) => rnew_any o W a b)
  have HN := Kept.mk (fun W o (a : -9223372036854775808 ≤ o) (b : o ≤ 9223372036854775807) => fnew_any o W a b)
  have HX0 : Kept (Bxs w [rzbox, smbox] ((w.alloc rzbox).alloc smbox)) := ⟨((Bxs.start w).alloc (by simp) _).alloc (by simp) _⟩
  go_enter Try.func50, Try.ntmps50
  go_wp2_with fail
  refine (HR.out _ order h0 h1).mono ?_
  rintro e w1 ⟨hb1, h⟩
  have HX1 := Kept.mk (HX0.out.below hb1)
  clear hb1 HX0
  rcases h with ⟨D, hD, hq, rfl⟩ | ⟨hn, rfl⟩
  · have HX2 := Kept.mk (SoW.start HX1.out D.q D.p D.k D.m)
    clear HX1
    by_cases hle : order ≤ most
    · have eg : decide (order > most) = false := by simp; omega
      have HX3 := HX2
      subst hq
      obtain ⟨W3, hW3⟩ : ∃ W, w1.alloc (rbox D.q D.p D.k D.m) = W := ⟨_, rfl⟩
      rw [hW3] at HX3
      have HF := Kept.mk (HN.out W3 (D.q : Int) (by omega) (by have := hD.pre.small; omega))
      have HD := Kept.mk hD
      go_wp2_with fail
      try rw [hW3]
      clear hW3
      refine HF.out.mono ?_
      rintro e w9 ⟨hb9, h⟩
      rcases h with ⟨D', b, hq', hbb, rfl, hf⟩ | ⟨hn, rfl⟩
      · have hDD : D' = D := FFld.FD.uniq hf.ok HD.out (by omega)
        subst hDD
        have HX9 := Kept.mk (HX3.out.below hb9)
        have hsz9 := HX3.out.bel.size
        obtain ⟨z0, z1, z2, z3⟩ := four_cells HX9.out.b5
        obtain ⟨y0, y1, y2, y3⟩ := four_frz HX9.out.b5
        obtain ⟨x0, x1, x2, x3⟩ := four_cells HX9.out.b7
        have hn7 := HX9.out.n7
        have hsz10 := HX9.out.bel.size
        have hg4 : w9.grownBy ((((w9.setCell ⟨w.heap.size, 0, none⟩ (.int .i64 D'.q)).setCell ⟨w.heap.size, 1, none⟩ (.int .i64 D'.p)).setCell ⟨w.heap.size, 2, none⟩ (.int .i64 D'.k)).setCell ⟨w.heap.size, 3, none⟩ (.int .i64 D'.m)) (some w.heap.size) := growSet (growSet (growSet (growSet (growRefl _ _) _ _) _ _) _ _) _ _
        obtain ⟨hbe, e0, e1, e2, e3⟩ := four_end HX9.out.b5 HX9.out.bel (Nat.le_refl _) (.int .i64 D'.q) (.int .i64 D'.p) (.int .i64 D'.k) (.int .i64 D'.m)
        have HBE := Kept.mk hbe
        have HFE := Kept.mk (hf.res HX9.out.b5 hg4)
        have HLE : Kept (w.heap.size ≤ b) := ⟨by omega⟩
        clear hbe hg4 hf hb9 HF HX9 HX3 hq'
        go_wp2
        go_region
        all_goals
          (go_wp2
           exact bodyPost_ret (v := .tuple #[.pointer (some ⟨b, 0, none⟩), rfv D'.q D'.p D'.k D'.m]) (by simp [results, Try.results50, go_sem, e0, e1, e2, e3]) rfl ⟨HBE.out.trans ((belowDrew _).mono (by simp; omega)), D', b, HD.out, .inl hle, HLE.out, HFE.out.below (belowDrew _), rfl⟩)
      · exact absurd ⟨D, HD.out, rfl⟩ hn
    · have eg : decide (order > most) = true := by simp; omega
      clear hD hle
      obtain ⟨U, hU⟩ : ∃ U, IntKind.u64.wrap order = U := ⟨_, rfl⟩
      obtain ⟨hU0, hU1⟩ : 0 ≤ U ∧ U ≤ 18446744073709551615 := by rw [← hU, IntKind.wrap_u64]; omega
      obtain ⟨t, ht⟩ : ∃ t : Nat, U % 12 = (t : Int) := ⟨(U % 12).toNat, by omega⟩
      have ht12 : t < 12 := by omega
      obtain ⟨sm, hsm⟩ : ∃ s, smL[t]?.getD 0 = s := ⟨_, rfl⟩
      obtain ⟨hfit, hs27⟩ := sm_fit t ht12
      rw [hsm] at hfit hs27
      have HFIT := Kept.mk hfit
      have hcell := sm_cell HX2.out.b6 t ht12
      rw [hsm] at hcell
      have hcell' := fun W' (hb : Below (w1.alloc (rbox D.q D.p D.k D.m)).heap.size (w1.alloc (rbox D.q D.p D.k D.m)) W') => belowCell hb hcell
      have hu0 : 0 ≤ U % 12 := by omega
      have hu1 : U % 12 < 12 := by omega
      have hu2 : (U % 12).toNat = t := by omega
      have HR2 := Kept.mk (HR.out (w1.alloc (rbox D.q D.p D.k D.m)) (sm : Int) (by omega) (by omega))
      clear hfit hsm hcell' ht
      clear hq
      go_wp2_with fail
      refine HR2.out.mono ?_
      rintro e w2 ⟨hb2, h⟩
      rcases h with ⟨D, hD, hq, rfl⟩ | ⟨hn, rfl⟩
      · obtain rfl : sm = D.q := by omega
        have HX2' := Kept.mk (HX2.out.below hb2)
        have HX3 := Kept.mk (HX2'.out.set D.q D.p D.k D.m)
        obtain ⟨z0, z1, z2, z3⟩ := four_cells HX2'.out.b7
        obtain ⟨y0, y1, y2, y3⟩ := four_frz HX2'.out.b7
        clear hb2 HR2 hcell HX2 HX2'
        obtain ⟨W3, hW3⟩ : ∃ W, (((w2.setCell ⟨w1.heap.size, 0, none⟩ (.int .i64 D.q)).setCell ⟨w1.heap.size, 1, none⟩ (.int .i64 D.p)).setCell ⟨w1.heap.size, 2, none⟩ (.int .i64 D.k)).setCell ⟨w1.heap.size, 3, none⟩ (.int .i64 D.m) = W := ⟨_, rfl⟩
        rw [hW3] at HX3
        have HF := Kept.mk (HN.out W3 (D.q : Int) (by omega) (by have := hD.pre.small; omega))
        have HD := Kept.mk hD
        go_wp2_with fail
        try rw [hW3]
        clear hW3
        refine HF.out.mono ?_
        rintro e w9 ⟨hb9, h⟩
        rcases h with ⟨D', b, hq', hbb, rfl, hf⟩ | ⟨hn, rfl⟩
        · have hDD : D' = D := FFld.FD.uniq hf.ok HD.out (by omega)
          subst hDD
          have HX9 := Kept.mk (HX3.out.below hb9)
          have hsz9 := HX3.out.bel.size
          obtain ⟨z0, z1, z2, z3⟩ := four_cells HX9.out.b5
          obtain ⟨y0, y1, y2, y3⟩ := four_frz HX9.out.b5
          obtain ⟨x0, x1, x2, x3⟩ := four_cells HX9.out.b7
          have hn7 := HX9.out.n7
          have hsz10 := HX9.out.bel.size
          have hg4 : w9.grownBy ((((w9.setCell ⟨w.heap.size, 0, none⟩ (.int .i64 D'.q)).setCell ⟨w.heap.size, 1, none⟩ (.int .i64 D'.p)).setCell ⟨w.heap.size, 2, none⟩ (.int .i64 D'.k)).setCell ⟨w.heap.size, 3, none⟩ (.int .i64 D'.m)) (some w.heap.size) := growSet (growSet (growSet (growSet (growRefl _ _) _ _) _ _) _ _) _ _
          obtain ⟨hbe, e0, e1, e2, e3⟩ := four_end HX9.out.b5 HX9.out.bel (Nat.le_refl _) (.int .i64 D'.q) (.int .i64 D'.p) (.int .i64 D'.k) (.int .i64 D'.m)
          have HBE := Kept.mk hbe
          have HFE := Kept.mk (hf.res HX9.out.b5 hg4)
          have HLE : Kept (w.heap.size ≤ b) := ⟨by omega⟩
          clear hbe hg4 hf hb9 HF HX9 HX3 hq'
          go_wp2
          go_region
          all_goals
            (go_wp2
             exact bodyPost_ret (v := .tuple #[.pointer (some ⟨b, 0, none⟩), rfv D'.q D'.p D'.k D'.m]) (by simp [results, Try.results50, go_sem, e0, e1, e2, e3]) rfl ⟨HBE.out.trans ((belowDrew _).mono (by simp; omega)), D', b, HD.out, .inr (by omega), HLE.out, HFE.out.below (belowDrew _), rfl⟩)
        · exact absurd ⟨D, HD.out, rfl⟩ hn
      · exact absurd HFIT.out hn
  · have HX2 : Kept (SoW w w1.heap.size 0 0 0 0 (w1.alloc rzbox)) := ⟨SoW.start HX1.out 0 0 0 0⟩
    clear HX1 hn
    obtain ⟨U, hU⟩ : ∃ U, IntKind.u64.wrap order = U := ⟨_, rfl⟩
    obtain ⟨hU0, hU1⟩ : 0 ≤ U ∧ U ≤ 18446744073709551615 := by rw [← hU, IntKind.wrap_u64]; omega
    obtain ⟨t, ht⟩ : ∃ t : Nat, U % 12 = (t : Int) := ⟨(U % 12).toNat, by omega⟩
    have ht12 : t < 12 := by omega
    obtain ⟨sm, hsm⟩ : ∃ s, smL[t]?.getD 0 = s := ⟨_, rfl⟩
    obtain ⟨hfit, hs27⟩ := sm_fit t ht12
    rw [hsm] at hfit hs27
    have HFIT := Kept.mk hfit
    have hcell := sm_cell HX2.out.b6 t ht12
    rw [hsm] at hcell
    have hcell' := fun W' (hb : Below (w1.alloc rzbox).heap.size (w1.alloc rzbox) W') => belowCell hb hcell
    have hu0 : 0 ≤ U % 12 := by omega
    have hu1 : U % 12 < 12 := by omega
    have hu2 : (U % 12).toNat = t := by omega
    have HR2 := Kept.mk (HR.out (w1.alloc rzbox) (sm : Int) (by omega) (by omega))
    clear hfit hsm hcell' ht
    skip
    go_wp2_with fail
    refine HR2.out.mono ?_
    rintro e w2 ⟨hb2, h⟩
    rcases h with ⟨D, hD, hq, rfl⟩ | ⟨hn, rfl⟩
    · obtain rfl : sm = D.q := by omega
      have HX2' := Kept.mk (HX2.out.below hb2)
      have HX3 := Kept.mk (HX2'.out.set D.q D.p D.k D.m)
      obtain ⟨z0, z1, z2, z3⟩ := four_cells HX2'.out.b7
      obtain ⟨y0, y1, y2, y3⟩ := four_frz HX2'.out.b7
      clear hb2 HR2 hcell HX2 HX2'
      obtain ⟨W3, hW3⟩ : ∃ W, (((w2.setCell ⟨w1.heap.size, 0, none⟩ (.int .i64 D.q)).setCell ⟨w1.heap.size, 1, none⟩ (.int .i64 D.p)).setCell ⟨w1.heap.size, 2, none⟩ (.int .i64 D.k)).setCell ⟨w1.heap.size, 3, none⟩ (.int .i64 D.m) = W := ⟨_, rfl⟩
      rw [hW3] at HX3
      have HF := Kept.mk (HN.out W3 (D.q : Int) (by omega) (by have := hD.pre.small; omega))
      have HD := Kept.mk hD
      go_wp2_with fail
      try rw [hW3]
      clear hW3
      refine HF.out.mono ?_
      rintro e w9 ⟨hb9, h⟩
      rcases h with ⟨D', b, hq', hbb, rfl, hf⟩ | ⟨hn, rfl⟩
      · have hDD : D' = D := FFld.FD.uniq hf.ok HD.out (by omega)
        subst hDD
        have HX9 := Kept.mk (HX3.out.below hb9)
        have hsz9 := HX3.out.bel.size
        obtain ⟨z0, z1, z2, z3⟩ := four_cells HX9.out.b5
        obtain ⟨y0, y1, y2, y3⟩ := four_frz HX9.out.b5
        obtain ⟨x0, x1, x2, x3⟩ := four_cells HX9.out.b7
        have hn7 := HX9.out.n7
        have hsz10 := HX9.out.bel.size
        have hg4 : w9.grownBy ((((w9.setCell ⟨w.heap.size, 0, none⟩ (.int .i64 D'.q)).setCell ⟨w.heap.size, 1, none⟩ (.int .i64 D'.p)).setCell ⟨w.heap.size, 2, none⟩ (.int .i64 D'.k)).setCell ⟨w.heap.size, 3, none⟩ (.int .i64 D'.m)) (some w.heap.size) := growSet (growSet (growSet (growSet (growRefl _ _) _ _) _ _) _ _) _ _
        obtain ⟨hbe, e0, e1, e2, e3⟩ := four_end HX9.out.b5 HX9.out.bel (Nat.le_refl _) (.int .i64 D'.q) (.int .i64 D'.p) (.int .i64 D'.k) (.int .i64 D'.m)
        have HBE := Kept.mk hbe
        have HFE := Kept.mk (hf.res HX9.out.b5 hg4)
        have HLE : Kept (w.heap.size ≤ b) := ⟨by omega⟩
        clear hbe hg4 hf hb9 HF HX9 HX3 hq'
        go_wp2
        go_region
        all_goals
          (go_wp2
           exact bodyPost_ret (v := .tuple #[.pointer (some ⟨b, 0, none⟩), rfv D'.q D'.p D'.k D'.m]) (by simp [results, Try.results50, go_sem, e0, e1, e2, e3]) rfl ⟨HBE.out.trans ((belowDrew _).mono (by simp; omega)), D', b, HD.out, .inr (by omega), HLE.out, HFE.out.below (belowDrew _), rfl⟩)
      · exact absurd ⟨D, HD.out, rfl⟩ hn
    · exact absurd HFIT.out hn
end Go.Proofs.Ytfhhnfpapgfnmaa
