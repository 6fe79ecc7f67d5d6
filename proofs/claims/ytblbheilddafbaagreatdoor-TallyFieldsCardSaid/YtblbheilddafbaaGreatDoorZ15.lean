/-
  Texts of the proof, merged by program: Rat1 Rat2 Rat3 Rat4 Rat5 Rat6.
-/
import Derived.Test.YtblbheilddafbaaGreatDoorZ14
import Derived.Test.YtblbheilddafbaaGreatDoorZ11
set_option linter.unusedVariables false
set_option linter.unusedSimpArgs false
namespace Go.Proofs.YtblbheilddafbaaGreatDoor
open Go Go.RowKit
/-- Blocks that a call has laid behind the world w0, one after the other, and that are as they were. -/
def Bxs (w0 : World) (os : List Obj) (W : World) : Prop := Below w0.heap.size w0 W ∧ w0.heap.size + os.length ≤ W.heap.size ∧ ∀ i o, os[i]? = some o → W.heap[w0.heap.size + i]? = some o
theorem Bxs.start (w : World) : Bxs w [] w := ⟨Below.refl _ _, by simp, fun i o h => by simp at h⟩
theorem Bxs.alloc {w0 W : World} {os : List Obj} (h : Bxs w0 os W) (hs : W.heap.size = w0.heap.size + os.length) (o : Obj) : Bxs w0 (os ++ [o]) (W.alloc o) := by
  refine ⟨h.1.alloc h.1.size _, by simp; omega, fun i o' hi => ?_⟩
  by_cases hl : i < os.length
  · rw [List.getElem?_append_left hl] at hi
    exact (heap_alloc_old _ _ (by omega)).trans (h.2.2 i o' hi)
  · rw [List.getElem?_append_right (by omega)] at hi
    have : i - os.length = 0 := by
      apply Classical.byContradiction
      intro hc
      rw [List.getElem?_eq_none (by simp; omega)] at hi
      cases hi
    rw [this] at hi
    simp only [List.getElem?_cons_zero, Option.some.injEq] at hi
    subst hi
    have e : w0.heap.size + i = W.heap.size := by omega
    rw [e]
    exact heap_alloc_new W _
theorem Bxs.below {w0 W W' : World} {os : List Obj} (h : Bxs w0 os W) (hb : Below W.heap.size W W') : Bxs w0 os W' :=
  ⟨h.1.trans (hb.mono h.1.size), Nat.le_trans h.2.1 hb.size, fun i o hi => (hb.block _ (Array.getElem?_eq_some_iff.1 (h.2.2 i o hi)).1).trans (h.2.2 i o hi)⟩
theorem Bxs.drew {w0 W : World} {os : List Obj} (h : Bxs w0 os W) : Bxs w0 os W.drew := h.below (belowDrew W)
theorem Bxs.b0 {w0 W : World} {o : Obj} {os : List Obj} (h : Bxs w0 (o :: os) W) : W.heap[w0.heap.size]? = some o := h.2.2 0 o rfl
theorem Bxs.b1 {w0 W : World} {o o1 : Obj} {os : List Obj} (h : Bxs w0 (o :: o1 :: os) W) : W.heap[w0.heap.size + 1]? = some o1 := h.2.2 1 o1 rfl
theorem Bxs.b2 {w0 W : World} {o o1 o2 : Obj} {os : List Obj} (h : Bxs w0 (o :: o1 :: o2 :: os) W) : W.heap[w0.heap.size + 1 + 1]? = some o2 := h.2.2 2 o2 rfl
theorem Bxs.b3 {w0 W : World} {o o1 o2 o3 : Obj} {os : List Obj} (h : Bxs w0 (o :: o1 :: o2 :: o3 :: os) W) : W.heap[w0.heap.size + 1 + 1 + 1]? = some o3 := h.2.2 3 o3 rfl
theorem Bxs.l1 {w0 W : World} {o : Obj} {os : List Obj} (h : Bxs w0 (o :: os) W) : w0.heap.size < W.heap.size := (Array.getElem?_eq_some_iff.1 h.b0).1
theorem Bxs.l2 {w0 W : World} {o o1 : Obj} {os : List Obj} (h : Bxs w0 (o :: o1 :: os) W) : w0.heap.size + 1 < W.heap.size := (Array.getElem?_eq_some_iff.1 h.b1).1
theorem Bxs.l3 {w0 W : World} {o o1 o2 : Obj} {os : List Obj} (h : Bxs w0 (o :: o1 :: o2 :: os) W) : w0.heap.size + 1 + 1 < W.heap.size := (Array.getElem?_eq_some_iff.1 h.b2).1
theorem Bxs.l4 {w0 W : World} {o o1 o2 o3 : Obj} {os : List Obj} (h : Bxs w0 (o :: o1 :: o2 :: o3 :: os) W) : w0.heap.size + 1 + 1 + 1 < W.heap.size := (Array.getElem?_eq_some_iff.1 h.b3).1
theorem Bxs.lt {w0 W : World} {os : List Obj} (h : Bxs w0 os W) {i : Nat} (hi : i < os.length) : w0.heap.size + i < W.heap.size := by have := h.2.1; omega
theorem three_cells {w : World} {g : Nat} {a b c : Value} {T : TypeId} (h : w.heap[g]? = some (.cells #[a, b, c] T (0, 0))) :
    w.cell? ⟨g, 0, none⟩ = some a ∧ w.cell? ⟨g, 1, none⟩ = some b ∧ w.cell? ⟨g, 2, none⟩ = some c ∧ w.frozen? ⟨g, 0, none⟩ = false ∧ w.frozen? ⟨g, 1, none⟩ = false ∧ w.frozen? ⟨g, 2, none⟩ = false :=
  ⟨by rw [cell_of_row w g 0 _ T (0, 0) h]; rfl, by rw [cell_of_row w g 1 _ T (0, 0) h]; rfl, by rw [cell_of_row w g 2 _ T (0, 0) h]; rfl, frozen_of_row w g 0 _ T h, frozen_of_row w g 1 _ T h, frozen_of_row w g 2 _ T h⟩
theorem three_set {w : World} {g : Nat} {a b c : Value} {T : TypeId} (h : w.heap[g]? = some (.cells #[a, b, c] T (0, 0))) (a' b' c' : Value) :
    (((w.setCell ⟨g, 0, none⟩ a').setCell ⟨g, 1, none⟩ b').setCell ⟨g, 2, none⟩ c').heap[g]? = some (.cells #[a', b', c'] T (0, 0)) := by
  have h1 := heap_setCell_same w g 0 _ T a' h
  have h2 := heap_setCell_same _ g 1 _ T b' h1
  have h3 := heap_setCell_same _ g 2 _ T c' h2
  simpa using h3
theorem Num.keptBox {L : Nat} {w w' : World} {v : Value} {n : Int} {g : Nat} {cs : Array Value} {T : TypeId} {fr : Nat × Nat} (h : Num L w v n) (hg : w.heap[g]? = some (.cells cs T fr)) (hc : ∀ (i : Nat) (n : Int), cs[i]? ≠ some (Value.int .u64 n)) (hw : w.grownBy w' (some g)) : Num L w' v n := by
  obtain ⟨xs, h1, h2⟩ := h
  exact ⟨xs, h1.kept hw (fun k hk e => h1.not_box hg hc (hk.trans e.symm)), h2⟩
theorem Num.box3 {L : Nat} {w : World} {v : Value} {n : Int} {g : Nat} {x : Bool} {a b : Option Addr} {k c k' c' : Nat} {T : TypeId} (h : Num L w v n) (hg : w.heap[g]? = some (.cells #[.bool x, .slice a k c, .slice b k' c'] T (0, 0))) (u u' u'' : Value) :
    Num L (((w.setCell ⟨g, 0, none⟩ u).setCell ⟨g, 1, none⟩ u').setCell ⟨g, 2, none⟩ u'') v n :=
  h.keptBox hg (fun i m => by rcases i with _ | _ | _ | i <;> simp) (growSet (growSet (growSet (growRefl w (some g)) 0 u) 1 u') 2 u'')
/-- The struct value v is the fraction p by q, in at most L words each. -/
def RatV (L : Nat) (w : World) (v : Value) (p q : Int) : Prop := ∃ sb sv uv, v = .agg #[.bool sb, sv, uv] ∧ sb = decide (p < 0) ∧ Num L w sv p.natAbs ∧ Num L w uv (if q = 1 then 0 else q)
/-- The struct is in lowest terms. -/
def Low (p q : Int) : Prop := 0 < q ∧ Int.gcd p q = 1
theorem RatV.below {L : Nat} {w w' : World} {v : Value} {p q : Int} (h : RatV L w v p q) (hb : Below w.heap.size w w') : RatV L w' v p q :=
  let ⟨sb, sv, uv, e, h1, h2, h3⟩ := h; ⟨sb, sv, uv, e, h1, h2.below hb, h3.below hb⟩
theorem RatV.mono {L L' : Nat} {w : World} {v : Value} {p q : Int} (h : RatV L w v p q) (hL : L ≤ L') : RatV L' w v p q :=
  let ⟨sb, sv, uv, e, h1, h2, h3⟩ := h; ⟨sb, sv, uv, e, h1, h2.mono hL, h3.mono hL⟩
def RetRat (L : Nat) (w : World) (p q : Int) (e : Ending) (w' : World) : Prop := Below w.heap.size w w' ∧ ∃ v', e = .returned v' ∧ RatV L w' v' p q
/-- The end of a call that stores a fraction into its result's box g. -/
theorem rat_end {L : Nat} {p q : Int} {w W : World} {g : Nat} {s x : Bool} {ao bo uo do_ : Option Addr} {k c k' c' ku cu kd cd : Nat} {T : TypeId} (hg : W.heap[g]? = some (.cells #[.bool x, .slice bo k' c', .slice do_ kd cd] T (0, 0)))
    (hb : Below w.heap.size w W) (hgw : w.heap.size ≤ g) (hs : s = decide (p < 0)) (hn : Num L W (.slice ao k c) p.natAbs) (hu : Num L W (.slice uo ku cu) (if q = 1 then 0 else q)) (W' : World)
    (hW : W' = ((W.setCell ⟨g, 0, none⟩ (.bool s)).setCell ⟨g, 1, none⟩ (.slice ao k c)).setCell ⟨g, 2, none⟩ (.slice uo ku cu)) :
    Below w.heap.size w W' ∧ RatV L W' (.agg #[.bool s, .slice ao k c, .slice uo ku cu]) p q ∧
      W'.cell? ⟨g, 0, none⟩ = some (.bool s) ∧ W'.cell? ⟨g, 1, none⟩ = some (.slice ao k c) ∧ W'.cell? ⟨g, 2, none⟩ = some (.slice uo ku cu) := by
  subst hW
  obtain ⟨q0, q1, q2, _, _, _⟩ := three_cells (three_set hg (.bool s) (.slice ao k c) (.slice uo ku cu))
  exact ⟨((hb.setCell (p := ⟨g, 0, none⟩) hgw _).setCell (p := ⟨g, 1, none⟩) hgw _).setCell (p := ⟨g, 2, none⟩) hgw _, ⟨_, _, _, rfl, hs, hn.box3 hg _ _ _, hu.box3 hg _ _ _⟩, q0, q1, q2⟩
/-- In lowest terms. -/
theorem low_num {p n : Int} {sa : Bool} (hsa : sa = decide (p < 0)) : sgn sa ((p.natAbs : Int) / (Int.gcd p n : Int)) = p / (Int.gcd p n : Int) := by
  subst hsa
  obtain ⟨k, hk⟩ := Int.gcd_dvd_left p n
  generalize hg : (Int.gcd p n : Int) = g at *
  by_cases hg0 : g = 0
  · subst hg0; simp [sgn]
  have hgp : 0 < g := by omega
  unfold sgn
  by_cases h : p < 0
  · have hk0 : k < 0 := by
      apply Classical.byContradiction
      intro hc
      have := Int.mul_nonneg (show 0 ≤ g by omega) (show 0 ≤ k by omega)
      omega
    have e : (p.natAbs : Int) = g * (-k) := by rw [Int.mul_neg]; omega
    rw [e, hk, Int.mul_ediv_cancel_left _ (by omega), Int.mul_ediv_cancel_left _ (by omega)]
    rw [← hk]
    simp [h]
  · have e : (p.natAbs : Int) = p := by omega
    rw [e]
    simp [h]
theorem low_pos {p n : Int} (hn : 0 < n) : 0 < (Int.gcd p n : Int) ∧ 0 < n / (Int.gcd p n : Int) := by
  have h1 : 0 < (Int.gcd p n : Int) := by
    have : 0 < Int.gcd p n := Int.gcd_pos_of_ne_zero_right _ (by omega)
    omega
  exact ⟨h1, Int.ediv_pos_of_pos_of_dvd hn (Int.le_of_lt h1) (Int.gcd_dvd_right _ _)⟩
theorem low_of {p n : Int} (hn : 0 < n) : Low (p / (Int.gcd p n : Int)) (n / (Int.gcd p n : Int)) :=
  ⟨(low_pos hn).2, Int.gcd_ediv_gcd_ediv_gcd (by have := (low_pos (p := p) hn).1; omega)⟩
theorem gcd_abs (p n : Int) : Int.gcd (p.natAbs : Int) n = Int.gcd p n := by simp [Int.gcd]
end Go.Proofs.YtblbheilddafbaaGreatDoor

set_option linter.unusedVariables false
set_option linter.unusedSimpArgs false
namespace Go.Proofs.YtblbheilddafbaaGreatDoor
open Go Go.RowKit
set_option maxRecDepth 20000 in
set_option maxHeartbeats 2000000 in
theorem lowest_any {La Lb : Nat} {va vb : Value} {p n : Int} {w : World} (ha : IntV La w va p) (hb : Num Lb w vb n) (hn : 0 < n) (h1 : La ≤ 268435455) (h2 : Lb ≤ 268435455) :
    Calls Tryz.prog 120 #[va, vb] w (RetRat (max La Lb) w (p / (Int.gcd p n : Int)) (n / (Int.gcd p n : Int))) := by
  obtain ⟨sa, ua, rfl, hsa, hna⟩ := ha
  obtain ⟨ao, ka, ca, rfl⟩ := hna.form
  obtain ⟨bo, kb, cb, rfl⟩ := hb.form
  have HX0 : Hid (Bxs w [.cells #[.bool sa, .slice ao ka ca] 30, .cells #[.bool false, .slice none 0 0, .slice none 0 0] 76] ((w.alloc (.cells #[.bool sa, .slice ao ka ca] 30)).alloc (.cells #[.bool false, .slice none 0 0, .slice none 0 0] 76))) :=
    ((Bxs.start w).alloc (by simp) _).alloc (by simp) _
  obtain ⟨hgp, hqp⟩ := low_pos (p := p) hn
  obtain ⟨g, hg⟩ : ∃ g : Int, g = (Int.gcd p n : Int) := ⟨_, rfl⟩
  have hga := gcd_abs p n
  have hgn := low_num (n := n) hsa
  have hdv := Int.gcd_dvd_right p n
  obtain ⟨q, hq⟩ : ∃ q : Int, q = n / g := ⟨_, rfl⟩
  rw [← hg] at hgp hqp hgn ⊢
  rw [← hq] at hqp ⊢
  have HNA := Lib.hid (hna.below HX0.out.1)
  have HNB := Lib.hid (hb.below HX0.out.1)
  have hgc := gcd_num HNA.out HNB.out (by omega) (by omega)
  rw [hga, ← hg] at hgc
  have HGC := Lib.hid hgc
  have HG := Lib.hid hg
  have HQ := Lib.hid hq
  have HGN := Lib.hid hgn
  clear hna hb hsa hg hq hga hgn hdv hgc
  go_enter Tryz.func120, Tryz.ntmps120
  go_wp2_with fail
  refine HGC.out.mono ?_
  rintro e w1 ⟨hb1, v1, rfl, hn1, hf1⟩
  have HX1 := Lib.hid (HX0.out.below hb1)
  have HNA1 := Lib.hid (HNA.out.below hb1)
  have HNB1 := Lib.hid (HNB.out.below hb1)
  have HG1 := Lib.hid hn1
  obtain ⟨c0, c1, _, _⟩ := two_cells HX1.out.b0
  clear hb1 hn1 hf1
  go_wp2_with fail
  refine (divide_num HNA1.out HG1.out hgp (by omega)).mono ?_
  rintro e w2 ⟨hb2, v2, r2, rfl, hn2, _, _, _⟩
  obtain ⟨qo, kq, cq, rfl⟩ := hn2.form
  have HX2 := Lib.hid (HX1.out.below hb2)
  have HNB2 := Lib.hid (HNB1.out.below hb2)
  have HG2 := Lib.hid (HG1.out.below hb2)
  have HP2 := Lib.hid hn2
  clear hb2 hn2 c0 c1
  go_wp2_with fail
  refine (divide_num HNB2.out HG2.out hgp (by omega)).mono ?_
  rintro e w3 ⟨hb3, v3, r3, rfl, hn3, _, _, _⟩
  rw [← HQ.out] at hn3
  obtain ⟨uo, ku, cu, rfl⟩ := hn3.form
  have HX3 := Lib.hid (HX2.out.below hb3)
  have HP3 := Lib.hid (HP2.out.below hb3)
  have HU3 := Lib.hid hn3
  clear hb3 hn3
  go_wp2_with fail
  refine (oneWord_any 1 _ (by omega) (by omega)).mono ?_
  rintro e w4 ⟨hb4, v4, rfl, hn4, hf4⟩
  have HX4 := Lib.hid (HX3.out.below hb4)
  have HP4 := Lib.hid (HP3.out.below hb4)
  have HU4 := Lib.hid (HU3.out.below hb4)
  have HO4 := Lib.hid hn4
  clear hb4 hn4 hf4
  by_cases hq1 : q = 1
  · have hcm := compare_num HU4.out HO4.out
    rw [hq1, Dg.sg_eq] at hcm
    have HCM := Lib.hid hcm
    clear hcm
    go_wp2_with fail
    refine HCM.out.mono ?_
    rintro e w5 ⟨hb5, rfl⟩
    have HX5 := Lib.hid (HX4.out.below hb5)
    have HP5 := Lib.hid (HP4.out.below hb5)
    obtain ⟨c0, c1, _, _⟩ := two_cells HX5.out.b0
    clear hb5
    go_wp2_with fail
    refine (signed_any sa HP5.out).mono ?_
    rintro e w6 ⟨hb6, v6, rfl, s6, u6, rfl, hs6, hn6⟩
    obtain ⟨ao6, k6, c6, rfl⟩ := hn6.form
    have HX6 := Lib.hid (HX5.out.below hb6)
    rw [HGN.out] at hs6 hn6
    have hbx := HX6.out.b1
    have hz6 := HX6.out.l2
    obtain ⟨d0, d1, d2, f0, f1, f2⟩ := three_cells hbx
    have HE := Lib.hid (fun W' => rat_end (L := max La Lb) (p := p / g) (q := q) (w := w) (s := s6) (ao := ao6) (k := k6) (c := c6) (uo := none) (ku := 0) (cu := 0) hbx HX6.out.1 (by omega) hs6 (hn6.mono (by omega)) (by rw [if_pos hq1]; exact Num.zero _ _) W')
    clear hb6 hs6 hn6 hbx
    go_wp2
    have hE := HE.out _ rfl
    exact bodyPost_ret (v := .agg #[.bool s6, .slice ao6 k6 c6, .slice none 0 0]) (by simp [results, Tryz.results120, go_sem, hE.2.2.1, hE.2.2.2.1, hE.2.2.2.2]) rfl ⟨hE.1, _, rfl, hE.2.1⟩
  · have hcm := compare_num HU4.out HO4.out
    obtain ⟨c, hc0, hc⟩ : ∃ c : Int, (c == 0) = false ∧ Dg.sg q 1 = c := ⟨1, rfl, Dg.sg_gt (by omega)⟩
    rw [hc] at hcm
    have HCM := Lib.hid hcm
    clear hcm hc
    go_wp2_with fail
    refine HCM.out.mono ?_
    rintro e w5 ⟨hb5, rfl⟩
    have HX5 := Lib.hid (HX4.out.below hb5)
    have HP5 := Lib.hid (HP4.out.below hb5)
    obtain ⟨c0, c1, _, _⟩ := two_cells HX5.out.b0
    have HB5 := Lib.hid hb5
    clear hb5
    go_wp2_with fail
    refine (signed_any sa HP5.out).mono ?_
    rintro e w6 ⟨hb6, v6, rfl, s6, u6, rfl, hs6, hn6⟩
    obtain ⟨ao6, k6, c6, rfl⟩ := hn6.form
    have HX6 := Lib.hid (HX5.out.below hb6)
    rw [HGN.out] at hs6 hn6
    have hbx := HX6.out.b1
    have hz6 := HX6.out.l2
    obtain ⟨d0, d1, d2, f0, f1, f2⟩ := three_cells hbx
    have HE := Lib.hid (fun W' => rat_end (L := max La Lb) (p := p / g) (q := q) (w := w) (s := s6) (ao := ao6) (k := k6) (c := c6) (uo := uo) (ku := ku) (cu := cu) hbx HX6.out.1 (by omega) hs6 (hn6.mono (by omega)) (by rw [if_neg hq1]; exact ((HU4.out.below HB5.out).below hb6).mono (by omega)) W')
    clear hb6 hs6 hn6 hbx
    go_wp2
    have hE := HE.out _ rfl
    exact bodyPost_ret (v := .agg #[.bool s6, .slice ao6 k6 c6, .slice uo ku cu]) (by simp [results, Tryz.results120, go_sem, hE.2.2.1, hE.2.2.2.1, hE.2.2.2.2]) rfl ⟨hE.1, _, rfl, hE.2.1⟩
end Go.Proofs.YtblbheilddafbaaGreatDoor

set_option linter.unusedVariables false
set_option linter.unusedSimpArgs false
namespace Go.Proofs.YtblbheilddafbaaGreatDoor
open Go Go.RowKit
theorem RatV.form {L : Nat} {w : World} {v : Value} {p q : Int} (h : RatV L w v p q) : ∃ sb ao ka ca uo ku cu, v = .agg #[.bool sb, .slice ao ka ca, .slice uo ku cu] ∧ sb = decide (p < 0) ∧ Num L w (.slice ao ka ca) p.natAbs ∧ Num L w (.slice uo ku cu) (if q = 1 then 0 else q) ∧ (ku = 0 ↔ q = 1 ∨ q = 0) := by
  obtain ⟨sb, sv, uv, rfl, h1, h2, h3⟩ := h
  obtain ⟨ao, ka, ca, rfl⟩ := h2.form
  obtain ⟨uo, ku, cu, rfl, hk, _⟩ := h3.form2
  refine ⟨sb, ao, ka, ca, uo, ku, cu, rfl, h1, h2, h3, ?_⟩
  rw [hk]
  by_cases hq : q = 1
  · simp [hq]
  · simp [hq]
theorem RatV.int {L : Nat} {w : World} {sb : Bool} {a b : Value} {p q : Int} (h : RatV L w (.agg #[.bool sb, a, b]) p q) : IntV L w (.agg #[.bool sb, a]) p := by
  obtain ⟨sb', sv, uv, e, h1, h2, h3⟩ := h
  cases e
  exact ⟨_, _, rfl, h1, h2⟩
set_option maxHeartbeats 1000000 in
theorem denominator_any {L : Nat} {v : Value} {p q : Int} {w : World} (h : RatV L w v p q) (hq : 0 < q) (hL : L ≤ 536870912) :
    Calls Tryz.prog 118 #[v] w (RetNum (max L 1) w q) := by
  obtain ⟨sb, ao, ka, ca, uo, ku, cu, rfl, h1, h2, h3, hk⟩ := h.form
  have hb0 : Below w.heap.size w (w.alloc (.cells #[.bool sb, .slice ao ka ca, .slice uo ku cu] 76)) := (Below.refl _ _).alloc (Nat.le_refl _) _
  have HB0 := Lib.hid hb0
  have HU := Lib.hid (h3.below hb0)
  clear h h1 h2 h3 hb0
  by_cases hq1 : q = 1
  · subst hq1
    obtain rfl : ku = 0 := hk.2 (.inl rfl)
    clear hk
    go_enter Tryz.func118, Tryz.ntmps118
    go_wp2_with fail
    refine (oneWord_any 1 _ (by omega) (by omega)).mono ?_
    rintro e w1 ⟨hb1, v1, rfl, hn1, hf1⟩
    have HB1 := Lib.hid hb1
    have HN := Lib.hid hn1
    have HF := Lib.hid hf1
    clear hb1 hn1 hf1
    go_wp2
    go_ret
    exact ⟨HB0.out.trans (HB1.out.mono (by simp)), _, rfl, HN.out.mono (by omega), HF.out.mono (by simp)⟩
  · have hk0 : 0 < ku := by
      apply Nat.pos_of_ne_zero
      intro hc
      rcases hk.1 hc with h | h <;> omega
    rw [if_neg hq1] at HU
    clear hk
    go_enter Tryz.func118, Tryz.ntmps118
    go_wp2_with fail
    refine (copied_any HU.out (by omega)).mono ?_
    rintro e w1 ⟨hb1, v1, rfl, hn1, hf1⟩
    have HB1 := Lib.hid hb1
    have HN := Lib.hid hn1
    have HF := Lib.hid hf1
    clear hb1 hn1 hf1
    go_wp2
    go_ret
    exact ⟨HB0.out.trans (HB1.out.mono (by simp)), _, rfl, HN.out.mono (by omega), HF.out.mono (by simp)⟩
set_option maxHeartbeats 1000000 in
theorem rsign_any {L : Nat} {v : Value} {p q : Int} {w : World} (h : RatV L w v p q) :
    Calls Tryz.prog 59 #[v] w (RetV w (.int .i64 (Dg.sg p 0))) := by
  obtain ⟨sb, ao, ka, ca, uo, ku, cu, rfl, h1, h2, h3, hk⟩ := h.form
  have hb0 : Below w.heap.size w (w.alloc (.cells #[.bool sb, .slice ao ka ca, .slice uo ku cu] 76)) := (Below.refl _ _).alloc (Nat.le_refl _) _
  have HB0 := Lib.hid hb0
  have HI := Lib.hid (h.int.below hb0)
  clear h h1 h2 h3 hb0 hk
  go_enter Tryz.func59, Tryz.ntmps59
  go_wp2_with fail
  refine (sign_any HI.out).mono ?_
  rintro e w1 ⟨hb1, rfl⟩
  have HB1 := Lib.hid hb1
  clear hb1
  go_wp2
  go_ret
  exact ⟨HB0.out.trans (HB1.out.mono (by simp)), rfl⟩
set_option maxRecDepth 20000 in
set_option maxHeartbeats 1000000 in
theorem den_any {L : Nat} {v : Value} {p q : Int} {w : World} (h : RatV L w v p q) (hq : 0 < q) (hL : L ≤ 536870912) :
    Calls Tryz.prog 58 #[v] w (RetInt (max L 1) w q) := by
  obtain ⟨sb, ao, ka, ca, uo, ku, cu, rfl, h1, h2, h3, hk⟩ := h.form
  have HX0 : Hid (Bxs w [.cells #[.bool sb, .slice ao ka ca, .slice uo ku cu] 76, .cells #[.bool false, .slice none 0 0] 30] ((w.alloc (.cells #[.bool sb, .slice ao ka ca, .slice uo ku cu] 76)).alloc (.cells #[.bool false, .slice none 0 0] 30))) :=
    ((Bxs.start w).alloc (by simp) _).alloc (by simp) _
  have HR := Lib.hid (h.below HX0.out.1)
  clear h h1 h2 h3 hk
  go_enter Tryz.func58, Tryz.ntmps58
  go_wp2_with fail
  refine (denominator_any HR.out hq hL).mono ?_
  rintro e w1 ⟨hb1, v1, rfl, hn1, hf1⟩
  have HX1 := Lib.hid (HX0.out.below hb1)
  have HN1 := Lib.hid hn1
  clear hb1 hn1 hf1
  go_wp2_with fail
  refine (signed_any false HN1.out).mono ?_
  rintro e w2 ⟨hb2, v2, rfl, s2, u2, rfl, hs2, hn2⟩
  obtain ⟨ao2, k2, c2, rfl⟩ := hn2.form
  have HX2 := Lib.hid (HX1.out.below hb2)
  have hbx := HX2.out.b1
  have hz2 := HX2.out.l2
  obtain ⟨c0, c1, f0, f1⟩ := two_cells hbx
  have HE := Lib.hid (int_end (z := q) (w := w) (s := s2) (ao := ao2) (k := k2) (c := c2) hbx HX2.out.1 (by omega) hs2 hn2)
  clear hb2 hs2 hn2 hbx
  go_wp2
  exact bodyPost_ret (v := .agg #[.bool s2, .slice ao2 k2 c2]) (by simp [results, Tryz.results58, go_sem, HE.out.2.1, HE.out.2.2]) rfl HE.out.1
set_option maxRecDepth 20000 in
set_option maxHeartbeats 1000000 in
theorem num_any {L : Nat} {v : Value} {p q : Int} {w : World} (h : RatV L w v p q) (hL : L ≤ 536870912) :
    Calls Tryz.prog 57 #[v] w (RetInt L w p) := by
  obtain ⟨sb, ao, ka, ca, uo, ku, cu, rfl, h1, h2, h3, hk⟩ := h.form
  have HX0 : Hid (Bxs w [.cells #[.bool sb, .slice ao ka ca, .slice uo ku cu] 76, .cells #[.bool false, .slice none 0 0] 30] ((w.alloc (.cells #[.bool sb, .slice ao ka ca, .slice uo ku cu] 76)).alloc (.cells #[.bool false, .slice none 0 0] 30))) :=
    ((Bxs.start w).alloc (by simp) _).alloc (by simp) _
  have HN := Lib.hid (h2.below HX0.out.1)
  have HSB : Hid (sgn sb p.natAbs = p) := by
    show _ = _
    rw [h1]; unfold sgn
    by_cases hz : p < 0
    · simp [hz]; omega
    · simp [hz]; omega
  clear h h1 h2 h3 hk
  go_enter Tryz.func57, Tryz.ntmps57
  go_wp2_with fail
  go_region_held3 (fun w' => w'.cell? ⟨w.heap.size, 0, none⟩ = some (.bool sb) ∧ w'.cell? ⟨w.heap.size, 1, none⟩ = some (.slice ao ka ca))
    (first | go_keep | exact ⟨kd0, kd1⟩ | exact ⟨kc0, kc1⟩)
    ((first
      | (go_at_call 89; refine (copied_any (L := L) (m := p.natAbs) (by exact HN.out) (by omega)).mono ?_; rintro e w1 ⟨hb1, v1, rfl, hn1, hf1⟩; have hx1 := HX0.out.drew.below hb1; obtain ⟨kc0, kc1, _⟩ := three_cells hx1.b0)
      | (go_at_call 83; refine (signed_any sb hn1).mono ?_; rintro e w2 ⟨hb2, v2, rfl, s, sv, rfl, hs, hn2⟩; have HS := Lib.hid hs; clear hs; obtain ⟨ao2, k2, c2, rfl⟩ := hn2.form; have hx2 := hx1.below hb2; obtain ⟨kd0, kd1, _⟩ := three_cells hx2.b0; have hbx := hx2.b1; obtain ⟨c0, c1, f0, f1⟩ := two_cells hbx; have hsz := hx2.l2)))
  have HE := Lib.hid (int_end (L := L) (z := p) (w := w) (s := s) (ao := ao2) (k := k2) (c := c2) hbx hx2.1 (by omega) (by rw [HS.out, HSB.out]) (by have := hn2; rw [HSB.out] at this; exact this))
  clear hbx hb1 hb2 hn1 hn2 hf1 hx1 hx2
  go_wp2
  exact bodyPost_ret (v := .agg #[.bool s, .slice ao2 k2 c2]) (by simp [results, Tryz.results57, go_sem, HE.out.2.1, HE.out.2.2]) rfl HE.out.1
end Go.Proofs.YtblbheilddafbaaGreatDoor

set_option linter.unusedVariables false
set_option linter.unusedSimpArgs false
namespace Go.Proofs.YtblbheilddafbaaGreatDoor
open Go Go.RowKit
theorem bytes_append (a b : List UInt8) : (⟨a.toArray⟩ : ByteArray) ++ ⟨b.toArray⟩ = ⟨(a ++ b).toArray⟩ := by
  apply ByteArray.ext
  simp
theorem run_add (w : World) (a b : List UInt8) (h : a.length + b.length ≤ 9223372036854775807) : (Op.stringOp .add ⟨a.toArray⟩ ⟨b.toArray⟩).run Tryz.prog w = .ok (.string ⟨(a ++ b).toArray⟩) w := by
  have := run_string_add_sum (P := Tryz.prog) (w := w) ⟨a.toArray⟩ ⟨b.toArray⟩ (by show a.toArray.size + b.toArray.size ≤ _; simpa using h)
  rw [this, bytes_append]
/-- The canonical form of a fraction. -/
def decR (p q : Int) : List UInt8 := if q = 1 then Dg.decZ p else Dg.decZ p ++ 47 :: Dg.decN q.toNat
theorem decZ_len {L : Nat} {z : Int} (h : (z.natAbs : Int) < 18446744073709551616 ^ L) : (Dg.decZ z).length ≤ 64 * L + 2 := by
  have := Dg.decN_len (n := z.natAbs) (L := L) h
  unfold Dg.decZ
  split
  · simp; omega
  · omega
set_option maxRecDepth 20000 in
set_option maxHeartbeats 1000000 in
theorem rstring_any {L : Nat} {v : Value} {p q : Int} {w : World} (h : RatV L w v p q) (hq : 0 < q) (hL : L ≤ 536870912) :
    Calls Tryz.prog 56 #[v] w (StrRet w (decR p q)) := by
  obtain ⟨sb, ao, ka, ca, uo, ku, cu, rfl, h1, h2, h3, hk⟩ := h.form
  have HX0 : Hid (Bxs w [.cells #[.bool sb, .slice ao ka ca, .slice uo ku cu] 76] (w.alloc (.cells #[.bool sb, .slice ao ka ca, .slice uo ku cu] 76))) :=
    (Bxs.start w).alloc (by simp) _
  have HI := Lib.hid (h.int.below HX0.out.1)
  have HU := Lib.hid (h3.below HX0.out.1)
  have hl1 := decZ_len h2.lt.2
  clear h h1 h3
  by_cases hq1 : q = 1
  · have HR : Hid (decR p q = Dg.decZ p) := by show decR p q = _; unfold decR; rw [if_pos hq1]
    subst hq1
    obtain rfl : ku = 0 := hk.2 (.inl rfl)
    clear hk h2
    go_enter Tryz.func56, Tryz.ntmps56
    go_wp2_with fail
    refine (string_any HI.out (by omega)).mono ?_
    rintro e w1 ⟨hb1, rfl⟩
    have HB1 := Lib.hid hb1
    clear hb1
    unfold str
    go_wp2
    go_ret
    exact ⟨HX0.out.1.trans (HB1.out.mono (by simp)), by rw [HR.out]; rfl⟩
  · have HR : Hid (decR p q = Dg.decZ p ++ 47 :: Dg.decN q.toNat) := by show decR p q = _; unfold decR; rw [if_neg hq1]
    have hk0 : 0 < ku := by
      apply Nat.pos_of_ne_zero
      intro hc
      rcases hk.1 hc with h | h <;> omega
    rw [if_neg hq1] at HU
    have hl2 : (Dg.decN q.toNat).length ≤ 64 * L + 1 := by
      refine Dg.decN_len (n := q.toNat) (L := L) ?_
      have := HU.out.lt.2
      rw [show ((q.toNat : Nat) : Int) = q by omega]
      exact this
    clear hk h2
    obtain ⟨l1, hll1⟩ : ∃ l, Dg.decZ p = l := ⟨_, rfl⟩
    obtain ⟨l2, hll2⟩ : ∃ l, Dg.decN q.toNat = l := ⟨_, rfl⟩
    rw [hll1] at HR hl1
    rw [hll2] at HR hl2
    have hadd1 := fun w : World => run_add w l1 [47] (by simp; omega)
    have hadd2 := fun w : World => run_add w (l1 ++ [47]) l2 (by simp; omega)
    have H1 := Lib.hid hll1
    have H2 := Lib.hid hll2
    obtain ⟨s12, hs12⟩ : ∃ s : ByteArray, s = ⟨(l1 ++ [47]).toArray⟩ := ⟨_, rfl⟩
    obtain ⟨s13, hs13⟩ : ∃ s : ByteArray, s = ⟨(l1 ++ [47] ++ l2).toArray⟩ := ⟨_, rfl⟩
    obtain ⟨s1, hs1'⟩ : ∃ s : ByteArray, s = ⟨l1.toArray⟩ := ⟨_, rfl⟩
    obtain ⟨s2, hs2'⟩ : ∃ s : ByteArray, s = ⟨l2.toArray⟩ := ⟨_, rfl⟩
    rw [← hs1', ← hs12] at hadd1
    rw [← hs12, ← hs13, ← hs2'] at hadd2
    obtain ⟨W0, hW0⟩ : ∃ W0, W0 = w.alloc (.cells #[.bool sb, .slice ao ka ca, .slice uo ku cu] 76) := ⟨_, rfl⟩
    have HC1 : Hid (∀ W, Below w.heap.size w W → IntV L W (.agg #[.bool sb, .slice ao ka ca]) p → Calls Tryz.prog 20 #[.agg #[.bool sb, .slice ao ka ca]] W fun e w' => Below W.heap.size W w' ∧ e = .returned (.string s1)) := fun W _ hI =>
      (string_any hI (by omega)).mono fun e w' ⟨h1, h2⟩ => ⟨h1, by rw [h2, hll1, hs1']; rfl⟩
    have HC2 : Hid (∀ W, Num L W (.slice uo ku cu) q → Calls Tryz.prog 86 #[.slice uo ku cu] W fun e w' => Below W.heap.size W w' ∧ e = .returned (.string s2)) := fun W hI =>
      (writeDigits_any hI (by omega)).mono fun e w' ⟨h1, h2⟩ => ⟨h1, by rw [h2, hll2, hs2']; rfl⟩
    have HS13 := Lib.hid hs13
    clear hs12 hs13 hs1' hs2' hll1 hll2 hW0
    go_enter Tryz.func56, Tryz.ntmps56
    go_wp2_with fail
    go_region_held3 (fun w' => w'.cell? ⟨w.heap.size, 0, none⟩ = some (.bool sb) ∧ w'.cell? ⟨w.heap.size, 1, none⟩ = some (.slice ao ka ca) ∧ w'.cell? ⟨w.heap.size, 2, none⟩ = some (.slice uo ku cu))
      (first | go_keep | exact ⟨kd0, kd1, kd2⟩ | exact ⟨kc0, kc1, kc2⟩)
      ((first
        | (go_at_call 20; (with_reducible refine (HC1.out _ ?hy1 ?hy2).mono ?_); (case hy1 => exact HX0.out.drew.1); (case hy2 => exact HI.out.below (belowDrew _)); rintro e w1 ⟨hb1, rfl⟩; have hx1 := HX0.out.drew.below hb1; obtain ⟨kc0, kc1, kc2, _⟩ := three_cells hx1.b0)
        | (go_at_call 86; (with_reducible refine (HC2.out _ ?hy3).mono ?_); (case hy3 => exact (HU.out.below (belowDrew _)).below hb1); rintro e w2 ⟨hb2, rfl⟩; have hx2 := hx1.below hb2; obtain ⟨kd0, kd1, kd2, _⟩ := three_cells hx2.b0)))
    have HBB := Lib.hid hx2.1
    clear hx1 hx2 hb1 hb2
    go_wp2
    go_ret
    exact ⟨HBB.out, by rw [HR.out]; show Ending.returned (.string s13) = _; rw [HS13.out, List.append_assoc]; rfl⟩
end Go.Proofs.YtblbheilddafbaaGreatDoor

set_option linter.unusedVariables false
set_option linter.unusedSimpArgs false
namespace Go.Proofs.YtblbheilddafbaaGreatDoor
open Go Go.RowKit
/-- The fraction a by b in lowest terms: numerator and denominator. -/
def frN (a b : Int) : Int := (if b < 0 then -a else a) / (Int.gcd a b : Int)
def frD (a b : Int) : Int := (b.natAbs : Int) / (Int.gcd a b : Int)
theorem fr_gcd (a b : Int) : Int.gcd (if b < 0 then -a else a) (b.natAbs : Int) = Int.gcd a b := by
  by_cases h : b < 0
  · simp [h, Int.gcd]
  · simp [h, Int.gcd]
theorem fr_pos {a n : Int} (hn : 0 < n) : a / (Int.gcd a n : Int) = frN a n ∧ n / (Int.gcd a n : Int) = frD a n := by
  unfold frN frD
  rw [if_neg (by omega), show (n.natAbs : Int) = n by omega]
  exact ⟨rfl, rfl⟩
theorem low_fr {a b : Int} (hb : b ≠ 0) : Low (frN a b) (frD a b) := by
  have h := low_of (p := if b < 0 then -a else a) (n := (b.natAbs : Int)) (by omega)
  rw [fr_gcd] at h
  exact h
theorem sgn_fr {a b : Int} {sa sb : Bool} (h1 : sa = decide (a < 0)) (h2 : sb = decide (b < 0)) : sgn (sa != sb) a.natAbs = if b < 0 then -a else a := by
  subst h1; subst h2
  unfold sgn
  by_cases x : a < 0 <;> by_cases y : b < 0 <;> simp [x, y] <;> omega
def MkRet (L : Nat) (w : World) (p q : Int) (e : Ending) (w' : World) : Prop := Below w.heap.size w w' ∧ ∃ v', e = .returned (.tuple #[v', .int .i64 0]) ∧ RatV L w' v' p q
set_option maxRecDepth 20000 in
set_option maxHeartbeats 2000000 in
theorem make_any {La Lb : Nat} {va vb : Value} {a b : Int} {w : World} (ha : IntV La w va a) (hb : IntV Lb w vb b) (hb0 : b ≠ 0) (h1 : La ≤ 268435455) (h2 : Lb ≤ 268435455) :
    Calls Tryz.prog 66 #[va, vb] w (MkRet (max La Lb) w (frN a b) (frD a b)) := by
  have hb' := hb
  obtain ⟨sa, ua, rfl, hsa, hna⟩ := ha
  obtain ⟨sb, ub, rfl, hsb, hnb⟩ := hb
  obtain ⟨ao, ka, ca, rfl⟩ := hna.form
  obtain ⟨bo, kb, cb, rfl⟩ := hnb.form
  have HX0 : Hid (Bxs w [.cells #[.bool sa, .slice ao ka ca] 30, .cells #[.bool sb, .slice bo kb cb] 30, .cells #[.bool false, .slice none 0 0, .slice none 0 0] 76]
      (((w.alloc (.cells #[.bool sa, .slice ao ka ca] 30)).alloc (.cells #[.bool sb, .slice bo kb cb] 30)).alloc (.cells #[.bool false, .slice none 0 0, .slice none 0 0] 76))) :=
    (((Bxs.start w).alloc (by simp) _).alloc (by simp) _).alloc (by simp) _
  have HNA := Lib.hid (hna.below HX0.out.1)
  have HNB := Lib.hid (hnb.below HX0.out.1)
  have HBI := Lib.hid (hb'.below HX0.out.1)
  obtain ⟨sg, hsg0, hsg⟩ : ∃ sg : Int, (sg == 0) = false ∧ Dg.sg b 0 = sg := by
    refine ⟨_, ?_, rfl⟩
    rcases Int.lt_trichotomy b 0 with h | h | h
    · rw [Dg.sg_lt h]; rfl
    · exact absurd h hb0
    · rw [Dg.sg_gt h]; rfl
  have hsi := sign_any HBI.out
  rw [hsg] at hsi
  have HSI := Lib.hid hsi
  have HSG := Lib.hid (sgn_fr hsa hsb)
  have hgc := fr_gcd a b
  obtain ⟨p, hp⟩ : ∃ p : Int, p = if b < 0 then -a else a := ⟨_, rfl⟩
  rw [← hp] at HSG hgc
  have hbp : 0 < (b.natAbs : Int) := by omega
  have HFR : Hid (p / (Int.gcd p (b.natAbs : Int) : Int) = frN a b ∧ (b.natAbs : Int) / (Int.gcd p (b.natAbs : Int) : Int) = frD a b) := by
    rw [hgc]; unfold frN frD; rw [← hp]; exact ⟨rfl, rfl⟩
  clear hna hnb hb' hsa hsb hsg hsi hb0 hp hgc
  go_enter Tryz.func66, Tryz.ntmps66
  go_wp2_with fail
  refine HSI.out.mono ?_
  rintro e w1 ⟨hb1, rfl⟩
  have HX1 := Lib.hid (HX0.out.below hb1)
  have HNA1 := Lib.hid (HNA.out.below hb1)
  have HNB1 := Lib.hid (HNB.out.below hb1)
  obtain ⟨ka0, ka1, _, _⟩ := two_cells HX1.out.b0
  obtain ⟨ka2, ka3, _, _⟩ := two_cells HX1.out.b1
  clear hb1
  go_wp2_with fail
  go_region_held3 (fun w' => w'.cell? ⟨w.heap.size, 0, none⟩ = some (.bool sa) ∧ w'.cell? ⟨w.heap.size, 1, none⟩ = some (.slice ao ka ca) ∧ w'.cell? ⟨w.heap.size + 1, 0, none⟩ = some (.bool sb) ∧ w'.cell? ⟨w.heap.size + 1, 1, none⟩ = some (.slice bo kb cb))
    (first | exact ⟨kd0, kd1, kd2, kd3⟩ | exact ⟨kc0, kc1, kc2, kc3⟩ | exact ⟨ka0, ka1, ka2, ka3⟩ | (refine ⟨?_, ?_, ?_, ?_⟩ <;> simp [go_sem, kd0, kd1, kd2, kd3]; done) | (refine ⟨?_, ?_, ?_, ?_⟩ <;> simp [go_sem, ka0, ka1, ka2, ka3]; done) | go_keep)
    ((first
      | (go_at_call 83; refine (signed_any (sa != sb) (L := La) (m := a.natAbs) (by exact HNA1.out.below (belowDrew _))).mono ?_; rintro e w2 ⟨hb2, v2, rfl, hI2⟩; have hx2 := HX1.out.drew.below hb2; obtain ⟨s2, u2, rfl, hs2, hn2⟩ := hI2; obtain ⟨ao2, k2, c2, rfl⟩ := hn2.form; have HI2 := Lib.hid (show IntV La w2 (.agg #[.bool s2, .slice ao2 k2 c2]) p from ⟨_, _, rfl, by rw [hs2, HSG.out], by have := hn2; rw [HSG.out] at this; exact this⟩); clear hs2 hn2; obtain ⟨kc0, kc1, _, _⟩ := two_cells hx2.b0; obtain ⟨kc2, kc3, _, _⟩ := two_cells hx2.b1)
      | (go_at_call 120; refine (lowest_any (La := La) (Lb := Lb) (p := p) (n := b.natAbs) (by exact HI2.out) (by exact (HNB1.out.below (belowDrew _)).below hb2) hbp h1 h2).mono ?_; rintro e w3 ⟨hb3, v3, rfl, hR3⟩; have hx3 := hx2.below hb3; rw [HFR.out.1, HFR.out.2] at hR3; obtain ⟨s3, ao3, k3, c3, uo3, j3, d3, rfl, hs3, hn3, hu3, _⟩ := hR3.form; have HS3 := Lib.hid hs3; clear hs3; obtain ⟨kd0, kd1, _, _⟩ := two_cells hx3.b0; obtain ⟨kd2, kd3, _, _⟩ := two_cells hx3.b1; have hbx := hx3.b2; obtain ⟨c0, c1, c2', f0, f1, f2⟩ := three_cells hbx; have hsz := hx3.l3)))
  have HE := Lib.hid (fun W' => rat_end (L := max La Lb) (p := frN a b) (q := frD a b) (w := w) (s := s3) (ao := ao3) (k := k3) (c := c3) (uo := uo3) (ku := j3) (cu := d3) hbx hx3.1 (by omega) HS3.out hn3 hu3 W')
  clear hbx hb2 hb3 hn3 hu3 hR3 hx2 hx3
  go_wp2
  have hE := HE.out _ rfl
  exact bodyPost_ret (v := .tuple #[.agg #[.bool s3, .slice ao3 k3 c3, .slice uo3 j3 d3], .int .i64 0]) (by simp [results, Tryz.results66, go_sem, hE.2.2.1, hE.2.2.2.1, hE.2.2.2.2]) rfl ⟨hE.1, _, rfl, hE.2.1⟩
end Go.Proofs.YtblbheilddafbaaGreatDoor

set_option linter.unusedVariables false
set_option linter.unusedSimpArgs false
namespace Go.Proofs.YtblbheilddafbaaGreatDoor
open Go Go.RowKit
/-- The zero value of a fraction. -/
abbrev rat0 : Value := .agg #[.bool false, .slice none 0 0, .slice none 0 0]
theorem RatV.zero (L : Nat) (w : World) : RatV L w rat0 0 1 := ⟨_, _, _, rfl, rfl, Num.zero _ _, by rw [if_pos rfl]; exact Num.zero _ _⟩
set_option maxRecDepth 20000 in
set_option maxHeartbeats 2000000 in
theorem make_zero {La Lb : Nat} {va vb : Value} {a : Int} {w : World} (ha : IntV La w va a) (hb : IntV Lb w vb 0) :
    Calls Tryz.prog 66 #[va, vb] w (RetV w (.tuple #[rat0, .int .i64 6])) := by
  have hb' := hb
  obtain ⟨sa, ua, rfl, hsa, hna⟩ := ha
  obtain ⟨sb, ub, rfl, hsb, hnb⟩ := hb
  obtain ⟨ao, ka, ca, rfl⟩ := hna.form
  obtain ⟨bo, kb, cb, rfl⟩ := hnb.form
  have HX0 : Hid (Bxs w [.cells #[.bool sa, .slice ao ka ca] 30, .cells #[.bool sb, .slice bo kb cb] 30, .cells #[.bool false, .slice none 0 0, .slice none 0 0] 76]
      (((w.alloc (.cells #[.bool sa, .slice ao ka ca] 30)).alloc (.cells #[.bool sb, .slice bo kb cb] 30)).alloc (.cells #[.bool false, .slice none 0 0, .slice none 0 0] 76))) :=
    (((Bxs.start w).alloc (by simp) _).alloc (by simp) _).alloc (by simp) _
  have HBI := Lib.hid (hb'.below HX0.out.1)
  have hsi := sign_any HBI.out
  rw [Dg.sg_eq] at hsi
  have HSI := Lib.hid hsi
  clear hna hnb hb' hsa hsb hsi
  go_enter Tryz.func66, Tryz.ntmps66
  go_wp2_with fail
  refine HSI.out.mono ?_
  rintro e w1 ⟨hb1, rfl⟩
  have HX1 := Lib.hid (HX0.out.below hb1)
  have hbx := HX1.out.b2
  obtain ⟨c0, c1, c2, f0, f1, f2⟩ := three_cells hbx
  have hsz := HX1.out.l3
  have HE := Lib.hid (fun W' => rat_end (L := 0) (p := 0) (q := 1) (w := w) (s := false) (ao := none) (k := 0) (c := 0) (uo := none) (ku := 0) (cu := 0) hbx HX1.out.1 (by omega) rfl (Num.zero _ _) (by rw [if_pos rfl]; exact Num.zero _ _) W')
  clear hb1 hbx
  go_wp2
  have hE := HE.out _ rfl
  exact bodyPost_ret (v := .tuple #[rat0, .int .i64 6]) (by simp [results, Tryz.results66, go_sem, hE.2.2.1, hE.2.2.2.1, hE.2.2.2.2]) rfl ⟨hE.1, rfl⟩
/-- What Ratio and Make return: a fraction, or ErrZero. -/
def MkRet2 (L : Nat) (w : World) (a b : Int) (e : Ending) (w' : World) : Prop := Below w.heap.size w w' ∧ ∃ v' err, e = .returned (.tuple #[v', .int .i64 err]) ∧ RatV L w' v' (if b = 0 then 0 else frN a b) (if b = 0 then 1 else frD a b) ∧ err = if b = 0 then 6 else 0
theorem make_both {La Lb : Nat} {va vb : Value} {a b : Int} {w : World} (ha : IntV La w va a) (hb : IntV Lb w vb b) (h1 : La ≤ 268435455) (h2 : Lb ≤ 268435455) :
    Calls Tryz.prog 66 #[va, vb] w (MkRet2 (max La Lb) w a b) := by
  by_cases hb0 : b = 0
  · subst hb0
    exact (make_zero ha hb).mono fun e w' ⟨h1, h2⟩ => ⟨h1, _, _, h2, by simpa using RatV.zero _ _, rfl⟩
  · exact (make_any ha hb hb0 h1 h2).mono fun e w' ⟨h1, v, h2, h3⟩ => ⟨h1, _, _, h2, by rw [if_neg hb0, if_neg hb0]; exact h3, by rw [if_neg hb0]⟩
set_option maxRecDepth 20000 in
set_option maxHeartbeats 2000000 in
theorem ratio_any (a b : Int) (w : World) (a0 : -9223372036854775808 ≤ a) (a1 : a ≤ 9223372036854775807) (b0 : -9223372036854775808 ≤ b) (b1 : b ≤ 9223372036854775807) :
    Calls Tryz.prog 65 #[.int .i64 a, .int .i64 b] w (MkRet2 1 w a b) := by
  have HX0 : Hid (Bxs w [.cells #[.bool false, .slice none 0 0, .slice none 0 0] 76] (w.alloc (.cells #[.bool false, .slice none 0 0, .slice none 0 0] 76))) := (Bxs.start w).alloc (by simp) _
  go_enter Tryz.func65, Tryz.ntmps65
  go_wp2_with fail
  refine (of_any a _ a0 a1).mono ?_
  rintro e w1 ⟨hb1, v1, rfl, hI1⟩
  have HX1 := Lib.hid (HX0.out.below hb1)
  have HI1 := Lib.hid hI1
  clear hb1 hI1
  go_wp2_with fail
  refine (of_any b _ b0 b1).mono ?_
  rintro e w2 ⟨hb2, v2, rfl, hI2⟩
  have HX2 := Lib.hid (HX1.out.below hb2)
  have HI2 := Lib.hid hI2
  have HI1' := Lib.hid (HI1.out.below hb2)
  clear hb2 hI2
  go_wp2_with fail
  refine (make_both HI1'.out HI2.out (by omega) (by omega)).mono ?_
  rintro e w3 ⟨hb3, v3, err, rfl, hR3, he3⟩
  rw [Nat.max_self] at hR3
  have HX3 := Lib.hid (HX2.out.below hb3)
  have HERR := Lib.hid he3
  obtain ⟨s3, ao3, k3, c3, uo3, j3, d3, rfl, hs3, hn3, hu3, _⟩ := hR3.form
  have hbx := HX3.out.b0
  obtain ⟨c0, c1, c2, f0, f1, f2⟩ := three_cells hbx
  have hsz := HX3.out.l1
  have HE := Lib.hid (fun W' => rat_end (L := 1) (p := if b = 0 then 0 else frN a b) (q := if b = 0 then 1 else frD a b) (w := w) (s := s3) (ao := ao3) (k := k3) (c := c3) (uo := uo3) (ku := j3) (cu := d3) hbx HX3.out.1 (by omega) hs3 hn3 hu3 W')
  clear hb3 hbx hs3 hn3 hu3 hR3 he3
  go_wp2
  have hE := HE.out _ rfl
  exact bodyPost_ret (v := .tuple #[.agg #[.bool s3, .slice ao3 k3 c3, .slice uo3 j3 d3], .int .i64 err]) (by simp [results, Tryz.results65, go_sem, hE.2.2.1, hE.2.2.2.1, hE.2.2.2.2]) rfl ⟨hE.1, _, _, rfl, hE.2.1, HERR.out⟩
end Go.Proofs.YtblbheilddafbaaGreatDoor
