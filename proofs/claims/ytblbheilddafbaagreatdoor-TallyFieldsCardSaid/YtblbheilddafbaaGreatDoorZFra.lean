/-
  Texts of the proof, merged by program: Fra.
-/
import Derived.Test.YtblbheilddafbaaGreatDoorZRrd
import Derived.Test.YtblbheilddafbaaGreatDoorZFrq
set_option linter.unusedVariables false
set_option linter.unusedSimpArgs false
namespace Go.Proofs.YtblbheilddafbaaGreatDoor
open Go Go.RowKit
/-- What frac returns. -/
def FrRet (s : List UInt8) (w : World) (e : Ending) (w' : World) : Prop := Below w.heap.size w w' ∧ ∃ sa ao uo ka ca ku cu s1 s2 o1 o2 k1 c1 k2 c2 ok, e = .returned (.tuple #[.agg #[.bool sa, .slice ao ka ca, .slice uo ku cu], .agg #[.bool s1, .slice o1 k1 c1, .bool s2, .slice o2 k2 c2], .bool ok]) ∧
  (ok = true → ∃ p q, s = decR p q ∧ Low p q ∧ s.length ≤ 400 ∧ RatV 41000 w' (.agg #[.bool sa, .slice ao ka ca, .slice uo ku cu]) p q ∧ QV 464 w' (.agg #[.bool s1, .slice o1 k1 c1, .bool s2, .slice o2 k2 c2]) p q)
theorem Num.box4 {L : Nat} {w : World} {v : Value} {n : Int} {g : Nat} {x x' : Bool} {a b : Option Addr} {k c k' c' : Nat} {T : TypeId} (h : Num L w v n) (hg : w.heap[g]? = some (.cells #[.bool x, .slice a k c, .bool x', .slice b k' c'] T (0, 0))) (u1 u2 u3 u4 : Value) :
    Num L ((((w.setCell ⟨g, 0, none⟩ u1).setCell ⟨g, 1, none⟩ u2).setCell ⟨g, 2, none⟩ u3).setCell ⟨g, 3, none⟩ u4) v n := by
  obtain ⟨xs, h1, h2⟩ := h
  refine ⟨xs, h1.kept (growSet (growSet (growSet (growSet (growRefl w (some g)) 0 u1) 1 u2) 2 u3) 3 u4) (fun k hk e => ?_), h2⟩
  refine h1.not_box hg (fun i m => ?_) (hk.trans e.symm)
  rcases i with _ | _ | _ | _ | i <;> simp
theorem NumR.box3 {L : Nat} {w : World} {v : Value} {n : Int} {g : Nat} {x : Bool} {a b : Option Addr} {k c k' c' : Nat} {T : TypeId} (h : NumR L w v n) (hg : w.heap[g]? = some (.cells #[.bool x, .slice a k c, .slice b k' c'] T (0, 0))) (u1 u2 u3 : Value) :
    NumR L (((w.setCell ⟨g, 0, none⟩ u1).setCell ⟨g, 1, none⟩ u2).setCell ⟨g, 2, none⟩ u3) v n := by
  obtain ⟨xs, h1, h2⟩ := h
  refine ⟨xs, h1.kept (growSet (growSet (growSet (growRefl w (some g)) 0 u1) 1 u2) 2 u3) (fun k hk e => ?_), h2⟩
  refine h1.not_box hg (fun i m => ?_) (hk.trans e.symm)
  rcases i with _ | _ | _ | i <;> simp
/-- A fraction and one of the reference, stored into their boxes. -/
structure TwoQ (w W W' : World) (g g' : Nat) (sa : Bool) (ao uo : Option Addr) (ka ca ku cu : Nat) (s1 s2 : Bool) (o1 o2 : Option Addr) (k1 c1 k2 c2 : Nat) : Prop where
  bel : Below w.heap.size w W'
  a0 : W'.cell? ⟨g, 0, none⟩ = some (.bool sa)
  a1 : W'.cell? ⟨g, 1, none⟩ = some (.slice ao ka ca)
  a2 : W'.cell? ⟨g, 2, none⟩ = some (.slice uo ku cu)
  b0 : W'.cell? ⟨g', 0, none⟩ = some (.bool s1)
  b1 : W'.cell? ⟨g', 1, none⟩ = some (.slice o1 k1 c1)
  b2 : W'.cell? ⟨g', 2, none⟩ = some (.bool s2)
  b3 : W'.cell? ⟨g', 3, none⟩ = some (.slice o2 k2 c2)
  rat : ∀ L p q v, RatV L W v p q → RatV L W' v p q
  qv : ∀ L p q v, QV L W v p q → QV L W' v p q
theorem TwoQ.mk1 {w W : World} {g g' : Nat} {T T' : TypeId} (hb : Below w.heap.size w W) (hg : W.heap[g]? = some (.cells #[.bool false, .slice none 0 0, .slice none 0 0] T (0, 0))) (hg' : W.heap[g']? = some (.cells #[.bool false, .slice none 0 0, .bool false, .slice none 0 0] T' (0, 0)))
    (h1 : w.heap.size ≤ g) (h2 : w.heap.size ≤ g') (hne : g ≠ g') (sa : Bool) (ao uo : Option Addr) (ka ca ku cu : Nat) (s1 s2 : Bool) (o1 o2 : Option Addr) (k1 c1 k2 c2 : Nat) :
    TwoQ w W (((((((W.setCell ⟨g, 0, none⟩ (.bool sa)).setCell ⟨g, 1, none⟩ (.slice ao ka ca)).setCell ⟨g, 2, none⟩ (.slice uo ku cu)).setCell ⟨g', 0, none⟩ (.bool s1)).setCell ⟨g', 1, none⟩ (.slice o1 k1 c1)).setCell ⟨g', 2, none⟩ (.bool s2)).setCell ⟨g', 3, none⟩ (.slice o2 k2 c2)) g g' sa ao uo ka ca ku cu s1 s2 o1 o2 k1 c1 k2 c2 := by
  have e1 := three_set hg (.bool sa) (.slice ao ka ca) (.slice uo ku cu)
  have e2 : (((W.setCell ⟨g, 0, none⟩ (.bool sa)).setCell ⟨g, 1, none⟩ (.slice ao ka ca)).setCell ⟨g, 2, none⟩ (.slice uo ku cu)).heap[g']? = some (.cells #[.bool false, .slice none 0 0, .bool false, .slice none 0 0] T' (0, 0)) := by
    rw [heap_setCell_other _ _ _ _ (by simpa using hne.symm), heap_setCell_other _ _ _ _ (by simpa using hne.symm), heap_setCell_other _ _ _ _ (by simpa using hne.symm)]; exact hg'
  have e3 := four_set e2 (.bool s1) (.slice o1 k1 c1) (.bool s2) (.slice o2 k2 c2)
  have e4 : (((((((W.setCell ⟨g, 0, none⟩ (.bool sa)).setCell ⟨g, 1, none⟩ (.slice ao ka ca)).setCell ⟨g, 2, none⟩ (.slice uo ku cu)).setCell ⟨g', 0, none⟩ (.bool s1)).setCell ⟨g', 1, none⟩ (.slice o1 k1 c1)).setCell ⟨g', 2, none⟩ (.bool s2)).setCell ⟨g', 3, none⟩ (.slice o2 k2 c2)).heap[g]? = some (.cells #[.bool sa, .slice ao ka ca, .slice uo ku cu] T (0, 0)) := by
    rw [heap_setCell_other _ _ _ _ (by simpa using hne), heap_setCell_other _ _ _ _ (by simpa using hne), heap_setCell_other _ _ _ _ (by simpa using hne), heap_setCell_other _ _ _ _ (by simpa using hne)]; exact e1
  obtain ⟨c0, c1', c2', _⟩ := three_cells e4
  obtain ⟨d0, d1, d2, d3, _⟩ := four_cells e3
  exact ⟨((((((hb.setCell (p := ⟨g, 0, none⟩) h1 _).setCell (p := ⟨g, 1, none⟩) h1 _).setCell (p := ⟨g, 2, none⟩) h1 _).setCell (p := ⟨g', 0, none⟩) h2 _).setCell (p := ⟨g', 1, none⟩) h2 _).setCell (p := ⟨g', 2, none⟩) h2 _).setCell (p := ⟨g', 3, none⟩) h2 _, c0, c1', c2', d0, d1, d2, d3,
    fun L p q v ⟨sb, sv, uv, e, i1, i2, i3⟩ => ⟨sb, sv, uv, e, i1, (i2.box3 hg _ _ _).box4 e2 _ _ _ _, (i3.box3 hg _ _ _).box4 e2 _ _ _ _⟩,
    fun L p q v ⟨y1, u1, y2, u2, e, i1, i2, i3, i4⟩ => ⟨y1, u1, y2, u2, e, i1, (i2.box3 hg _ _ _).box4 e2 _ _ _ _, i3, (i4.box3 hg _ _ _).box4 e2 _ _ _ _⟩⟩
theorem fra_end {w W : World} (hx : Bxs w [.cells #[.bool false, .slice none 0 0, .slice none 0 0] 76, .cells #[.bool false, .slice none 0 0, .bool false, .slice none 0 0] 72] W) (sa : Bool) (ao uo : Option Addr) (ka ca ku cu : Nat) (s1 s2 : Bool) (o1 o2 : Option Addr) (k1 c1 k2 c2 : Nat) :
    TwoQ w W (((((((W.setCell ⟨w.heap.size, 0, none⟩ (.bool sa)).setCell ⟨w.heap.size, 1, none⟩ (.slice ao ka ca)).setCell ⟨w.heap.size, 2, none⟩ (.slice uo ku cu)).setCell ⟨w.heap.size + 1, 0, none⟩ (.bool s1)).setCell ⟨w.heap.size + 1, 1, none⟩ (.slice o1 k1 c1)).setCell ⟨w.heap.size + 1, 2, none⟩ (.bool s2)).setCell ⟨w.heap.size + 1, 3, none⟩ (.slice o2 k2 c2)) w.heap.size (w.heap.size + 1) sa ao uo ka ca ku cu s1 s2 o1 o2 k1 c1 k2 c2 :=
  TwoQ.mk1 hx.1 hx.b0 hx.b1 (Nat.le_refl _) (by omega) (by omega) sa ao uo ka ca ku cu s1 s2 o1 o2 k1 c1 k2 c2
theorem fra_yes {s : List UInt8} {w W W' : World} {p q : Int} {L M : Nat} {sa : Bool} {ao uo : Option Addr} {ka ca ku cu : Nat} {s1 s2 : Bool} {o1 o2 : Option Addr} {k1 c1 k2 c2 : Nat} {g g' : Nat} (h : TwoQ w W W' g g' sa ao uo ka ca ku cu s1 s2 o1 o2 k1 c1 k2 c2) (hpq : s = decR p q) (hlo : Low p q) (hl : s.length ≤ 400)
    (hR : RatV L W (.agg #[.bool sa, .slice ao ka ca, .slice uo ku cu]) p q) (hQ : QV M W (.agg #[.bool s1, .slice o1 k1 c1, .bool s2, .slice o2 k2 c2]) p q) (hL : L ≤ 41000) (hM : M ≤ 464) :
    FrRet s w (.returned (.tuple #[.agg #[.bool sa, .slice ao ka ca, .slice uo ku cu], .agg #[.bool s1, .slice o1 k1 c1, .bool s2, .slice o2 k2 c2], .bool true])) W'.drew :=
  ⟨h.bel.drew, _, _, _, _, _, _, _, _, _, _, _, _, _, _, _, _, rfl, fun _ => ⟨p, q, hpq, hlo, hl, (h.rat _ _ _ _ (hR.mono hL)).below (belowDrew W'), (h.qv _ _ _ _ (hQ.mono hM)).below (belowDrew W')⟩⟩
theorem fra_no {s : List UInt8} {w W W' : World} {sa : Bool} {ao uo : Option Addr} {ka ca ku cu : Nat} {s1 s2 : Bool} {o1 o2 : Option Addr} {k1 c1 k2 c2 : Nat} {g g' : Nat} (h : TwoQ w W W' g g' sa ao uo ka ca ku cu s1 s2 o1 o2 k1 c1 k2 c2) :
    FrRet s w (.returned (.tuple #[.agg #[.bool sa, .slice ao ka ca, .slice uo ku cu], .agg #[.bool s1, .slice o1 k1 c1, .bool s2, .slice o2 k2 c2], .bool false])) W'.drew :=
  ⟨h.bel.drew, _, _, _, _, _, _, _, _, _, _, _, _, _, _, _, _, rfl, fun h => by cases h⟩
set_option maxRecDepth 20000 in
set_option maxHeartbeats 4000000 in
theorem frac_any (s : ByteArray) (w : World) (hs : s.size ≤ 140737488355328) :
    Calls Tryz.prog 68 #[.string s] w (FrRet s.data.toList w) := by
  have HSL : Kept (s.data.toList.length = s.size) := ⟨Array.length_toList⟩
  have HX0 : Kept (Bxs w [.cells #[.bool false, .slice none 0 0, .slice none 0 0] 76, .cells #[.bool false, .slice none 0 0, .bool false, .slice none 0 0] 72] ((w.alloc (.cells #[.bool false, .slice none 0 0, .slice none 0 0] 76)).alloc (.cells #[.bool false, .slice none 0 0, .bool false, .slice none 0 0] 72))) := ⟨((Bxs.start w).alloc (by simp) _).alloc (by simp) _⟩
  go_enter Tryz.func68, Tryz.ntmps68
  go_wp2_with fail
  refine (rread_any s _ hs).mono ?_
  rintro e w1 ⟨hb1, hc1⟩
  have HX1 := Kept.mk (HX0.out.below hb1)
  clear hb1
  rcases hc1 with ⟨p, q, v1, hpq, hlo, rfl, hQ1⟩ | ⟨hno, rfl⟩
  · obtain ⟨s1, o1, k1, c1, s2, o2, k2, c2, rfl, hx1, hx2⟩ := hQ1.form
    have HY1 : Kept (Bxs w1 [.cells #[.bool s1, .slice o1 k1 c1, .bool s2, .slice o2 k2 c2] 72] (w1.alloc (.cells #[.bool s1, .slice o1 k1 c1, .bool s2, .slice o2 k2 c2] 72))) := ⟨(Bxs.start w1).alloc (by simp) _⟩
    have HQ1 := Kept.mk hQ1
    have HPQ := Kept.mk hpq
    have HLO := Kept.mk hlo
    have hq0 := hlo.1
    have HX2 := Kept.mk (HX1.out.below ((Below.refl _ _).alloc (Nat.le_refl _) (.cells #[.bool s1, .slice o1 k1 c1, .bool s2, .slice o2 k2 c2] 72)))
    clear hx1 hx2 hQ1 hpq hlo
    go_wp2_with fail
    refine (parseRat_any s _ (by omega)).mono ?_
    rintro e w3 ⟨hb3, hc3⟩
    have HX3 := Kept.mk (HX2.out.below hb3)
    have HY3 := Kept.mk (HY1.out.below hb3)
    clear hb3
    rcases hc3 with ⟨p', q', v3, hpq', hlo', hsm', rfl, hR3⟩ | ⟨p', q', hpq', hlo', hsm', rfl⟩ | ⟨hno, _⟩
    · obtain ⟨e1, e2⟩ := decR_inj hlo'.1 hq0 (hpq'.symm.trans HPQ.out)
      subst e1 e2
      obtain ⟨sa, ao, ka, ca, uo, ku, cu, rfl, ra1, ra2, ra3, ra4⟩ := hR3.form
      have HR3 := Kept.mk hR3
      have hal : Below w3.heap.size w3 (w3.alloc (.cells #[.bool sa, .slice ao ka ca, .slice uo ku cu] 76)) := (Below.refl _ _).alloc (Nat.le_refl _) _
      have HX4 := Kept.mk (HX3.out.below hal)
      have HY4 := Kept.mk (HY3.out.below hal)
      obtain ⟨a0, a1, a2, a3, a4, a5⟩ := three_cells HX4.out.b0
      obtain ⟨b0, b1, b2, b3, b4, b5, b6, b7⟩ := four_cells HX4.out.b1
      obtain ⟨d0, d1, d2, d3, -⟩ := four_cells HY4.out.b0
      have l1 := HX4.out.l2
      have l2 := HX1.out.l2
      have l3 := HY3.out.l1
      have x1 : ¬ w1.heap.size = w.heap.size := by omega
      have x2 : ¬ w.heap.size = w1.heap.size := by omega
      have x3 : ¬ w1.heap.size = w.heap.size + 1 := by omega
      have x4 : ¬ w.heap.size + 1 = w1.heap.size := by omega
      have x5 : ¬ w3.heap.size = w.heap.size := by omega
      have x6 : ¬ w.heap.size = w3.heap.size := by omega
      have x7 : ¬ w3.heap.size = w.heap.size + 1 := by omega
      have x8 : ¬ w.heap.size + 1 = w3.heap.size := by omega
      have HT := Kept.mk (fra_end HX4.out sa ao uo ka ca ku cu s1 s2 o1 o2 k1 c1 k2 c2)
      have HR4 := Kept.mk (HR3.out.below hal)
      have HQ4 := Kept.mk (HQ1.out.below HY4.out.1)
      clear hpq' hlo' hsm' hR3 ra1 ra2 ra3 ra4 hal
      by_cases h7 : (s.size : Int) ≤ 400
      · have hd7 : decide ((s.size : Int) ≤ 400) = true := decide_eq_true h7
        go_wp2
        go_region
        go_wp2
        exact bodyPost_ret (v := .tuple #[.agg #[.bool sa, .slice ao ka ca, .slice uo ku cu], .agg #[.bool s1, .slice o1 k1 c1, .bool s2, .slice o2 k2 c2], .bool true]) (by simp [results, Tryz.results68, go_sem, HT.out.a0, HT.out.a1, HT.out.a2, HT.out.b0, HT.out.b1, HT.out.b2, HT.out.b3]) rfl (fra_yes HT.out HPQ.out HLO.out (by rw [HSL.out]; omega) HR4.out HQ4.out (by omega) (by rw [HSL.out]; omega))
      · have hd7 : decide ((s.size : Int) ≤ 400) = false := decide_eq_false h7
        go_wp2
        go_region
        go_wp2
        exact bodyPost_ret (v := .tuple #[.agg #[.bool sa, .slice ao ka ca, .slice uo ku cu], .agg #[.bool s1, .slice o1 k1 c1, .bool s2, .slice o2 k2 c2], .bool false]) (by simp [results, Tryz.results68, go_sem, HT.out.a0, HT.out.a1, HT.out.a2, HT.out.b0, HT.out.b1, HT.out.b2, HT.out.b3]) rfl (fra_no HT.out)
    · unfold rat0
      have hal : Below w3.heap.size w3 (w3.alloc (.cells #[.bool false, .slice none 0 0, .slice none 0 0] 76)) := (Below.refl _ _).alloc (Nat.le_refl _) _
      have HX4 := Kept.mk (HX3.out.below hal)
      have HY4 := Kept.mk (HY3.out.below hal)
      obtain ⟨a0, a1, a2, a3, a4, a5⟩ := three_cells HX4.out.b0
      obtain ⟨b0, b1, b2, b3, b4, b5, b6, b7⟩ := four_cells HX4.out.b1
      obtain ⟨d0, d1, d2, d3, -⟩ := four_cells HY4.out.b0
      have l1 := HX4.out.l2
      have l2 := HX1.out.l2
      have l3 := HY3.out.l1
      have x1 : ¬ w1.heap.size = w.heap.size := by omega
      have x2 : ¬ w.heap.size = w1.heap.size := by omega
      have x3 : ¬ w1.heap.size = w.heap.size + 1 := by omega
      have x4 : ¬ w.heap.size + 1 = w1.heap.size := by omega
      have x5 : ¬ w3.heap.size = w.heap.size := by omega
      have x6 : ¬ w.heap.size = w3.heap.size := by omega
      have x7 : ¬ w3.heap.size = w.heap.size + 1 := by omega
      have x8 : ¬ w.heap.size + 1 = w3.heap.size := by omega
      have HT := Kept.mk (fra_end HX4.out false none none 0 0 0 0 s1 s2 o1 o2 k1 c1 k2 c2)
      clear hpq' hlo' hsm' hal
      by_cases h7 : (s.size : Int) ≤ 400
      · have hd7 : decide ((s.size : Int) ≤ 400) = true := decide_eq_true h7
        go_wp2
        go_region
        go_wp2
        exact bodyPost_ret (v := .tuple #[.agg #[.bool false, .slice none 0 0, .slice none 0 0], .agg #[.bool s1, .slice o1 k1 c1, .bool s2, .slice o2 k2 c2], .bool false]) (by simp [results, Tryz.results68, go_sem, HT.out.a0, HT.out.a1, HT.out.a2, HT.out.b0, HT.out.b1, HT.out.b2, HT.out.b3]) rfl (fra_no HT.out)
      · have hd7 : decide ((s.size : Int) ≤ 400) = false := decide_eq_false h7
        go_wp2
        go_region
        go_wp2
        exact bodyPost_ret (v := .tuple #[.agg #[.bool false, .slice none 0 0, .slice none 0 0], .agg #[.bool s1, .slice o1 k1 c1, .bool s2, .slice o2 k2 c2], .bool false]) (by simp [results, Tryz.results68, go_sem, HT.out.a0, HT.out.a1, HT.out.a2, HT.out.b0, HT.out.b1, HT.out.b2, HT.out.b3]) rfl (fra_no HT.out)
    · exact absurd HPQ.out (hno p q HLO.out)
  · have HY1 : Kept (Bxs w1 [.cells #[.bool false, .slice none 0 0, .bool false, .slice none 0 0] 72] (w1.alloc (.cells #[.bool false, .slice none 0 0, .bool false, .slice none 0 0] 72))) := ⟨(Bxs.start w1).alloc (by simp) _⟩
    have HX2 := Kept.mk (HX1.out.below ((Below.refl _ _).alloc (Nat.le_refl _) (.cells #[.bool false, .slice none 0 0, .bool false, .slice none 0 0] 72)))
    have HNO := Kept.mk hno
    clear hno
    go_wp2_with fail
    refine (parseRat_any s _ (by omega)).mono ?_
    rintro e w3 ⟨hb3, hc3⟩
    have HX3 := Kept.mk (HX2.out.below hb3)
    have HY3 := Kept.mk (HY1.out.below hb3)
    clear hb3
    rcases hc3 with ⟨p', q', v3, hpq', hlo', hsm', rfl, hR3⟩ | ⟨p', q', hpq', hlo', hsm', _⟩ | ⟨hno, rfl⟩
    · exact absurd hpq' (HNO.out p' q' hlo')
    · exact absurd hpq' (HNO.out p' q' hlo')
    · unfold rat0
      have hal : Below w3.heap.size w3 (w3.alloc (.cells #[.bool false, .slice none 0 0, .slice none 0 0] 76)) := (Below.refl _ _).alloc (Nat.le_refl _) _
      have HX4 := Kept.mk (HX3.out.below hal)
      have HY4 := Kept.mk (HY3.out.below hal)
      obtain ⟨a0, a1, a2, a3, a4, a5⟩ := three_cells HX4.out.b0
      obtain ⟨b0, b1, b2, b3, b4, b5, b6, b7⟩ := four_cells HX4.out.b1
      obtain ⟨d0, d1, d2, d3, -⟩ := four_cells HY4.out.b0
      have l1 := HX4.out.l2
      have l2 := HX1.out.l2
      have l3 := HY3.out.l1
      have x1 : ¬ w1.heap.size = w.heap.size := by omega
      have x2 : ¬ w.heap.size = w1.heap.size := by omega
      have x3 : ¬ w1.heap.size = w.heap.size + 1 := by omega
      have x4 : ¬ w.heap.size + 1 = w1.heap.size := by omega
      have x5 : ¬ w3.heap.size = w.heap.size := by omega
      have x6 : ¬ w.heap.size = w3.heap.size := by omega
      have x7 : ¬ w3.heap.size = w.heap.size + 1 := by omega
      have x8 : ¬ w.heap.size + 1 = w3.heap.size := by omega
      have HT := Kept.mk (fra_end HX4.out false none none 0 0 0 0 false false none none 0 0 0 0)
      clear hno hal
      go_wp2
      go_region
      go_wp2
      exact bodyPost_ret (v := .tuple #[.agg #[.bool false, .slice none 0 0, .slice none 0 0], .agg #[.bool false, .slice none 0 0, .bool false, .slice none 0 0], .bool false]) (by simp [results, Tryz.results68, go_sem, HT.out.a0, HT.out.a1, HT.out.a2, HT.out.b0, HT.out.b1, HT.out.b2, HT.out.b3]) rfl (fra_no HT.out)
end Go.Proofs.YtblbheilddafbaaGreatDoor
