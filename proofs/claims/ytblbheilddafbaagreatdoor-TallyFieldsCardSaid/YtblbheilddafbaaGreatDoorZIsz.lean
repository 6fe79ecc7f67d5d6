/-
  Texts of the proof, merged by program: Who Isz.
-/
import Derived.Test.YtblbheilddafbaaGreatDoorZZop
import Derived.Test.YtblbheilddafbaaGreatDoorZZpa
import Derived.Test.YtblbheilddafbaaGreatDoorZSiz1
import Derived.Test.YtblbheilddafbaaGreatDoorZ21
set_option linter.unusedVariables false
set_option linter.unusedSimpArgs false
namespace Go.Proofs.YtblbheilddafbaaGreatDoor
open Go Go.RowKit
/-- What whole returns. -/
def WhRet (s : List UInt8) (w : World) (e : Ending) (w' : World) : Prop := Below w.heap.size w w' ∧ ∃ sa ao ka ca sb bo kb cb ok, e = .returned (.tuple #[.agg #[.bool sa, .slice ao ka ca], .agg #[.bool sb, .slice bo kb cb], .bool ok]) ∧
  (ok = true → ∃ z, s = Dg.decZ z ∧ s.length ≤ 700 ∧ smallB z.natAbs = true ∧ IntV 625 w' (.agg #[.bool sa, .slice ao ka ca]) z ∧ ZV 701 w' (.agg #[.bool sb, .slice bo kb cb]) z)
theorem ZV.parts {L : Nat} {w : World} {s : Bool} {o : Option Addr} {k c : Nat} {z : Int} (h : ZV L w (.agg #[.bool s, .slice o k c]) z) : s = decide (z < 0) ∧ NumR L w (.slice o k c) z.natAbs := by
  obtain ⟨sb, sv, e, h1, hn⟩ := h
  simp only [Value.agg.injEq, Array.mk.injEq, List.cons.injEq, Value.bool.injEq, and_true] at e
  obtain ⟨rfl, rfl⟩ := e
  exact ⟨h1, hn⟩
/-- TwoB results of a call, stored into their boxes g and g'. -/
structure TwoB (w W W' : World) (g g' : Nat) (sa : Bool) (ao : Option Addr) (ka ca : Nat) (sb : Bool) (bo : Option Addr) (kb cb : Nat) : Prop where
  bel : Below w.heap.size w W'
  a0 : W'.cell? ⟨g, 0, none⟩ = some (.bool sa)
  a1 : W'.cell? ⟨g, 1, none⟩ = some (.slice ao ka ca)
  b0 : W'.cell? ⟨g', 0, none⟩ = some (.bool sb)
  b1 : W'.cell? ⟨g', 1, none⟩ = some (.slice bo kb cb)
  num : ∀ L n, Num L W (.slice ao ka ca) n → Num L W' (.slice ao ka ca) n
  numR : ∀ L n, NumR L W (.slice bo kb cb) n → NumR L W' (.slice bo kb cb) n
theorem TwoB.mk1 {w W : World} {g g' : Nat} {T T' : TypeId} (hb : Below w.heap.size w W) (hg : W.heap[g]? = some (.cells #[.bool false, .slice none 0 0] T (0, 0))) (hg' : W.heap[g']? = some (.cells #[.bool false, .slice none 0 0] T' (0, 0)))
    (h1 : w.heap.size ≤ g) (h2 : w.heap.size ≤ g') (hne : g ≠ g') (sa : Bool) (ao : Option Addr) (ka ca : Nat) (sb : Bool) (bo : Option Addr) (kb cb : Nat) :
    TwoB w W ((((W.setCell ⟨g, 0, none⟩ (.bool sa)).setCell ⟨g, 1, none⟩ (.slice ao ka ca)).setCell ⟨g', 0, none⟩ (.bool sb)).setCell ⟨g', 1, none⟩ (.slice bo kb cb)) g g' sa ao ka ca sb bo kb cb := by
  have e1 := two_set hg (.bool sa) (.slice ao ka ca)
  have e2 : ((W.setCell ⟨g, 0, none⟩ (.bool sa)).setCell ⟨g, 1, none⟩ (.slice ao ka ca)).heap[g']? = some (.cells #[.bool false, .slice none 0 0] T' (0, 0)) := by
    rw [heap_setCell_other _ _ _ _ (by simpa using hne.symm), heap_setCell_other _ _ _ _ (by simpa using hne.symm)]; exact hg'
  have e3 := two_set e2 (.bool sb) (.slice bo kb cb)
  have e4 : ((((W.setCell ⟨g, 0, none⟩ (.bool sa)).setCell ⟨g, 1, none⟩ (.slice ao ka ca)).setCell ⟨g', 0, none⟩ (.bool sb)).setCell ⟨g', 1, none⟩ (.slice bo kb cb)).heap[g]? = some (.cells #[.bool sa, .slice ao ka ca] T (0, 0)) := by
    rw [heap_setCell_other _ _ _ _ (by simpa using hne), heap_setCell_other _ _ _ _ (by simpa using hne)]; exact e1
  obtain ⟨c0, c1, _, _⟩ := two_cells e4
  obtain ⟨d0, d1, _, _⟩ := two_cells e3
  exact ⟨(((hb.setCell (p := ⟨g, 0, none⟩) h1 _).setCell (p := ⟨g, 1, none⟩) h1 _).setCell (p := ⟨g', 0, none⟩) h2 _).setCell (p := ⟨g', 1, none⟩) h2 _, c0, c1, d0, d1,
    fun L n h => (h.box hg _ _).box e2 _ _, fun L n h => (h.box hg _ _).box e2 _ _⟩
theorem TwoB.mk2 {w W : World} {g g' : Nat} {T T' : TypeId} (hb : Below w.heap.size w W) (hg : W.heap[g]? = some (.cells #[.bool false, .slice none 0 0] T (0, 0))) (hg' : W.heap[g']? = some (.cells #[.bool false, .slice none 0 0] T' (0, 0)))
    (h1 : w.heap.size ≤ g) (h2 : w.heap.size ≤ g') (hne : g ≠ g') (sa : Bool) (ao : Option Addr) (ka ca : Nat) (sb : Bool) (bo : Option Addr) (kb cb : Nat) :
    TwoB w W ((((W.setCell ⟨g', 0, none⟩ (.bool sb)).setCell ⟨g', 1, none⟩ (.slice bo kb cb)).setCell ⟨g, 0, none⟩ (.bool sa)).setCell ⟨g, 1, none⟩ (.slice ao ka ca)) g g' sa ao ka ca sb bo kb cb := by
  have h := TwoB.mk1 hb hg' hg h2 h1 hne.symm sb bo kb cb sa ao ka ca
  have e1 := two_set hg' (.bool sb) (.slice bo kb cb)
  have e2 : ((W.setCell ⟨g', 0, none⟩ (.bool sb)).setCell ⟨g', 1, none⟩ (.slice bo kb cb)).heap[g]? = some (.cells #[.bool false, .slice none 0 0] T (0, 0)) := by
    rw [heap_setCell_other _ _ _ _ (by simpa using hne), heap_setCell_other _ _ _ _ (by simpa using hne)]; exact hg
  exact ⟨h.bel, h.b0, h.b1, h.a0, h.a1, fun L n k => (k.box hg' _ _).box e2 _ _, fun L n k => (k.box hg' _ _).box e2 _ _⟩
theorem who_end {w W : World} (hx : Bxs w [.cells #[.bool false, .slice none 0 0] 30, .cells #[.bool false, .slice none 0 0] 25] W) (sa : Bool) (ao : Option Addr) (ka ca : Nat) (sb : Bool) (bo : Option Addr) (kb cb : Nat) :
    TwoB w W ((((W.setCell ⟨w.heap.size, 0, none⟩ (.bool sa)).setCell ⟨w.heap.size, 1, none⟩ (.slice ao ka ca)).setCell ⟨w.heap.size + 1, 0, none⟩ (.bool sb)).setCell ⟨w.heap.size + 1, 1, none⟩ (.slice bo kb cb)) w.heap.size (w.heap.size + 1) sa ao ka ca sb bo kb cb :=
  TwoB.mk1 hx.1 hx.b0 hx.b1 (Nat.le_refl _) (by omega) (by omega) sa ao ka ca sb bo kb cb
theorem who_yes {s : List UInt8} {w W W' : World} {z : Int} {L : Nat} {sa : Bool} {ao : Option Addr} {ka ca : Nat} {sb : Bool} {bo : Option Addr} {kb cb : Nat} {g g' : Nat} (h : TwoB w W W' g g' sa ao ka ca sb bo kb cb) (hz : s = Dg.decZ z) (hl : s.length ≤ 700) (hs : smallB z.natAbs = true)
    (hI : IntV 625 W (.agg #[.bool sa, .slice ao ka ca]) z) (hZ : ZV L W (.agg #[.bool sb, .slice bo kb cb]) z) (hL : L ≤ 701) :
    WhRet s w (.returned (.tuple #[.agg #[.bool sa, .slice ao ka ca], .agg #[.bool sb, .slice bo kb cb], .bool true])) W'.drew := by
  obtain ⟨i1, i2⟩ := hI.parts
  obtain ⟨z1, z2⟩ := hZ.parts
  exact ⟨h.bel.drew, _, _, _, _, _, _, _, _, _, rfl, fun _ => ⟨z, hz, hl, hs, IntV.below ⟨_, _, rfl, i1, h.num _ _ i2⟩ (belowDrew W'), ZV.below (ZV.mono ⟨_, _, rfl, z1, h.numR _ _ z2⟩ hL) (belowDrew W')⟩⟩
theorem who_no {s : List UInt8} {w W W' : World} {sa : Bool} {ao : Option Addr} {ka ca : Nat} {sb : Bool} {bo : Option Addr} {kb cb : Nat} {g g' : Nat} (h : TwoB w W W' g g' sa ao ka ca sb bo kb cb) :
    WhRet s w (.returned (.tuple #[.agg #[.bool sa, .slice ao ka ca], .agg #[.bool sb, .slice bo kb cb], .bool false])) W'.drew :=
  ⟨h.bel.drew, _, _, _, _, _, _, _, _, _, rfl, fun h => by cases h⟩
set_option maxRecDepth 20000 in
set_option maxHeartbeats 4000000 in
theorem whole_any (s : ByteArray) (w : World) (hs : s.size ≤ 140737488355328) :
    Calls Tryz.prog 34 #[.string s] w (WhRet s.data.toList w) := by
  have HSL : Kept (s.data.toList.length = s.size) := ⟨Array.length_toList⟩
  have HX0 : Kept (Bxs w [.cells #[.bool false, .slice none 0 0] 30, .cells #[.bool false, .slice none 0 0] 25] ((w.alloc (.cells #[.bool false, .slice none 0 0] 30)).alloc (.cells #[.bool false, .slice none 0 0] 25))) := ⟨((Bxs.start w).alloc (by simp) _).alloc (by simp) _⟩
  go_enter Tryz.func34, Tryz.ntmps34
  go_wp2_with fail
  refine (rparse_any s _ hs).mono ?_
  rintro e w1 ⟨hb1, hc1⟩
  have HX1 := Kept.mk (HX0.out.below hb1)
  clear hb1
  rcases hc1 with ⟨z, v1, hz, rfl, hZ1⟩ | ⟨hno, rfl⟩
  · obtain ⟨s1, u1, rfl, hs1, hn1⟩ := hZ1
    obtain ⟨o1, k1, c1, rfl, _, _⟩ := hn1.form
    have HY1 : Kept (Bxs w1 [.cells #[.bool s1, .slice o1 k1 c1] 25] (w1.alloc (.cells #[.bool s1, .slice o1 k1 c1] 25))) := ⟨(Bxs.start w1).alloc (by simp) _⟩
    have HZ1 : Kept (ZV (s.size + 1) w1 (.agg #[.bool s1, .slice o1 k1 c1]) z) := ⟨by rw [← HSL.out]; exact ⟨_, _, rfl, hs1, hn1⟩⟩
    have HX2 := Kept.mk (HX1.out.below ((Below.refl _ _).alloc (Nat.le_refl _) (.cells #[.bool s1, .slice o1 k1 c1] 25)))
    have HZ := Kept.mk hz
    clear hs1 hn1 hz
    go_wp2_with fail
    refine (parse_any s _ (by omega)).mono ?_
    rintro e w3 ⟨hb3, hc3⟩
    have HX3 := Kept.mk (HX2.out.below hb3)
    have HY3 := Kept.mk (HY1.out.below hb3)
    clear hb3
    rcases hc3 with ⟨z', v3, hz', hsm, rfl, hI3⟩ | ⟨z', hz', hsm, rfl⟩ | ⟨hno, _⟩
    · obtain rfl : z = z' := Dg.decZ_inj (HZ.out.symm.trans hz')
      obtain ⟨s3, u3, rfl, hs3, hn3⟩ := hI3.fit hsm
      obtain ⟨o3, k3, c3, rfl⟩ := hn3.form
      have HI3 : Kept (IntV 625 w3 (.agg #[.bool s3, .slice o3 k3 c3]) z) := ⟨⟨_, _, rfl, hs3, hn3⟩⟩
      have HSM := Kept.mk hsm
      have hal : Below w3.heap.size w3 (w3.alloc (.cells #[.bool s3, .slice o3 k3 c3] 30)) := (Below.refl _ _).alloc (Nat.le_refl _) _
      have HX4 := Kept.mk (HX3.out.below hal)
      have HY4 := Kept.mk (HY3.out.below hal)
      obtain ⟨a0, a1, a2, a3⟩ := two_cells HX4.out.b0
      obtain ⟨b0, b1, b2, b3⟩ := two_cells HX4.out.b1
      obtain ⟨d0, d1, -, -⟩ := two_cells HY4.out.b0
      have l1 := HX4.out.l2
      have l2 := HX1.out.l2
      have l3 := HY3.out.l1
      have x1 : ¬ w1.heap.size = w.heap.size := by omega
      have x2 : ¬ w.heap.size = w1.heap.size := by omega
      have x3 : ¬ w1.heap.size = w.heap.size + 1 := by omega
      have x4 : ¬ w.heap.size + 1 = w1.heap.size := by omega
      have x5 : ¬ w3.heap.size = w.heap.size := by omega
      have x6 : ¬ w.heap.size = w3.heap.size := by omega
      have x7 : ¬ w3.heap.size = w.heap.size + 1 := by omega
      have x8 : ¬ w.heap.size + 1 = w3.heap.size := by omega
      have HT := Kept.mk (who_end HX4.out s3 o3 k3 c3 s1 o1 k1 c1)
      have HI4 := Kept.mk (HI3.out.below hal)
      have HZ4 := Kept.mk (HZ1.out.below HY4.out.1)
      clear hz' hs3 hn3 hI3 hsm hal
      by_cases h7 : (s.size : Int) ≤ 700
      · have hd7 : decide ((s.size : Int) ≤ 700) = true := decide_eq_true h7
        go_wp2
        go_region
        go_wp2
        exact bodyPost_ret (v := .tuple #[.agg #[.bool s3, .slice o3 k3 c3], .agg #[.bool s1, .slice o1 k1 c1], .bool true]) (by simp [results, Tryz.results34, go_sem, HT.out.a0, HT.out.a1, HT.out.b0, HT.out.b1]) rfl (who_yes HT.out HZ.out (by rw [HSL.out]; omega) HSM.out HI4.out HZ4.out (by omega))
      · have hd7 : decide ((s.size : Int) ≤ 700) = false := decide_eq_false h7
        go_wp2
        go_region
        go_wp2
        exact bodyPost_ret (v := .tuple #[.agg #[.bool s3, .slice o3 k3 c3], .agg #[.bool s1, .slice o1 k1 c1], .bool false]) (by simp [results, Tryz.results34, go_sem, HT.out.a0, HT.out.a1, HT.out.b0, HT.out.b1]) rfl (who_no HT.out)
    · have hal : Below w3.heap.size w3 (w3.alloc (.cells #[.bool false, .slice none 0 0] 30)) := (Below.refl _ _).alloc (Nat.le_refl _) _
      have HX4 := Kept.mk (HX3.out.below hal)
      have HY4 := Kept.mk (HY3.out.below hal)
      obtain ⟨a0, a1, a2, a3⟩ := two_cells HX4.out.b0
      obtain ⟨b0, b1, b2, b3⟩ := two_cells HX4.out.b1
      obtain ⟨d0, d1, -, -⟩ := two_cells HY4.out.b0
      have l1 := HX4.out.l2
      have l2 := HX1.out.l2
      have l3 := HY3.out.l1
      have x1 : ¬ w1.heap.size = w.heap.size := by omega
      have x2 : ¬ w.heap.size = w1.heap.size := by omega
      have x3 : ¬ w1.heap.size = w.heap.size + 1 := by omega
      have x4 : ¬ w.heap.size + 1 = w1.heap.size := by omega
      have x5 : ¬ w3.heap.size = w.heap.size := by omega
      have x6 : ¬ w.heap.size = w3.heap.size := by omega
      have x7 : ¬ w3.heap.size = w.heap.size + 1 := by omega
      have x8 : ¬ w.heap.size + 1 = w3.heap.size := by omega
      have HT := Kept.mk (who_end HX4.out false none 0 0 s1 o1 k1 c1)
      clear hz' hsm hal
      by_cases h7 : (s.size : Int) ≤ 700
      · have hd7 : decide ((s.size : Int) ≤ 700) = true := decide_eq_true h7
        go_wp2
        go_region
        go_wp2
        exact bodyPost_ret (v := .tuple #[.agg #[.bool false, .slice none 0 0], .agg #[.bool s1, .slice o1 k1 c1], .bool false]) (by simp [results, Tryz.results34, go_sem, HT.out.a0, HT.out.a1, HT.out.b0, HT.out.b1]) rfl (who_no HT.out)
      · have hd7 : decide ((s.size : Int) ≤ 700) = false := decide_eq_false h7
        go_wp2
        go_region
        go_wp2
        exact bodyPost_ret (v := .tuple #[.agg #[.bool false, .slice none 0 0], .agg #[.bool s1, .slice o1 k1 c1], .bool false]) (by simp [results, Tryz.results34, go_sem, HT.out.a0, HT.out.a1, HT.out.b0, HT.out.b1]) rfl (who_no HT.out)
    · exact absurd HZ.out (hno z)
  · have HY1 : Kept (Bxs w1 [.cells #[.bool false, .slice none 0 0] 25] (w1.alloc (.cells #[.bool false, .slice none 0 0] 25))) := ⟨(Bxs.start w1).alloc (by simp) _⟩
    have HX2 := Kept.mk (HX1.out.below ((Below.refl _ _).alloc (Nat.le_refl _) (.cells #[.bool false, .slice none 0 0] 25)))
    have HNO := Kept.mk hno
    clear hno
    go_wp2_with fail
    refine (parse_any s _ (by omega)).mono ?_
    rintro e w3 ⟨hb3, hc3⟩
    have HX3 := Kept.mk (HX2.out.below hb3)
    have HY3 := Kept.mk (HY1.out.below hb3)
    clear hb3
    rcases hc3 with ⟨z', v3, hz', hsm, rfl, hI3⟩ | ⟨z', hz', hsm, rfl⟩ | ⟨hno, rfl⟩
    · exact absurd hz' (HNO.out z')
    · exact absurd hz' (HNO.out z')
    · have hal : Below w3.heap.size w3 (w3.alloc (.cells #[.bool false, .slice none 0 0] 30)) := (Below.refl _ _).alloc (Nat.le_refl _) _
      have HX4 := Kept.mk (HX3.out.below hal)
      have HY4 := Kept.mk (HY3.out.below hal)
      obtain ⟨a0, a1, a2, a3⟩ := two_cells HX4.out.b0
      obtain ⟨b0, b1, b2, b3⟩ := two_cells HX4.out.b1
      obtain ⟨d0, d1, -, -⟩ := two_cells HY4.out.b0
      have l1 := HX4.out.l2
      have l2 := HX1.out.l2
      have l3 := HY3.out.l1
      have x1 : ¬ w1.heap.size = w.heap.size := by omega
      have x2 : ¬ w.heap.size = w1.heap.size := by omega
      have x3 : ¬ w1.heap.size = w.heap.size + 1 := by omega
      have x4 : ¬ w.heap.size + 1 = w1.heap.size := by omega
      have x5 : ¬ w3.heap.size = w.heap.size := by omega
      have x6 : ¬ w.heap.size = w3.heap.size := by omega
      have x7 : ¬ w3.heap.size = w.heap.size + 1 := by omega
      have x8 : ¬ w.heap.size + 1 = w3.heap.size := by omega
      have HT := Kept.mk (who_end HX4.out false none 0 0 false none 0 0)
      clear hno hal
      go_wp2
      go_region
      go_wp2
      exact bodyPost_ret (v := .tuple #[.agg #[.bool false, .slice none 0 0], .agg #[.bool false, .slice none 0 0], .bool false]) (by simp [results, Tryz.results34, go_sem, HT.out.a0, HT.out.a1, HT.out.b0, HT.out.b1]) rfl (who_no HT.out)
end Go.Proofs.YtblbheilddafbaaGreatDoor

set_option linter.unusedVariables false
set_option linter.unusedSimpArgs false
namespace Go.Proofs.YtblbheilddafbaaGreatDoor
open Go Go.RowKit
set_option maxRecDepth 20000 in
set_option maxHeartbeats 2000000 in
theorem is_any {La Lb : Nat} {va vb : Value} {z : Int} {w : World} (ha : IntV La w va z) (hb : ZV Lb w vb z) (h1 : La ≤ 1073741824) (h2 : Lb ≤ 67108864) :
    Calls Tryz.prog 27 #[va, vb] w (RetV w (.bool true)) := by
  have HA := Kept.mk ha
  have HB := Kept.mk hb
  obtain ⟨sa, ua, rfl, hsa, hna⟩ := ha
  obtain ⟨sb, ub, rfl, hsb, hnb⟩ := hb
  obtain ⟨ao, ka, ca, rfl⟩ := hna.form
  obtain ⟨bo, kb, cb, rfl, _, _⟩ := hnb.form
  have HX0 : Kept (Bxs w [.cells #[.bool sa, .slice ao ka ca] 30, .cells #[.bool sb, .slice bo kb cb] 25] ((w.alloc (.cells #[.bool sa, .slice ao ka ca] 30)).alloc (.cells #[.bool sb, .slice bo kb cb] 25))) := ⟨((Bxs.start w).alloc (by simp) _).alloc (by simp) _⟩
  obtain ⟨l, hl⟩ : ∃ l, l = Dg.decZ z := ⟨_, rfl⟩
  have HS1 : Kept (∀ W, Below w.heap.size w W → Calls Tryz.prog 20 #[.agg #[.bool sa, .slice ao ka ca]] W (RetV W (.string ⟨l.toArray⟩))) := ⟨fun W hW => by rw [hl]; exact string_any (HA.out.below hW) h1⟩
  have HS2 : Kept (∀ W, Below w.heap.size w W → Calls Tryz.prog 31 #[.agg #[.bool sb, .slice bo kb cb]] W (RetV W (.string ⟨l.toArray⟩))) := ⟨fun W hW => by rw [hl]; exact rstr_any (HB.out.below hW) h2⟩
  have t1 : ((⟨l.toArray⟩ : ByteArray).toList == (⟨l.toArray⟩ : ByteArray).toList) = true := by simp
  clear hl hsa hna hsb hnb HA HB
  go_enter Tryz.func27, Tryz.ntmps27
  go_wp2_with fail
  go_region_held3 (fun w' => w'.cell? ⟨w.heap.size, 0, none⟩ = some (.bool sa) ∧ w'.cell? ⟨w.heap.size, 1, none⟩ = some (.slice ao ka ca) ∧ w'.cell? ⟨w.heap.size + 1, 0, none⟩ = some (.bool sb) ∧ w'.cell? ⟨w.heap.size + 1, 1, none⟩ = some (.slice bo kb cb))
    (first | exact ⟨kd0, kd1, kd2, kd3⟩ | exact ⟨kc0, kc1, kc2, kc3⟩ | (refine ⟨?_, ?_, ?_, ?_⟩ <;> simp [go_sem]; done) | go_keep)
    ((first
      | (go_at_call 20; (with_reducible refine (HS1.out _ ?hx1).mono ?_); (case hx1 => exact HX0.out.drew.1); rintro e w1 ⟨hb1, rfl⟩; have hx1 := HX0.out.drew.below hb1; obtain ⟨kc0, kc1, -, -⟩ := two_cells hx1.b0; obtain ⟨kc2, kc3, -, -⟩ := two_cells hx1.b1)
      | (go_at_call 31; (with_reducible refine (HS2.out _ ?hx2).mono ?_); (case hx2 => exact hx1.1); rintro e w2 ⟨hb2, rfl⟩; have hx2 := hx1.below hb2; obtain ⟨kd0, kd1, -, -⟩ := two_cells hx2.b0; obtain ⟨kd2, kd3, -, -⟩ := two_cells hx2.b1)))
  have HX2 := Kept.mk hx2
  clear hb1 hb2 hx1 hx2 kc0 kc1 kc2 kc3 kd0 kd1 kd2 kd3
  go_wp2
  go_ret
  exact ⟨HX2.out.1, rfl⟩
end Go.Proofs.YtblbheilddafbaaGreatDoor
