/-
  Texts of the proof, merged by program: Parse.
-/
import Derived.Test.YtblbheilddafbaaGreatDoorZ5
import Derived.Deep.RegionWith
set_option linter.unusedVariables false
set_option linter.unusedSimpArgs false
namespace Go.Proofs.YtblbheilddafbaaGreatDoor
open Go Go.RowKit
theorem small_yes {L : Nat} {v : Value} {z : Int} {w : World} (h : IntV L w v z) (hL : L ≤ 17000000000000) (hs : smallB z.natAbs = true) :
    Calls Tryz.prog 85 #[v] w (RetInt L w z) :=
  (small_any h hL).mono fun e w' ⟨hb, hc⟩ => by
    rcases hc with ⟨_, v', he, hI⟩ | ⟨hn, _⟩
    · exact ⟨hb, v', he, hI⟩
    · rw [hs] at hn; cases hn
theorem small_no {L : Nat} {v : Value} {z : Int} {w : World} (h : IntV L w v z) (hL : L ≤ 17000000000000) (hs : smallB z.natAbs = false) :
    Calls Tryz.prog 85 #[v] w fun e w' => (∃ u pv, e = .panicked [{ v := .iface u pv, recovered := false }] ∧ Below w.heap.size w w') ∨ (e = .returned (.agg #[.bool false, .slice none 0 0]) ∧ Hid False) :=
  (small_any h hL).mono fun e w' ⟨hb, hc⟩ => by
    rcases hc with ⟨hn, _⟩ | ⟨_, u, pv, he⟩
    · rw [hs] at hn; cases hn
    · exact .inl ⟨u, pv, he, hb⟩
theorem belowCell {w w' : World} {b o : Nat} {v : Value} (h : Below w.heap.size w w') (hc : w.cell? ⟨b, o, none⟩ = some v) : w'.cell? ⟨b, o, none⟩ = some v :=
  (h.cell (p := ⟨b, o, none⟩) (World.block_lt_of_cell? w _ hc)).trans hc
set_option maxRecDepth 20000 in
set_option maxHeartbeats 2000000 in
theorem parse1_any (p q : Nat) (neg : Bool) (D : ByteArray) (w : World) (hp : w.cell? ⟨p, 0, none⟩ = some (.bool neg)) (hq : w.cell? ⟨q, 0, none⟩ = some (.string D))
    (hd : Dg.AllDig D.data.toList) (h0 : 0 < D.size) (hs : D.size ≤ 1073741824) :
    Calls Tryz.prog 82 #[.pointer (some ⟨p, 0, none⟩), .pointer (some ⟨q, 0, none⟩)] w (SmRet D.size w (sgn neg (Dg.valD D.data.toList))) := by
  have hpl := World.block_lt_of_cell? w _ hp
  have hql := World.block_lt_of_cell? w _ hq
  simp only at hpl hql
  have HD := Lib.hid hd
  have hb0 := Lib.hid (show Below w.heap.size w (w.alloc (.cells #[.bool false, .slice none 0 0] 30)) from (Below.refl _ _).alloc (Nat.le_refl _) _)
  clear hd
  obtain ⟨z, hz⟩ : ∃ z, z = sgn neg (Dg.valD D.data.toList) := ⟨_, rfl⟩
  rw [← hz]
  have HZ := Lib.hid hz
  clear hz
  by_cases hsm : smallB z.natAbs = true
  · have HSM := Lib.hid hsm
    clear hsm
    go_enter Tryz.func82, Tryz.ntmps82
    go_wp2_with fail
    go_region_with (first
      | (go_at_call 84; refine (readDigits_any D _ HD.out h0 (by omega)).mono ?_; rintro e w1 ⟨hb1, v1, rfl, hn1, hf1⟩; have cp1 := belowCell hb1 (v := .bool neg) (b := p) (o := 0) ((hb0.out.cell (p := ⟨p, 0, none⟩) hpl).trans hp); have s1 := hb1.size; simp at s1)
      | (go_at_call 83; refine (signed_any neg (by assumption)).mono ?_; rintro e w2 ⟨hb2, v2, rfl, hI2⟩; have s2 := hb2.size)
      | (go_at_call 85; refine (small_yes (z := z) (L := D.size) (by rw [HZ.out]; assumption) (Nat.le_trans hs (by decide)) HSM.out).mono ?_; rintro e w3 ⟨hb3, v3, rfl, sb, sv, rfl, hsb, hn3⟩; have HSB := Lib.hid hsb; clear hsb; obtain ⟨ao, k, c, rfl⟩ := hn3.form; have hbx : w3.heap[w.heap.size]? = some (.cells #[.bool false, .slice none 0 0] 30 (0, 0)) := (hb3.block _ (by omega)).trans ((hb2.block _ (by omega)).trans ((hb1.block _ (by simp)).trans (heap_alloc_new w _))); obtain ⟨c0, c1, f0, f1⟩ := two_cells hbx; have hsz : w.heap.size < w3.heap.size := (Array.getElem?_eq_some_iff.1 hbx).1))
    all_goals
      have hD0 := two_cells (two_set hbx (.bool sb) (.slice ao k c))
      have D0 := Lib.hid hD0.1
      have D1 := Lib.hid hD0.2.1
      have HN := Lib.hid (hn3.box hbx (.bool sb) (.slice ao k c))
      have hball := (hb0.out.drew.trans (hb1.mono (B' := w.heap.size) (by simp))).trans ((hb2.mono (B' := w.heap.size) (by omega)).trans (hb3.mono (B' := w.heap.size) (by omega)))
      have HB := Lib.hid ((hball.setCell (p := ⟨w.heap.size, 0, none⟩) (Nat.le_refl _) (.bool sb)).setCell (p := ⟨w.heap.size, 1, none⟩) (Nat.le_refl _) (.slice ao k c))
      clear hD0 hn3 hbx hb1 hb2 hb3 hI2 hn1 hf1 hball
      go_wp2
      exact bodyPost_ret (v := .agg #[.bool sb, .slice ao k c]) (by simp [results, Tryz.results82, go_sem, D0.out, D1.out]) rfl ⟨HB.out, .inl ⟨HSM.out, _, rfl, _, _, rfl, HSB.out, HN.out⟩⟩
  · have hsm' : smallB z.natAbs = false := by simpa using hsm
    have HSM := Lib.hid hsm'
    clear hsm hsm'
    go_enter Tryz.func82, Tryz.ntmps82
    go_wp2_with fail
    go_region_with (first
      | (go_at_call 84; refine (readDigits_any D _ HD.out h0 (by omega)).mono ?_; rintro e w1 ⟨hb1, v1, rfl, hn1, hf1⟩; have cp1 := belowCell hb1 (v := .bool neg) (b := p) (o := 0) ((hb0.out.cell (p := ⟨p, 0, none⟩) hpl).trans hp); have s1 := hb1.size; simp at s1)
      | (go_at_call 83; refine (signed_any neg (by assumption)).mono ?_; rintro e w2 ⟨hb2, v2, rfl, hI2⟩; have s2 := hb2.size)
      | (go_at_call 85; refine (small_no (z := z) (L := D.size) (by rw [HZ.out]; assumption) (Nat.le_trans hs (by decide)) HSM.out).mono ?_; rintro e w3 (⟨u, pv, rfl, hb3⟩ | ⟨rfl, hF⟩); exact ⟨rfl, (hb0.out.drew.trans (hb1.mono (B' := w.heap.size) (by simp))).trans ((hb2.mono (B' := w.heap.size) (by omega)).trans (hb3.mono (B' := w.heap.size) (by omega))), .inr ⟨HSM.out, u, pv, rfl⟩⟩; have hF2 : w3.cell? ⟨w.heap.size, 0, none⟩ = some (.bool false) ∧ w3.cell? ⟨w.heap.size, 1, none⟩ = some (.slice none 0 0) ∧ w3.frozen? ⟨w.heap.size, 0, none⟩ = false ∧ w3.frozen? ⟨w.heap.size, 1, none⟩ = false ∧ w.heap.size < w3.heap.size := hF.out.elim; obtain ⟨c0, c1, f0, f1, hsz⟩ := hF2))
    all_goals exact hF.out.elim
end Go.Proofs.YtblbheilddafbaaGreatDoor
