/-
  Texts of the proof, merged by program: Add Sub.
-/
import Derived.Test.YtblbheilddafbaaGreatDoorZ8
set_option linter.unusedVariables false
set_option linter.unusedSimpArgs false
namespace Go.Proofs.YtblbheilddafbaaGreatDoor
open Go Go.RowKit
theorem enter_add (cap : Array Value) (W : World) : (callFunc 94 cap).run Tryz.prog W = .ok (.enter 94 cap) W := by
  kernel_rfl
set_option maxRecDepth 20000 in
set_option maxHeartbeats 2000000 in
theorem add1_any {La Lb : Nat} {y z : Int} (p q : Nat) (sa sb : Bool) (ao bo : Option Addr) (ka kb ca cb : Nat) (w : World) (hp : w.heap[p]? = some (.cells #[.bool sa, .slice ao ka ca] 30 (0, 0))) (hq : w.heap[q]? = some (.cells #[.bool sb, .slice bo kb cb] 30 (0, 0)))
    (ha : IntV La w (.agg #[.bool sa, .slice ao ka ca]) y) (hb : IntV Lb w (.agg #[.bool sb, .slice bo kb cb]) z) (h1 : La ≤ 536870911) (h2 : Lb ≤ 536870911) :
    Calls Tryz.prog 94 #[.pointer (some ⟨p, 0, none⟩), .pointer (some ⟨q, 0, none⟩)] w (SmRet (max La Lb + 1) w (y + z)) := by
  obtain ⟨p0, p1, _, _⟩ := two_cells hp
  obtain ⟨q0, q1, _, _⟩ := two_cells hq
  have hpl : p < w.heap.size := (Array.getElem?_eq_some_iff.1 hp).1
  have hql : q < w.heap.size := (Array.getElem?_eq_some_iff.1 hq).1
  have hb0 := Lib.hid (show Below w.heap.size w (w.alloc (.cells #[.bool false, .slice none 0 0] 30)) from (Below.refl _ _).alloc (Nat.le_refl _) _)
  have HA := Lib.hid (ha.below hb0.out)
  have HB := Lib.hid (hb.below hb0.out)
  clear hp hq ha hb
  go_enter Tryz.func94, Tryz.ntmps94
  go_wp2_with fail
  refine (plus_any (by exact HA.out) (by exact HB.out) (by omega) (by omega)).mono ?_
  rintro e w1 ⟨hb1, v1, rfl, hI1⟩
  have s1 := hb1.size
  simp at s1
  go_wp2_with fail
  refine (small_any hI1 (by omega)).mono ?_
  rintro e w2 ⟨hb2, hc⟩
  have hbx : w2.heap[w.heap.size]? = some (.cells #[.bool false, .slice none 0 0] 30 (0, 0)) := (hb2.block _ (by omega)).trans ((hb1.block _ (by simp)).trans (heap_alloc_new w _))
  have hball := (hb0.out.trans (hb1.mono (B' := w.heap.size) (by simp))).trans (hb2.mono (B' := w.heap.size) (by omega))
  rcases hc with ⟨hsm, v', rfl, s, sv, rfl, hs, hn⟩ | ⟨hsm, u, pv, rfl⟩
  · obtain ⟨ao2, k2, c2, rfl⟩ := hn.form
    obtain ⟨c0, c1, f0, f1⟩ := two_cells hbx
    have hsz : w.heap.size < w2.heap.size := (Array.getElem?_eq_some_iff.1 hbx).1
    have HE := Lib.hid (int_end (s := s) (ao := ao2) (k := k2) (c := c2) hbx hball (Nat.le_refl _) hs hn)
    have HSM := Lib.hid hsm
    clear hball hbx hb1 hb2 hs hn hsm hI1
    go_wp2
    exact bodyPost_ret (v := .agg #[.bool s, .slice ao2 k2 c2]) (by simp [results, Tryz.results94, go_sem, HE.out.2.1, HE.out.2.2]) rfl ⟨HE.out.1.1, .inl ⟨HSM.out, HE.out.1.2⟩⟩
  · have HR : Hid (SmRet (max La Lb + 1) w (y + z) (.panicked [{ v := .iface u pv, recovered := false }]) w2) := ⟨hball, .inr ⟨hsm, u, pv, rfl⟩⟩
    clear hball hbx hb1 hb2 hsm hI1
    go_wp2
    exact ⟨rfl, HR.out⟩
set_option maxRecDepth 20000 in
set_option maxHeartbeats 2000000 in
theorem add_any {La Lb : Nat} {va vb : Value} {y z : Int} {w : World} (ha : IntV La w va y) (hb : IntV Lb w vb z) (h1 : La ≤ 536870911) (h2 : Lb ≤ 536870911) :
    Calls Tryz.prog 38 #[va, vb] w (YdRet (max La Lb + 1) w (y + z)) := by
  have hmf : ∀ (fn : Fn) (first cap : Array Value) (w : World), (Instr.makeFunc fn first cap).run Tryz.prog w = .ok (.func fn first cap) w := fun _ _ _ _ => rfl
  have ha' := ha
  have hb' := hb
  obtain ⟨sa, ua, rfl, hsa, hna⟩ := ha
  obtain ⟨sb, ub, rfl, hsb, hnb⟩ := hb
  obtain ⟨ao, ka, ca, rfl⟩ := hna.form
  obtain ⟨bo, kb, cb, rfl⟩ := hnb.form
  have hb0 : Below w.heap.size w (((w.alloc (.cells #[.bool sa, .slice ao ka ca] 30)).alloc (.cells #[.bool sb, .slice bo kb cb] 30)).alloc (.cells #[.bool false, .slice none 0 0] 30)) := (((Below.refl _ _).alloc (Nat.le_refl _) _).alloc (by simp) _).alloc (by simp; omega) _
  have hbox : ∀ W : World, Below (((w.alloc (.cells #[.bool sa, .slice ao ka ca] 30)).alloc (.cells #[.bool sb, .slice bo kb cb] 30)).alloc (.cells #[.bool false, .slice none 0 0] 30)).heap.size (((w.alloc (.cells #[.bool sa, .slice ao ka ca] 30)).alloc (.cells #[.bool sb, .slice bo kb cb] 30)).alloc (.cells #[.bool false, .slice none 0 0] 30)) W →
      W.heap[w.heap.size]? = some (.cells #[.bool sa, .slice ao ka ca] 30 (0, 0)) ∧ W.heap[w.heap.size + 1]? = some (.cells #[.bool sb, .slice bo kb cb] 30 (0, 0)) ∧ W.heap[w.heap.size + 1 + 1]? = some (.cells #[.bool false, .slice none 0 0] 30 (0, 0)) ∧ Below w.heap.size w W := by
    intro W hb
    refine ⟨?_, ?_, ?_, hb0.trans (hb.mono (by simp; omega))⟩
    · exact (hb.block _ (by simp; omega)).trans ((heap_alloc_old _ _ (by simp; omega)).trans ((heap_alloc_old _ _ (by simp)).trans (heap_alloc_new w _)))
    · exact (hb.block _ (by simp)).trans ((heap_alloc_old _ _ (by simp)).trans (heap_last _ _ _ (by simp)))
    · exact (hb.block _ (by simp)).trans (heap_last _ _ _ (by simp))
  have HBOX := Lib.hid hbox
  have HA := Lib.hid ha'
  have HB := Lib.hid hb'
  clear hna hnb hb0 hsa hsb hbox ha' hb'
  go_enter Tryz.func38, Tryz.ntmps38
  go_wp2_with fail
  refine (yield_any (L := max La Lb + 1) (z := y + z) _ _ _ (enter_add _) (fun W hb => add1_any _ _ sa sb ao bo ka kb ca cb W (HBOX.out W hb).1 (HBOX.out W hb).2.1 (HA.out.below (HBOX.out W hb).2.2.2) (HB.out.below (HBOX.out W hb).2.2.2) h1 h2)).mono ?_
  rintro e w1 ⟨hb1, hc⟩
  obtain ⟨_, _, hx, hbw⟩ := HBOX.out w1 hb1
  obtain ⟨c0, c1, f0, f1⟩ := two_cells hx
  have hsz1 : w.heap.size + 1 + 1 < w1.heap.size := (Array.getElem?_eq_some_iff.1 hx).1
  rcases hc with ⟨hsm, v', rfl, s, sv, rfl, hs, hn⟩ | ⟨hsm, rfl⟩
  · obtain ⟨ao2, k2, c2, rfl⟩ := hn.form
    have HE := Lib.hid (int_end (s := s) (ao := ao2) (k := k2) (c := c2) hx hbw (by omega) hs hn)
    have HSM := Lib.hid hsm
    clear hx hbw hb1 hs hn hsm
    go_wp2
    exact bodyPost_ret (v := .tuple #[.agg #[.bool s, .slice ao2 k2 c2], .int .i64 0]) (by simp [results, Tryz.results38, go_sem, HE.out.2.1, HE.out.2.2]) rfl ⟨HE.out.1.1, .inl ⟨HSM.out, by obtain ⟨v, e, h⟩ := HE.out.1.2; cases e; exact ⟨_, rfl, h⟩⟩⟩
  · have HE := Lib.hid (int_end (L := 0) (z := 0) (s := false) (ao := none) (k := 0) (c := 0) hx hbw (by omega) rfl ⟨[], Sl.nil _ _, Dg.Wf.nil _, Dg.Nz.nil, rfl, Nat.le_refl _⟩)
    have HSM := Lib.hid hsm
    clear hx hbw hb1 hsm
    go_wp2
    exact bodyPost_ret (v := .tuple #[.agg #[.bool false, .slice none 0 0], .int .i64 11]) (by simp [results, Tryz.results38, go_sem, HE.out.2.1, HE.out.2.2]) rfl ⟨HE.out.1.1, .inr ⟨HSM.out, rfl⟩⟩
theorem enter_mul (cap : Array Value) (W : World) : (callFunc 96 cap).run Tryz.prog W = .ok (.enter 96 cap) W := by
  kernel_rfl
set_option maxRecDepth 20000 in
set_option maxHeartbeats 2000000 in
theorem mul1_any {La Lb : Nat} {y z : Int} (p q : Nat) (sa sb : Bool) (ao bo : Option Addr) (ka kb ca cb : Nat) (w : World) (hp : w.heap[p]? = some (.cells #[.bool sa, .slice ao ka ca] 30 (0, 0))) (hq : w.heap[q]? = some (.cells #[.bool sb, .slice bo kb cb] 30 (0, 0)))
    (ha : IntV La w (.agg #[.bool sa, .slice ao ka ca]) y) (hb : IntV Lb w (.agg #[.bool sb, .slice bo kb cb]) z) (h1 : La ≤ 536870911) (h2 : Lb ≤ 536870911) :
    Calls Tryz.prog 96 #[.pointer (some ⟨p, 0, none⟩), .pointer (some ⟨q, 0, none⟩)] w (SmRet (La + Lb) w (y * z)) := by
  obtain ⟨p0, p1, _, _⟩ := two_cells hp
  obtain ⟨q0, q1, _, _⟩ := two_cells hq
  have hpl : p < w.heap.size := (Array.getElem?_eq_some_iff.1 hp).1
  have hql : q < w.heap.size := (Array.getElem?_eq_some_iff.1 hq).1
  have hb0 := Lib.hid (show Below w.heap.size w (w.alloc (.cells #[.bool false, .slice none 0 0] 30)) from (Below.refl _ _).alloc (Nat.le_refl _) _)
  have HA := Lib.hid (ha.below hb0.out)
  have HB := Lib.hid (hb.below hb0.out)
  clear hp hq ha hb
  go_enter Tryz.func96, Tryz.ntmps96
  go_wp2_with fail
  refine (times_any (by exact HA.out) (by exact HB.out) (by omega) (by omega)).mono ?_
  rintro e w1 ⟨hb1, v1, rfl, hI1⟩
  have s1 := hb1.size
  simp at s1
  go_wp2_with fail
  refine (small_any hI1 (by omega)).mono ?_
  rintro e w2 ⟨hb2, hc⟩
  have hbx : w2.heap[w.heap.size]? = some (.cells #[.bool false, .slice none 0 0] 30 (0, 0)) := (hb2.block _ (by omega)).trans ((hb1.block _ (by simp)).trans (heap_alloc_new w _))
  have hball := (hb0.out.trans (hb1.mono (B' := w.heap.size) (by simp))).trans (hb2.mono (B' := w.heap.size) (by omega))
  rcases hc with ⟨hsm, v', rfl, s, sv, rfl, hs, hn⟩ | ⟨hsm, u, pv, rfl⟩
  · obtain ⟨ao2, k2, c2, rfl⟩ := hn.form
    obtain ⟨c0, c1, f0, f1⟩ := two_cells hbx
    have hsz : w.heap.size < w2.heap.size := (Array.getElem?_eq_some_iff.1 hbx).1
    have HE := Lib.hid (int_end (s := s) (ao := ao2) (k := k2) (c := c2) hbx hball (Nat.le_refl _) hs hn)
    have HSM := Lib.hid hsm
    clear hball hbx hb1 hb2 hs hn hsm hI1
    go_wp2
    exact bodyPost_ret (v := .agg #[.bool s, .slice ao2 k2 c2]) (by simp [results, Tryz.results96, go_sem, HE.out.2.1, HE.out.2.2]) rfl ⟨HE.out.1.1, .inl ⟨HSM.out, HE.out.1.2⟩⟩
  · have HR : Hid (SmRet (La + Lb) w (y * z) (.panicked [{ v := .iface u pv, recovered := false }]) w2) := ⟨hball, .inr ⟨hsm, u, pv, rfl⟩⟩
    clear hball hbx hb1 hb2 hsm hI1
    go_wp2
    exact ⟨rfl, HR.out⟩
set_option maxRecDepth 20000 in
set_option maxHeartbeats 2000000 in
theorem mul_any {La Lb : Nat} {va vb : Value} {y z : Int} {w : World} (ha : IntV La w va y) (hb : IntV Lb w vb z) (h1 : La ≤ 536870911) (h2 : Lb ≤ 536870911) :
    Calls Tryz.prog 40 #[va, vb] w (YdRet (La + Lb) w (y * z)) := by
  have hmf : ∀ (fn : Fn) (first cap : Array Value) (w : World), (Instr.makeFunc fn first cap).run Tryz.prog w = .ok (.func fn first cap) w := fun _ _ _ _ => rfl
  have ha' := ha
  have hb' := hb
  obtain ⟨sa, ua, rfl, hsa, hna⟩ := ha
  obtain ⟨sb, ub, rfl, hsb, hnb⟩ := hb
  obtain ⟨ao, ka, ca, rfl⟩ := hna.form
  obtain ⟨bo, kb, cb, rfl⟩ := hnb.form
  have hb0 : Below w.heap.size w (((w.alloc (.cells #[.bool sa, .slice ao ka ca] 30)).alloc (.cells #[.bool sb, .slice bo kb cb] 30)).alloc (.cells #[.bool false, .slice none 0 0] 30)) := (((Below.refl _ _).alloc (Nat.le_refl _) _).alloc (by simp) _).alloc (by simp; omega) _
  have hbox : ∀ W : World, Below (((w.alloc (.cells #[.bool sa, .slice ao ka ca] 30)).alloc (.cells #[.bool sb, .slice bo kb cb] 30)).alloc (.cells #[.bool false, .slice none 0 0] 30)).heap.size (((w.alloc (.cells #[.bool sa, .slice ao ka ca] 30)).alloc (.cells #[.bool sb, .slice bo kb cb] 30)).alloc (.cells #[.bool false, .slice none 0 0] 30)) W →
      W.heap[w.heap.size]? = some (.cells #[.bool sa, .slice ao ka ca] 30 (0, 0)) ∧ W.heap[w.heap.size + 1]? = some (.cells #[.bool sb, .slice bo kb cb] 30 (0, 0)) ∧ W.heap[w.heap.size + 1 + 1]? = some (.cells #[.bool false, .slice none 0 0] 30 (0, 0)) ∧ Below w.heap.size w W := by
    intro W hb
    refine ⟨?_, ?_, ?_, hb0.trans (hb.mono (by simp; omega))⟩
    · exact (hb.block _ (by simp; omega)).trans ((heap_alloc_old _ _ (by simp; omega)).trans ((heap_alloc_old _ _ (by simp)).trans (heap_alloc_new w _)))
    · exact (hb.block _ (by simp)).trans ((heap_alloc_old _ _ (by simp)).trans (heap_last _ _ _ (by simp)))
    · exact (hb.block _ (by simp)).trans (heap_last _ _ _ (by simp))
  have HBOX := Lib.hid hbox
  have HA := Lib.hid ha'
  have HB := Lib.hid hb'
  clear hna hnb hb0 hsa hsb hbox ha' hb'
  go_enter Tryz.func40, Tryz.ntmps40
  go_wp2_with fail
  refine (yield_any (L := La + Lb) (z := y * z) _ _ _ (enter_mul _) (fun W hb => mul1_any _ _ sa sb ao bo ka kb ca cb W (HBOX.out W hb).1 (HBOX.out W hb).2.1 (HA.out.below (HBOX.out W hb).2.2.2) (HB.out.below (HBOX.out W hb).2.2.2) h1 h2)).mono ?_
  rintro e w1 ⟨hb1, hc⟩
  obtain ⟨_, _, hx, hbw⟩ := HBOX.out w1 hb1
  obtain ⟨c0, c1, f0, f1⟩ := two_cells hx
  have hsz1 : w.heap.size + 1 + 1 < w1.heap.size := (Array.getElem?_eq_some_iff.1 hx).1
  rcases hc with ⟨hsm, v', rfl, s, sv, rfl, hs, hn⟩ | ⟨hsm, rfl⟩
  · obtain ⟨ao2, k2, c2, rfl⟩ := hn.form
    have HE := Lib.hid (int_end (s := s) (ao := ao2) (k := k2) (c := c2) hx hbw (by omega) hs hn)
    have HSM := Lib.hid hsm
    clear hx hbw hb1 hs hn hsm
    go_wp2
    exact bodyPost_ret (v := .tuple #[.agg #[.bool s, .slice ao2 k2 c2], .int .i64 0]) (by simp [results, Tryz.results40, go_sem, HE.out.2.1, HE.out.2.2]) rfl ⟨HE.out.1.1, .inl ⟨HSM.out, by obtain ⟨v, e, h⟩ := HE.out.1.2; cases e; exact ⟨_, rfl, h⟩⟩⟩
  · have HE := Lib.hid (int_end (L := 0) (z := 0) (s := false) (ao := none) (k := 0) (c := 0) hx hbw (by omega) rfl ⟨[], Sl.nil _ _, Dg.Wf.nil _, Dg.Nz.nil, rfl, Nat.le_refl _⟩)
    have HSM := Lib.hid hsm
    clear hx hbw hb1 hsm
    go_wp2
    exact bodyPost_ret (v := .tuple #[.agg #[.bool false, .slice none 0 0], .int .i64 11]) (by simp [results, Tryz.results40, go_sem, HE.out.2.1, HE.out.2.2]) rfl ⟨HE.out.1.1, .inr ⟨HSM.out, rfl⟩⟩
end Go.Proofs.YtblbheilddafbaaGreatDoor

set_option linter.unusedVariables false
set_option linter.unusedSimpArgs false
namespace Go.Proofs.YtblbheilddafbaaGreatDoor
open Go Go.RowKit
/-- The same as YdRet, said of one form. -/
def YdOne (L : Nat) (z : Int) (w' : World) (s : Bool) (ao : Option Addr) (k c : Nat) (err : Int) : Prop :=
  (smallB z.natAbs = true ∧ err = 0 ∧ IntV L w' (.agg #[.bool s, .slice ao k c]) z) ∨ (smallB z.natAbs = false ∧ err = 11 ∧ s = false ∧ ao = none ∧ k = 0 ∧ c = 0)
theorem YdRet.one {L : Nat} {w : World} {z : Int} {e : Ending} {w' : World} (h : YdRet L w z e w') : ∃ s ao k c err, e = .returned (.tuple #[.agg #[.bool s, .slice ao k c], .int .i64 err]) ∧ Below w.heap.size w w' ∧ YdOne L z w' s ao k c err := by
  obtain ⟨hb, hc⟩ := h
  rcases hc with ⟨hsm, v', rfl, s, sv, rfl, hs, hn⟩ | ⟨hsm, rfl⟩
  · obtain ⟨ao, k, c, rfl⟩ := hn.form
    exact ⟨s, ao, k, c, 0, rfl, hb, .inl ⟨hsm, rfl, _, _, rfl, hs, hn⟩⟩
  · exact ⟨_, _, _, _, _, rfl, hb, .inr ⟨hsm, rfl, rfl, rfl, rfl, rfl⟩⟩
/-- The end of a call that stores a result of one form into its box g. -/
theorem one_end {L : Nat} {z : Int} {w W : World} {g : Nat} {s x : Bool} {ao bo : Option Addr} {k c k' c' : Nat} {err : Int} {T : TypeId} (hg : W.heap[g]? = some (.cells #[.bool x, .slice bo k' c'] T (0, 0)))
    (hb : Below w.heap.size w W) (hgw : w.heap.size ≤ g) (h : YdOne L z W s ao k c err) :
    YdRet L w z (.returned (.tuple #[.agg #[.bool s, .slice ao k c], .int .i64 err])) ((W.setCell ⟨g, 0, none⟩ (.bool s)).setCell ⟨g, 1, none⟩ (.slice ao k c)) ∧
      ((W.setCell ⟨g, 0, none⟩ (.bool s)).setCell ⟨g, 1, none⟩ (.slice ao k c)).cell? ⟨g, 0, none⟩ = some (.bool s) ∧ ((W.setCell ⟨g, 0, none⟩ (.bool s)).setCell ⟨g, 1, none⟩ (.slice ao k c)).cell? ⟨g, 1, none⟩ = some (.slice ao k c) := by
  obtain ⟨q0, q1, _, _⟩ := two_cells (two_set hg (.bool s) (.slice ao k c))
  refine ⟨⟨(hb.setCell (p := ⟨g, 0, none⟩) hgw _).setCell (p := ⟨g, 1, none⟩) hgw _, ?_⟩, q0, q1⟩
  rcases h with ⟨hsm, rfl, s', sv, e, hs, hn⟩ | ⟨hsm, rfl, rfl, rfl, rfl, rfl⟩
  · simp only [Value.agg.injEq, Array.mk.injEq, List.cons.injEq, Value.bool.injEq, and_true] at e
    obtain ⟨rfl, rfl⟩ := e
    exact .inl ⟨hsm, _, rfl, _, _, rfl, hs, hn.box hg _ _⟩
  · exact .inr ⟨hsm, rfl⟩
set_option maxRecDepth 20000 in
set_option maxHeartbeats 4000000 in
theorem sub_any {La Lb : Nat} {va vb : Value} {y z : Int} {w : World} (ha : IntV La w va y) (hb : IntV Lb w vb z) (h1 : La ≤ 536870911) (h2 : Lb ≤ 536870911) :
    Calls Tryz.prog 39 #[va, vb] w (YdRet (max La Lb + 1) w (y - z)) := by
  have ha' := ha
  have hb' := hb
  obtain ⟨sa, ua, rfl, hsa, hna⟩ := ha
  obtain ⟨sb, ub, rfl, hsb, hnb⟩ := hb
  obtain ⟨ao, ka, ca, rfl⟩ := hna.form
  obtain ⟨bo, kb, cb, rfl⟩ := hnb.form
  have hb0 : Below w.heap.size w (((w.alloc (.cells #[.bool sa, .slice ao ka ca] 30)).alloc (.cells #[.bool sb, .slice bo kb cb] 30)).alloc (.cells #[.bool false, .slice none 0 0] 30)) := (((Below.refl _ _).alloc (Nat.le_refl _) _).alloc (by simp) _).alloc (by simp; omega) _
  have HA := Lib.hid (ha'.below hb0)
  have HBV := Lib.hid (hb'.below hb0)
  have HB := Lib.hid hb0
  have HBX : Hid ((((w.alloc (.cells #[.bool sa, .slice ao ka ca] 30)).alloc (.cells #[.bool sb, .slice bo kb cb] 30)).alloc (.cells #[.bool false, .slice none 0 0] 30)).heap[w.heap.size + 2]? = some (.cells #[.bool false, .slice none 0 0] 30 (0, 0))) := heap_last _ _ _ (by simp)
  clear hna hnb hb0 hsa hsb ha' hb'
  go_enter Tryz.func39, Tryz.ntmps39
  go_wp2_with fail
  go_region_held3 (fun w' => w'.cell? ⟨w.heap.size, 0, none⟩ = some (.bool sa) ∧ w'.cell? ⟨w.heap.size, 1, none⟩ = some (.slice ao ka ca) ∧ w'.cell? ⟨w.heap.size + 1, 0, none⟩ = some (.bool sb) ∧ w'.cell? ⟨w.heap.size + 1, 1, none⟩ = some (.slice bo kb cb))
    (first | exact ⟨kd0, kd1, kd2, kd3⟩ | exact ⟨kc0, kc1, kc2, kc3⟩ | (refine ⟨?_, ?_, ?_, ?_⟩ <;> simp [go_sem, kd0, kd1, kd2, kd3]; done) | (refine ⟨?_, ?_, ?_, ?_⟩ <;> simp [go_sem]; done) | go_keep)
    ((first
      | (go_at_call 28; refine (neg_any (L := Lb) (z := z) (by exact HBV.out) (by omega)).mono ?_; rintro e w1 ⟨hb1, v1, rfl, hI1⟩; have s1 := hb1.size; simp at s1; have kc0 := belowCell hb1 (v := .bool sa) (b := w.heap.size) (o := 0) (by simp [go_sem]); have kc1 := belowCell hb1 (v := .slice ao ka ca) (b := w.heap.size) (o := 1) (by simp [go_sem]); have kc2 := belowCell hb1 (v := .bool sb) (b := w.heap.size + 1) (o := 0) (by simp [go_sem]); have kc3 := belowCell hb1 (v := .slice bo kb cb) (b := w.heap.size + 1) (o := 1) (by simp [go_sem]); have HA1 : Hid (IntV La w1 (.agg #[.bool sa, .slice ao ka ca]) y) := IntV.below (by exact HA.out) hb1)
      | (go_at_call 38; refine (add_any (y := y) (z := -z) HA1.out hI1 (by omega) (by omega)).mono ?_; intro e w2 hyd; obtain ⟨s, ao2, k2, c2, err, rfl, hb2, ho⟩ := hyd.one; have HO := Lib.hid ho; clear ho hyd; have s2 := hb2.size; have kd0 := belowCell hb2 kc0; have kd1 := belowCell hb2 kc1; have kd2 := belowCell hb2 kc2; have kd3 := belowCell hb2 kc3; have hbx : w2.heap[w.heap.size + 2]? = some (.cells #[.bool false, .slice none 0 0] 30 (0, 0)) := (hb2.block _ (by omega)).trans ((hb1.block _ (by simp)).trans HBX.out); obtain ⟨c0, c1, f0, f1⟩ := two_cells hbx; have hsz : w.heap.size + 2 < w2.heap.size := (Array.getElem?_eq_some_iff.1 hbx).1)))
  have hball := (HB.out.drew.trans (hb1.mono (B' := w.heap.size) (by simp; omega))).trans (hb2.mono (B' := w.heap.size) (by omega))
  have HE := Lib.hid (one_end hbx hball (by omega) HO.out)
  clear hball hbx hb1 hb2
  go_wp2
  exact bodyPost_ret (v := .tuple #[.agg #[.bool s, .slice ao2 k2 c2], .int .i64 err]) (by simp [results, Tryz.results39, go_sem, HE.out.2.1, HE.out.2.2]) rfl HE.out.1
end Go.Proofs.YtblbheilddafbaaGreatDoor
