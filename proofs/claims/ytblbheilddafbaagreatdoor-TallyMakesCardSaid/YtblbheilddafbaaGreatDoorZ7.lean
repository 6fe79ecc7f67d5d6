/-
  Texts of the proof, merged by program: Parse2 Int3 Neg.
-/
import Derived.Test.YtblbheilddafbaaGreatDoorZ6
import Derived.Deep.RegionHeld3
set_option linter.unusedVariables false
set_option linter.unusedSimpArgs false
namespace Go.Proofs.YtblbheilddafbaaGreatDoor
open Go Go.RowKit
theorem zeroInt {L : Nat} (w : World) : IntV L w (.agg #[.bool false, .slice none 0 0]) 0 :=
  ⟨false, .slice none 0 0, rfl, rfl, [], Sl.nil _ _, Dg.Wf.nil _, Dg.Nz.nil, rfl, Nat.zero_le _⟩
/-- What Parse returns: the integer, ErrForm or ErrSize. -/
def PaRet (s : List UInt8) (w : World) (e : Ending) (w' : World) : Prop := Below w.heap.size w w' ∧
  ((∃ z v', s = Dg.decZ z ∧ smallB z.natAbs = true ∧ e = .returned (.tuple #[v', .int .i64 0]) ∧ IntV 40000 w' v' z) ∨
   (∃ z, s = Dg.decZ z ∧ smallB z.natAbs = false ∧ e = .returned (.tuple #[.agg #[.bool false, .slice none 0 0], .int .i64 11])) ∨
   ((∀ z, s ≠ Dg.decZ z) ∧ e = .returned (.tuple #[.agg #[.bool false, .slice none 0 0], .int .i64 10])))
/-- So many digits are not small. -/
theorem long_big {d : List UInt8} (h : Dg.okDig d) (hl : 40000 < d.length) : smallB (Dg.valD d) = false := by
  obtain ⟨h0, h1, h2⟩ := h
  have hz : ∀ c t, d = c :: t → c.toNat ≠ 48 := by
    rcases h2 with rfl | h2
    · simp at hl
    · exact h2
  cases d with
  | nil => exact absurd rfl h0
  | cons c t =>
    have hc := hz c t rfl
    have hc2 := h1 c (by simp)
    have e := Dg.valD_append [c] t
    have e1 : Dg.valD [c] = c.toNat - 48 := by simp [Dg.valD]
    rw [e1] at e
    simp only [List.cons_append, List.nil_append] at e
    have h3 : 10 ^ t.length ≤ Dg.valD (c :: t) := by
      rw [e]
      have := Nat.mul_le_mul_right (10 ^ t.length) (show 1 ≤ c.toNat - 48 by omega)
      omega
    have h4 : (2 : Nat) ^ t.length ≤ 10 ^ t.length := Nat.pow_le_pow_left (by omega) _
    have h5 : (2 : Nat) ^ maxBits ≤ 2 ^ t.length := Nat.pow_le_pow_right (by omega) (by simp at hl; unfold maxBits; omega)
    unfold smallB
    apply decide_eq_false
    intro hc
    have h6 : (((2 : Nat) ^ maxBits : Nat) : Int) = 2 ^ maxBits := by simp
    rw [← h6] at hc
    omega
theorem enter82 (cap : Array Value) (W : World) : (callFunc 82 cap).run Tryz.prog W = .ok (.enter 82 cap) W := by
  kernel_rfl
set_option maxRecDepth 20000 in
set_option maxHeartbeats 2000000 in
theorem parse_any (s : ByteArray) (w : World) (hs : s.size ≤ 140737488355328) :
    Calls Tryz.prog 19 #[.string s] w (PaRet s.data.toList w) := by
  have hmf : ∀ (fn : Fn) (first cap : Array Value) (w : World), (Instr.makeFunc fn first cap).run Tryz.prog w = .ok (.func fn first cap) w := fun _ _ _ _ => rfl
  have hsz : Hid (s.data.toList.length = s.size) := Array.length_toList
  have hb0 := Lib.hid (show Below w.heap.size w (w.alloc (.cells #[.bool false, .slice none 0 0] 30)) from (Below.refl _ _).alloc (Nat.le_refl _) _)
  go_enter Tryz.func19, Tryz.ntmps19
  go_wp2_with fail
  refine (splitSign_any s _ hs).mono ?_
  rintro e w1 ⟨rfl, hcase⟩
  rcases hcase with ⟨D, neg, rfl, hcan, hDl⟩ | ⟨rfl, hno⟩
  · rw [hsz.out] at hDl
    have HC := Lib.hid hcan
    clear hcan
    by_cases hlong : D.size ≤ 40000
    · have hz := Dg.decZ_canon HC.out
      obtain ⟨hne, hdig, _⟩ := HC.out.1
      have hD0 : 0 < D.size := by
        have : D.data.toList.length = D.size := Array.length_toList
        have := List.length_pos_iff.2 hne
        omega
      have HDIG := Lib.hid hdig
      have HZ := Lib.hid hz
      have hbox : ∀ W : World, Below (((w.alloc (.cells #[.bool false, .slice none 0 0] 30)).alloc (.cells #[.string D] 9)).alloc (.cells #[.bool neg] 4)).heap.size (((w.alloc (.cells #[.bool false, .slice none 0 0] 30)).alloc (.cells #[.string D] 9)).alloc (.cells #[.bool neg] 4)) W →
          W.cell? ⟨w.heap.size + 1 + 1, 0, none⟩ = some (.bool neg) ∧ W.cell? ⟨w.heap.size + 1, 0, none⟩ = some (.string D) ∧ W.heap[w.heap.size]? = some (.cells #[.bool false, .slice none 0 0] 30 (0, 0)) ∧ Below w.heap.size w W := by
        intro W hb
        have a1 : (w.alloc (.cells #[.bool false, .slice none 0 0] 30)).heap.size = w.heap.size + 1 := by simp
        have a2 : ((w.alloc (.cells #[.bool false, .slice none 0 0] 30)).alloc (.cells #[.string D] 9)).heap.size = w.heap.size + 1 + 1 := by simp
        have b3 := heap_alloc_new ((w.alloc (.cells #[.bool false, .slice none 0 0] 30)).alloc (.cells #[.string D] 9)) (.cells #[.bool neg] 4)
        have b2 := heap_alloc_new (w.alloc (.cells #[.bool false, .slice none 0 0] 30)) (.cells #[.string D] 9)
        have b1 := heap_alloc_new w (.cells #[.bool false, .slice none 0 0] 30)
        rw [a2] at b3
        rw [a1] at b2
        refine ⟨?_, ?_, ?_, ?_⟩
        · rw [cell_of_row W _ 0 _ _ (0, 0) ((hb.block _ (by simp)).trans b3)]; rfl
        · rw [cell_of_row W _ 0 _ _ (0, 0) ((hb.block _ (by simp)).trans ((heap_alloc_old _ _ (by simp)).trans b2))]; rfl
        · exact (hb.block _ (by simp; omega)).trans ((heap_alloc_old _ _ (by simp; omega)).trans ((heap_alloc_old _ _ (by simp)).trans b1))
        · exact (((hb0.out.alloc (by simp) _).alloc (by simp; omega) _)).trans (hb.mono (by simp; omega))
      have HBOX := Lib.hid hbox
      clear hz hne hdig hbox
      go_wp2_with fail
      refine (yield_any (L := D.size) (z := sgn neg (Dg.valD D.data.toList)) _ _ _ (enter82 _) (fun W hb => parse1_any _ _ neg D W (HBOX.out W hb).1 (HBOX.out W hb).2.1 HDIG.out hD0 (by omega))).mono ?_
      rintro e w1 ⟨hb1, hc1⟩
      obtain ⟨_, _, hx, hbw⟩ := HBOX.out w1 hb1
      obtain ⟨c0, c1, f0, f1⟩ := two_cells hx
      have hsz1 : w.heap.size < w1.heap.size := (Array.getElem?_eq_some_iff.1 hx).1
      have HBW := Lib.hid hbw
      rcases hc1 with ⟨hsm, v', rfl, sb, sv, rfl, hsb, hn⟩ | ⟨hsm, rfl⟩
      · obtain ⟨ao, k, c, rfl⟩ := hn.form
        obtain ⟨q0, q1, _, _⟩ := two_cells (two_set hx (.bool sb) (.slice ao k c))
        have Q0 := Lib.hid q0
        have Q1 := Lib.hid q1
        have HN := Lib.hid (hn.box hx (.bool sb) (.slice ao k c))
        have HSM := Lib.hid hsm
        have HSB := Lib.hid hsb
        clear hx hbw hb1 q0 q1 hn hsm hsb
        go_wp2
        exact bodyPost_ret (v := .tuple #[.agg #[.bool sb, .slice ao k c], .int .i64 0]) (by simp [results, Tryz.results19, go_sem, Q0.out, Q1.out]) rfl
          ⟨(HBW.out.setCell (p := ⟨w.heap.size, 0, none⟩) (Nat.le_refl _) _).setCell (p := ⟨w.heap.size, 1, none⟩) (Nat.le_refl _) _, .inl ⟨_, _, HZ.out.symm, HSM.out, rfl, _, _, rfl, HSB.out, HN.out.mono (by omega)⟩⟩
      · obtain ⟨q0, q1, _, _⟩ := two_cells (two_set hx (.bool false) (.slice none 0 0))
        have Q0 := Lib.hid q0
        have Q1 := Lib.hid q1
        have HSM := Lib.hid hsm
        clear hx hbw hb1 q0 q1 hsm
        go_wp2
        exact bodyPost_ret (v := .tuple #[.agg #[.bool false, .slice none 0 0], .int .i64 11]) (by simp [results, Tryz.results19, go_sem, Q0.out, Q1.out]) rfl
          ⟨(HBW.out.setCell (p := ⟨w.heap.size, 0, none⟩) (Nat.le_refl _) _).setCell (p := ⟨w.heap.size, 1, none⟩) (Nat.le_refl _) _, .inr (.inl ⟨_, HZ.out.symm, HSM.out, rfl⟩)⟩
    · have HR : Hid (PaRet s.data.toList w (.returned (.tuple #[.agg #[.bool false, .slice none 0 0], .int .i64 11])) (((w.alloc (.cells #[.bool false, .slice none 0 0] 30)).alloc (.cells #[.string D] 9)).alloc (.cells #[.bool neg] 4))) := by
        refine ⟨?_, .inr (.inl ⟨_, (Dg.decZ_canon HC.out).symm, ?_, rfl⟩)⟩
        · exact (hb0.out.alloc (by simp) _).alloc (by simp; omega) _
        · have : ((Dg.ofSign neg (Dg.valD D.data.toList)).natAbs : Int) = Dg.valD D.data.toList := by unfold Dg.ofSign; split <;> omega
          rw [this]
          exact long_big HC.out.1 (by have : D.data.toList.length = D.size := Array.length_toList; omega)
      go_wp2
      exact bodyPost_ret (v := .tuple #[.agg #[.bool false, .slice none 0 0], .int .i64 11]) (by simp [results, Tryz.results19, go_sem]) rfl HR.out
  · have HN : Hid (∀ z, s.data.toList ≠ Dg.decZ z) := fun z e => by
      have := Dg.canon_decZ z
      rw [← e] at this
      exact hno _ _ this
    clear hno
    go_wp2
    exact bodyPost_ret (v := .tuple #[.agg #[.bool false, .slice none 0 0], .int .i64 10]) (by simp [results, Tryz.results19, go_sem]) rfl ⟨(hb0.out.alloc (by simp) _).alloc (by simp; omega) _, .inr (.inr ⟨HN.out, rfl⟩)⟩
end Go.Proofs.YtblbheilddafbaaGreatDoor

set_option linter.unusedVariables false
set_option linter.unusedSimpArgs false
namespace Go.Proofs.YtblbheilddafbaaGreatDoor
open Go Go.RowKit
theorem Num.form2 {L : Nat} {w : World} {v : Value} {n : Int} (h : Num L w v n) : ∃ ao k cap, v = .slice ao k cap ∧ (k = 0 ↔ n = 0) ∧ 0 ≤ n := by
  obtain ⟨xs, ⟨ao, cap, e, _⟩, a2, a3, a4, _⟩ := h
  refine ⟨ao, _, cap, e, ?_, by rw [← a4]; exact Dg.val_nonneg (by decide) a2⟩
  rw [← a4, Dg.val_zero_iff (by decide) a2 a3]
  exact List.length_eq_zero_iff
set_option maxHeartbeats 400000 in
theorem sign_any {L : Nat} {v : Value} {z : Int} {w : World} (h : IntV L w v z) :
    Calls Tryz.prog 25 #[v] w (RetV w (.int .i64 (Dg.sg z 0))) := by
  obtain ⟨sb, sv, rfl, hsb, hn⟩ := h
  obtain ⟨ao, k, cap, rfl, hk, _⟩ := hn.form2
  have hb0 : Below w.heap.size w (w.alloc (.cells #[.bool sb, .slice ao k cap] 30)) := (Below.refl _ _).alloc (Nat.le_refl _) _
  rcases Int.lt_trichotomy z 0 with h | h | h
  · have e : sb = true := by rw [hsb]; simpa using h
    subst e
    have HS := Lib.hid (Dg.sg_lt h)
    clear hsb hk
    go_enter Tryz.func25, Tryz.ntmps25
    go_wp2
    go_ret
    exact ⟨hb0, by rw [HS.out]; rfl⟩
  · subst h
    have e : sb = false := by rw [hsb]; rfl
    subst e
    have e2 : k = 0 := hk.2 rfl
    subst e2
    clear hsb hk
    go_enter Tryz.func25, Tryz.ntmps25
    go_wp2
    go_ret
    exact ⟨hb0, rfl⟩
  · have e : sb = false := by rw [hsb]; simp; omega
    subst e
    have e2 : 0 < k := by
      apply Nat.pos_of_ne_zero
      intro hc
      have := hk.1 hc
      omega
    have HS := Lib.hid (Dg.sg_gt h)
    clear hsb hk
    go_enter Tryz.func25, Tryz.ntmps25
    go_wp2
    go_ret
    exact ⟨hb0, by rw [HS.out]; rfl⟩
theorem sg_mono {a b c d : Int} (h1 : a < b ↔ c < d) (h2 : b < a ↔ d < c) : Dg.sg a b = Dg.sg c d := by
  unfold Dg.sg
  by_cases h : a < b
  · rw [if_pos h, if_pos (h1.1 h)]
  · rw [if_neg h, if_neg (fun k => h (h1.2 k))]
    by_cases k : b < a
    · rw [if_pos k, if_pos (h2.1 k)]
    · rw [if_neg k, if_neg (fun j => k (h2.2 j))]
set_option maxHeartbeats 1000000 in
theorem cmp_any {La Lb : Nat} {va vb : Value} {y z : Int} {w : World} (ha : IntV La w va y) (hb : IntV Lb w vb z) :
    Calls Tryz.prog 33 #[va, vb] w (RetV w (.int .i64 (Dg.sg y z))) := by
  obtain ⟨sa, ua, rfl, hsa, hna⟩ := ha
  obtain ⟨sb, ub, rfl, hsb, hnb⟩ := hb
  obtain ⟨ao, ka, ca, rfl⟩ := hna.form
  obtain ⟨bo, kb, cb, rfl⟩ := hnb.form
  have hb0 : Below w.heap.size w ((w.alloc (.cells #[.bool sa, .slice ao ka ca] 30)).alloc (.cells #[.bool sb, .slice bo kb cb] 30)) := ((Below.refl _ _).alloc (Nat.le_refl _) _).alloc (by simp) _
  have HNA := Lib.hid (hna.below hb0)
  have HNB := Lib.hid (hnb.below hb0)
  have HB := Lib.hid hb0
  clear hna hnb hb0
  by_cases h1 : y < 0
  · have e : sa = true := by rw [hsa]; simpa using h1
    subst e
    by_cases h2 : z < 0
    · have e : sb = true := by rw [hsb]; simpa using h2
      subst e
      have HS : Hid (Dg.sg y z = Dg.sg (z.natAbs : Int) y.natAbs) := sg_mono (by omega) (by omega)
      clear hsa hsb
      go_enter Tryz.func33, Tryz.ntmps33
      go_wp2_with fail
      refine (compare_num HNB.out HNA.out).mono ?_
      rintro e w1 ⟨hb1, rfl⟩
      have HB1 := Lib.hid hb1
      clear hb1
      go_wp2
      go_ret
      exact ⟨HB.out.trans (HB1.out.mono (by simp; omega)), by rw [HS.out]; rfl⟩
    · have e : sb = false := by rw [hsb]; simp; omega
      subst e
      have HS := Lib.hid (Dg.sg_lt (show y < z by omega))
      clear hsa hsb
      go_enter Tryz.func33, Tryz.ntmps33
      go_wp2
      go_ret
      exact ⟨HB.out, by rw [HS.out]; rfl⟩
  · have e : sa = false := by rw [hsa]; simp; omega
    subst e
    by_cases h2 : z < 0
    · have e : sb = true := by rw [hsb]; simpa using h2
      subst e
      have HS := Lib.hid (Dg.sg_gt (show z < y by omega))
      clear hsa hsb
      go_enter Tryz.func33, Tryz.ntmps33
      go_wp2
      go_ret
      exact ⟨HB.out, by rw [HS.out]; rfl⟩
    · have e : sb = false := by rw [hsb]; simp; omega
      subst e
      have HS : Hid (Dg.sg y z = Dg.sg (y.natAbs : Int) z.natAbs) := sg_mono (by omega) (by omega)
      clear hsa hsb
      go_enter Tryz.func33, Tryz.ntmps33
      go_wp2_with fail
      refine (compare_num HNA.out HNB.out).mono ?_
      rintro e w1 ⟨hb1, rfl⟩
      have HB1 := Lib.hid hb1
      clear hb1
      go_wp2
      go_ret
      exact ⟨HB.out.trans (HB1.out.mono (by simp; omega)), by rw [HS.out]; rfl⟩
end Go.Proofs.YtblbheilddafbaaGreatDoor

set_option linter.unusedVariables false
set_option linter.unusedSimpArgs false
namespace Go.Proofs.YtblbheilddafbaaGreatDoor
open Go Go.RowKit
theorem sgn_not {z : Int} {sb : Bool} (h : sb = decide (z < 0)) : sgn (!sb) z.natAbs = -z := by
  subst h
  unfold sgn
  by_cases hz : z < 0
  · simp [hz]; omega
  · simp [hz]; omega
theorem heap_last (W : World) (o : Obj) (n : Nat) (h : W.heap.size = n) : (W.alloc o).heap[n]? = some o := by subst h; exact heap_alloc_new W o
/-- The end of a call that stores an integer into its result's box g. -/
theorem int_end {L : Nat} {z : Int} {w W : World} {g : Nat} {s x : Bool} {ao bo : Option Addr} {k c k' c' : Nat} {T : TypeId} (hg : W.heap[g]? = some (.cells #[.bool x, .slice bo k' c'] T (0, 0)))
    (hb : Below w.heap.size w W) (hgw : w.heap.size ≤ g) (hs : s = decide (z < 0)) (hn : Num L W (.slice ao k c) z.natAbs) :
    RetInt L w z (.returned (.agg #[.bool s, .slice ao k c])) ((W.setCell ⟨g, 0, none⟩ (.bool s)).setCell ⟨g, 1, none⟩ (.slice ao k c)) ∧
      ((W.setCell ⟨g, 0, none⟩ (.bool s)).setCell ⟨g, 1, none⟩ (.slice ao k c)).cell? ⟨g, 0, none⟩ = some (.bool s) ∧ ((W.setCell ⟨g, 0, none⟩ (.bool s)).setCell ⟨g, 1, none⟩ (.slice ao k c)).cell? ⟨g, 1, none⟩ = some (.slice ao k c) := by
  obtain ⟨q0, q1, _, _⟩ := two_cells (two_set hg (.bool s) (.slice ao k c))
  exact ⟨⟨(hb.setCell (p := ⟨g, 0, none⟩) hgw _).setCell (p := ⟨g, 1, none⟩) hgw _, _, rfl, _, _, rfl, hs, hn.box hg _ _⟩, q0, q1⟩
set_option maxRecDepth 20000 in
set_option maxHeartbeats 2000000 in
theorem neg_any {L : Nat} {v : Value} {z : Int} {w : World} (h : IntV L w v z) (hL : L ≤ 1073741824) :
    Calls Tryz.prog 28 #[v] w (RetInt L w (-z)) := by
  obtain ⟨sb, sv, rfl, hsb, hn⟩ := h
  obtain ⟨ao, k, cap, rfl⟩ := hn.form
  have hb0 : Below w.heap.size w ((w.alloc (.cells #[.bool sb, .slice ao k cap] 30)).alloc (.cells #[.bool false, .slice none 0 0] 30)) := ((Below.refl _ _).alloc (Nat.le_refl _) _).alloc (by simp) _
  have HN := Lib.hid (hn.below hb0)
  have HBX : Hid (((w.alloc (.cells #[.bool sb, .slice ao k cap] 30)).alloc (.cells #[.bool false, .slice none 0 0] 30)).heap[w.heap.size + 1]? = some (.cells #[.bool false, .slice none 0 0] 30 (0, 0))) := heap_last _ _ _ (by simp)
  have HB := Lib.hid hb0
  have HSB := Lib.hid hsb
  clear hn hb0 hsb
  have hnot : ∀ (x : Bool) (w : World), (Op.unary .not (.bool x)).run Tryz.prog w = .ok (.bool (!x)) w := fun _ _ => rfl
  go_enter Tryz.func28, Tryz.ntmps28
  go_wp2_with fail
  go_region_held3 (fun w' => w'.cell? ⟨w.heap.size, 0, none⟩ = some (.bool sb) ∧ w'.cell? ⟨w.heap.size, 1, none⟩ = some (.slice ao k cap))
    (first | go_keep | exact ⟨kd0, kd1⟩ | exact ⟨kc0, kc1⟩)
    ((first
      | (go_at_call 89; refine (copied_any (L := L) (m := z.natAbs) (by exact HN.out) (by omega)).mono ?_; rintro e w1 ⟨hb1, v1, rfl, hn1, hf1⟩; have s1 := hb1.size; simp at s1; have kc0 := belowCell hb1 (v := .bool sb) (b := w.heap.size) (o := 0) (by simp [go_sem]); have kc1 := belowCell hb1 (v := .slice ao k cap) (b := w.heap.size) (o := 1) (by simp [go_sem]))
      | (go_at_call 83; refine (signed_any (!sb) hn1).mono ?_; rintro e w2 ⟨hb2, v2, rfl, s, sv, rfl, hs, hn2⟩; have HS := Lib.hid hs; clear hs; obtain ⟨ao2, k2, c2, rfl⟩ := hn2.form; have s2 := hb2.size; have kd0 := belowCell hb2 kc0; have kd1 := belowCell hb2 kc1; have hbx : w2.heap[w.heap.size + 1]? = some (.cells #[.bool false, .slice none 0 0] 30 (0, 0)) := (hb2.block _ (by omega)).trans ((hb1.block _ (by simp)).trans HBX.out); obtain ⟨c0, c1, f0, f1⟩ := two_cells hbx; have hsz : w.heap.size + 1 < w2.heap.size := (Array.getElem?_eq_some_iff.1 hbx).1)))
  have hball := (HB.out.drew.trans (hb1.mono (B' := w.heap.size) (by simp; omega))).trans (hb2.mono (B' := w.heap.size) (by omega))
  have HE := Lib.hid (int_end (L := L) (z := -z) (s := s) (ao := ao2) (k := k2) (c := c2) hbx hball (by omega) (by rw [HS.out, sgn_not HSB.out]) (by have := hn2; rw [sgn_not HSB.out] at this; exact this))
  clear hball hbx hb1 hb2 hn1 hn2 hf1
  go_wp2
  exact bodyPost_ret (v := .agg #[.bool s, .slice ao2 k2 c2]) (by simp [results, Tryz.results28, go_sem, HE.out.2.1, HE.out.2.2]) rfl HE.out.1
end Go.Proofs.YtblbheilddafbaaGreatDoor
