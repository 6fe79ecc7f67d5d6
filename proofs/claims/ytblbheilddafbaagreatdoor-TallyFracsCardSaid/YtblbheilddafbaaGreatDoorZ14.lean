/-
  Texts of the proof, merged by program: Take Gcd.
-/
import Derived.Test.YtblbheilddafbaaGreatDoorZ13
import Derived.Deep.RegionHeld3
import Derived.Deep.LoopGhost
set_option linter.unusedVariables false
set_option linter.unusedSimpArgs false
namespace Go.Proofs.YtblbheilddafbaaGreatDoor
open Go Go.RowKit
/-- What take returns. -/
def TkRet (L : Nat) (w : World) (a b : Int) (e : Ending) (w' : World) : Prop := Below w.heap.size w w' ∧ ∃ va vb, e = .returned (.tuple #[va, vb]) ∧ Num L w' va a ∧ Num L w' vb b
theorem belowDrew (w : World) : Below w.heap.size w w.drew := ⟨rfl, rfl, rfl, Nat.le_refl _, fun _ _ => rfl⟩
set_option maxRecDepth 20000 in
set_option maxHeartbeats 2000000 in
theorem take_any {La Lb : Nat} {va vb : Value} {a b a0 b0 a1 b1 : Int} {neg : Bool} {w : World} (ha : Num La w va a) (hb : Num Lb w vb b) (h1 : La ≤ 17000000000000) (h2 : Lb ≤ 17000000000000)
    (c0 : 0 ≤ a0) (c1 : a0 < 18446744073709551616) (c2 : 0 ≤ b0) (c3 : b0 < 18446744073709551616) (c4 : 0 ≤ a1) (c5 : a1 < 18446744073709551616) (c6 : 0 ≤ b1) (c7 : b1 < 18446744073709551616)
    (p0 : 0 ≤ Leh.newB neg a1 b1 a b) (p1 : Leh.newB neg a1 b1 a b ≤ Leh.newA neg a0 b0 a b) (p2 : Leh.newA neg a0 b0 a b ≤ a) :
    Calls Tryz.prog 137 #[.agg (stc a0 b0 a1 b1 neg), va, vb] w (TkRet (max La Lb) w (Leh.newA neg a0 b0 a b) (Leh.newB neg a1 b1 a b)) := by
  obtain ⟨L, hL⟩ : ∃ L, L = max La Lb := ⟨_, rfl⟩
  rw [← hL]
  have hb0 : Below w.heap.size w (w.alloc (.cells (stc a0 b0 a1 b1 neg) 144)) := (Below.refl _ _).alloc (Nat.le_refl _) _
  have HBX : Hid ((w.alloc (.cells (stc a0 b0 a1 b1 neg) 144)).heap[w.heap.size]? = some (.cells (stc a0 b0 a1 b1 neg) 144 (0, 0))) := heap_alloc_new w _
  have HB0 := Lib.hid hb0
  cases neg
  · simp only [Leh.newA, Leh.newB, Bool.false_eq_true, if_false] at p0 p1 p2 ⊢
    have HM1 : Hid (∀ W, Below w.heap.size w W → Calls Tryz.prog 158 #[vb, .int .u64 b0, va, .int .u64 a0] W (RetNum L W (b * b0 - a * a0))) := fun W hW => by
      have := multiplesApart_num (hb.below hW) (ha.below hW) h2 h1 c2 c3 c0 c1 (by omega) (.inr p2)
      rw [Nat.max_comm, ← hL] at this
      exact this
    have HM2 : Hid (∀ W, Below w.heap.size w W → Calls Tryz.prog 158 #[va, .int .u64 a1, vb, .int .u64 b1] W (RetNum L W (a * a1 - b * b1))) := fun W hW => by
      have := multiplesApart_num (ha.below hW) (hb.below hW) h1 h2 c4 c5 c6 c7 p0 (.inl (by omega))
      rw [← hL] at this
      exact this
    have HL := Lib.hid hL
    clear hb0 hL ha hb p0 p1 p2
    go_enter Tryz.func137, Tryz.ntmps137
    go_wp2_with fail
    go_region_held3 (fun w' => w'.cell? ⟨w.heap.size, 0, none⟩ = some (.int .u64 a0) ∧ w'.cell? ⟨w.heap.size, 1, none⟩ = some (.int .u64 b0) ∧ w'.cell? ⟨w.heap.size, 2, none⟩ = some (.int .u64 a1) ∧ w'.cell? ⟨w.heap.size, 3, none⟩ = some (.int .u64 b1))
      (first | exact ⟨kd0, kd1, kd2, kd3⟩ | exact ⟨kc0, kc1, kc2, kc3⟩ | (refine ⟨?_, ?_, ?_, ?_⟩ <;> simp [go_sem]; done) | go_keep)
      ((first
        | (go_at_call 158; (with_reducible refine (HM1.out _ ?hx1).mono ?_); (case hx1 => exact HB0.out.trans (belowDrew _ |>.mono (by simp))); rintro e w1 ⟨hb1, v1, rfl, hn1, hf1⟩; obtain ⟨kc0, kc1, kc2, kc3, _⟩ := five_cells ((hb1.block _ (by simp)).trans HBX.out))
        | (go_at_call 158; (with_reducible refine (HM2.out _ ?hx2).mono ?_); (case hx2 => exact (HB0.out.trans (belowDrew _ |>.mono (by simp))).trans (hb1.mono (by simp))); rintro e w2 ⟨hb2, v2, rfl, hn2, hf2⟩; obtain ⟨kd0, kd1, kd2, kd3, _⟩ := five_cells ((hb2.block _ (by have := hb1.size; simp at this; omega)).trans ((hb1.block _ (by simp)).trans HBX.out)))))
    go_wp2
    go_ret2
    exact ⟨(((HB0.out.trans ((belowDrew _).mono (by simp))).trans (hb1.mono (by simp))).trans (hb2.mono (by have := hb1.size; simp at this; omega))), v1, v2, rfl, hn1.below hb2, hn2⟩
  · simp only [Leh.newA, Leh.newB, if_true] at p0 p1 p2 ⊢
    have HM1 : Hid (∀ W, Below w.heap.size w W → Calls Tryz.prog 158 #[va, .int .u64 a0, vb, .int .u64 b0] W (RetNum L W (a * a0 - b * b0))) := fun W hW => by
      have := multiplesApart_num (ha.below hW) (hb.below hW) h1 h2 c0 c1 c2 c3 (by omega) (.inl p2)
      rw [← hL] at this
      exact this
    have HM2 : Hid (∀ W, Below w.heap.size w W → Calls Tryz.prog 158 #[vb, .int .u64 b1, va, .int .u64 a1] W (RetNum L W (b * b1 - a * a1))) := fun W hW => by
      have := multiplesApart_num (hb.below hW) (ha.below hW) h2 h1 c6 c7 c4 c5 p0 (.inr (by omega))
      rw [Nat.max_comm, ← hL] at this
      exact this
    have HL := Lib.hid hL
    clear hb0 hL ha hb p0 p1 p2
    go_enter Tryz.func137, Tryz.ntmps137
    go_wp2_with fail
    go_region_held3 (fun w' => w'.cell? ⟨w.heap.size, 0, none⟩ = some (.int .u64 a0) ∧ w'.cell? ⟨w.heap.size, 1, none⟩ = some (.int .u64 b0) ∧ w'.cell? ⟨w.heap.size, 2, none⟩ = some (.int .u64 a1) ∧ w'.cell? ⟨w.heap.size, 3, none⟩ = some (.int .u64 b1))
      (first | exact ⟨kd0, kd1, kd2, kd3⟩ | exact ⟨kc0, kc1, kc2, kc3⟩ | (refine ⟨?_, ?_, ?_, ?_⟩ <;> simp [go_sem]; done) | go_keep)
      ((first
        | (go_at_call 158; (with_reducible refine (HM1.out _ ?hx1).mono ?_); (case hx1 => exact HB0.out.trans (belowDrew _ |>.mono (by simp))); rintro e w1 ⟨hb1, v1, rfl, hn1, hf1⟩; obtain ⟨kc0, kc1, kc2, kc3, _⟩ := five_cells ((hb1.block _ (by simp)).trans HBX.out))
        | (go_at_call 158; (with_reducible refine (HM2.out _ ?hx2).mono ?_); (case hx2 => exact (HB0.out.trans (belowDrew _ |>.mono (by simp))).trans (hb1.mono (by simp))); rintro e w2 ⟨hb2, v2, rfl, hn2, hf2⟩; obtain ⟨kd0, kd1, kd2, kd3, _⟩ := five_cells ((hb2.block _ (by have := hb1.size; simp at this; omega)).trans ((hb1.block _ (by simp)).trans HBX.out)))))
    go_wp2
    go_ret2
    exact ⟨(((HB0.out.trans ((belowDrew _).mono (by simp))).trans (hb1.mono (by simp))).trans (hb2.mono (by have := hb1.size; simp at this; omega))), v1, v2, rfl, hn1.below hb2, hn2⟩
end Go.Proofs.YtblbheilddafbaaGreatDoor

set_option linter.unusedVariables false
set_option linter.unusedSimpArgs false
namespace Go.Proofs.YtblbheilddafbaaGreatDoor
open Go Go.RowKit
/-- What stands at the head of a round of gcd. -/
def GcAt (L : Nat) (W0 wr : World) (G : Int) (s0 s1 : Value) (a b : Int) : Prop := Num L wr s0 a ∧ Num L wr s1 b ∧ b ≤ a ∧ (Int.gcd a b : Int) = G ∧ Below W0.heap.size W0 wr
set_option maxRecDepth 20000 in
set_option maxHeartbeats 4000000 in
theorem gcd_core (sw : Bool) {L : Nat} {va vb : Value} {m n : Int} {w : World} (ha : Num L w va m) (hb : Num L w vb n) (hle : n ≤ m) (hlt : sw = true → n < m) (hL : L ≤ 16000000000000) :
    Calls Tryz.prog 92 (if sw then #[vb, va] else #[va, vb]) w (RetNum L w (Int.gcd m n)) := by
  have hcmp : Hid (Calls Tryz.prog 91 (if sw then #[vb, va] else #[va, vb]) w fun e w' => Below w.heap.size w w' ∧ ∃ c : Int, e = .returned (.int .i64 c) ∧ ((sw = true ∧ c < 0) ∨ (sw = false ∧ 0 ≤ c))) := by
    cases sw
    · show Calls _ _ #[va, vb] _ _
      exact (compare_num ha hb).mono fun e w' ⟨h1, h2⟩ => ⟨h1, _, h2, .inr ⟨rfl, by
        rcases Int.lt_or_eq_of_le hle with h | h
        · rw [Dg.sg_gt h]; omega
        · rw [h, Dg.sg_eq]; omega⟩⟩
    · show Calls _ _ #[vb, va] _ _
      exact (compare_num hb ha).mono fun e w' ⟨h1, h2⟩ => ⟨h1, _, h2, .inl ⟨rfl, by rw [Dg.sg_lt (hlt rfl)]; omega⟩⟩
  have HA := Lib.hid ha
  have HB := Lib.hid hb
  obtain ⟨ao, ka, ca, rfl⟩ := ha.form
  obtain ⟨bo, kb, cb, rfl⟩ := hb.form
  obtain ⟨G, hG⟩ : ∃ G : Int, G = (Int.gcd m n : Int) := ⟨_, rfl⟩
  rw [← hG]
  have HG := Lib.hid hG
  have HLE := Lib.hid hle
  clear ha hb hlt hG hle
  cases sw
  all_goals
    simp only [if_true, if_false, Bool.false_eq_true] at hcmp ⊢
    go_enter Tryz.func92, Tryz.ntmps92
    go_wp2_with fail
    refine hcmp.out.mono ?_
    rintro e w1 ⟨hb1, c, rfl, hc⟩
    have hc' : Hid (_) := hc
    have HB1 := Lib.hid hb1
    have HS : Hid (GcAt L w w1 G (.slice ao ka ca) (.slice bo kb cb) m n) := ⟨HA.out.below hb1, HB.out.below hb1, HLE.out, HG.out.symm, hb1⟩
    simp only [Bool.true_eq_false, Bool.false_eq_true, false_and, true_and, false_or, or_false] at hc
    clear hb1 hcmp hc'
    go_wp2
    go_loopg [0, 1] (m + n).toNat (fun k s0 s1 wr => ∃ a b : Int, (a + b).toNat ≤ k ∧ Hid (GcAt L w wr G s0 s1 a b))
    case atStart => exact ⟨m, n, Nat.le_refl _, HS.out⟩
    case round =>
      obtain ⟨a, b, hab, hat⟩ := hrel
      obtain ⟨wo, rfl⟩ : ∃ wo : World, wo = wr := ⟨_, rfl⟩
      have hat' := hat.out
      obtain ⟨⟨xs, a1, a2, a3, a4, a5⟩, ⟨ys, b1, b2, b3, b4, b5⟩, hba, hgc, hbl⟩ := hat'
      have HSX := Lib.hid a1
      have HSY := Lib.hid b1
      have b0 : 0 ≤ b := by rw [← b4]; exact Dg.val_nonneg (by decide) b2
      obtain ⟨xo, xc, rfl, _, _, _⟩ := a1
      obtain ⟨yo, yc, rfl, _, _, hyx⟩ := b1
      have HNX : Hid (Num L wo (.slice xo xs.length xc) a) := hat.out.1
      have HNY : Hid (Num L wo (.slice yo ys.length yc) b) := hat.out.2.1
      have hlen : ys.length ≤ xs.length := by
        apply Classical.byContradiction
        intro hcon
        have := Dg.val_lt_of_len (show 1 < BW by decide) a2 b2 b3 (by omega)
        omega
      have HA4 := Lib.hid a4
      have HB4 := Lib.hid b4
      have HGC := Lib.hid hgc
      have HBL := Lib.hid hbl
      clear a4 b4 hgc hbl hat
      by_cases hy2 : 2 ≤ ys.length
      · obtain ⟨m', hm'⟩ : ∃ m', xs.length = m' + 2 := ⟨xs.length - 2, by omega⟩
        have bpos : 0 < b := by rw [← HB4.out]; exact Dg.val_pos (by decide) b2 b3 (fun e => by rw [e] at hy2; simp at hy2)
        have hlw := leadingWords_any _ _ xs ys m' wo HSX.out HSY.out a2 b2 a3 hm' (by omega) (by rw [HA4.out, HB4.out]; exact hba) (by omega)
        rw [HA4.out, HB4.out] at hlw
        have HLW := Lib.hid hlw
        clear hlw hyx hm' HSX HSY
        go_wp2_with fail
        refine HLW.out.mono ?_
        rintro e w2 ⟨hb2, A, B, H, x, y, rfl, hH, ea, x0, x1, eb, y0, y1, B0, BA, A1⟩
        have HEA := Lib.hid ea
        have HEB := Lib.hid eb
        have HB2 := Lib.hid hb2
        clear ea eb hb2
        go_wp2_with fail
        refine (foresee_any A B _ B0 BA A1).mono ?_
        rintro e w3 ⟨hb3, a0, c0, a1, c1, neg, rfl, u0, u1, u2, u3, u4, u5, u6, u7, hgood⟩
        have HB3 := Lib.hid (HB2.out.trans (hb3.mono HB2.out.size))
        have HGOOD := Lib.hid hgood
        clear hb3 hgood
        by_cases hc0 : c0 = 0
        · subst hc0
          have hba3 : Below w3.heap.size w3 (w3.alloc (.cells (stc a0 0 a1 c1 neg) 144)) := (Below.refl _ _).alloc (Nat.le_refl _) _
          have HB4' := Lib.hid (HB3.out.trans (hba3.mono HB3.out.size))
          clear hba3
          go_wp2_with fail
          refine (divide_num (HNX.out.below HB4'.out) (HNY.out.below HB4'.out) bpos hL).mono ?_
          rintro e w4 ⟨hb4, q, r, rfl, hq, hr, hfq, hfr⟩
          have HB5 := Lib.hid (HB4'.out.trans (hb4.mono HB4'.out.size))
          have hr0 := Int.emod_nonneg a (show b ≠ 0 by omega)
          have hr1 := Int.emod_lt_of_pos a bpos
          have HN : Hid (GcAt L w w4 G (.slice yo ys.length yc) r b (a % b)) := ⟨HNY.out.below HB5.out, hr, Int.le_of_lt hr1, by rw [gcd_step]; exact HGC.out, HBL.out.trans (HB5.out.mono HBL.out.size)⟩
          clear hb4 hq hr hfq hfr
          go_wp2
          go_roundg (b + a % b).toNat
          case rel => exact ⟨b, a % b, Nat.le_refl _, HN.out⟩
          case measure => omega
        · have t1 : (c0 != 0) = true := by simpa using hc0
          have hba3 : Below w3.heap.size w3 (w3.alloc (.cells (stc a0 c0 a1 c1 neg) 144)) := (Below.refl _ _).alloc (Nat.le_refl _) _
          have HB4' := Lib.hid (HB3.out.trans (hba3.mono HB3.out.size))
          clear hba3
          have hg : ∃ p f, Leh.Good A B neg a0 c0 a1 c1 p f := by
            rcases HGOOD.out with h | h
            · exact absurd h hc0
            · exact h
          obtain ⟨p, f, hg⟩ := hg
          obtain ⟨r0, r1⟩ := hg.right hH x0 x1 y0 y1 HEA.out HEB.out
          have r2 := hg.less r0 r1
          have HGG : Hid ((Int.gcd (Leh.newA neg a0 c0 a b) (Leh.newB neg a1 c1 a b) : Int) = G) := by show _ = _; rw [hg.gcd]; exact HGC.out
          have htk := take_any (neg := neg) (HNX.out.below HB4'.out) (HNY.out.below HB4'.out) (by omega) (by omega) u0 u1 u2 u3 u4 u5 u6 u7 r0 r1 (by omega)
          rw [Nat.max_self] at htk
          obtain ⟨na, hna⟩ : ∃ na, na = Leh.newA neg a0 c0 a b := ⟨_, rfl⟩
          obtain ⟨nb, hnb⟩ : ∃ nb, nb = Leh.newB neg a1 c1 a b := ⟨_, rfl⟩
          rw [← hna, ← hnb] at htk
          rw [← hna] at r1 r2 HGG
          rw [← hnb] at r0 r1 r2 HGG
          have HTK := Lib.hid htk
          clear htk hg hna hnb
          go_wp2_with fail
          refine HTK.out.mono ?_
          rintro e w4 ⟨hb4, va', vb', rfl, hna, hnb⟩
          have HB5 := Lib.hid (HB4'.out.trans (hb4.mono HB4'.out.size))
          have HN : Hid (GcAt L w w4 G va' vb' na nb) := ⟨hna, hnb, r1, HGG.out, HBL.out.trans (HB5.out.mono HBL.out.size)⟩
          clear hb4 hna hnb
          go_wp2
          go_roundg (na + nb).toNat
          case rel => exact ⟨na, nb, Nat.le_refl _, HN.out⟩
          case measure => omega
      · by_cases hy1 : ys.length = 0
        · have hz : b = 0 := by
            have : ys = [] := List.eq_nil_of_length_eq_zero hy1
            rw [← HB4.out, this]; rfl
          have hGa : Hid (G = a) := by
            show _ = _
            rw [← HGC.out, hz, Int.gcd_zero_right]
            have := HNX.out.lt.1
            omega
          rw [hy1]
          clear hyx
          go_wp2_with fail
          refine (copied_any HNX.out (by omega)).mono ?_
          rintro e w2 ⟨hb2, v2, rfl, hn2, hf2⟩
          have HB2 := Lib.hid hb2
          have HN2 := Lib.hid hn2
          have HF2 := Lib.hid hf2
          clear hb2 hn2 hf2
          go_wp2
          go_ret
          exact ⟨HBL.out.trans (HB2.out.mono HBL.out.size), _, rfl, by rw [hGa.out]; exact HN2.out, HF2.out.mono HBL.out.size⟩
        · have hy1' : ys.length = 1 := by omega
          obtain ⟨y, rfl⟩ : ∃ y, ys = [y] := by
            rcases ys with _ | ⟨y, _ | ⟨z, t⟩⟩
            · simp at hy1
            · exact ⟨y, rfl⟩
            · simp at hy1'
          have hyb : b = y := by rw [← HB4.out]; exact Dg.val_one _ _
          have hy0 := b2 y (by simp)
          have hypos : 0 < y := by
            have := b3 (by simp)
            simp at this
            omega
          obtain ⟨g, o, rfl, hgs, hcell⟩ := hyx 0 (by simp)
          simp only [List.length_cons, List.length_nil, Nat.zero_add, List.getElem?_cons_zero, Option.getD_some, Nat.add_zero] at hcell ⊢
          clear hyx hy1' hy1 hy2
          have HYB := Lib.hid hyb
          clear hyb
          have hL2 : L ≤ 17000000000000 := by omega
          go_wp2_with fail
          refine (divideByWord_num HNX.out hypos hy0.2 hL2).mono ?_
          rintro e w2 ⟨q, r, rfl, hb2, hn2, hr2, hf2⟩
          have hcl2 := (hb2.cell (p := ⟨g, o, none⟩) hgs).trans hcell
          have HB2 := Lib.hid hb2
          have HR2 := Lib.hid hr2
          have hr0 : 0 ≤ r := by rw [hr2]; exact Int.emod_nonneg _ (by omega)
          have hr1 : r < y := by rw [hr2]; exact Int.emod_lt_of_pos _ hypos
          clear hb2 hn2 hr2 hf2
          go_wp2_with fail
          refine (gcdOfWords_any y r _ (by omega) hy0.2 hr0 (Int.lt_trans hr1 hy0.2)).mono ?_
          rintro e w3 ⟨hb3, rfl⟩
          have hgG : Hid ((Int.gcd y r : Int) = G) := by show _ = _; rw [HR2.out, gcd_step, ← HYB.out]; exact HGC.out
          have HB3 := Lib.hid (HB2.out.trans (hb3.mono HB2.out.size))
          have hG0 : 0 ≤ (Int.gcd y r : Int) := by omega
          have hG1 : (Int.gcd y r : Int) ≤ y := Int.le_of_dvd hypos (Int.gcd_dvd_left _ _)
          obtain ⟨gg, hgg⟩ : ∃ gg : Int, gg = (Int.gcd y r : Int) := ⟨_, rfl⟩
          rw [← hgg] at hG0 hG1 hgG ⊢
          clear hb3 hgg
          go_wp2_with fail
          refine (oneWord_any gg _ hG0 (Int.lt_of_le_of_lt hG1 hy0.2)).mono ?_
          rintro e w4 ⟨hb4, v4, rfl, hn4, hf4⟩
          have HB4' := Lib.hid (HB3.out.trans (hb4.mono HB3.out.size))
          have HN4 := Lib.hid hn4
          have HF4 := Lib.hid (hf4.mono (Nat.le_trans HBL.out.size HB3.out.size))
          have hL1 : Hid (1 ≤ L) := by show 1 ≤ L; simp only [List.length_cons, List.length_nil] at b5; omega
          clear hb4 hn4 hf4
          go_wp2
          go_ret
          exact ⟨HBL.out.trans (HB4'.out.mono HBL.out.size), _, rfl, by rw [← hgG.out]; exact HN4.out.mono hL1.out, HF4.out⟩
theorem gcd_num {La Lb : Nat} {va vb : Value} {m n : Int} {w : World} (ha : Num La w va m) (hb : Num Lb w vb n) (h1 : La ≤ 16000000000000) (h2 : Lb ≤ 16000000000000) :
    Calls Tryz.prog 92 #[va, vb] w (RetNum (max La Lb) w (Int.gcd m n)) := by
  have ha' := ha.mono (Nat.le_max_left La Lb)
  have hb' := hb.mono (Nat.le_max_right La Lb)
  by_cases h : n ≤ m
  · exact gcd_core false ha' hb' h (by simp) (by omega)
  · rw [Int.gcd_comm]
    exact gcd_core true hb' ha' (by omega) (fun _ => by omega) (by omega)
end Go.Proofs.YtblbheilddafbaaGreatDoor
