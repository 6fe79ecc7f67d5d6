/-
  Texts of the proof, merged by program: Map Gcw Lead.
-/
import Derived.Test.YtblbheilddafbaaGreatDoorZ11
import Derived.RegionTactic
import Derived.Deep.QuietTactic
import Derived.BigQuiet
import Derived.Deep.DeepFit
set_option linter.unusedVariables false
set_option linter.unusedSimpArgs false
namespace Go.Proofs.YtblbheilddafbaaGreatDoor
open Go Go.RowKit
/-- How far the difference of two multiples has come. -/
structure MaAt (xs ys T : List Int) (n : Nat) (x y : Int) (k : Nat) (cA cB bo : Int) : Prop where
  len : T.length = n
  wf : Dg.Wf BW T
  a0 : 0 ≤ cA
  a1 : cA < 18446744073709551616
  b0 : 0 ≤ cB
  b1 : cB < 18446744073709551616
  o0 : 0 ≤ bo
  o1 : bo ≤ 1
  eq : Dg.val BW (T.take k) + BW ^ k * (cA - cB - bo) = Dg.val BW (xs.take k) * x - Dg.val BW (ys.take k) * y
theorem MaAt.start (xs ys : List Int) (n : Nat) (x y : Int) : MaAt xs ys (List.replicate n 0) n x y 0 0 0 0 :=
  ⟨by simp, Dg.Wf.zeros (by decide) _, by decide, by decide, by decide, by decide, by decide, by decide, by simp [Dg.val]⟩
theorem step_ma {P A D r X x cA hA lA Y y cB hB lB bo s bo' B : Int} (h : r + P * (cA - cB - bo) = A * x - D * y) (h1 : X * x + cA = hA * B + lA) (h2 : Y * y + cB = hB * B + lB) (h3 : lA - lB - bo = s - B * bo') :
    (r + P * s) + P * B * (hA - hB - bo') = (A + P * X) * x - (D + P * Y) * y := by
  have e1 : P * (X * x + cA) = P * (hA * B + lA) := by rw [h1]
  have e2 : P * (Y * y + cB) = P * (hB * B + lB) := by rw [h2]
  have e3 : P * (lA - lB - bo) = P * (s - B * bo') := by rw [h3]
  simp only [Int.mul_sub, Int.mul_add, Int.add_mul, Int.mul_comm, Int.mul_left_comm, Int.mul_assoc] at *
  omega
theorem MaAt.next {xs ys T : List Int} {n : Nat} {x y : Int} {k : Nat} {cA cB bo X Y hA lA hB lB s bo' : Int} (h : MaAt xs ys T n x y k cA cB bo) (hk : k < n) (hX : X = xs[k]?.getD 0) (hY : Y = ys[k]?.getD 0)
    (h1 : X * x + cA = hA * 18446744073709551616 + lA) (h2 : Y * y + cB = hB * 18446744073709551616 + lB) (h3 : lA - lB - bo = s - 18446744073709551616 * bo')
    (a0 : 0 ≤ hA) (a1 : hA < 18446744073709551616) (b0 : 0 ≤ hB) (b1 : hB < 18446744073709551616) (s0 : 0 ≤ s) (s1 : s < 18446744073709551616) (o0 : 0 ≤ bo') (o1 : bo' ≤ 1) :
    MaAt xs ys (T.set k s) n x y (k + 1) hA hB bo' := by
  refine ⟨by simpa using h.len, h.wf.set k s0 s1, a0, a1, b0, b1, o0, o1, ?_⟩
  rw [Dg.take_set_succ _ _ _ (by rw [h.len]; exact hk), Dg.val_append, Dg.val_one, Dg.val_take_succD, Dg.val_take_succD, ← hX, ← hY]
  have hl : (T.take k).length = k := by rw [List.length_take, h.len]; omega
  rw [hl, Int.pow_succ]
  exact step_ma h.eq h1 h2 h3
theorem MaAt.done {xs ys T : List Int} {n : Nat} {x y : Int} {cA cB bo : Int} (h : MaAt xs ys T n x y n cA cB bo) (hx : xs.length ≤ n) (hy : ys.length ≤ n)
    (h0 : 0 ≤ Dg.val BW xs * x - Dg.val BW ys * y) (h1 : Dg.val BW xs * x - Dg.val BW ys * y < BW ^ n) : Dg.val BW T = Dg.val BW xs * x - Dg.val BW ys * y := by
  have e := h.eq
  rw [List.take_of_length_le (by rw [h.len]; exact Nat.le_refl _), List.take_of_length_le hx, List.take_of_length_le hy] at e
  have t0 := Dg.val_nonneg (B := BW) (by decide) h.wf
  have t1 := Dg.val_lt (B := BW) (by decide) h.wf
  rw [h.len] at t1
  generalize Dg.val BW xs * x - Dg.val BW ys * y = R at *
  generalize cA - cB - bo = c at *
  have hp : 0 < BW ^ n := Dg.pow_pos (by decide) n
  generalize BW ^ n = p at *
  have hc : c = 0 := by
    rcases Int.lt_trichotomy c 0 with hc | hc | hc
    · have := Int.mul_le_mul_of_nonneg_left (show c ≤ -1 by omega) (Int.le_of_lt hp)
      omega
    · exact hc
    · have := Int.mul_le_mul_of_nonneg_left (show 1 ≤ c by omega) (Int.le_of_lt hp)
      omega
  subst hc
  omega
set_option maxRecDepth 20000 in
set_option maxHeartbeats 2000000 in
theorem multiplesApart_any (va vb : Value) (xs ys : List Int) (x y : Int) (n : Nat) (w : World) (ha : Sl .u64 w va xs) (hb : Sl .u64 w vb ys) (hwa : Dg.Wf BW xs) (hwb : Dg.Wf BW ys)
    (hn : n = max xs.length ys.length) (hmx : n ≤ 17000000000000) (x0 : 0 ≤ x) (x1 : x < 18446744073709551616) (y0 : 0 ≤ y) (y1 : y < 18446744073709551616)
    (h0 : 0 ≤ Dg.val BW xs * x - Dg.val BW ys * y) (h1 : Dg.val BW xs * x - Dg.val BW ys * y < BW ^ n) :
    Calls Tryz.prog 158 #[va, .int .u64 x, vb, .int .u64 y] w (RetNum n w (Dg.val BW xs * x - Dg.val BW ys * y)) := by
  have HA := Lib.hid ha
  have HB := Lib.hid hb
  obtain ⟨ao, acap, rfl, hacap, hamax, hax⟩ := ha
  obtain ⟨bo, bcap, rfl, hbcap, hbmax, hbx⟩ := hb
  have hl1 : xs.length ≤ n := by omega
  have hl2 : ys.length ≤ n := by omega
  have hnl : xs.length ≤ ys.length ∧ n = ys.length ∨ ys.length < xs.length ∧ n = xs.length := by omega
  have H0 := Lib.hid h0
  have H1 := Lib.hid h1
  clear hax hbx hn h0 h1 hacap hamax hbcap hbmax
  rcases hnl with ⟨hle, hnn⟩ | ⟨hle, hnn⟩
  all_goals
    have HNN := Lib.hid hnn
    have hn3 : (n : Int) ≤ 17000000000000 := by omega
    clear hnn
    go_enter Tryz.func158, Tryz.ntmps158
    go_wp2_with (at_make; refine wpList_make_zeros _ rfl _ _ 28 rfl 104 .u64 Tryz.underlying28 info_u64 _ _ n rfl rfl (by have := HNN.out; omega) (by have := HNN.out; omega) (by omega) ?_)
    intro w1 hrow hbel
    go_wp2
    go_loopw [10, 11, 14, 24] (fun ca cb bo i wr => ∃ (k : Nat) (cA cB b : Int) (T : List Int), k ≤ n ∧ i = .int .i64 k ∧ ca = .int .u64 cA ∧ cb = .int .u64 cB ∧ bo = .int .u64 b ∧ Hid (MaAt xs ys T n x y k cA cB b) ∧ Row 104 .u64 wr w.heap.size T ∧ Below w.heap.size w wr) (fun _ _ _ i _ => n - (intOf i).toNat)
    case atStart => exact ⟨0, 0, 0, 0, _, Nat.zero_le _, rfl, rfl, rfl, rfl, MaAt.start xs ys n x y, hrow, hbel⟩
    case round =>
      obtain ⟨k, cA, cB, b, T, hk, rfl, rfl, rfl, rfl, hat, hr, hbl⟩ := hrel
      clear hrow hbel
      by_cases hlt : k < n
      · obtain ⟨X, hX⟩ : ∃ X, X = xs[k]?.getD 0 := ⟨_, rfl⟩
        obtain ⟨Y, hY⟩ : ∃ Y, Y = ys[k]?.getD 0 := ⟨_, rfl⟩
        have hXb := wfD hwa k
        have hYb := wfD hwb k
        rw [← hX] at hXb
        rw [← hY] at hYb
        have HX := Lib.hid hX
        have HY := Lib.hid hY
        have hcz := hr.cell (i := k) (by rw [hat.out.len]; exact hlt)
        have hfz := hr.free k
        have ca0 := hat.out.a0
        have ca1 := hat.out.a1
        have cb0 := hat.out.b0
        have cb1 := hat.out.b1
        have bo0 := hat.out.o0
        have bo1 := hat.out.o1
        clear hX hY
        go_wp2_with fail
        refine (wordAt_any (HA.out.below hbl) k X HX).mono ?_
        rintro e w2 ⟨rfl, rfl⟩
        go_wp2_with fail
        refine (mulAdd X x cA _ hXb.1 hXb.2 x0 x1 ca0 ca1).mono ?_
        rintro e w2 ⟨hA, lA, rfl, rfl, hA0, hA1, lA0, lA1, hvA⟩
        have HVA := Lib.hid hvA
        clear hvA
        go_wp2_with fail
        refine (wordAt_any (HB.out.below hbl) k Y HY).mono ?_
        rintro e w2 ⟨rfl, rfl⟩
        go_wp2_with fail
        refine (mulAdd Y y cB _ hYb.1 hYb.2 y0 y1 cb0 cb1).mono ?_
        rintro e w2 ⟨hB, lB, rfl, rfl, hB0, hB1, lB0, lB1, hvB⟩
        have HVB := Lib.hid hvB
        clear hvB
        obtain ⟨s, d, hsub, s0, s1, d0, d1, hs⟩ := sub64 lA lB b lA0 lA1 lB0 lB1 bo0 bo1
        have HS := Lib.hid hs
        clear hs
        go_wp2
        go_roundw
        case rel => exact ⟨k + 1, hA, hB, d, T.set k s, by omega, by go_num, rfl, rfl, rfl, hat.out.next hlt HX.out HY.out HVA.out HVB.out HS.out hA0 hA1 hB0 hB1 s0 s1 d0 d1, hr.set k s, hbl.setCell (Nat.le_refl _) _⟩
        case measure => simp [intOf] <;> omega
      · obtain rfl : k = n := by omega
        have HDN := Lib.hid (hat.out.done hl1 hl2 H0.out H1.out)
        have hSl := hr.slAll (n := k) (cap := k) hat.out.len.symm (Nat.le_refl _) (by unfold maxLen; omega)
        have hdw := hat.out.wf
        have HL := Lib.hid hat.out.len
        clear hat
        go_wp2_with (go_at_call 112; refine (cut_num hSl hdw).mono ?_; rintro e w' ⟨v', rfl, rfl, hn, hob⟩; have HOB := Lib.hid hob; clear hob)
        go_ret
        rw [HDN.out, HL.out] at hn
        exact ⟨hbl, _, rfl, hn, (Frm.mk (Nat.le_refl _)).of HOB.out⟩
theorem multiplesApart_num {La Lb : Nat} {va vb : Value} {m n x y : Int} {w : World} (ha : Num La w va m) (hb : Num Lb w vb n) (h1 : La ≤ 17000000000000) (h2 : Lb ≤ 17000000000000)
    (x0 : 0 ≤ x) (x1 : x < 18446744073709551616) (y0 : 0 ≤ y) (y1 : y < 18446744073709551616) (h0 : 0 ≤ m * x - n * y) (hm : m * x - n * y ≤ m ∨ m * x - n * y ≤ n) :
    Calls Tryz.prog 158 #[va, .int .u64 x, vb, .int .u64 y] w (RetNum (max La Lb) w (m * x - n * y)) := by
  obtain ⟨xs, a1, a2, a3, rfl, a5⟩ := ha
  obtain ⟨ys, b1, b2, b3, rfl, b5⟩ := hb
  have k1 := Dg.val_lt (B := BW) (by decide) a2
  have k2 := Dg.val_lt (B := BW) (by decide) b2
  have k3 : BW ^ xs.length ≤ BW ^ (max xs.length ys.length) := Dg.pow_mono (by decide) (by omega)
  have k4 : BW ^ ys.length ≤ BW ^ (max xs.length ys.length) := Dg.pow_mono (by decide) (by omega)
  exact (multiplesApart_any va vb xs ys x y _ w a1 b1 a2 b2 rfl (by omega) x0 x1 y0 y1 h0 (by rcases hm with h | h <;> omega)).mono fun e w' ⟨hb, v', he, hn, ho⟩ => ⟨hb, v', he, hn.mono (by omega), ho⟩
end Go.Proofs.YtblbheilddafbaaGreatDoor

set_option linter.unusedVariables false
set_option linter.unusedSimpArgs false
namespace Go.Proofs.YtblbheilddafbaaGreatDoor
open Go Go.RowKit
theorem gcd_step (a b : Int) : Int.gcd b (a % b) = Int.gcd a b := by
  rw [Int.emod_def, Int.sub_eq_add_neg, ← Int.mul_neg, Int.gcd_add_mul_left_right, Int.gcd_comm]
set_option maxHeartbeats 400000 in
theorem gcdOfWords_any (x y : Int) (w : World) (x0 : 0 ≤ x) (x1 : x < 18446744073709551616) (y0 : 0 ≤ y) (y1 : y < 18446744073709551616) :
    Calls Tryz.prog 138 #[.int .u64 x, .int .u64 y] w (RetV w (.int .u64 (Int.gcd x y))) := by
  go_enter Tryz.func138, Tryz.ntmps138
  go_wp2
  go_loopw [0, 1] (fun u v wr => ∃ a b : Int, 0 ≤ a ∧ a < 18446744073709551616 ∧ 0 ≤ b ∧ b < 18446744073709551616 ∧ u = .int .u64 a ∧ v = .int .u64 b ∧ Hid (Int.gcd a b = Int.gcd x y) ∧ Below w.heap.size w wr) (fun _ v _ => (intOf v).toNat)
  case atStart => exact ⟨x, y, x0, x1, y0, y1, rfl, rfl, rfl, Below.refl _ _⟩
  case round =>
    obtain ⟨a, b, a0, a1, b0, b1, rfl, rfl, hg, hbl⟩ := hrel
    by_cases hb : b = 0
    · subst hb
      have e := hg.out
      rw [Int.gcd_zero_right] at e
      have HE : Hid (a = (Int.gcd x y : Int)) := by rw [← e]; show a = _; omega
      clear e hg
      go_wp2
      go_ret
      exact ⟨hbl, by rw [← HE.out]; rfl⟩
    · have r0 := Int.emod_nonneg a hb
      have r1 := Int.emod_lt_of_pos a (show 0 < b by omega)
      have hG : Hid (Int.gcd b (a % b) = Int.gcd x y) := (gcd_step a b).trans hg.out
      go_wp2
      go_region
      go_wp2
      go_roundw
      case rel => exact ⟨b, a % b, b0, b1, r0, by omega, rfl, rfl, hG.out, hbl.drew⟩
      case measure => simp [intOf] <;> omega
end Go.Proofs.YtblbheilddafbaaGreatDoor

set_option linter.unusedVariables false
set_option linter.unusedSimpArgs false
namespace Go.Proofs.YtblbheilddafbaaGreatDoor
open Go Go.RowKit
theorem lead_one (h l : Int) (s : Nat) (hs : s ≤ 63) (h0 : 0 ≤ h) (h1 : h * 2 ^ s < 18446744073709551616) (l0 : 0 ≤ l) (l1 : l < 18446744073709551616) :
    ∃ r : Int, bits .or .u64 (IntKind.u64.wrap (h * 2 ^ s)) (l / 2 ^ (64 - s)) = r ∧ 0 ≤ r ∧ r < 18446744073709551616 ∧ r = h * 2 ^ s + l / 2 ^ (64 - s) := by
  have hp : (0 : Int) < 2 ^ s := Dg.pow_pos (by omega) s
  have hq : (0 : Int) < 2 ^ (64 - s) := Dg.pow_pos (by omega) _
  have hpq : (2 : Int) ^ (64 - s) * 2 ^ s = 18446744073709551616 := by
    rw [← Int.pow_add, show 64 - s + s = 64 by omega]; rfl
  have hd0 := Int.ediv_nonneg l0 (Int.le_of_lt hq)
  have hm := Int.mul_ediv_add_emod l (2 ^ (64 - s))
  have hm0 := Int.emod_nonneg l (Int.ne_of_gt hq)
  have hd1 : l / 2 ^ (64 - s) < 2 ^ s := by
    apply Int.lt_of_mul_lt_mul_left (a := 2 ^ (64 - s)) ?_ (by omega)
    omega
  have hh : h < 2 ^ (64 - s) := by
    apply Int.lt_of_mul_lt_mul_right (a := 2 ^ s) ?_ (by omega)
    omega
  have h2 : (h + 1) * 2 ^ s ≤ 18446744073709551616 := by rw [← hpq]; exact Int.mul_le_mul_of_nonneg_right (by omega) (Int.le_of_lt hp)
  rw [Int.add_mul, Int.one_mul] at h2
  have h3 : 0 ≤ h * 2 ^ s := Int.mul_nonneg h0 (Int.le_of_lt hp)
  refine ⟨_, rfl, ?_⟩
  have ew : IntKind.u64.wrap (h * 2 ^ s) = h * 2 ^ s := by rw [IntKind.wrap_u64]; omega
  have eo : bits .or .u64 (h * 2 ^ s) (l / 2 ^ (64 - s)) = h * 2 ^ s + l / 2 ^ (64 - s) := by
    have := or_add' h (l / 2 ^ (64 - s)) s h0 hd0 hd1 (by omega)
    generalize hd : l / 2 ^ (64 - s) = d at *
    generalize he : h * 2 ^ s = e at *
    obtain ⟨d, rfl⟩ := Int.eq_ofNat_of_zero_le hd0
    obtain ⟨e, rfl⟩ := Int.eq_ofNat_of_zero_le h3
    rw [bits_or_u64_nat _ _ (by omega) (by omega)] at this ⊢
    rw [Nat.or_comm]; exact this
  rw [ew, eo]
  exact ⟨by omega, by omega, rfl⟩
theorem lead_val {zs : List Int} {m s : Nat} (hw : Dg.Wf BW zs) (hl : zs.length ≤ m + 2) (hs : s ≤ 63) {A : Int} (hA : A = zs[m + 1]?.getD 0 * 2 ^ s + zs[m]?.getD 0 / 2 ^ (64 - s)) :
    ∃ x, Dg.val BW zs = A * (BW ^ m * 2 ^ (64 - s)) + x ∧ 0 ≤ x ∧ x < BW ^ m * 2 ^ (64 - s) := by
  have hq : (0 : Int) < 2 ^ (64 - s) := Dg.pow_pos (by omega) _
  have hpq : (2 : Int) ^ (64 - s) * 2 ^ s = 18446744073709551616 := by
    rw [← Int.pow_add, show 64 - s + s = 64 by omega]; rfl
  have e1 := Dg.val_take_succD BW zs (m + 1)
  have e2 := Dg.val_take_succD BW zs m
  rw [List.take_of_length_le (by omega)] at e1
  have t0 := Dg.val_nonneg (B := BW) (by decide) (hw.take m)
  have t1 := Dg.val_lt (B := BW) (by decide) (hw.take m)
  have t2 : BW ^ (zs.take m).length ≤ BW ^ m := Dg.pow_mono (by decide) (by rw [List.length_take]; omega)
  have hP : (0 : Int) < BW ^ m := Dg.pow_pos (by decide) _
  rw [Int.pow_succ] at e1
  generalize zs[m + 1]?.getD 0 = h at *
  generalize zs[m]?.getD 0 = l at *
  have hm := Int.mul_ediv_add_emod l (2 ^ (64 - s))
  have hm0 := Int.emod_nonneg l (Int.ne_of_gt hq)
  have hm1 := Int.emod_lt_of_pos l hq
  generalize l / 2 ^ (64 - s) = d at *
  generalize l % 2 ^ (64 - s) = r at *
  generalize Dg.val BW (zs.take m) = t at *
  generalize hBm : BW ^ m = P at *
  generalize (2 : Int) ^ (64 - s) = q at *
  generalize (2 : Int) ^ s = p at *
  refine ⟨t + P * r, ?_, ?_, ?_⟩
  · rw [e1, e2, hA, ← hm]
    have : P * BW * h = P * (q * p) * h := by rw [hpq]
    rw [this]
    simp only [Int.mul_add, Int.add_mul, Int.mul_comm, Int.mul_left_comm, Int.mul_assoc]
    omega
  · have := Int.mul_nonneg (Int.le_of_lt hP) hm0
    omega
  · have := Int.mul_le_mul_of_nonneg_left (show r + 1 ≤ q by omega) (Int.le_of_lt hP)
    rw [Int.mul_add] at this
    omega
/-- What leadingWords returns. -/
def LwRet (w : World) (a b : Int) (e : Ending) (w' : World) : Prop := Below w.heap.size w w' ∧ ∃ A B H x y : Int, e = .returned (.tuple #[.int .u64 A, .int .u64 B]) ∧ 0 < H ∧ a = A * H + x ∧ 0 ≤ x ∧ x < H ∧ b = B * H + y ∧ 0 ≤ y ∧ y < H ∧ 0 ≤ B ∧ B ≤ A ∧ A < 18446744073709551616
set_option maxRecDepth 20000 in
set_option maxHeartbeats 2000000 in
theorem leadingWords_any (va vb : Value) (xs ys : List Int) (m : Nat) (w : World) (ha : Sl .u64 w va xs) (hb : Sl .u64 w vb ys) (hwa : Dg.Wf BW xs) (hwb : Dg.Wf BW ys) (hna : Dg.Nz xs)
    (hm : xs.length = m + 2) (hl : ys.length ≤ m + 2) (hle : Dg.val BW ys ≤ Dg.val BW xs) (hmx : m ≤ 17000000000000) :
    Calls Tryz.prog 136 #[va, vb] w (LwRet w (Dg.val BW xs) (Dg.val BW ys)) := by
  have HB := Lib.hid hb
  obtain ⟨ao, acap, rfl, hacap, hamax, hax⟩ := ha
  obtain ⟨b, o, rfl, hbs, hc1⟩ := hax (m + 1) (by omega)
  obtain ⟨b2, o2, e2, _, hc0⟩ := hax m (by omega)
  simp only [Option.some.injEq, Addr.mk.injEq, true_and, and_true] at e2
  obtain ⟨rfl, rfl⟩ := e2
  obtain ⟨h, hh⟩ : ∃ h, h = xs[m + 1]?.getD 0 := ⟨_, rfl⟩
  obtain ⟨l, hl0⟩ : ∃ l, l = xs[m]?.getD 0 := ⟨_, rfl⟩
  obtain ⟨h', hh'⟩ : ∃ h, h = ys[m + 1]?.getD 0 := ⟨_, rfl⟩
  obtain ⟨l', hl'⟩ : ∃ l, l = ys[m]?.getD 0 := ⟨_, rfl⟩
  have hhb := wfD hwa (m + 1)
  have hlb := wfD hwa m
  have hhb' := wfD hwb (m + 1)
  have hlb' := wfD hwb m
  have hhp : 0 < h := by
    have hne : xs ≠ [] := fun e => by rw [e] at hm; simp at hm
    have hz := hna hne
    rw [List.getLast_eq_getElem] at hz
    have h4 : m + 1 < xs.length := by omega
    have e5 : h = xs[xs.length - 1] := by rw [hh]; simp [h4]; congr 1; omega
    rw [← hh] at hhb
    omega
  have hhle : h' ≤ h := by
    apply Classical.byContradiction
    intro hcon
    have k1 := (top_split hwa hm).2
    have k2 := Dg.val_take_succD BW ys (m + 1)
    rw [List.take_of_length_le (by omega), ← hh'] at k2
    rw [← hh] at k1
    have k3 := Dg.val_nonneg (B := BW) (by decide) (hwb.take (m + 1))
    have k4 := Int.mul_le_mul_of_nonneg_left (show h + 1 ≤ h' by omega) (Int.le_of_lt (Dg.pow_pos (show 0 < BW by decide) (m + 1)))
    rw [Int.mul_comm (h + 1)] at k1
    omega
  rw [← hh] at hhb hc1
  rw [← hl0] at hlb hc0
  rw [← hh'] at hhb'
  rw [← hl'] at hlb'
  rw [hm] at hacap ⊢
  have HH := Lib.hid hh
  have HL := Lib.hid hl0
  have HH' := Lib.hid hh'
  have HL' := Lib.hid hl'
  have HWA1 : Hid (∀ w' : World, Sl .u64 w' vb ys → Calls Tryz.prog 142 #[vb, .int .i64 ((m : Int) + 1)] w' fun e w'' => e = .returned (.int .u64 h') ∧ w' = w'') := by
    intro w' hs'
    have := wordAt_any hs' (m + 1) h' HH'
    simpa using this
  have HWA0 : Hid (∀ w' : World, Sl .u64 w' vb ys → Calls Tryz.prog 142 #[vb, .int .i64 (m : Int)] w' fun e w'' => e = .returned (.int .u64 l') ∧ w' = w'') := fun w' hs' => wordAt_any hs' m l' HL'
  have HM := Lib.hid hm
  have HLE := Lib.hid hle
  have j1 : IntKind.i64.wrap ((m : Int) + 2 - 1) = (m : Int) + 1 := by rw [IntKind.wrap_i64]; omega
  have j2 : IntKind.i64.wrap ((m : Int) + 2 - 2) = (m : Int) := by rw [IntKind.wrap_i64]; omega
  have j3 : ((m : Int) + 1).toNat = m + 1 := by omega
  have j4 : (0 : Int) ≤ (m : Int) + 1 := by omega
  have j5 : (m : Int) + 1 < (m : Int) + 2 := by omega
  have j6 : (m : Int) < (m : Int) + 2 := by omega
  have HJ1 := Lib.hid j1
  have HJ2 := Lib.hid j2
  clear hax hh hl0 hh' hl' hm hle hamax hacap hb j1 j2
  go_enter Tryz.func136, Tryz.ntmps136
  go_wp2_with fail
  refine (lz64 h _ hhp hhb.2).mono ?_
  rintro e w2 ⟨s, rfl, rfl, hs, hy1, hy2⟩
  have hp : (0 : Int) < 2 ^ s := Dg.pow_pos (by omega) s
  obtain ⟨A, eA, A0, A1, hA⟩ := lead_one h l s hs hhb.1 hy2 hlb.1 hlb.2
  obtain ⟨B, eB, B0, B1, hB⟩ := lead_one h' l' s hs hhb'.1 (Int.lt_of_le_of_lt (Int.mul_le_mul_of_nonneg_right hhle (Int.le_of_lt hp)) hy2) hlb'.1 hlb'.2
  have HVA := Lib.hid (lead_val (A := A) hwa (Nat.le_of_eq HM.out) hs (by rw [← HH.out, ← HL.out, hA]))
  have HVB := Lib.hid (lead_val (A := B) hwb hl hs (by rw [← HH'.out, ← HL'.out, hB]))
  have HPP : Hid (0 < BW ^ m * 2 ^ (64 - s)) := Int.mul_pos (Dg.pow_pos (by decide) _) (Dg.pow_pos (by omega) _)
  have i7 : IntKind.i64.wrap (64 - (s : Int)) = 64 - (s : Int) := by rw [IntKind.wrap_i64]; omega
  have i8 : (0 : Int) ≤ 64 - (s : Int) := by omega
  have i9 : (64 - (s : Int)).toNat = 64 - s := by omega
  have HEB := Lib.hid eB
  have j1 := HJ1.out
  have j2 := HJ2.out
  clear hA hB hy1 hy2 hp eB
  go_wp2
  go_region
  go_wp2_with fail
  have hbd : Below w.heap.size w w.drew := (Below.refl _ _).drew
  generalize w.drew = W1 at *
  have hbn : ∀ n, Sl .u64 (W1.drewN n) vb ys := fun n => (HB.out.below hbd).below ⟨rfl, rfl, rfl, Nat.le_refl _, fun _ _ => rfl⟩
  have HQ1 := Lib.hid (fun n => quietSame (HWA1.out (W1.drewN n) (hbn n)))
  have HQ0 := Lib.hid (fun n => quietSame (HWA0.out (W1.drewN n) (hbn n)))
  clear hbn
  go_quiet ((go_at_call 142; first | with_reducible exact HQ1.out _ | with_reducible exact HQ0.out _))
  go_wp2
  go_ret2
  obtain ⟨x, ex, x0, x1⟩ := HVA.out
  obtain ⟨y, ey, y0, y1⟩ := HVB.out
  refine ⟨hbd.trans ⟨rfl, rfl, rfl, Nat.le_refl _, fun _ _ => rfl⟩, A, B, _, x, y, ?_, HPP.out, ex, x0, x1, ey, y0, y1, B0, ?_, A1⟩
  · show Ending.returned (.tuple #[.int .u64 _, .int .u64 _]) = _
    first | rfl | rw [HEB.out] | rw [eA, HEB.out]
  · apply Classical.byContradiction
    intro hc
    have h1 := Int.mul_le_mul_of_nonneg_right (show A + 1 ≤ B by omega) (Int.le_of_lt HPP.out)
    rw [Int.add_mul, Int.one_mul] at h1
    have := HLE.out
    omega
end Go.Proofs.YtblbheilddafbaaGreatDoor
