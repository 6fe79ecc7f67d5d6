/-
  Texts of the proof, merged by program: Rln Rpw.
-/
import Derived.Test.YtblbheilddafbaaGreatDoorZSums
set_option linter.unusedVariables false
set_option linter.unusedSimpArgs false
namespace Go.Proofs.YtblbheilddafbaaGreatDoor
open Go Go.RowKit
/-- d is the number of decimal digits of m (1 of 0). -/
structure LenIs (m : Int) (d : Nat) : Prop where
  one : 1 ≤ d
  hi : m < 10 ^ d
  lo : 0 < m → 10 ^ (d - 1) ≤ m
  zero : m = 0 → d = 1
theorem LenIs.unique {m : Int} {d d' : Nat} (hm : 0 ≤ m) (h : LenIs m d) (h' : LenIs m d') : d = d' := by
  by_cases h0 : m = 0
  · rw [h.zero h0, h'.zero h0]
  · have hp : 0 < m := by omega
    have key : ∀ a b : Nat, LenIs m a → LenIs m b → a ≤ b := fun a b ha hb => by
      apply Classical.byContradiction
      intro hc
      have h1 := ha.lo hp
      have h2 := hb.hi
      have h3 := Dg.pow_mono (show (0 : Int) < 10 by omega) (show b ≤ a - 1 by omega)
      omega
    exact Nat.le_antisymm (key _ _ h h') (key _ _ h' h)
theorem lenIs_dec (n : Nat) : LenIs (n : Int) (Dg.decN n).length := by
  have h1 := Dg.valD_lt (Dg.decN_dig n)
  rw [Dg.decN_val] at h1
  have hne : 1 ≤ (Dg.decN n).length := List.length_pos_iff.2 (Dg.decN_ne n)
  refine ⟨hne, ?_, fun hp => ?_, fun h0 => ?_⟩
  · have : ((10 ^ (Dg.decN n).length : Nat) : Int) = 10 ^ (Dg.decN n).length := by rw [Int.natCast_pow]; rfl
    omega
  · have hn0 : n ≠ 0 := by omega
    have h2 := Dg.decF_len n n (Nat.le_refl _) hn0
    have e : Dg.decN n = Dg.decF n n := by unfold Dg.decN; rw [if_neg hn0]
    rw [e]
    have : ((10 ^ ((Dg.decF n n).length - 1) : Nat) : Int) = 10 ^ ((Dg.decF n n).length - 1) := by rw [Int.natCast_pow]; rfl
    omega
  · have : n = 0 := by omega
    subst this
    rfl
structure LnAt (x v : Int) (j : Nat) : Prop where
  eq : v = x / 10 ^ j
  lo : 0 < j → 10 ^ (j - 1) ≤ x
theorem LnAt.start (x : Int) : LnAt x x 0 := ⟨by simp, fun h => by omega⟩
theorem LnAt.next {x v : Int} {j : Nat} (h : LnAt x v j) (hv : 0 < v) : LnAt x (v / 10) (j + 1) := by
  have hp := Dg.pow_pos (show (0 : Int) < 10 by omega) j
  refine ⟨?_, fun _ => ?_⟩
  · rw [h.eq, Int.pow_succ, Int.ediv_ediv_of_nonneg (Int.le_of_lt hp)]
  · apply Classical.byContradiction
    intro hc
    rw [show j + 1 - 1 = j by omega] at hc
    have h2 := h.eq
    by_cases hx : 0 ≤ x
    · rw [Int.ediv_eq_zero_of_lt hx (by omega)] at h2
      omega
    · have := Int.ediv_neg_of_neg_of_pos (show x < 0 by omega) hp
      omega
theorem LnAt.j9 {x v : Int} {j : Nat} (h : LnAt x v j) (hx : x < 1000000000) : j ≤ 9 := by
  apply Classical.byContradiction
  intro hc
  have h1 := h.lo (by omega)
  have h2 := Dg.pow_mono (show (0 : Int) < 10 by omega) (show 9 ≤ j - 1 by omega)
  have h3 : (10 : Int) ^ 9 = 1000000000 := rfl
  omega
theorem LnAt.done {xs : List Int} {x : Int} {j : Nat} (hw : Dg.Wf BN xs) (h0 : 0 < xs.length) (hx : x = xs[xs.length - 1]?.getD 0) (hp : 0 < x) (h : LnAt x 0 j) : LenIs (Dg.val BN xs) (9 * (xs.length - 1) + j) := by
  have e := Dg.val_take_succD BN xs (xs.length - 1)
  rw [show xs.length - 1 + 1 = xs.length by omega, List.take_of_length_le (Nat.le_refl _), ← hx] at e
  have hl := Dg.val_lt (show (0 : Int) < BN by decide) (hw.take (xs.length - 1))
  have hn := Dg.val_nonneg (show (0 : Int) < BN by decide) (hw.take (xs.length - 1))
  have elen : (xs.take (xs.length - 1)).length = xs.length - 1 := by simp
  rw [elen] at hl
  have eB : (BN : Int) ^ (xs.length - 1) = 10 ^ (9 * (xs.length - 1)) := by rw [Int.pow_mul]; rfl
  have hj : 0 < j := by
    apply Nat.pos_of_ne_zero
    rintro rfl
    have := h.eq
    simp at this
    omega
  have h1 := h.lo hj
  have hpj := Dg.pow_pos (show (0 : Int) < 10 by omega) j
  have h2 : x < 10 ^ j := by
    apply Classical.byContradiction
    intro hc
    have h3 : 1 ≤ x / 10 ^ j := by
      have := Int.ediv_le_ediv hpj (show (10 : Int) ^ j ≤ x by omega)
      rw [Int.ediv_self (by omega)] at this
      exact this
    have := h.eq
    omega
  rw [eB] at e hl
  have hP := Dg.pow_pos (show (0 : Int) < 10 by omega) (9 * (xs.length - 1))
  have a1 : (10 : Int) ^ (9 * (xs.length - 1) + j) = 10 ^ (9 * (xs.length - 1)) * 10 ^ j := Int.pow_add _ _ _
  have a2 : (10 : Int) ^ (9 * (xs.length - 1) + j - 1) = 10 ^ (9 * (xs.length - 1)) * 10 ^ (j - 1) := by rw [← Int.pow_add]; congr 1; omega
  refine ⟨by omega, ?_, fun _ => ?_, fun hz => ?_⟩
  · rw [a1, e]
    have := Int.mul_le_mul_of_nonneg_left (show x + 1 ≤ 10 ^ j by omega) (Int.le_of_lt hP)
    rw [Int.mul_add] at this
    omega
  · rw [a2, e]
    have := Int.mul_le_mul_of_nonneg_left h1 (Int.le_of_lt hP)
    omega
  · have := Int.mul_le_mul_of_nonneg_left (show 1 ≤ x by omega) (Int.le_of_lt hP)
    omega
set_option maxRecDepth 20000 in
set_option maxHeartbeats 1000000 in
theorem rlen_any {L : Nat} {v : Value} {n : Nat} {w : World} (h : NumR L w v (n : Int)) (hL : L ≤ 100000000) :
    Calls Tryz.prog 47 #[v] w fun e w' => e = .returned (.int .i64 ((Dg.decN n).length : Nat)) ∧ w = w' := by
  obtain ⟨xs, a1, a2, a3, a4, a5⟩ := h
  have HD := Kept.mk (lenIs_dec n)
  obtain ⟨d, hd⟩ : ∃ d, d = (Dg.decN n).length := ⟨_, rfl⟩
  rw [← hd] at HD ⊢
  clear hd
  obtain ⟨ao, cap, rfl, hc, hm, hx⟩ := a1
  by_cases h0 : 0 < xs.length
  · obtain ⟨b, o, rfl, hb, hcell⟩ := hx (xs.length - 1) (by omega)
    obtain ⟨x, ex⟩ : ∃ x, x = xs[xs.length - 1]?.getD 0 := ⟨_, rfl⟩
    have hxb := Dg.Wf.getD (show (0 : Int) < BN by decide) a2 (xs.length - 1)
    rw [← ex] at hcell hxb
    have hx1 : x < 1000000000 := hxb.2
    have hxp : 0 < x := by
      have hne : xs ≠ [] := List.length_pos_iff.1 h0
      have hz := a3 hne
      rw [List.getLast_eq_getElem] at hz
      have h4 : xs.length - 1 < xs.length := by omega
      have : x = xs[xs.length - 1] := by rw [ex]; simp [h4]
      have := hxb.1
      omega
    have t1 : ((xs.length : Int) == 0) = false := beq_eq_false_iff_ne.2 (by omega)
    have HDN : Kept (∀ j, LnAt x 0 j → d = 9 * (xs.length - 1) + j) := ⟨fun j hj => by
      have h1 := LnAt.done a2 h0 ex hxp hj
      rw [a4] at h1
      exact HD.out.unique (by omega) h1⟩
    clear ex a2 a3 a4 hx hm hc hxb
    go_enter Tryz.func47, Tryz.ntmps47
    go_wp2
    go_loopw [3, 4] (fun c u wr => ∃ (j : Nat) (y cv : Int), j ≤ 9 ∧ c = .int .i64 cv ∧ Kept (cv = 9 * ((xs.length : Int) - 1) + j) ∧ 0 ≤ cv ∧ cv ≤ 1000000000 ∧ u = .int .i64 y ∧ 0 ≤ y ∧ y < 1000000000 ∧ Kept (LnAt x y j) ∧ wr = w) (fun _ u _ => (intOf u).toNat)
    case atStart => exact ⟨0, x, _, by omega, rfl, ⟨by omega⟩, by omega, by omega, rfl, by omega, hx1, ⟨LnAt.start x⟩, by first | rfl | trivial⟩
    case round =>
      obtain ⟨j, y, cv, hj, rfl, hcv, hc0, hc1, rfl, hy0, hy1, hat, rfl⟩ := hrel
      by_cases hy : 0 < y
      · have HNX := Kept.mk (hat.out.next hy)
        have hj9 := HNX.out.j9 hx1
        have hcv1 : cv + 1 ≤ 1000000000 := by have := hcv.out; omega
        have HCV : Kept (cv + 1 = 9 * ((xs.length : Int) - 1) + (j + 1 : Nat)) := ⟨by have := hcv.out; omega⟩
        go_wp2
        go_roundw
        case rel => exact ⟨j + 1, y / 10, cv + 1, hj9, rfl, HCV, by omega, hcv1, rfl, by omega, by omega, HNX, by first | rfl | trivial⟩
        case measure => simp [intOf]; omega
      · obtain rfl : y = 0 := by omega
        have he : cv = (d : Int) := by have h1 := HDN.out j hat.out; have h2 := hcv.out; omega
        have HE := Kept.mk he
        clear he
        go_wp2
        go_ret
        exact ⟨by rw [← HE.out]; rfl, rfl⟩
  · have t1 : ((xs.length : Int) == 0) = true := beq_iff_eq.2 (by omega)
    have hxs : xs = [] := List.eq_nil_of_length_eq_zero (by omega)
    have hd1 : d = 1 := HD.out.zero (by rw [← a4, hxs]; rfl)
    have HD1 := Kept.mk hd1
    clear hxs hx hm hc a2 a3 a4 hd1
    go_enter Tryz.func47, Tryz.ntmps47
    go_wp2
    go_ret
    exact ⟨by rw [HD1.out]; rfl, rfl⟩
end Go.Proofs.YtblbheilddafbaaGreatDoor

set_option linter.unusedVariables false
set_option linter.unusedSimpArgs false
namespace Go.Proofs.YtblbheilddafbaaGreatDoor
open Go Go.RowKit
theorem zbox_store {L : Nat} {w W : World} {os : List Obj} {g : Nat} {s x : Bool} {ao bo : Option Addr} {k c k' c' : Nat} {z : Int} {T : TypeId} (hx : Bxs w os W) (hg : W.heap[g]? = some (.cells #[.bool x, .slice bo k' c'] T (0, 0)))
    (hgs : w.heap.size + os.length ≤ g) (hI : ZV L W (.agg #[.bool s, .slice ao k c]) z) :
    Bxs w os ((W.setCell ⟨g, 0, none⟩ (.bool s)).setCell ⟨g, 1, none⟩ (.slice ao k c)) ∧ ((W.setCell ⟨g, 0, none⟩ (.bool s)).setCell ⟨g, 1, none⟩ (.slice ao k c)).heap[g]? = some (.cells #[.bool s, .slice ao k c] T (0, 0)) ∧
      ZV L ((W.setCell ⟨g, 0, none⟩ (.bool s)).setCell ⟨g, 1, none⟩ (.slice ao k c)) (.agg #[.bool s, .slice ao k c]) z := by
  obtain ⟨h1, hn⟩ := hI.parts
  exact ⟨hx.grown (growSet (growSet (growRefl W (some g)) 0 _) 1 _) (fun j hj => by cases hj; exact hgs), two_set hg _ _, _, _, rfl, h1, hn.box hg _ _⟩
set_option maxRecDepth 20000 in
set_option maxHeartbeats 2000000 in
theorem rpower_any {La n : Nat} {va : Value} {a : Int} {w : World} (ha : ZV La w va a) (hLa : La ≤ 1000) (hn : n ≤ 10000) :
    Calls Tryz.prog 48 #[va, .int .i64 n] w (RetZ (64 + n * La) w (a ^ n)) := by
  have HA := Kept.mk ha
  obtain ⟨sa, ua, rfl, hsa, hna⟩ := ha
  obtain ⟨ao, ka, ca, rfl, _, _⟩ := hna.form
  have HX0 : Kept (Bxs w [.cells #[.bool sa, .slice ao ka ca] 25, .cells #[.bool false, .slice none 0 0] 25] ((w.alloc (.cells #[.bool sa, .slice ao ka ca] 25)).alloc (.cells #[.bool false, .slice none 0 0] 25))) := ⟨((Bxs.start w).alloc (by simp) _).alloc (by simp) _⟩
  clear hsa hna
  go_enter Tryz.func48, Tryz.ntmps48
  go_wp2_with fail
  refine (rof_any 1 _ (by omega) (by omega)).mono ?_
  rintro e w1 ⟨hb1, v1, rfl, hI1⟩
  obtain ⟨s1, u1, rfl, hs1, hn1⟩ := hI1
  obtain ⟨o1, k1, c1, rfl, _, _⟩ := hn1.form
  have HX1 := Kept.mk (HX0.out.below hb1)
  have HI1 : Kept (ZV 64 w1 (.agg #[.bool s1, .slice o1 k1 c1]) 1) := ⟨⟨_, _, rfl, hs1, hn1⟩⟩
  clear hb1 hs1 hn1
  have HX2 : Kept (Bxs w [.cells #[.bool sa, .slice ao ka ca] 25, .cells #[.bool false, .slice none 0 0] 25] (w1.alloc (.cells #[.bool s1, .slice o1 k1 c1] 25))) := ⟨HX1.out.below ((Below.refl _ _).alloc (Nat.le_refl _) _)⟩
  have HG2 : Kept ((w1.alloc (.cells #[.bool s1, .slice o1 k1 c1] 25)).heap[w1.heap.size]? = some (.cells #[.bool s1, .slice o1 k1 c1] 25 (0, 0))) := ⟨heap_alloc_new w1 _⟩
  have HI2 := Kept.mk (HI1.out.below ((Below.refl _ _).alloc (Nat.le_refl _) (.cells #[.bool s1, .slice o1 k1 c1] 25)))
  have hgl := HX1.out.l2
  go_wp2
  go_loopw [6] (fun i wr => ∃ (q : Nat) (s : Bool) (o : Option Addr) (kk c : Nat), q ≤ n ∧ i = .int .i64 q ∧ Kept (Bxs w [.cells #[.bool sa, .slice ao ka ca] 25, .cells #[.bool false, .slice none 0 0] 25] wr) ∧ Kept (wr.heap[w1.heap.size]? = some (.cells #[.bool s, .slice o kk c] 25 (0, 0))) ∧ Kept (ZV (64 + q * La) wr (.agg #[.bool s, .slice o kk c]) (a ^ q))) (fun i _ => n - (intOf i).toNat)
  case atStart => exact ⟨0, s1, o1, k1, c1, Nat.zero_le _, rfl, HX2, HG2, ⟨by rw [Nat.zero_mul, Int.pow_zero]; exact HI2.out⟩⟩
  case round =>
    obtain ⟨q, s, o, kk, c, hq, rfl, hx, hg, hI⟩ := hrel
    by_cases hqn : q < n
    · have hqa : q * La ≤ 10000 * 1000 := Nat.mul_le_mul (by omega) hLa
      have HQA := Kept.mk hqa
      obtain ⟨a0, a1, f0, f1⟩ := two_cells hg.out
      obtain ⟨b0, b1, -, -⟩ := two_cells hx.out.b0
      have hgw : w1.heap.size < wr.heap.size := (Array.getElem?_eq_some_iff.1 hg.out).1
      clear hqa
      go_wp2_with fail
      refine (rmulz_any hI.out (HA.out.below hx.out.1) (by have := HQA.out; omega) (by omega)).mono ?_
      rintro e w3 ⟨hb3, v3, rfl, hI3⟩
      obtain ⟨s3, u3, rfl, hs3, hn3⟩ := hI3
      obtain ⟨o3, k3, c3, rfl, _, _⟩ := hn3.form
      have HX3 := Kept.mk (hx.out.below hb3)
      have HG3 := Kept.mk ((hb3.block _ hgw).trans hg.out)
      have HI3 : Kept (ZV (64 + (q + 1) * La) w3 (.agg #[.bool s3, .slice o3 k3 c3]) (a ^ (q + 1))) := ⟨by rw [Int.pow_succ, Nat.succ_mul, ← Nat.add_assoc]; exact ⟨_, _, rfl, hs3, hn3⟩⟩
      have s3' := hb3.size
      clear hb3 hs3 hn3 a0 a1 f0 f1 b0 b1
      obtain ⟨a0, a1, f0, f1⟩ := two_cells HG3.out
      obtain ⟨hx5, hg5, hi5⟩ := zbox_store HX3.out HG3.out (by simp; omega) HI3.out
      have HX5 := Kept.mk hx5
      have HG5 := Kept.mk hg5
      have HI5 := Kept.mk hi5
      clear hx5 hg5 hi5
      go_wp2
      go_roundw
      case rel => exact ⟨q + 1, s3, o3, k3, c3, by omega, by go_num, HX5, HG5, HI5⟩
      case measure => simp [intOf]; omega
    · obtain rfl : q = n := by omega
      obtain ⟨a0, a1, f0, f1⟩ := two_cells hg.out
      have hbx := hx.out.b1
      obtain ⟨c0, c1', g0, g1⟩ := two_cells hbx
      have hszw := hx.out.l2
      obtain ⟨hs9, hn9⟩ := hI.out.parts
      have HE := Kept.mk (rint_end (w := w) (s := s) (ao := o) (k := kk) (c := c) hbx hx.out.1 (by omega) hs9 hn9)
      clear hbx hs9 hn9
      go_wp2
      exact bodyPost_ret (v := .agg #[.bool s, .slice o kk c]) (by simp [results, Tryz.results48, go_sem, HE.out.2.1, HE.out.2.2]) rfl HE.out.1
set_option maxRecDepth 20000 in
set_option maxHeartbeats 1000000 in
theorem pow_arg {La : Nat} {va : Value} {a n : Int} {w : World} (ha : IntV La w va a) (hn : n < 0 ∨ 10000 < n) (h0 : -9223372036854775808 ≤ n) (h1 : n ≤ 9223372036854775807) :
    Calls Tryz.prog 46 #[va, .int .i64 n] w (RetV w (.tuple #[.agg #[.bool false, .slice none 0 0], .int .i64 1])) := by
  obtain ⟨sa, ua, rfl, hsa, hna⟩ := ha
  obtain ⟨ao, ka, ca, rfl⟩ := hna.form
  have HX0 : Kept (Bxs w [.cells #[.bool sa, .slice ao ka ca] 30, .cells #[.int .i64 n] 3, .cells #[.bool false, .slice none 0 0] 30] (((w.alloc (.cells #[.bool sa, .slice ao ka ca] 30)).alloc (.cells #[.int .i64 n] 3)).alloc (.cells #[.bool false, .slice none 0 0] 30))) := ⟨(((Bxs.start w).alloc (by simp) _).alloc (by simp) _).alloc (by simp) _⟩
  clear hsa hna
  rcases hn with hn | hn
  · go_enter Tryz.func46, Tryz.ntmps46
    go_wp2
    exact bodyPost_ret (v := .tuple #[.agg #[.bool false, .slice none 0 0], .int .i64 1]) (by simp [results, Tryz.results46, go_sem]) rfl ⟨HX0.out.1, rfl⟩
  · go_enter Tryz.func46, Tryz.ntmps46
    go_wp2
    exact bodyPost_ret (v := .tuple #[.agg #[.bool false, .slice none 0 0], .int .i64 1]) (by simp [results, Tryz.results46, go_sem]) rfl ⟨HX0.out.1, rfl⟩
end Go.Proofs.YtblbheilddafbaaGreatDoor
