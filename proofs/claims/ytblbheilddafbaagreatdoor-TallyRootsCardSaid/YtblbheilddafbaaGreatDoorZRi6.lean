/-
  Texts of the proof, merged by program: Rtw Ri6.
-/
import Derived.Test.YtblbheilddafbaaGreatDoorZRpw
set_option linter.unusedVariables false
set_option linter.unusedSimpArgs false
namespace Go.Proofs.YtblbheilddafbaaGreatDoor
open Go Go.RowKit
set_option maxRecDepth 20000 in
set_option maxHeartbeats 2000000 in
theorem rtwo_any (n : Nat) (w : World) (hn : n ≤ 40000) :
    Calls Tryz.prog 88 #[.int .i64 n] w (RetZ (64 + n) w (2 ^ n)) := by
  have HX0 : Kept (Bxs w [.cells #[.bool false, .slice none 0 0] 25] (w.alloc (.cells #[.bool false, .slice none 0 0] 25))) := ⟨(Bxs.start w).alloc (by simp) _⟩
  go_enter Tryz.func88, Tryz.ntmps88
  go_wp2_with fail
  refine (rof_any 1 _ (by omega) (by omega)).mono ?_
  rintro e w1 ⟨hb1, v1, rfl, hI1⟩
  obtain ⟨s1, u1, rfl, hs1, hn1⟩ := hI1
  obtain ⟨o1, k1, c1, rfl, _, _⟩ := hn1.form
  have HX1 := Kept.mk (HX0.out.below hb1)
  have HI1 : Kept (ZV 64 w1 (.agg #[.bool s1, .slice o1 k1 c1]) 1) := ⟨⟨_, _, rfl, hs1, hn1⟩⟩
  clear hb1 hs1 hn1
  have HX2 : Kept (Bxs w [.cells #[.bool false, .slice none 0 0] 25] (w1.alloc (.cells #[.bool s1, .slice o1 k1 c1] 25))) := ⟨HX1.out.below ((Below.refl _ _).alloc (Nat.le_refl _) _)⟩
  have HG2 : Kept ((w1.alloc (.cells #[.bool s1, .slice o1 k1 c1] 25)).heap[w1.heap.size]? = some (.cells #[.bool s1, .slice o1 k1 c1] 25 (0, 0))) := ⟨heap_alloc_new w1 _⟩
  have HI2 := Kept.mk (HI1.out.below ((Below.refl _ _).alloc (Nat.le_refl _) (.cells #[.bool s1, .slice o1 k1 c1] 25)))
  have hgl := HX1.out.l1
  go_wp2
  go_loopw [4] (fun i wr => ∃ (q : Nat) (s : Bool) (o : Option Addr) (kk c : Nat), q ≤ n ∧ i = .int .i64 q ∧ Kept (Bxs w [.cells #[.bool false, .slice none 0 0] 25] wr) ∧ Kept (wr.heap[w1.heap.size]? = some (.cells #[.bool s, .slice o kk c] 25 (0, 0))) ∧ Kept (ZV (64 + q) wr (.agg #[.bool s, .slice o kk c]) (2 ^ q))) (fun i _ => n - (intOf i).toNat)
  case atStart => exact ⟨0, s1, o1, k1, c1, Nat.zero_le _, rfl, HX2, HG2, ⟨by rw [Int.pow_zero]; exact HI2.out⟩⟩
  case round =>
    obtain ⟨q, s, o, kk, c, hq, rfl, hx, hg, hI⟩ := hrel
    by_cases hqn : q < n
    · obtain ⟨a0, a1, f0, f1⟩ := two_cells hg.out
      have hgw : w1.heap.size < wr.heap.size := (Array.getElem?_eq_some_iff.1 hg.out).1
      go_wp2_with fail
      refine (raddz_any hI.out hI.out (by omega) (by omega)).mono ?_
      rintro e w3 ⟨hb3, v3, rfl, hI3⟩
      obtain ⟨s3, u3, rfl, hs3, hn3⟩ := hI3
      obtain ⟨o3, k3, c3, rfl, _, _⟩ := hn3.form
      have HX3 := Kept.mk (hx.out.below hb3)
      have HG3 := Kept.mk ((hb3.block _ hgw).trans hg.out)
      have HI3 : Kept (ZV (64 + (q + 1)) w3 (.agg #[.bool s3, .slice o3 k3 c3]) (2 ^ (q + 1))) := ⟨by rw [Int.pow_succ, show (2 : Int) ^ q * 2 = 2 ^ q + 2 ^ q by omega]; exact ZV.mono ⟨_, _, rfl, hs3, hn3⟩ (by omega)⟩
      have s3' := hb3.size
      clear hb3 hs3 hn3 a0 a1 f0 f1
      obtain ⟨a0, a1, f0, f1⟩ := two_cells HG3.out
      obtain ⟨hx5, hg5, hi5⟩ := zbox_store HX3.out HG3.out (by simp; omega) HI3.out
      have HX5 := Kept.mk hx5
      have HG5 := Kept.mk hg5
      have HI5 := Kept.mk hi5
      clear hx5 hg5 hi5
      go_wp2
      go_roundw
      case rel => exact ⟨q + 1, s3, o3, k3, c3, by omega, by go_num, HX5, HG5, HI5⟩
      case measure => simp [intOf]; omega
    · obtain rfl : q = n := by omega
      obtain ⟨a0, a1, f0, f1⟩ := two_cells hg.out
      have hbx := hx.out.b0
      obtain ⟨c0, c1', g0, g1⟩ := two_cells hbx
      have hszw := hx.out.l1
      obtain ⟨hs9, hn9⟩ := hI.out.parts
      have HE := Kept.mk (rint_end (w := w) (s := s) (ao := o) (k := kk) (c := c) hbx hx.out.1 (Nat.le_refl _) hs9 hn9)
      clear hbx hs9 hn9
      go_wp2
      exact bodyPost_ret (v := .agg #[.bool s, .slice o kk c]) (by simp [results, Tryz.results88, go_sem, HE.out.2.1, HE.out.2.2]) rfl HE.out.1
theorem rtwo_at (n : Nat) (x : Int) (w : World) (hx : x = n) (hn : n ≤ 40000) : Calls Tryz.prog 88 #[.int .i64 x] w (RetZ (64 + n) w (2 ^ n)) := by
  subst hx
  exact rtwo_any n w hn
set_option maxRecDepth 20000 in
set_option maxHeartbeats 2000000 in
theorem rsmall_any2 {L : Nat} {v : Value} {z : Int} {w : World} (h : ZV L w v z) :
    Calls Tryz.prog 22 #[v] w (RetV w (.bool (smallB z.natAbs))) := by
  obtain ⟨n, hn⟩ : ∃ n, n = maxBits := ⟨_, rfl⟩
  have hn4 : (40000 : Int) = (n : Int) := by rw [hn]; rfl
  have hn5 : n ≤ 40000 := by rw [hn]; exact Nat.le_refl _
  obtain ⟨g, hg⟩ : ∃ g, Dg.sg (z.natAbs : Int) (((2 : Int) ^ n).natAbs : Int) = g := ⟨_, rfl⟩
  have hdec : decide (g < 0) = smallB z.natAbs := by
    rw [← hg, two_nat]
    unfold smallB
    rw [← hn]
    generalize (2 : Int) ^ n = T
    by_cases hlt : (z.natAbs : Int) < T
    · rw [Dg.sg_lt hlt, decide_eq_true hlt]; rfl
    · rw [decide_eq_false hlt]
      unfold Dg.sg
      rw [if_neg hlt]
      split <;> rfl
  have HDEC := Kept.mk hdec
  have HV := Kept.mk h
  obtain ⟨sb, sv, rfl, hsb, hnn⟩ := h
  obtain ⟨ao, k, c, rfl, _, _⟩ := hnn.form
  have HX0 : Kept (Bxs w [.cells #[.bool sb, .slice ao k c] 25] (w.alloc (.cells #[.bool sb, .slice ao k c] 25))) := ⟨(Bxs.start w).alloc (by simp) _⟩
  have H2 : Kept (∀ W, Calls Tryz.prog 88 #[.int .i64 40000] W (RetZ (64 + n) W (2 ^ n))) := ⟨fun W => rtwo_at n 40000 W hn4 hn5⟩
  have HC : Kept (∀ W o kk cc, Below w.heap.size w W → NumR (64 + n) W (.slice o kk cc) (((2 : Int) ^ n).natAbs : Int) → Calls Tryz.prog 87 #[.slice ao k c, .slice o kk cc] W (RetV W (.int .i64 g))) := ⟨fun W o kk cc hW hZ => by rw [← hg]; exact cmpN_num (HV.out.below hW).parts.2 hZ⟩
  have hfield : ∀ (s : Bool) (o : Option Addr) (kk cc : Nat) (W : World), (Instr.field 25 (.agg #[.bool s, .slice o kk cc]) 1).run Tryz.prog W = .ok (.slice o kk cc) W := fun _ _ _ _ _ => by kernel_rfl
  clear hn hn4 hn5 hg hdec hsb hnn
  go_enter Tryz.func22, Tryz.ntmps22
  go_wp2_with fail
  go_region_held3 (fun w' => w'.cell? ⟨w.heap.size, 0, none⟩ = some (.bool sb) ∧ w'.cell? ⟨w.heap.size, 1, none⟩ = some (.slice ao k c))
    (first | exact ⟨kd0, kd1⟩ | exact ⟨kc0, kc1⟩ | (refine ⟨?_, ?_⟩ <;> simp [go_sem]; done) | go_keep)
    ((first
      | (go_at_call 88; (with_reducible refine (H2.out _).mono ?_); rintro e w1 ⟨hb1, v1, rfl, hZ1⟩; obtain ⟨s1, u1, rfl, hs1, hn1⟩ := hZ1; obtain ⟨o1, k1, c1, rfl, -, -⟩ := hn1.form; have HZ1 := Kept.mk hn1; clear hs1 hn1; have hx1 := HX0.out.drew.below hb1; obtain ⟨kc0, kc1, -, -⟩ := two_cells hx1.b0)
      | (go_at_call 87; (with_reducible refine (HC.out _ _ _ _ ?hx2 ?hx3).mono ?_); (case hx2 => exact hx1.1); (case hx3 => exact HZ1.out); rintro e w2 ⟨hb2, rfl⟩; have hx2 := hx1.below hb2; obtain ⟨kd0, kd1, -, -⟩ := two_cells hx2.b0)))
  have HX2 := Kept.mk hx2
  clear hb1 hb2 hx1 hx2 kc0 kc1 kd0 kd1
  go_wp2
  go_ret
  exact ⟨HX2.out.1, by rw [← HDEC.out]; rfl⟩
end Go.Proofs.YtblbheilddafbaaGreatDoor

set_option linter.unusedVariables false
set_option linter.unusedSimpArgs false
namespace Go.Proofs.YtblbheilddafbaaGreatDoor
open Go Go.RowKit
theorem drop_at {xs : List Int} {k : Nat} {x : Int} (hk : k < xs.length) (hx : x = xs[k]?.getD 0) : Dg.val BN (xs.drop k) = x + 1000000000 * Dg.val BN (xs.drop (k + 1)) := by
  have e : xs.drop k = x :: xs.drop (k + 1) := by
    rw [List.drop_eq_getElem_cons hk, hx]
    simp [hk]
  rw [e, Dg.val_cons]
theorem drop_le {xs : List Int} (hw : Dg.Wf BN xs) (k : Nat) : 0 ≤ Dg.val BN (xs.drop k) ∧ Dg.val BN (xs.drop k) ≤ Dg.val BN xs := by
  have h1 := Dg.val_nonneg (show (0 : Int) < BN by decide) (hw.drop k)
  refine ⟨h1, ?_⟩
  by_cases hk : k ≤ xs.length
  · have e := Dg.val_split BN xs k hk
    have h2 := Dg.val_nonneg (show (0 : Int) < BN by decide) (hw.take k)
    have h3 := Dg.pow_pos (show (0 : Int) < BN by decide) k
    have h4 := Int.mul_le_mul_of_nonneg_right (show (1 : Int) ≤ BN ^ k by omega) h1
    rw [Int.one_mul] at h4
    omega
  · rw [List.drop_of_length_le (by omega)]
    exact Dg.val_nonneg (show (0 : Int) < BN by decide) hw
set_option maxRecDepth 20000 in
set_option maxHeartbeats 2000000 in
theorem ri64_hi {L : Nat} {v : Value} {z : Int} {w : World} (h : ZV L w v z) (hL : L ≤ 100000000) (hz : 9223372036854775807 < z) :
    Calls Tryz.prog 24 #[v] w (RetV w (.tuple #[.int .i64 0, .bool false])) := by
  have HV := Kept.mk h
  obtain ⟨sb, sv, rfl, hsb, hnn⟩ := h
  obtain ⟨xs, a1, a2, a3, a4, a5⟩ := hnn
  have HS := Kept.mk a1
  obtain ⟨ao, c, rfl, hc, hm, hx⟩ := a1
  have HX0 : Kept (Bxs w [.cells #[.bool sb, .slice ao xs.length c] 25] (w.alloc (.cells #[.bool sb, .slice ao xs.length c] 25))) := ⟨(Bxs.start w).alloc (by simp) _⟩
  obtain ⟨g1, hg1⟩ : ∃ g1, Dg.sg z 9223372036854775807 = g1 := ⟨_, rfl⟩
  obtain ⟨g2, hg2⟩ : ∃ g2, Dg.sg z (-9223372036854775808) = g2 := ⟨_, rfl⟩
  have HO1 : Kept (∀ W, Calls Tryz.prog 32 #[.int .i64 9223372036854775807] W (RetZ 64 W 9223372036854775807)) := ⟨fun W => rof_any _ W (by omega) (by omega)⟩
  have HO2 : Kept (∀ W, Calls Tryz.prog 32 #[.int .i64 (-9223372036854775808)] W (RetZ 64 W (-9223372036854775808))) := ⟨fun W => rof_any _ W (by omega) (by omega)⟩
  have HC1 : Kept (∀ W u, Below w.heap.size w W → ZV 64 W u 9223372036854775807 → Calls Tryz.prog 35 #[.agg #[.bool sb, .slice ao xs.length c], u] W (RetV W (.int .i64 g1))) := ⟨fun W u hW hu => by rw [← hg1]; exact rcmpz_any (HV.out.below hW) hu (by omega) (by decide)⟩
  have HC2 : Kept (∀ W u, Below w.heap.size w W → ZV 64 W u (-9223372036854775808) → Calls Tryz.prog 35 #[.agg #[.bool sb, .slice ao xs.length c], u] W (RetV W (.int .i64 g2))) := ⟨fun W u hW hu => by rw [← hg2]; exact rcmpz_any (HV.out.below hW) hu (by omega) (by decide)⟩
  have hgd1 : decide ((0 : Int) < g1) = true := by rw [← hg1]; unfold Dg.sg; first | (apply decide_eq_true; split <;> omega) | (apply decide_eq_true; split <;> (try split) <;> omega)
  clear a2 a3 a4 a5 hx hg1 hg2 hsb hm hc
  go_enter Tryz.func24, Tryz.ntmps24
  go_wp2_with fail
  refine wp_region_held_drew (S := fun w' => w'.cell? ⟨w.heap.size, 0, none⟩ = some (.bool sb) ∧ w'.cell? ⟨w.heap.size, 1, none⟩ = some (.slice ao xs.length c)) (by kernel_rfl) ?_ (fun hHeld => ?_)
  · (refine ⟨?_, ?_⟩ <;> simp [go_sem])
  refine wpAnyH_take (i := 0) (v := ?_) rfl (by kernel_rfl) (by kernel_rfl) (by kernel_rfl) (fun _ _ _ h => h) (Or.inl ⟨by rfl, ?_⟩) (by assumption) ?_
  rotate_left
  · (intro w hSw; (try dsimp only at hSw); go_simp; (try with_reducible rfl))
  try simp only [Act.put, List.getElem_toArray, List.getElem_cons_succ, List.getElem_cons_zero, List.setIfInBounds_toArray, List.set_cons_zero, List.set_cons_succ]
  refine wpAnyH_ready (rs := [1]) (by kernel_rfl) (by simp) ?_
  refine AllReadyH.cons rfl (fun K hK => ?_) AllReadyH.nil
  go_simp
  refine (HO1.out _).mono ?_
  rintro e w1 ⟨hb1, v1, rfl, hZ1⟩
  have hx1 := HX0.out.drew.below hb1
  obtain ⟨p1, q1, -, -⟩ := two_cells hx1.b0
  refine hK.out _ _ ?_ (fun hHeld => ?_)
  · exact ⟨p1, q1⟩
  clear hK K
  try simp only [Act.put, List.getElem_toArray, List.getElem_cons_succ, List.getElem_cons_zero, List.setIfInBounds_toArray, List.set_cons_zero, List.set_cons_succ]
  refine wpAnyH_ready (rs := [2]) (by kernel_rfl) (by simp) ?_
  refine AllReadyH.cons rfl (fun K hK => ?_) AllReadyH.nil
  go_simp
  refine (HC1.out _ _ ?h1 ?h2).mono ?_
  case h1 => exact hx1.1
  case h2 => exact hZ1
  rintro e w2 ⟨hb2, rfl⟩
  have hx2 := hx1.below hb2
  obtain ⟨p2, q2, -, -⟩ := two_cells hx2.b0
  refine hK.out _ _ ?_ (fun hHeld => ?_)
  · exact ⟨p2, q2⟩
  clear hK K
  try simp only [Act.put, List.getElem_toArray, List.getElem_cons_succ, List.getElem_cons_zero, List.setIfInBounds_toArray, List.set_cons_zero, List.set_cons_succ]
  refine wpAnyH_take (i := 3) (v := ?_) rfl (by kernel_rfl) (by kernel_rfl) (by kernel_rfl) (fun _ _ _ h => h) (Or.inl ⟨by rfl, ?_⟩) (by assumption) ?_
  rotate_left
  · (intro w hSw; (try dsimp only at hSw); go_simp; (try with_reducible rfl))
  try simp only [Act.put, List.getElem_toArray, List.getElem_cons_succ, List.getElem_cons_zero, List.setIfInBounds_toArray, List.set_cons_zero, List.set_cons_succ]
  refine wpAnyH_take (i := 4) (v := ?_) rfl (by kernel_rfl) (by kernel_rfl) (by kernel_rfl) (fun _ _ _ h => h) (Or.inl ⟨by rfl, ?_⟩) (by assumption) ?_
  rotate_left
  · (intro w hSw; (try dsimp only at hSw); go_simp; (try with_reducible rfl))
  try simp only [Act.put, List.getElem_toArray, List.getElem_cons_succ, List.getElem_cons_zero, List.setIfInBounds_toArray, List.set_cons_zero, List.set_cons_succ]
  refine wpAnyH_take (i := 5) (v := undef) rfl (by kernel_rfl) (by kernel_rfl) (by kernel_rfl) (fun _ _ _ h => h) (Or.inr ⟨by rfl, rfl⟩) (by assumption) ?_
  try simp only [Act.put, List.getElem_toArray, List.getElem_cons_succ, List.getElem_cons_zero, List.setIfInBounds_toArray, List.set_cons_zero, List.set_cons_succ]
  refine wpAnyH_take (i := 6) (v := undef) rfl (by kernel_rfl) (by kernel_rfl) (by kernel_rfl) (fun _ _ _ h => h) (Or.inr ⟨by rfl, rfl⟩) (by assumption) ?_
  try simp only [Act.put, List.getElem_toArray, List.getElem_cons_succ, List.getElem_cons_zero, List.setIfInBounds_toArray, List.set_cons_zero, List.set_cons_succ]
  refine wpAnyH_take (i := 7) (v := undef) rfl (by kernel_rfl) (by kernel_rfl) (by kernel_rfl) (fun _ _ _ h => h) (Or.inr ⟨by rfl, rfl⟩) (by assumption) ?_
  try simp only [Act.put, List.getElem_toArray, List.getElem_cons_succ, List.getElem_cons_zero, List.setIfInBounds_toArray, List.set_cons_zero, List.set_cons_succ]
  refine wpAnyH_take (i := 8) (v := undef) rfl (by kernel_rfl) (by kernel_rfl) (by kernel_rfl) (fun _ _ _ h => h) (Or.inr ⟨by rfl, rfl⟩) (by assumption) ?_
  try simp only [Act.put, List.getElem_toArray, List.getElem_cons_succ, List.getElem_cons_zero, List.setIfInBounds_toArray, List.set_cons_zero, List.set_cons_succ]
  refine wpAnyH_take (i := 9) (v := ?_) rfl (by kernel_rfl) (by kernel_rfl) (by kernel_rfl) (fun _ _ _ h => h) (Or.inl ⟨by rfl, ?_⟩) (by assumption) ?_
  rotate_left
  · (intro w hSw; (try dsimp only at hSw); go_simp; (try with_reducible rfl))
  try simp only [Act.put, List.getElem_toArray, List.getElem_cons_succ, List.getElem_cons_zero, List.setIfInBounds_toArray, List.set_cons_zero, List.set_cons_succ]
  refine wpAnyH_done (by kernel_rfl) ?_ _
  have HX := Kept.mk hx2
  go_wp2
  go_ret2
  exact ⟨HX.out.1, rfl⟩
set_option maxRecDepth 20000 in
set_option maxHeartbeats 2000000 in
theorem ri64_lo {L : Nat} {v : Value} {z : Int} {w : World} (h : ZV L w v z) (hL : L ≤ 100000000) (hz : z < -9223372036854775808) :
    Calls Tryz.prog 24 #[v] w (RetV w (.tuple #[.int .i64 0, .bool false])) := by
  have HV := Kept.mk h
  obtain ⟨sb, sv, rfl, hsb, hnn⟩ := h
  obtain ⟨xs, a1, a2, a3, a4, a5⟩ := hnn
  have HS := Kept.mk a1
  obtain ⟨ao, c, rfl, hc, hm, hx⟩ := a1
  have HX0 : Kept (Bxs w [.cells #[.bool sb, .slice ao xs.length c] 25] (w.alloc (.cells #[.bool sb, .slice ao xs.length c] 25))) := ⟨(Bxs.start w).alloc (by simp) _⟩
  obtain ⟨g1, hg1⟩ : ∃ g1, Dg.sg z 9223372036854775807 = g1 := ⟨_, rfl⟩
  obtain ⟨g2, hg2⟩ : ∃ g2, Dg.sg z (-9223372036854775808) = g2 := ⟨_, rfl⟩
  have HO1 : Kept (∀ W, Calls Tryz.prog 32 #[.int .i64 9223372036854775807] W (RetZ 64 W 9223372036854775807)) := ⟨fun W => rof_any _ W (by omega) (by omega)⟩
  have HO2 : Kept (∀ W, Calls Tryz.prog 32 #[.int .i64 (-9223372036854775808)] W (RetZ 64 W (-9223372036854775808))) := ⟨fun W => rof_any _ W (by omega) (by omega)⟩
  have HC1 : Kept (∀ W u, Below w.heap.size w W → ZV 64 W u 9223372036854775807 → Calls Tryz.prog 35 #[.agg #[.bool sb, .slice ao xs.length c], u] W (RetV W (.int .i64 g1))) := ⟨fun W u hW hu => by rw [← hg1]; exact rcmpz_any (HV.out.below hW) hu (by omega) (by decide)⟩
  have HC2 : Kept (∀ W u, Below w.heap.size w W → ZV 64 W u (-9223372036854775808) → Calls Tryz.prog 35 #[.agg #[.bool sb, .slice ao xs.length c], u] W (RetV W (.int .i64 g2))) := ⟨fun W u hW hu => by rw [← hg2]; exact rcmpz_any (HV.out.below hW) hu (by omega) (by decide)⟩
  have hgd1 : decide ((0 : Int) < g1) = false := by rw [← hg1]; unfold Dg.sg; first | (apply decide_eq_false; split <;> omega) | (apply decide_eq_false; split <;> (try split) <;> omega)
  have hgd2 : decide (g2 < (0 : Int)) = true := by rw [← hg2]; unfold Dg.sg; apply decide_eq_true; split <;> (try split) <;> omega
  clear a2 a3 a4 a5 hx hg1 hg2 hsb hm hc
  go_enter Tryz.func24, Tryz.ntmps24
  go_wp2_with fail
  refine wp_region_held_drew (S := fun w' => w'.cell? ⟨w.heap.size, 0, none⟩ = some (.bool sb) ∧ w'.cell? ⟨w.heap.size, 1, none⟩ = some (.slice ao xs.length c)) (by kernel_rfl) ?_ (fun hHeld => ?_)
  · (refine ⟨?_, ?_⟩ <;> simp [go_sem])
  refine wpAnyH_take (i := 0) (v := ?_) rfl (by kernel_rfl) (by kernel_rfl) (by kernel_rfl) (fun _ _ _ h => h) (Or.inl ⟨by rfl, ?_⟩) (by assumption) ?_
  rotate_left
  · (intro w hSw; (try dsimp only at hSw); go_simp; (try with_reducible rfl))
  try simp only [Act.put, List.getElem_toArray, List.getElem_cons_succ, List.getElem_cons_zero, List.setIfInBounds_toArray, List.set_cons_zero, List.set_cons_succ]
  refine wpAnyH_ready (rs := [1]) (by kernel_rfl) (by simp) ?_
  refine AllReadyH.cons rfl (fun K hK => ?_) AllReadyH.nil
  go_simp
  refine (HO1.out _).mono ?_
  rintro e w1 ⟨hb1, v1, rfl, hZ1⟩
  have hx1 := HX0.out.drew.below hb1
  obtain ⟨p1, q1, -, -⟩ := two_cells hx1.b0
  refine hK.out _ _ ?_ (fun hHeld => ?_)
  · exact ⟨p1, q1⟩
  clear hK K
  try simp only [Act.put, List.getElem_toArray, List.getElem_cons_succ, List.getElem_cons_zero, List.setIfInBounds_toArray, List.set_cons_zero, List.set_cons_succ]
  refine wpAnyH_ready (rs := [2]) (by kernel_rfl) (by simp) ?_
  refine AllReadyH.cons rfl (fun K hK => ?_) AllReadyH.nil
  go_simp
  refine (HC1.out _ _ ?h1 ?h2).mono ?_
  case h1 => exact hx1.1
  case h2 => exact hZ1
  rintro e w2 ⟨hb2, rfl⟩
  have hx2 := hx1.below hb2
  obtain ⟨p2, q2, -, -⟩ := two_cells hx2.b0
  refine hK.out _ _ ?_ (fun hHeld => ?_)
  · exact ⟨p2, q2⟩
  clear hK K
  try simp only [Act.put, List.getElem_toArray, List.getElem_cons_succ, List.getElem_cons_zero, List.setIfInBounds_toArray, List.set_cons_zero, List.set_cons_succ]
  refine wpAnyH_take (i := 3) (v := ?_) rfl (by kernel_rfl) (by kernel_rfl) (by kernel_rfl) (fun _ _ _ h => h) (Or.inl ⟨by rfl, ?_⟩) (by assumption) ?_
  rotate_left
  · (intro w hSw; (try dsimp only at hSw); go_simp; (try with_reducible rfl))
  try simp only [Act.put, List.getElem_toArray, List.getElem_cons_succ, List.getElem_cons_zero, List.setIfInBounds_toArray, List.set_cons_zero, List.set_cons_succ]
  refine wpAnyH_take (i := 4) (v := ?_) rfl (by kernel_rfl) (by kernel_rfl) (by kernel_rfl) (fun _ _ _ h => h) (Or.inl ⟨by rfl, ?_⟩) (by assumption) ?_
  rotate_left
  · (intro w hSw; (try dsimp only at hSw); go_simp; (try with_reducible rfl))
  try simp only [Act.put, List.getElem_toArray, List.getElem_cons_succ, List.getElem_cons_zero, List.setIfInBounds_toArray, List.set_cons_zero, List.set_cons_succ]
  refine wpAnyH_take (i := 5) (v := ?_) rfl (by kernel_rfl) (by kernel_rfl) (by kernel_rfl) (fun _ _ _ h => h) (Or.inl ⟨by rfl, ?_⟩) (by assumption) ?_
  rotate_left
  · (intro w hSw; (try dsimp only at hSw); go_simp; (try with_reducible rfl))
  try simp only [Act.put, List.getElem_toArray, List.getElem_cons_succ, List.getElem_cons_zero, List.setIfInBounds_toArray, List.set_cons_zero, List.set_cons_succ]
  refine wpAnyH_ready (rs := [6]) (by kernel_rfl) (by simp) ?_
  refine AllReadyH.cons rfl (fun K hK => ?_) AllReadyH.nil
  go_simp
  refine (HO2.out _).mono ?_
  rintro e w3 ⟨hb3, v3, rfl, hZ3⟩
  have hx3 := hx2.below hb3
  obtain ⟨p3, q3, -, -⟩ := two_cells hx3.b0
  refine hK.out _ _ ?_ (fun hHeld => ?_)
  · exact ⟨p3, q3⟩
  clear hK K
  try simp only [Act.put, List.getElem_toArray, List.getElem_cons_succ, List.getElem_cons_zero, List.setIfInBounds_toArray, List.set_cons_zero, List.set_cons_succ]
  refine wpAnyH_ready (rs := [7]) (by kernel_rfl) (by simp) ?_
  refine AllReadyH.cons rfl (fun K hK => ?_) AllReadyH.nil
  go_simp
  refine (HC2.out _ _ ?h1 ?h2).mono ?_
  case h1 => exact hx3.1
  case h2 => exact hZ3
  rintro e w4 ⟨hb4, rfl⟩
  have hx4 := hx3.below hb4
  obtain ⟨p4, q4, -, -⟩ := two_cells hx4.b0
  refine hK.out _ _ ?_ (fun hHeld => ?_)
  · exact ⟨p4, q4⟩
  clear hK K
  try simp only [Act.put, List.getElem_toArray, List.getElem_cons_succ, List.getElem_cons_zero, List.setIfInBounds_toArray, List.set_cons_zero, List.set_cons_succ]
  refine wpAnyH_take (i := 8) (v := ?_) rfl (by kernel_rfl) (by kernel_rfl) (by kernel_rfl) (fun _ _ _ h => h) (Or.inl ⟨by rfl, ?_⟩) (by assumption) ?_
  rotate_left
  · (intro w hSw; (try dsimp only at hSw); go_simp; (try with_reducible rfl))
  try simp only [Act.put, List.getElem_toArray, List.getElem_cons_succ, List.getElem_cons_zero, List.setIfInBounds_toArray, List.set_cons_zero, List.set_cons_succ]
  refine wpAnyH_take (i := 9) (v := ?_) rfl (by kernel_rfl) (by kernel_rfl) (by kernel_rfl) (fun _ _ _ h => h) (Or.inl ⟨by rfl, ?_⟩) (by assumption) ?_
  rotate_left
  · (intro w hSw; (try dsimp only at hSw); go_simp; (try with_reducible rfl))
  try simp only [Act.put, List.getElem_toArray, List.getElem_cons_succ, List.getElem_cons_zero, List.setIfInBounds_toArray, List.set_cons_zero, List.set_cons_succ]
  refine wpAnyH_done (by kernel_rfl) ?_ _
  have HX := Kept.mk hx4
  go_wp2
  go_ret2
  exact ⟨HX.out.1, rfl⟩
set_option maxRecDepth 20000 in
set_option maxHeartbeats 2000000 in
theorem ri64_pos {L : Nat} {v : Value} {z : Int} {w : World} (h : ZV L w v z) (hL : L ≤ 100000000) (hz : 0 ≤ z) (hz2 : z ≤ 9223372036854775807) :
    Calls Tryz.prog 24 #[v] w (RetV w (.tuple #[.int .i64 z, .bool true])) := by
  have HV := Kept.mk h
  obtain ⟨sb, sv, rfl, hsb, hnn⟩ := h
  obtain ⟨xs, a1, a2, a3, a4, a5⟩ := hnn
  have HS := Kept.mk a1
  obtain ⟨ao, c, rfl, hc, hm, hx⟩ := a1
  obtain rfl : sb = false := by rw [hsb]; simp; omega
  have HX0 : Kept (Bxs w [.cells #[.bool false, .slice ao xs.length c] 25] (w.alloc (.cells #[.bool false, .slice ao xs.length c] 25))) := ⟨(Bxs.start w).alloc (by simp) _⟩
  obtain ⟨g1, hg1⟩ : ∃ g1, Dg.sg z 9223372036854775807 = g1 := ⟨_, rfl⟩
  obtain ⟨g2, hg2⟩ : ∃ g2, Dg.sg z (-9223372036854775808) = g2 := ⟨_, rfl⟩
  have HO1 : Kept (∀ W, Calls Tryz.prog 32 #[.int .i64 9223372036854775807] W (RetZ 64 W 9223372036854775807)) := ⟨fun W => rof_any _ W (by omega) (by omega)⟩
  have HO2 : Kept (∀ W, Calls Tryz.prog 32 #[.int .i64 (-9223372036854775808)] W (RetZ 64 W (-9223372036854775808))) := ⟨fun W => rof_any _ W (by omega) (by omega)⟩
  have HC1 : Kept (∀ W u, Below w.heap.size w W → ZV 64 W u 9223372036854775807 → Calls Tryz.prog 35 #[.agg #[.bool false, .slice ao xs.length c], u] W (RetV W (.int .i64 g1))) := ⟨fun W u hW hu => by rw [← hg1]; exact rcmpz_any (HV.out.below hW) hu (by omega) (by decide)⟩
  have HC2 : Kept (∀ W u, Below w.heap.size w W → ZV 64 W u (-9223372036854775808) → Calls Tryz.prog 35 #[.agg #[.bool false, .slice ao xs.length c], u] W (RetV W (.int .i64 g2))) := ⟨fun W u hW hu => by rw [← hg2]; exact rcmpz_any (HV.out.below hW) hu (by omega) (by decide)⟩
  have hgd1 : decide ((0 : Int) < g1) = false := by rw [← hg1]; unfold Dg.sg; first | (apply decide_eq_false; split <;> omega) | (apply decide_eq_false; split <;> (try split) <;> omega)
  have hgd2 : decide (g2 < (0 : Int)) = false := by rw [← hg2]; unfold Dg.sg; apply decide_eq_false; split <;> (try split) <;> omega
  have hzv : z = Dg.val BN xs := by rw [a4]; omega
  have hvb : Dg.val BN xs ≤ 9223372036854775807 := by rw [a4]; omega
  have HZV := Kept.mk hzv
  have HVB := Kept.mk hvb
  have HWF := Kept.mk a2
  have HC := Kept.mk hx
  have hxl : xs.length ≤ 100000000 := by omega
  unfold maxLen at hm
  clear hzv hvb a2 a3 a4 hx hg1 hg2 hsb
  go_enter Tryz.func24, Tryz.ntmps24
  go_wp2_with fail
  refine wp_region_held_drew (S := fun w' => w'.cell? ⟨w.heap.size, 0, none⟩ = some (.bool false) ∧ w'.cell? ⟨w.heap.size, 1, none⟩ = some (.slice ao xs.length c)) (by kernel_rfl) ?_ (fun hHeld => ?_)
  · (refine ⟨?_, ?_⟩ <;> simp [go_sem])
  refine wpAnyH_take (i := 0) (v := ?_) rfl (by kernel_rfl) (by kernel_rfl) (by kernel_rfl) (fun _ _ _ h => h) (Or.inl ⟨by rfl, ?_⟩) (by assumption) ?_
  rotate_left
  · (intro w hSw; (try dsimp only at hSw); go_simp; (try with_reducible rfl))
  try simp only [Act.put, List.getElem_toArray, List.getElem_cons_succ, List.getElem_cons_zero, List.setIfInBounds_toArray, List.set_cons_zero, List.set_cons_succ]
  refine wpAnyH_ready (rs := [1]) (by kernel_rfl) (by simp) ?_
  refine AllReadyH.cons rfl (fun K hK => ?_) AllReadyH.nil
  go_simp
  refine (HO1.out _).mono ?_
  rintro e w1 ⟨hb1, v1, rfl, hZ1⟩
  have hx1 := HX0.out.drew.below hb1
  obtain ⟨p1, q1, -, -⟩ := two_cells hx1.b0
  refine hK.out _ _ ?_ (fun hHeld => ?_)
  · exact ⟨p1, q1⟩
  clear hK K
  try simp only [Act.put, List.getElem_toArray, List.getElem_cons_succ, List.getElem_cons_zero, List.setIfInBounds_toArray, List.set_cons_zero, List.set_cons_succ]
  refine wpAnyH_ready (rs := [2]) (by kernel_rfl) (by simp) ?_
  refine AllReadyH.cons rfl (fun K hK => ?_) AllReadyH.nil
  go_simp
  refine (HC1.out _ _ ?h1 ?h2).mono ?_
  case h1 => exact hx1.1
  case h2 => exact hZ1
  rintro e w2 ⟨hb2, rfl⟩
  have hx2 := hx1.below hb2
  obtain ⟨p2, q2, -, -⟩ := two_cells hx2.b0
  refine hK.out _ _ ?_ (fun hHeld => ?_)
  · exact ⟨p2, q2⟩
  clear hK K
  try simp only [Act.put, List.getElem_toArray, List.getElem_cons_succ, List.getElem_cons_zero, List.setIfInBounds_toArray, List.set_cons_zero, List.set_cons_succ]
  refine wpAnyH_take (i := 3) (v := ?_) rfl (by kernel_rfl) (by kernel_rfl) (by kernel_rfl) (fun _ _ _ h => h) (Or.inl ⟨by rfl, ?_⟩) (by assumption) ?_
  rotate_left
  · (intro w hSw; (try dsimp only at hSw); go_simp; (try with_reducible rfl))
  try simp only [Act.put, List.getElem_toArray, List.getElem_cons_succ, List.getElem_cons_zero, List.setIfInBounds_toArray, List.set_cons_zero, List.set_cons_succ]
  refine wpAnyH_take (i := 4) (v := ?_) rfl (by kernel_rfl) (by kernel_rfl) (by kernel_rfl) (fun _ _ _ h => h) (Or.inl ⟨by rfl, ?_⟩) (by assumption) ?_
  rotate_left
  · (intro w hSw; (try dsimp only at hSw); go_simp; (try with_reducible rfl))
  try simp only [Act.put, List.getElem_toArray, List.getElem_cons_succ, List.getElem_cons_zero, List.setIfInBounds_toArray, List.set_cons_zero, List.set_cons_succ]
  refine wpAnyH_take (i := 5) (v := ?_) rfl (by kernel_rfl) (by kernel_rfl) (by kernel_rfl) (fun _ _ _ h => h) (Or.inl ⟨by rfl, ?_⟩) (by assumption) ?_
  rotate_left
  · (intro w hSw; (try dsimp only at hSw); go_simp; (try with_reducible rfl))
  try simp only [Act.put, List.getElem_toArray, List.getElem_cons_succ, List.getElem_cons_zero, List.setIfInBounds_toArray, List.set_cons_zero, List.set_cons_succ]
  refine wpAnyH_ready (rs := [6]) (by kernel_rfl) (by simp) ?_
  refine AllReadyH.cons rfl (fun K hK => ?_) AllReadyH.nil
  go_simp
  refine (HO2.out _).mono ?_
  rintro e w3 ⟨hb3, v3, rfl, hZ3⟩
  have hx3 := hx2.below hb3
  obtain ⟨p3, q3, -, -⟩ := two_cells hx3.b0
  refine hK.out _ _ ?_ (fun hHeld => ?_)
  · exact ⟨p3, q3⟩
  clear hK K
  try simp only [Act.put, List.getElem_toArray, List.getElem_cons_succ, List.getElem_cons_zero, List.setIfInBounds_toArray, List.set_cons_zero, List.set_cons_succ]
  refine wpAnyH_ready (rs := [7]) (by kernel_rfl) (by simp) ?_
  refine AllReadyH.cons rfl (fun K hK => ?_) AllReadyH.nil
  go_simp
  refine (HC2.out _ _ ?h1 ?h2).mono ?_
  case h1 => exact hx3.1
  case h2 => exact hZ3
  rintro e w4 ⟨hb4, rfl⟩
  have hx4 := hx3.below hb4
  obtain ⟨p4, q4, -, -⟩ := two_cells hx4.b0
  refine hK.out _ _ ?_ (fun hHeld => ?_)
  · exact ⟨p4, q4⟩
  clear hK K
  try simp only [Act.put, List.getElem_toArray, List.getElem_cons_succ, List.getElem_cons_zero, List.setIfInBounds_toArray, List.set_cons_zero, List.set_cons_succ]
  refine wpAnyH_take (i := 8) (v := ?_) rfl (by kernel_rfl) (by kernel_rfl) (by kernel_rfl) (fun _ _ _ h => h) (Or.inl ⟨by rfl, ?_⟩) (by assumption) ?_
  rotate_left
  · (intro w hSw; (try dsimp only at hSw); go_simp; (try with_reducible rfl))
  try simp only [Act.put, List.getElem_toArray, List.getElem_cons_succ, List.getElem_cons_zero, List.setIfInBounds_toArray, List.set_cons_zero, List.set_cons_succ]
  refine wpAnyH_take (i := 9) (v := ?_) rfl (by kernel_rfl) (by kernel_rfl) (by kernel_rfl) (fun _ _ _ h => h) (Or.inl ⟨by rfl, ?_⟩) (by assumption) ?_
  rotate_left
  · (intro w hSw; (try dsimp only at hSw); go_simp; (try with_reducible rfl))
  try simp only [Act.put, List.getElem_toArray, List.getElem_cons_succ, List.getElem_cons_zero, List.setIfInBounds_toArray, List.set_cons_zero, List.set_cons_succ]
  refine wpAnyH_done (by kernel_rfl) ?_ _
  have HX := Kept.mk hx4
  obtain ⟨r0, r1, -, -⟩ := two_cells hx4.b0
  go_wp2
  go_loopw [4, 5] (fun nv iv wr => ∃ (k : Nat) (j y : Int), k ≤ xs.length ∧ Hid (j + 1 = k) ∧ iv = .int .i64 j ∧ nv = .int .i64 y ∧ Kept (y = Dg.val BN (xs.drop k)) ∧ -9223372036854775808 ≤ y ∧ y ≤ 9223372036854775807 ∧ w4 = wr) (fun _ iv _ => (intOf iv + 1).toNat)
  case atStart => exact ⟨xs.length, _, 0, Nat.le_refl _, by show _ - (1 : Int) + 1 = _; omega, rfl, rfl, ⟨by rw [List.drop_length]; rfl⟩, by omega, by omega, by first | rfl | trivial⟩
  case round =>
    obtain ⟨k, j, y, hk, hj, rfl, rfl, hy, hy0, hy1, rfl⟩ := hrel
    by_cases h0 : 0 < k
    · obtain ⟨k, rfl⟩ : ∃ j, k = j + 1 := ⟨k - 1, by omega⟩
      obtain rfl : j = (k : Int) := by have := hj.out; omega
      clear hj
      obtain ⟨b, o, rfl, hbs, hcell⟩ := HC.out k (by omega)
      obtain ⟨x, hx⟩ : ∃ x, x = xs[k]?.getD 0 := ⟨_, rfl⟩
      have hxb := Dg.Wf.getD (show (0 : Int) < BN by decide) HWF.out k
      rw [← hx] at hcell hxb
      have hx0 : 0 ≤ x := hxb.1
      have hx1 : x < 1000000000 := hxb.2
      have hcl := (HX.out.1.cell (p := ⟨b, o + k, none⟩) hbs).trans hcell
      have hda := drop_at (show k < xs.length by omega) hx
      have hdl := drop_le HWF.out k
      have hdl2 := drop_le HWF.out (k + 1)
      have hyy := hy.out
      have hvv := HVB.out
      have m1 : -9223372036854775808 ≤ y * 1000000000 := by omega
      have m2 : y * 1000000000 ≤ 9223372036854775807 := by omega
      have m3 : -9223372036854775808 ≤ y * 1000000000 + x := by omega
      have m4 : y * 1000000000 + x ≤ 9223372036854775807 := by omega
      have HY : Kept (y * 1000000000 + x = Dg.val BN (xs.drop k)) := ⟨by omega⟩
      clear hda hdl hdl2 hyy hvv hx hxb hcell hy
      go_wp2
      go_roundw
      case rel => exact ⟨k, (k : Int) - 1, y * 1000000000 + x, by omega, by show _ - (1 : Int) + 1 = _; omega, rfl, rfl, HY, m3, m4, by first | rfl | trivial⟩
      case measure => simp [intOf] <;> omega
    · obtain rfl : k = 0 := by omega
      obtain rfl : j = -1 := by have := hj.out; omega
      have hyz : y = z := by rw [HZV.out, hy.out]; simp
      have HYZ := Kept.mk hyz
      clear hyz hy hj
      go_wp2
      go_ret2
      exact ⟨HX.out.1, by rw [← HYZ.out]; rfl⟩
set_option maxRecDepth 20000 in
set_option maxHeartbeats 2000000 in
theorem ri64_neg {L : Nat} {v : Value} {z : Int} {w : World} (h : ZV L w v z) (hL : L ≤ 100000000) (hz : z < 0) (hz2 : -9223372036854775808 ≤ z) :
    Calls Tryz.prog 24 #[v] w (RetV w (.tuple #[.int .i64 z, .bool true])) := by
  have HV := Kept.mk h
  obtain ⟨sb, sv, rfl, hsb, hnn⟩ := h
  obtain ⟨xs, a1, a2, a3, a4, a5⟩ := hnn
  have HS := Kept.mk a1
  obtain ⟨ao, c, rfl, hc, hm, hx⟩ := a1
  obtain rfl : sb = true := by rw [hsb]; simp; omega
  have HX0 : Kept (Bxs w [.cells #[.bool true, .slice ao xs.length c] 25] (w.alloc (.cells #[.bool true, .slice ao xs.length c] 25))) := ⟨(Bxs.start w).alloc (by simp) _⟩
  obtain ⟨g1, hg1⟩ : ∃ g1, Dg.sg z 9223372036854775807 = g1 := ⟨_, rfl⟩
  obtain ⟨g2, hg2⟩ : ∃ g2, Dg.sg z (-9223372036854775808) = g2 := ⟨_, rfl⟩
  have HO1 : Kept (∀ W, Calls Tryz.prog 32 #[.int .i64 9223372036854775807] W (RetZ 64 W 9223372036854775807)) := ⟨fun W => rof_any _ W (by omega) (by omega)⟩
  have HO2 : Kept (∀ W, Calls Tryz.prog 32 #[.int .i64 (-9223372036854775808)] W (RetZ 64 W (-9223372036854775808))) := ⟨fun W => rof_any _ W (by omega) (by omega)⟩
  have HC1 : Kept (∀ W u, Below w.heap.size w W → ZV 64 W u 9223372036854775807 → Calls Tryz.prog 35 #[.agg #[.bool true, .slice ao xs.length c], u] W (RetV W (.int .i64 g1))) := ⟨fun W u hW hu => by rw [← hg1]; exact rcmpz_any (HV.out.below hW) hu (by omega) (by decide)⟩
  have HC2 : Kept (∀ W u, Below w.heap.size w W → ZV 64 W u (-9223372036854775808) → Calls Tryz.prog 35 #[.agg #[.bool true, .slice ao xs.length c], u] W (RetV W (.int .i64 g2))) := ⟨fun W u hW hu => by rw [← hg2]; exact rcmpz_any (HV.out.below hW) hu (by omega) (by decide)⟩
  have hgd1 : decide ((0 : Int) < g1) = false := by rw [← hg1]; unfold Dg.sg; first | (apply decide_eq_false; split <;> omega) | (apply decide_eq_false; split <;> (try split) <;> omega)
  have hgd2 : decide (g2 < (0 : Int)) = false := by rw [← hg2]; unfold Dg.sg; apply decide_eq_false; split <;> (try split) <;> omega
  have hzv : z = -Dg.val BN xs := by rw [a4]; omega
  have hvb : Dg.val BN xs ≤ 9223372036854775808 := by rw [a4]; omega
  have HZV := Kept.mk hzv
  have HVB := Kept.mk hvb
  have HWF := Kept.mk a2
  have HC := Kept.mk hx
  have hxl : xs.length ≤ 100000000 := by omega
  unfold maxLen at hm
  clear hzv hvb a2 a3 a4 hx hg1 hg2 hsb
  go_enter Tryz.func24, Tryz.ntmps24
  go_wp2_with fail
  refine wp_region_held_drew (S := fun w' => w'.cell? ⟨w.heap.size, 0, none⟩ = some (.bool true) ∧ w'.cell? ⟨w.heap.size, 1, none⟩ = some (.slice ao xs.length c)) (by kernel_rfl) ?_ (fun hHeld => ?_)
  · (refine ⟨?_, ?_⟩ <;> simp [go_sem])
  refine wpAnyH_take (i := 0) (v := ?_) rfl (by kernel_rfl) (by kernel_rfl) (by kernel_rfl) (fun _ _ _ h => h) (Or.inl ⟨by rfl, ?_⟩) (by assumption) ?_
  rotate_left
  · (intro w hSw; (try dsimp only at hSw); go_simp; (try with_reducible rfl))
  try simp only [Act.put, List.getElem_toArray, List.getElem_cons_succ, List.getElem_cons_zero, List.setIfInBounds_toArray, List.set_cons_zero, List.set_cons_succ]
  refine wpAnyH_ready (rs := [1]) (by kernel_rfl) (by simp) ?_
  refine AllReadyH.cons rfl (fun K hK => ?_) AllReadyH.nil
  go_simp
  refine (HO1.out _).mono ?_
  rintro e w1 ⟨hb1, v1, rfl, hZ1⟩
  have hx1 := HX0.out.drew.below hb1
  obtain ⟨p1, q1, -, -⟩ := two_cells hx1.b0
  refine hK.out _ _ ?_ (fun hHeld => ?_)
  · exact ⟨p1, q1⟩
  clear hK K
  try simp only [Act.put, List.getElem_toArray, List.getElem_cons_succ, List.getElem_cons_zero, List.setIfInBounds_toArray, List.set_cons_zero, List.set_cons_succ]
  refine wpAnyH_ready (rs := [2]) (by kernel_rfl) (by simp) ?_
  refine AllReadyH.cons rfl (fun K hK => ?_) AllReadyH.nil
  go_simp
  refine (HC1.out _ _ ?h1 ?h2).mono ?_
  case h1 => exact hx1.1
  case h2 => exact hZ1
  rintro e w2 ⟨hb2, rfl⟩
  have hx2 := hx1.below hb2
  obtain ⟨p2, q2, -, -⟩ := two_cells hx2.b0
  refine hK.out _ _ ?_ (fun hHeld => ?_)
  · exact ⟨p2, q2⟩
  clear hK K
  try simp only [Act.put, List.getElem_toArray, List.getElem_cons_succ, List.getElem_cons_zero, List.setIfInBounds_toArray, List.set_cons_zero, List.set_cons_succ]
  refine wpAnyH_take (i := 3) (v := ?_) rfl (by kernel_rfl) (by kernel_rfl) (by kernel_rfl) (fun _ _ _ h => h) (Or.inl ⟨by rfl, ?_⟩) (by assumption) ?_
  rotate_left
  · (intro w hSw; (try dsimp only at hSw); go_simp; (try with_reducible rfl))
  try simp only [Act.put, List.getElem_toArray, List.getElem_cons_succ, List.getElem_cons_zero, List.setIfInBounds_toArray, List.set_cons_zero, List.set_cons_succ]
  refine wpAnyH_take (i := 4) (v := ?_) rfl (by kernel_rfl) (by kernel_rfl) (by kernel_rfl) (fun _ _ _ h => h) (Or.inl ⟨by rfl, ?_⟩) (by assumption) ?_
  rotate_left
  · (intro w hSw; (try dsimp only at hSw); go_simp; (try with_reducible rfl))
  try simp only [Act.put, List.getElem_toArray, List.getElem_cons_succ, List.getElem_cons_zero, List.setIfInBounds_toArray, List.set_cons_zero, List.set_cons_succ]
  refine wpAnyH_take (i := 5) (v := ?_) rfl (by kernel_rfl) (by kernel_rfl) (by kernel_rfl) (fun _ _ _ h => h) (Or.inl ⟨by rfl, ?_⟩) (by assumption) ?_
  rotate_left
  · (intro w hSw; (try dsimp only at hSw); go_simp; (try with_reducible rfl))
  try simp only [Act.put, List.getElem_toArray, List.getElem_cons_succ, List.getElem_cons_zero, List.setIfInBounds_toArray, List.set_cons_zero, List.set_cons_succ]
  refine wpAnyH_ready (rs := [6]) (by kernel_rfl) (by simp) ?_
  refine AllReadyH.cons rfl (fun K hK => ?_) AllReadyH.nil
  go_simp
  refine (HO2.out _).mono ?_
  rintro e w3 ⟨hb3, v3, rfl, hZ3⟩
  have hx3 := hx2.below hb3
  obtain ⟨p3, q3, -, -⟩ := two_cells hx3.b0
  refine hK.out _ _ ?_ (fun hHeld => ?_)
  · exact ⟨p3, q3⟩
  clear hK K
  try simp only [Act.put, List.getElem_toArray, List.getElem_cons_succ, List.getElem_cons_zero, List.setIfInBounds_toArray, List.set_cons_zero, List.set_cons_succ]
  refine wpAnyH_ready (rs := [7]) (by kernel_rfl) (by simp) ?_
  refine AllReadyH.cons rfl (fun K hK => ?_) AllReadyH.nil
  go_simp
  refine (HC2.out _ _ ?h1 ?h2).mono ?_
  case h1 => exact hx3.1
  case h2 => exact hZ3
  rintro e w4 ⟨hb4, rfl⟩
  have hx4 := hx3.below hb4
  obtain ⟨p4, q4, -, -⟩ := two_cells hx4.b0
  refine hK.out _ _ ?_ (fun hHeld => ?_)
  · exact ⟨p4, q4⟩
  clear hK K
  try simp only [Act.put, List.getElem_toArray, List.getElem_cons_succ, List.getElem_cons_zero, List.setIfInBounds_toArray, List.set_cons_zero, List.set_cons_succ]
  refine wpAnyH_take (i := 8) (v := ?_) rfl (by kernel_rfl) (by kernel_rfl) (by kernel_rfl) (fun _ _ _ h => h) (Or.inl ⟨by rfl, ?_⟩) (by assumption) ?_
  rotate_left
  · (intro w hSw; (try dsimp only at hSw); go_simp; (try with_reducible rfl))
  try simp only [Act.put, List.getElem_toArray, List.getElem_cons_succ, List.getElem_cons_zero, List.setIfInBounds_toArray, List.set_cons_zero, List.set_cons_succ]
  refine wpAnyH_take (i := 9) (v := ?_) rfl (by kernel_rfl) (by kernel_rfl) (by kernel_rfl) (fun _ _ _ h => h) (Or.inl ⟨by rfl, ?_⟩) (by assumption) ?_
  rotate_left
  · (intro w hSw; (try dsimp only at hSw); go_simp; (try with_reducible rfl))
  try simp only [Act.put, List.getElem_toArray, List.getElem_cons_succ, List.getElem_cons_zero, List.setIfInBounds_toArray, List.set_cons_zero, List.set_cons_succ]
  refine wpAnyH_done (by kernel_rfl) ?_ _
  have HX := Kept.mk hx4
  obtain ⟨r0, r1, -, -⟩ := two_cells hx4.b0
  go_wp2
  go_loopw [4, 5] (fun nv iv wr => ∃ (k : Nat) (j y : Int), k ≤ xs.length ∧ Hid (j + 1 = k) ∧ iv = .int .i64 j ∧ nv = .int .i64 y ∧ Kept (y = -Dg.val BN (xs.drop k)) ∧ -9223372036854775808 ≤ y ∧ y ≤ 9223372036854775807 ∧ w4 = wr) (fun _ iv _ => (intOf iv + 1).toNat)
  case atStart => exact ⟨xs.length, _, 0, Nat.le_refl _, by show _ - (1 : Int) + 1 = _; omega, rfl, rfl, ⟨by rw [List.drop_length]; rfl⟩, by omega, by omega, by first | rfl | trivial⟩
  case round =>
    obtain ⟨k, j, y, hk, hj, rfl, rfl, hy, hy0, hy1, rfl⟩ := hrel
    by_cases h0 : 0 < k
    · obtain ⟨k, rfl⟩ : ∃ j, k = j + 1 := ⟨k - 1, by omega⟩
      obtain rfl : j = (k : Int) := by have := hj.out; omega
      clear hj
      obtain ⟨b, o, rfl, hbs, hcell⟩ := HC.out k (by omega)
      obtain ⟨x, hx⟩ : ∃ x, x = xs[k]?.getD 0 := ⟨_, rfl⟩
      have hxb := Dg.Wf.getD (show (0 : Int) < BN by decide) HWF.out k
      rw [← hx] at hcell hxb
      have hx0 : 0 ≤ x := hxb.1
      have hx1 : x < 1000000000 := hxb.2
      have hcl := (HX.out.1.cell (p := ⟨b, o + k, none⟩) hbs).trans hcell
      have hda := drop_at (show k < xs.length by omega) hx
      have hdl := drop_le HWF.out k
      have hdl2 := drop_le HWF.out (k + 1)
      have hyy := hy.out
      have hvv := HVB.out
      have m1 : -9223372036854775808 ≤ y * 1000000000 := by omega
      have m2 : y * 1000000000 ≤ 9223372036854775807 := by omega
      have m3 : -9223372036854775808 ≤ y * 1000000000 - x := by omega
      have m4 : y * 1000000000 - x ≤ 9223372036854775807 := by omega
      have HY : Kept (y * 1000000000 - x = -Dg.val BN (xs.drop k)) := ⟨by omega⟩
      clear hda hdl hdl2 hyy hvv hx hxb hcell hy
      go_wp2
      go_roundw
      case rel => exact ⟨k, (k : Int) - 1, y * 1000000000 - x, by omega, by show _ - (1 : Int) + 1 = _; omega, rfl, rfl, HY, m3, m4, by first | rfl | trivial⟩
      case measure => simp [intOf] <;> omega
    · obtain rfl : k = 0 := by omega
      obtain rfl : j = -1 := by have := hj.out; omega
      have hyz : y = z := by rw [HZV.out, hy.out]; simp
      have HYZ := Kept.mk hyz
      clear hyz hy hj
      go_wp2
      go_ret2
      exact ⟨HX.out.1, by rw [← HYZ.out]; rfl⟩
theorem ri64_any {L : Nat} {v : Value} {z : Int} {w : World} (h : ZV L w v z) (hL : L ≤ 100000000) :
    Calls Tryz.prog 24 #[v] w (RetV w (.tuple #[.int .i64 (v64 z), .bool (fits64 z)])) := by
  by_cases h1 : 9223372036854775807 < z
  · have e : fits64 z = false := by unfold fits64; simp; omega
    rw [v64_no e, e]; exact ri64_hi h hL h1
  · by_cases h2 : z < -9223372036854775808
    · have e : fits64 z = false := by unfold fits64; simp; omega
      rw [v64_no e, e]; exact ri64_lo h hL h2
    · have e : fits64 z = true := by unfold fits64; simp; omega
      rw [v64_yes e, e]
      by_cases h3 : 0 ≤ z
      · exact ri64_pos h hL h3 (by omega)
      · exact ri64_neg h hL (by omega) (by omega)
end Go.Proofs.YtblbheilddafbaaGreatDoor
