/-
  Texts of the proof, merged by program: Val Rdg Rti Pf Fq Ft Fu Fw.
-/
import Derived.Test.YtfhhnfpapgfnmaaGreatV9
import Derived.Test.YtfhhnfpapgfnmaaGreatV8
set_option linter.unusedVariables false
set_option linter.unusedSimpArgs false
namespace Go.Proofs.YtfhhnfpapgfnmaaGreat
open Go Go.RowKit
namespace FFld
/-- Horner's rule, of coefficients by their numbers. -/
def hzF (F : Nat → Int) (N : Nat) (q : Int) : Nat → Int
  | 0 => 0
  | i + 1 => hzF F N q i * q + F (N - 1 - i)
theorem hzF_le {F : Nat → Int} (hF : ∀ d, -1 ≤ F d ∧ F d ≤ 1) (N : Nat) {q : Nat} (hq : q ≤ 65536) : ∀ i, (hzF F N q i).natAbs + 1 ≤ 2 ^ (17 * i)
  | 0 => by simp [hzF]
  | i + 1 => by
    have ih := hzF_le hF N hq i
    have h1 := hF (N - 1 - i)
    have e : (hzF F N q (i + 1)).natAbs ≤ (hzF F N q i).natAbs * q + 1 := by
      have e1 : hzF F N q (i + 1) = hzF F N q i * q + F (N - 1 - i) := rfl
      rw [e1]
      have e2 : (hzF F N q i * (q : Int)).natAbs = (hzF F N q i).natAbs * q := by rw [Int.natAbs_mul]; rfl
      omega
    have e3 : (hzF F N q i).natAbs * q ≤ (hzF F N q i).natAbs * 65536 := Nat.mul_le_mul_left _ hq
    have e4 : 2 ^ (17 * (i + 1)) = 2 ^ (17 * i) * 131072 := by rw [Nat.mul_add, Nat.pow_add]
    have e5 : 1 ≤ 2 ^ (17 * i) := Nat.pow_pos (by omega)
    omega
end FFld
theorem small_pow {z : Int} {k : Nat} (h : z.natAbs + 1 ≤ 2 ^ k) (hk : k ≤ 1000) : smallB z.natAbs = true := by
  unfold smallB
  rw [decide_eq_true_eq]
  have h1 : 2 ^ k ≤ 2 ^ maxBits := Nat.pow_le_pow_right (by omega) (Nat.le_trans hk (by unfold maxBits; omega))
  have h2 : z.natAbs < 2 ^ maxBits := by omega
  have h3 : ((z.natAbs : Nat) : Int) < ((2 ^ maxBits : Nat) : Int) := by omega
  rw [Int.natCast_pow] at h3
  exact h3
theorem ring_sum : ∀ W, (method 274 56 (.agg #[]) "dauber/field.sum").run Tryz.prog W = .ok (130, .agg #[]) W := fun W => by kernel_rfl
theorem ring_product : ∀ W, (method 274 56 (.agg #[]) "dauber/field.product").run Tryz.prog W = .ok (129, .agg #[]) W := fun W => by kernel_rfl
theorem ring_nil : ∀ W, (nilAhead 274 56 (.agg #[]) "dauber/field.sum").run Tryz.prog W = .ok (some false) W := fun W => by kernel_rfl
set_option maxRecDepth 20000 in
set_option maxHeartbeats 4000000 in
theorem value_any {g N q : Nat} {F : Nat → Int} {vx : Value} {w : World} (hc : Cz w g N F) (hF : ∀ d, -1 ≤ F d ∧ F d ≤ 1) (hN : N ≤ 41) (hx : IntV 1 w vx q) (hq : q ≤ 65536) :
    Calls Tryz.prog 20 #[.iface 56 (.agg #[]), .slice (some ⟨g, 0, none⟩) N N, vx] w (RetInt 625 w (FFld.hzF F N q N)) := by
  have hx' := hx
  obtain ⟨sx, sv, rfl, hsx, hnx⟩ := hx
  obtain ⟨xo, xk, xc, rfl⟩ := hnx.form
  have hgl := hc.lt
  have HX0 : Kept (Bxs w [.cells #[.bool sx, .slice xo xk xc] 24, .cells #[.bool false, .slice none 0 0] 24, .cells #[.bool false, .slice none 0 0] 24] (((w.alloc (.cells #[.bool sx, .slice xo xk xc] 24)).alloc (.cells #[.bool false, .slice none 0 0] 24)).alloc (.cells #[.bool false, .slice none 0 0] 24))) := ⟨(((Bxs.start w).alloc (by simp) _).alloc (by simp) _).alloc (by simp) _⟩
  have HC := Kept.mk hc
  have HX := Kept.mk hx'
  have HLE := Kept.mk (fun i => FFld.hzF_le hF N hq i)
  have HFB := Kept.mk hF
  have hms := ring_sum
  have hmp := ring_product
  have hmn := ring_nil
  have hz1 : Kept (IntV 625 (((w.alloc (.cells #[.bool sx, .slice xo xk xc] 24)).alloc (.cells #[.bool false, .slice none 0 0] 24)).alloc (.cells #[.bool false, .slice none 0 0] 24)) (.agg #[.bool false, .slice none 0 0]) (FFld.hzF F N q 0)) := ⟨IntV.zero _ _⟩
  clear hc hx' hsx hnx hF
  go_enter Tryz.func20, Tryz.ntmps20
  go_wp2
  go_loopw [8] (fun iv wr => ∃ (i : Nat) (s : Bool) (ro : Option Addr) (rk rc : Nat), i ≤ N ∧ iv = .int .i64 ((N : Int) - 1 - i) ∧ Kept (Below w.heap.size w wr) ∧ Kept (wr.heap[w.heap.size]? = some (.cells #[.bool sx, .slice xo xk xc] 24 (0, 0))) ∧ Kept (wr.heap[w.heap.size + 1]? = some (.cells #[.bool false, .slice none 0 0] 24 (0, 0))) ∧ Kept (wr.heap[w.heap.size + 2]? = some (.cells #[.bool s, .slice ro rk rc] 24 (0, 0))) ∧ Kept (IntV 625 wr (.agg #[.bool s, .slice ro rk rc]) (FFld.hzF F N q i))) (fun iv _ => (intOf iv + 1).toNat)
  case atStart => exact ⟨0, false, none, 0, 0, Nat.zero_le _, by go_num, ⟨HX0.out.1⟩, ⟨HX0.out.b0⟩, ⟨HX0.out.b1⟩, ⟨HX0.out.2.2 2 _ rfl⟩, hz1⟩
  case round =>
    obtain ⟨i, s, ro, rk, rc, hiN, rfl, hbw, hb5, hb6, hb7, hI⟩ := hrel
    have hbx5 := hb5.out
    have hbx7 := hb7.out
    have hl7 : w.heap.size + 2 < wr.heap.size := (Array.getElem?_eq_some_iff.1 hbx7).1
    by_cases hlt : i < N
    · obtain ⟨j, hj⟩ : ∃ j, N - 1 - i = j := ⟨_, rfl⟩
      have hj1 : (N : Int) - 1 - i = j := by omega
      rw [hj1]
      have hjN : j < N := by omega
      obtain ⟨sc, co, ck, cc, q2, q3, hci⟩ := (HC.out.below hbw.out).at hjN
      obtain ⟨q0, q1, _⟩ := two_cells hbx5
      obtain ⟨m0, m1, x0, x1⟩ := two_cells hbx7
      obtain ⟨h, hh⟩ : ∃ h, FFld.hzF F N q i = h := ⟨_, rfl⟩
      obtain ⟨h2, hh2⟩ : ∃ h, FFld.hzF F N q (i + 1) = h := ⟨_, rfl⟩
      have hrec : h * q + F j = h2 := by rw [← hh2, ← hh, ← hj]; rfl
      have HCI := Kept.mk hci
      have HXI := Kept.mk (HX.out.below hbw.out)
      have HBW := Kept.mk hbw.out
      rw [hh] at hI
      have HI := hI
      have b1 := HLE.out i
      have b2 := HLE.out (i + 1)
      rw [hh] at b1
      rw [hh2] at b2
      have hsp : smallB (h * (q : Int)).natAbs = true := small_pow (k := 17 * i + 17) (by
        have e2 : (h * (q : Int)).natAbs = h.natAbs * q := by rw [Int.natAbs_mul]; rfl
        have e3 : h.natAbs * q ≤ h.natAbs * 65536 := Nat.mul_le_mul_left _ hq
        have e4 : 2 ^ (17 * i + 17) = 2 ^ (17 * i) * 131072 := by rw [Nat.pow_add]
        omega) (by omega)
      have hss : smallB (h * (q : Int) + F j).natAbs = true := by rw [hrec]; exact small_pow b2 (by omega)
      have HPR : Kept (∀ W, IntV 625 W (.agg #[.bool s, .slice ro rk rc]) h → IntV 1 W (.agg #[.bool sx, .slice xo xk xc]) q → Calls Tryz.prog 129 #[.agg #[], .agg #[.bool s, .slice ro rk rc], .agg #[.bool sx, .slice xo xk xc]] W (RetInt 625 W (h * q))) := ⟨fun W h1 h2 => iproduct_any h1 h2 (by omega) (by omega) hsp⟩
      have HSU : Kept (∀ W {v2 vc : Value}, IntV 625 W v2 (h * q) → IntV 1 W vc (F j) → Calls Tryz.prog 130 #[.agg #[], v2, vc] W (RetInt 625 W h2)) := ⟨fun W v2 vc h1 h2' => by have := isum_any h1 h2' (by omega) (by omega) hss; rewrite [hrec] at this; exact this⟩
      have HH2 : Kept (FFld.hzF F N q (i + 1) = h2) := ⟨hh2⟩
      have hlj : (j : Int) < (N : Int) := by omega
      have hj0 : (0 : Int) ≤ (j : Int) := by omega
      have hgw : g < wr.heap.size := by omega
      clear hci hh hh2 hrec b1 b2 hsp hss hI hj hbw
      go_wp2
      refine wp_region_held_drew (S := fun w' => w'.cell? ⟨w.heap.size, 0, none⟩ = some (.bool sx) ∧ w'.cell? ⟨w.heap.size, 1, none⟩ = some (.slice xo xk xc) ∧ w'.cell? ⟨g, j * 2, none⟩ = some (.bool sc) ∧ w'.cell? ⟨g, j * 2 + 1, none⟩ = some (.slice co ck cc)) (by kernel_rfl) ⟨q0, q1, q2, q3⟩ (fun hHeld => ?_)
      refine wpAnyH_take (i := 0) (v := ?_) rfl (by kernel_rfl) (by kernel_rfl) (by kernel_rfl) (fun _ _ _ h => h) (Or.inl ⟨by rfl, ?_⟩) (by assumption) ?_
      rotate_left
      · (intro w hSw; (try dsimp only at hSw); go_simp; (try with_reducible rfl))
      try simp only [Act.put, List.getElem_toArray, List.getElem_cons_succ, List.getElem_cons_zero, List.setIfInBounds_toArray, List.set_cons_zero, List.set_cons_succ]
      refine wpAnyH_take (i := 1) (v := ?_) rfl (by kernel_rfl) (by kernel_rfl) (by kernel_rfl) (fun _ _ _ h => h) (Or.inl ⟨by rfl, ?_⟩) (by assumption) ?_
      rotate_left
      · (intro w hSw; (try dsimp only at hSw); go_simp; (try with_reducible rfl))
      try simp only [Act.put, List.getElem_toArray, List.getElem_cons_succ, List.getElem_cons_zero, List.setIfInBounds_toArray, List.set_cons_zero, List.set_cons_succ]
      refine wpAnyH_take (i := 3) (v := ?_) rfl (by kernel_rfl) (by kernel_rfl) (by kernel_rfl) (fun _ _ _ h => h) (Or.inl ⟨by rfl, ?_⟩) (by assumption) ?_
      rotate_left
      · (intro w hSw; (try dsimp only at hSw); go_simp; (try with_reducible rfl))
      try simp only [Act.put, List.getElem_toArray, List.getElem_cons_succ, List.getElem_cons_zero, List.setIfInBounds_toArray, List.set_cons_zero, List.set_cons_succ]
      refine wpAnyH_take (i := 5) (v := ?_) rfl (by kernel_rfl) (by kernel_rfl) (by kernel_rfl) (fun _ _ _ h => h) (Or.inl ⟨by rfl, ?_⟩) (by assumption) ?_
      rotate_left
      · (intro w hSw; (try dsimp only at hSw); go_simp; (try with_reducible rfl))
      try simp only [Act.put, List.getElem_toArray, List.getElem_cons_succ, List.getElem_cons_zero, List.setIfInBounds_toArray, List.set_cons_zero, List.set_cons_succ]
      refine wpAnyH_take (i := 6) (v := ?_) rfl (by kernel_rfl) (by kernel_rfl) (by kernel_rfl) (fun _ _ _ h => h) (Or.inl ⟨by rfl, ?_⟩) (by assumption) ?_
      rotate_left
      · (intro w hSw; (try dsimp only at hSw); go_simp; (try with_reducible rfl))
      try simp only [Act.put, List.getElem_toArray, List.getElem_cons_succ, List.getElem_cons_zero, List.setIfInBounds_toArray, List.set_cons_zero, List.set_cons_succ]
      refine wpAnyH_take (i := 7) (v := ?_) rfl (by kernel_rfl) (by kernel_rfl) (by kernel_rfl) (fun _ _ _ h => h) (Or.inl ⟨by rfl, ?_⟩) (by assumption) ?_
      rotate_left
      · (intro w hSw; (try dsimp only at hSw); go_simp; (try with_reducible rfl))
      try simp only [Act.put, List.getElem_toArray, List.getElem_cons_succ, List.getElem_cons_zero, List.setIfInBounds_toArray, List.set_cons_zero, List.set_cons_succ]
      refine wpAnyH_take (i := 8) (v := ?_) rfl (by kernel_rfl) (by kernel_rfl) (by kernel_rfl) (fun _ _ _ h => h) (Or.inl ⟨by rfl, ?_⟩) (by assumption) ?_
      rotate_left
      · (intro w hSw; (try dsimp only at hSw); go_simp; (try with_reducible rfl))
      try simp only [Act.put, List.getElem_toArray, List.getElem_cons_succ, List.getElem_cons_zero, List.setIfInBounds_toArray, List.set_cons_zero, List.set_cons_succ]
      refine wpAnyH_take (i := 9) (v := ?_) rfl (by kernel_rfl) (by kernel_rfl) (by kernel_rfl) (fun _ _ _ h => h) (Or.inl ⟨by rfl, ?_⟩) (by assumption) ?_
      rotate_left
      · (intro w hSw; (try dsimp only at hSw); go_simp; (try with_reducible rfl))
      try simp only [Act.put, List.getElem_toArray, List.getElem_cons_succ, List.getElem_cons_zero, List.setIfInBounds_toArray, List.set_cons_zero, List.set_cons_succ]
      refine wpAnyH_take (i := 10) (v := ?_) rfl (by kernel_rfl) (by kernel_rfl) (by kernel_rfl) (fun _ _ _ h => h) (Or.inl ⟨by rfl, ?_⟩) (by assumption) ?_
      rotate_left
      · (intro w hSw; (try dsimp only at hSw); go_simp; (try with_reducible rfl))
      try simp only [Act.put, List.getElem_toArray, List.getElem_cons_succ, List.getElem_cons_zero, List.setIfInBounds_toArray, List.set_cons_zero, List.set_cons_succ]
      refine wpAnyH_take (i := 11) (v := ?_) rfl (by kernel_rfl) (by kernel_rfl) (by kernel_rfl) (fun _ _ _ h => h) (Or.inl ⟨by rfl, ?_⟩) (by assumption) ?_
      rotate_left
      · (intro w hSw; (try dsimp only at hSw); go_simp; (try with_reducible rfl))
      try simp only [Act.put, List.getElem_toArray, List.getElem_cons_succ, List.getElem_cons_zero, List.setIfInBounds_toArray, List.set_cons_zero, List.set_cons_succ]
      refine wpAnyH_ready (rs := [2]) (by kernel_rfl) (by simp) ?_
      refine (AllReadyH.cons rfl (fun K hK => ?_) AllReadyH.nil)
      go_simp
      refine hK.out _ _ ⟨q0, q1, q2, q3⟩ (fun hHeld => ?_)
      clear hK K
      try simp only [Act.put, List.getElem_toArray, List.getElem_cons_succ, List.getElem_cons_zero, List.setIfInBounds_toArray, List.set_cons_zero, List.set_cons_succ]
      refine wpAnyH_ready (rs := [4]) (by kernel_rfl) (by simp) ?_
      refine (AllReadyH.cons rfl (fun K hK => ?_) AllReadyH.nil)
      go_simp
      refine (HPR.out _ (by exact HI.out.below (Below.refl _ _).drew) (by exact HXI.out.below (Below.refl _ _).drew)).mono ?_
      rintro e w2 ⟨hb2, v2, rfl, hI2⟩
      obtain ⟨s2, sv2, rfl, hs2, hn2⟩ := hI2
      obtain ⟨o2, k2, c2, rfl⟩ := hn2.form
      have hR2 : Below wr.heap.size wr w2 := (Below.refl _ _).drew.trans hb2
      have p0 := belowCell hR2 q0
      have p1 := belowCell hR2 q1
      have p2 := belowCell hR2 q2
      have p3 := belowCell hR2 q3
      have HI2 : Kept (IntV 625 w2 (.agg #[.bool s2, .slice o2 k2 c2]) (h * q)) := ⟨⟨_, _, rfl, hs2, hn2⟩⟩
      have HCI2 := Kept.mk (HCI.out.below hR2)
      have HR2 := Kept.mk hR2
      clear hb2 hR2 hs2 hn2
      refine hK.out _ _ ⟨p0, p1, p2, p3⟩ (fun hHeld => ?_)
      clear hK K
      try simp only [Act.put, List.getElem_toArray, List.getElem_cons_succ, List.getElem_cons_zero, List.setIfInBounds_toArray, List.set_cons_zero, List.set_cons_succ]
      refine wpAnyH_ready (rs := [12]) (by kernel_rfl) (by simp) ?_
      refine (AllReadyH.cons rfl (fun K hK => ?_) AllReadyH.nil)
      go_simp
      refine (HSU.out _ HI2.out HCI2.out).mono ?_
      rintro e w3 ⟨hb3, v3, rfl, hI3⟩
      obtain ⟨s3, sv3, rfl, hs3, hn3⟩ := hI3
      obtain ⟨o3, k3, c3, rfl⟩ := hn3.form
      have hR3 : Below wr.heap.size wr w3 := HR2.out.trans (hb3.mono HR2.out.size)
      have r0 := belowCell hR3 q0
      have r1 := belowCell hR3 q1
      have r2 := belowCell hR3 q2
      have r3 := belowCell hR3 q3
      have HI3 : Kept (IntV 625 w3 (.agg #[.bool s3, .slice o3 k3 c3]) h2) := ⟨⟨_, _, rfl, hs3, hn3⟩⟩
      have hx3 := (hR3.block _ (by omega)).trans hbx7
      obtain ⟨t0, t1, y0, y1⟩ := two_cells hx3
      have hl3 : w.heap.size + 2 < w3.heap.size := (Array.getElem?_eq_some_iff.1 hx3).1
      have hset := two_set hx3 (.bool s3) (.slice o3 k3 c3)
      have hgr : w3.grownBy ((w3.setCell ⟨w.heap.size + 2, 0, none⟩ (.bool s3)).setCell ⟨w.heap.size + 2, 1, none⟩ (.slice o3 k3 c3)) (some (w.heap.size + 2)) := growSet (growSet (growRefl _ _) _ _) _ _
      have u0 := (hgr.cell (a := ⟨w.heap.size, 0, none⟩) r0 (by simp))
      have u1 := (hgr.cell (a := ⟨w.heap.size, 1, none⟩) r1 (by simp))
      have u2 := (hgr.cell (a := ⟨g, j * 2, none⟩) r2 (by simp; omega))
      have u3 := (hgr.cell (a := ⟨g, j * 2 + 1, none⟩) r3 (by simp; omega))
      have HI4 := Kept.mk (HI3.out.keep hx3 (fun i m e => by rcases i with _ | _ | i <;> simp at e) hgr)
      have HB4 := Kept.mk (show Below w.heap.size w _ from (((HBW.out.trans (hR3.mono (by omega))).setCell (p := ⟨w.heap.size + 2, 0, none⟩) (by simp) (.bool s3)).setCell (p := ⟨w.heap.size + 2, 1, none⟩) (by simp) (.slice o3 k3 c3)))
      have HST := Kept.mk hset
      have HBX6 := Kept.mk ((hgr.block _ (by omega) (by simp)).trans ((hR3.block _ (by omega)).trans hb6.out))
      have HBX4 := Kept.mk ((hgr.block _ (by omega) (by simp)).trans ((hR3.block _ (by omega)).trans hbx5))
      clear hb3 hR3 hs3 hn3 hset hgr
      refine hK.out _ _ ⟨r0, r1, r2, r3⟩ (fun hHeld => ?_)
      clear hK K
      try simp only [Act.put, List.getElem_toArray, List.getElem_cons_succ, List.getElem_cons_zero, List.setIfInBounds_toArray, List.set_cons_zero, List.set_cons_succ]
      refine wpAnyH_ready (rs := [13]) (by kernel_rfl) (by simp) ?_
      refine (AllReadyH.cons rfl (fun K hK => ?_) AllReadyH.nil)
      go_simp
      refine hK.out _ _ ⟨u0, u1, u2, u3⟩ (fun hHeld => ?_)
      clear hK K
      try simp only [Act.put, List.getElem_toArray, List.getElem_cons_succ, List.getElem_cons_zero, List.setIfInBounds_toArray, List.set_cons_zero, List.set_cons_succ]
      refine wpAnyH_done (by kernel_rfl) ?_ _
      all_goals
        (go_wp2
         go_roundw
         case rel => exact ⟨i + 1, s3, o3, k3, c3, by omega, by go_num, HB4, HBX4, HBX6, HST, by rw [HH2.out]; exact HI4⟩
         case measure => simp [intOf] <;> omega)
    · obtain rfl : i = N := by omega
      have hj1 : (i : Int) - 1 - i = -1 := by omega
      rw [hj1]
      have h6 := hb6.out
      obtain ⟨m0, m1, _⟩ := two_cells hbx7
      obtain ⟨n0, n1, y0, y1⟩ := two_cells h6
      have hset := two_set h6 (.bool s) (.slice ro rk rc)
      have hgr : wr.grownBy ((wr.setCell ⟨w.heap.size + 1, 0, none⟩ (.bool s)).setCell ⟨w.heap.size + 1, 1, none⟩ (.slice ro rk rc)) (some (w.heap.size + 1)) := growSet (growSet (growRefl _ _) _ _) _ _
      have HI2 := Kept.mk (hI.out.keep h6 (fun i m e => by rcases i with _ | _ | i <;> simp at e) hgr)
      have HB2 := Kept.mk ((hbw.out.setCell (p := ⟨w.heap.size + 1, 0, none⟩) (by simp) (.bool s)).setCell (p := ⟨w.heap.size + 1, 1, none⟩) (by simp) (.slice ro rk rc))
      obtain ⟨q0, q1, _⟩ := two_cells hset
      clear hset hgr
      go_wp2
      exact bodyPost_ret (v := .agg #[.bool s, .slice ro rk rc]) (by simp [results, Tryz.results20, go_sem, q0, q1]) rfl ⟨HB2.out, _, rfl, HI2.out⟩
end Go.Proofs.YtfhhnfpapgfnmaaGreat

set_option linter.unusedVariables false
set_option linter.unusedSimpArgs false
namespace Go.Proofs.YtfhhnfpapgfnmaaGreat
open Go Go.RowKit
open FFld (ints)
/-- The call returns the digits of n in a slice of its own. -/
def DigRet (p n : Nat) (w : World) (e : Ending) (w' : World) : Prop := Below w.heap.size w w' ∧ ∃ v l, e = .returned v ∧ Mine 3 .i64 w.heap.size w' v (ints l) ∧ FFld.Digs p n l
set_option maxRecDepth 20000 in
set_option maxHeartbeats 1000000 in
theorem rdigits_any (n p : Nat) (w : World) (hp : 2 ≤ p) (hp1 : p ≤ 65536) (hn : n < 1099511627776) :
    Calls Tryz.prog 45 #[.int .i64 n, .int .i64 p] w (DigRet p n w) := by
  go_enter Tryz.func45, Tryz.ntmps45
  go_wp2
  go_loopw [0, 5] (fun c o wr => ∃ (cur : Nat) (l : List Nat), c = .int .i64 cur ∧ cur ≤ n ∧ l.length ≤ 41 ∧ Kept (FFld.DgAt p n l cur) ∧ Kept (Mine 3 .i64 w.heap.size wr o (ints l)) ∧ Kept (Below w.heap.size w wr)) (fun c _ _ => (intOf c).toNat)
  case atStart => exact ⟨n, [], rfl, by omega, by simp, ⟨FFld.DgAt.start p n⟩, ⟨Mine.nil _ _ _ _⟩, ⟨Below.refl _ _⟩⟩
  case round =>
    obtain ⟨cur, l, rfl, hc, hl, hat, hm, hbl⟩ := hrel
    by_cases h0 : 0 < cur
    · have hlen : l.length ≤ 40 := FFld.len_of_pow (hat.out.len hp h0) (Nat.le_of_lt hn)
      have HNX := Kept.mk (hat.out.next hp h0)
      obtain ⟨d, hd⟩ : ∃ d, cur % p = d := ⟨_, rfl⟩
      obtain ⟨q, hq⟩ : ∃ q, cur / p = q := ⟨_, rfl⟩
      have hql : q < cur := by rw [← hq]; exact Nat.div_lt_self h0 hp
      have hdz : (cur : Int) % p = (d : Int) := by rw [← hd]; rfl
      have hqz : (cur : Int) / p = (q : Int) := by rw [← hq]; rfl
      rw [hd, hq] at HNX
      clear hd hq
      have HMa := Lib.hid (hm.out.alloc (.cells #[.int .i64 d] 3))
      have HNW := Lib.hid (new_one (K := .i64) (x := (d : Int)) (w := wr.alloc (.cells #[.int .i64 d] 3)) (b := wr.heap.size) (o := 0) (by exact (Row.new (E := 3) (K := .i64) wr [(d : Int)]).cell (i := 0) (by simp)))
      have HBB := Lib.hid (show w.heap.size ≤ (wr.alloc (.cells #[.int .i64 d] 3)).heap.size by have := hbl.out.size; simp; omega)
      have H1 := Lib.hid (show ((ints l).length + [(d : Int)].length) * 8 ≤ 140737488355328 by rw [FFld.ints_len]; simp; omega)
      have H2 := Lib.hid (show (ints l).length + [(d : Int)].length ≤ maxLen by rw [FFld.ints_len]; unfold maxLen; simp; omega)
      have hOwn := Kept.mk hm.out.own
      go_wp2_with (at_builtin; refine wpList_append_mine _ rfl _ _ 35 rfl 3 .i64 8 Tryz.underlying35 info_i64 w.heap.size _ (ints l) rfl HMa.out HBB.out ⟨wr.heap.size, 0, none⟩ 1 1 [(d : Int)] rfl rfl HNW.out H1.out H2.out ?_)
      intro v' w5 hm5 hg5 hn5
      have HM5 := Kept.mk hm5
      have HB5 := Kept.mk (hbl.out.grown (growTrans (World.grownBy_alloc wr (.cells #[.int .i64 d] 3) _) hg5) hbl.out.size (fun j hj => (hOwn.out j hj).1))
      clear hm5 hg5 hn5
      go_wp2
      go_roundw
      case rel => exact ⟨q, l ++ [d], rfl, by omega, by simp; omega, HNX, by rw [FFld.ints_append]; exact HM5, HB5⟩
      case measure => simp [intOf] <;> omega
    · have : cur = 0 := by omega
      subst this
      go_wp2
      go_ret
      exact ⟨hbl.out, _, _, rfl, hm.out, hat.out.done⟩
set_option maxRecDepth 20000 in
set_option maxHeartbeats 1000000 in
theorem rnumber_any (v : Value) (l : List Nat) (p : Nat) (w : World) (hs : Sl .i64 w v (ints l)) (hlt : ∀ c ∈ l, c < p) (hp : 2 ≤ p) (hp1 : p ≤ 65536) (hb : p ^ l.length ≤ 1099511627776) :
    Calls Tryz.prog 46 #[v, .int .i64 p] w (fun e w' => w = w' ∧ e = .returned (.int .i64 (FFld.num p l : Nat))) := by
  obtain ⟨ao, cap, rfl, hcap, hmax, hcell⟩ := hs
  rw [FFld.ints_len] at hcap hcell
  rw [FFld.ints_len]
  have hll : l.length ≤ 40 := FFld.len_of_pow (Nat.pow_le_pow_left hp _) hb
  have HC := Kept.mk hcell
  have HL := Kept.mk hlt
  have HB := Kept.mk hb
  clear hcell hlt hb hmax
  go_enter Tryz.func46, Tryz.ntmps46
  go_wp2
  go_loopw [5, 6] (fun nv iv wr => ∃ (i : Nat) (z : Int) (m : Nat), i ≤ l.length ∧ iv = .int .i64 z ∧ Hid (z + 1 = i) ∧ nv = .int .i64 m ∧ Kept (m = FFld.num p (l.drop i)) ∧ w = wr) (fun _ iv _ => (intOf iv + 1).toNat)
  case atStart => exact ⟨l.length, (l.length : Int) - 1, 0, Nat.le_refl _, rfl, by show (_ : Int) - 1 + 1 = _; omega, rfl, ⟨by simp [FFld.num]⟩, rfl⟩
  case round =>
    obtain ⟨i, z, m, hi, rfl, hz, rfl, hm, rfl⟩ := hrel
    by_cases h0 : 0 < i
    · obtain ⟨i, rfl⟩ : ∃ j, i = j + 1 := ⟨i - 1, by omega⟩
      obtain rfl : z = (i : Int) := by have := hz.out; omega
      clear hz
      obtain ⟨b, o, rfl, hbs, hcl⟩ := HC.out i (by omega)
      rw [FFld.ints_get] at hcl
      have HN := FFld.num_drop (p := p) (l := l) (i := i) (by omega)
      have hlt2 : FFld.num p (l.drop i) < 1099511627776 := by
        refine Nat.lt_of_lt_of_le (FFld.num_drop_lt (by omega) HL.out i) (Nat.le_trans (Nat.pow_le_pow_right (by omega) (by omega)) HB.out)
      rw [← hm.out] at HN
      obtain ⟨d, hd⟩ : ∃ d, l[i]?.getD 0 = d := ⟨_, rfl⟩
      obtain ⟨m', hm'⟩ : ∃ m', FFld.num p (l.drop i) = m' := ⟨_, rfl⟩
      rw [hd] at hcl HN
      rw [hm'] at HN hlt2
      have hmp0 : (0 : Int) ≤ (m : Int) * p := imul_nn (by omega) (by omega)
      have e1 : (m' : Int) = d + (m : Int) * p := by rw [HN, Nat.mul_comm]; simp
      have HM' := Kept.mk hm'.symm
      have e2 : wrap64 ((m : Int) * p) = (m : Int) * p := w64 (by omega) (by omega)
      have e4 : (m : Int) * p + d = m' := by omega
      have e3 : Kept (wrap64 ((m : Int) * p + d) = m') := ⟨by rw [e4]; exact w64 (by omega) (by omega)⟩
      clear e4
      clear hd hm' HN
      clear e1 hmp0
      go_wp2
      go_roundw
      case rel => exact ⟨i, (i : Int) - 1, m', by omega, by go_num, by show (_ : Int) - 1 + 1 = _; omega, congrArg (Value.int .i64) e3.out, HM', trivial⟩
      case measure => simp [intOf] <;> omega
    · have : i = 0 := by omega
      subst this
      obtain rfl : z = -1 := by have := hz.out; omega
      have hme := hm.out
      rw [List.drop_zero] at hme
      clear hz hm
      go_wp2
      go_ret
      exact ⟨rfl, by rw [hme]; rfl⟩
end Go.Proofs.YtfhhnfpapgfnmaaGreat

set_option linter.unusedVariables false
set_option linter.unusedSimpArgs false
namespace Go.Proofs.YtfhhnfpapgfnmaaGreat
open Go Go.RowKit
open FFld (ints)
/-- The cells of a slice of numbers, in every later world. -/
def Cells (B : Nat) (ao : Option Addr) (l : List Nat) (w : World) : Prop := ∀ w', Below B w w' → ∀ i, i < l.length → ∃ b o, ao = some ⟨b, o, none⟩ ∧ w'.cell? ⟨b, o + i, none⟩ = some (.int .i64 ((l[i]?.getD 0 : Nat) : Int))
theorem Sl.cells {w : World} {ao : Option Addr} {k cap B : Nat} {l : List Nat} (h : Sl .i64 w (.slice ao k cap) (ints l)) (hB : w.heap.size ≤ B) : Cells B ao l w := by
  obtain ⟨ao', cap', e, hc, hm, hx⟩ := h
  simp only [Value.slice.injEq] at e
  obtain ⟨rfl, e2, rfl⟩ := e
  intro w' hb i hi
  obtain ⟨b, o, e, hl, hcell⟩ := hx i (by rw [FFld.ints_len]; exact hi)
  rw [FFld.ints_get] at hcell
  exact ⟨b, o, e, (hb.cell (p := ⟨b, o + i, none⟩) (Nat.lt_of_lt_of_le hl hB)).trans hcell⟩
theorem Sl.form {w : World} {v : Value} {xs : List Int} (h : Sl .i64 w v xs) : ∃ ao cap, v = .slice ao xs.length cap ∧ xs.length ≤ cap ∧ cap ≤ maxLen := by
  obtain ⟨ao', cap', e, hc, hm, hx⟩ := h
  exact ⟨ao', cap', e, hc, hm⟩
/-- The call returns a number c with P c. -/
def RN (w : World) (P : Nat → Prop) (e : Ending) (w' : World) : Prop := Below w.heap.size w w' ∧ ∃ c : Nat, e = .returned (.int .i64 c) ∧ P c
end Go.Proofs.YtfhhnfpapgfnmaaGreat

set_option linter.unusedVariables false
set_option linter.unusedSimpArgs false
namespace Go.Proofs.YtfhhnfpapgfnmaaGreat
open Go Go.RowKit
open FFld (ints)
set_option maxRecDepth 20000 in
set_option maxHeartbeats 1000000 in
theorem fdigits_any (n p : Nat) (w : World) (hp : 2 ≤ p) (hp1 : p ≤ 65536) (hn : n < 1099511627776) :
    Calls Tryz.prog 78 #[.int .i64 n, .int .i64 p] w (DigRet p n w) := by
  go_enter Tryz.func78, Tryz.ntmps78
  go_wp2
  go_loopw [0, 5] (fun c o wr => ∃ (cur : Nat) (l : List Nat), c = .int .i64 cur ∧ cur ≤ n ∧ l.length ≤ 41 ∧ Kept (FFld.DgAt p n l cur) ∧ Kept (Mine 3 .i64 w.heap.size wr o (ints l)) ∧ Kept (Below w.heap.size w wr)) (fun c _ _ => (intOf c).toNat)
  case atStart => exact ⟨n, [], rfl, by omega, by simp, ⟨FFld.DgAt.start p n⟩, ⟨Mine.nil _ _ _ _⟩, ⟨Below.refl _ _⟩⟩
  case round =>
    obtain ⟨cur, l, rfl, hc, hl, hat, hm, hbl⟩ := hrel
    by_cases h0 : 0 < cur
    · have hlen : l.length ≤ 40 := FFld.len_of_pow (hat.out.len hp h0) (Nat.le_of_lt hn)
      have HNX := Kept.mk (hat.out.next hp h0)
      obtain ⟨d, hd⟩ : ∃ d, cur % p = d := ⟨_, rfl⟩
      obtain ⟨q, hq⟩ : ∃ q, cur / p = q := ⟨_, rfl⟩
      have hql : q < cur := by rw [← hq]; exact Nat.div_lt_self h0 hp
      have hdz : (cur : Int) % p = (d : Int) := by rw [← hd]; rfl
      have hqz : (cur : Int) / p = (q : Int) := by rw [← hq]; rfl
      rw [hd, hq] at HNX
      clear hd hq
      have HMa := Lib.hid (hm.out.alloc (.cells #[.int .i64 d] 3))
      have HNW := Lib.hid (new_one (K := .i64) (x := (d : Int)) (w := wr.alloc (.cells #[.int .i64 d] 3)) (b := wr.heap.size) (o := 0) (by exact (Row.new (E := 3) (K := .i64) wr [(d : Int)]).cell (i := 0) (by simp)))
      have HBB := Lib.hid (show w.heap.size ≤ (wr.alloc (.cells #[.int .i64 d] 3)).heap.size by have := hbl.out.size; simp; omega)
      have H1 := Lib.hid (show ((ints l).length + [(d : Int)].length) * 8 ≤ 140737488355328 by rw [FFld.ints_len]; simp; omega)
      have H2 := Lib.hid (show (ints l).length + [(d : Int)].length ≤ maxLen by rw [FFld.ints_len]; unfold maxLen; simp; omega)
      have hOwn := Kept.mk hm.out.own
      go_wp2_with (at_builtin; refine wpList_append_mine _ rfl _ _ 35 rfl 3 .i64 8 Tryz.underlying35 info_i64 w.heap.size _ (ints l) rfl HMa.out HBB.out ⟨wr.heap.size, 0, none⟩ 1 1 [(d : Int)] rfl rfl HNW.out H1.out H2.out ?_)
      intro v' w5 hm5 hg5 hn5
      have HM5 := Kept.mk hm5
      have HB5 := Kept.mk (hbl.out.grown (growTrans (World.grownBy_alloc wr (.cells #[.int .i64 d] 3) _) hg5) hbl.out.size (fun j hj => (hOwn.out j hj).1))
      clear hm5 hg5 hn5
      go_wp2
      go_roundw
      case rel => exact ⟨q, l ++ [d], rfl, by omega, by simp; omega, HNX, by rw [FFld.ints_append]; exact HM5, HB5⟩
      case measure => simp [intOf] <;> omega
    · have : cur = 0 := by omega
      subst this
      go_wp2
      go_ret
      exact ⟨hbl.out, _, _, rfl, hm.out, hat.out.done⟩
/-- The call returns the primes that divide n in a slice of its own. -/
def PfRet (n : Nat) (w : World) (e : Ending) (w' : World) : Prop := Below w.heap.size w w' ∧ ∃ v l, e = .returned v ∧ Mine 3 .i64 w.heap.size w' v (ints l) ∧ FFld.Facs n l
set_option maxRecDepth 20000 in
set_option maxHeartbeats 2000000 in
theorem factors_any (n0 : Nat) (w : World) (hn0 : 1 ≤ n0) (hn6 : n0 ≤ 65536) :
    Calls Tryz.prog 39 #[.int .i64 n0] w (PfRet n0 w) := by
  go_enter Tryz.func39, Tryz.ntmps39
  go_wp2
  go_loopw [0, 3, 4] (fun nv fv dv wr => ∃ (n d : Nat) (l : List Nat), n ≤ 65536 ∧ 2 ≤ d ∧ d ≤ 257 ∧ nv = .int .i64 n ∧ dv = .int .i64 d ∧ l.length ≤ 256 ∧ Kept (FFld.PfAt n0 d n l) ∧ Kept (Mine 3 .i64 w.heap.size wr fv (ints l)) ∧ Kept (Below w.heap.size w wr)) (fun _ _ dv _ => 258 - (intOf dv).toNat)
  case atStart => exact ⟨n0, 2, [], hn6, Nat.le_refl _, by omega, rfl, rfl, by simp, ⟨FFld.PfAt.start hn0⟩, ⟨Mine.nil _ _ _ _⟩, ⟨Below.refl _ _⟩⟩
  case round =>
    obtain ⟨n, d, l, hn6, hd2, hd7, rfl, rfl, hll, hat, hm, hbl⟩ := hrel
    obtain ⟨dd, hdd⟩ : ∃ dd, d * d = dd := ⟨_, rfl⟩
    have hddl : dd ≤ 66049 := by rw [← hdd]; exact nmul_le (A := 257) (B := 257) hd7 hd7
    have edd : wrap64 ((d : Int) * d) = dd := wmul hdd (by omega)
    by_cases hle : dd ≤ n
    · have hd6 : d ≤ 256 := by
        rcases Nat.lt_or_ge 256 d with h | h
        · have := nmul_le (A := d) (B := d) (a := 257) (b := 257) h h
          omega
        · exact h
      obtain ⟨s, hs⟩ : ∃ s, n % d = s := ⟨_, rfl⟩
      have es : (n : Int) % d = s := by rw [← hs]; rfl
      by_cases hs0 : s = 0
      · subst hs0
        have hdv : d ∣ n := Nat.dvd_of_mod_eq_zero hs
        have HPG := Kept.mk (hat.out.put hd2 hdv)
        have ez : (((0 : Nat) : Int) == 0) = true := rfl
        have hl9 : l.length ≤ 255 := by have := hat.out.len; omega
        clear hs hdv hdd
        have HMa := Lib.hid (hm.out.alloc (.cells #[.int .i64 d] 3))
        have HNW := Lib.hid (new_one (K := .i64) (x := (d : Int)) (w := wr.alloc (.cells #[.int .i64 d] 3)) (b := wr.heap.size) (o := 0) (by exact (Row.new (E := 3) (K := .i64) wr [(d : Int)]).cell (i := 0) (by simp)))
        have HBB := Lib.hid (show w.heap.size ≤ (wr.alloc (.cells #[.int .i64 d] 3)).heap.size by have := hbl.out.size; simp; omega)
        have H1 := Lib.hid (show ((ints l).length + [(d : Int)].length) * 8 ≤ 140737488355328 by rw [FFld.ints_len]; simp; omega)
        have H2 := Lib.hid (show (ints l).length + [(d : Int)].length ≤ maxLen by rw [FFld.ints_len]; unfold maxLen; simp; omega)
        have hOwn := Kept.mk hm.out.own
        go_wp2_with (at_builtin; refine wpList_append_mine _ rfl _ _ 35 rfl 3 .i64 8 Tryz.underlying35 info_i64 w.heap.size _ (ints l) rfl HMa.out HBB.out ⟨wr.heap.size, 0, none⟩ 1 1 [(d : Int)] rfl rfl HNW.out H1.out H2.out ?_)
        intro v' w5 hm5 hg5 hn5
        have HM5 := Kept.mk hm5
        have HB5 := Kept.mk (hbl.out.grown (growTrans (World.grownBy_alloc wr (.cells #[.int .i64 d] 3) _) hg5) hbl.out.size (fun j hj => (hOwn.out j hj).1))
        clear hm5 hg5 hn5
        go_wp2
        go_loopw [0] (fun nv wr' => ∃ (n' : Nat), n' ≤ n ∧ nv = .int .i64 n' ∧ Kept (FFld.PgAt n0 d n' (l ++ [d])) ∧ w5 = wr') (fun nv _ => (intOf nv).toNat)
        case atStart => exact ⟨n, Nat.le_refl _, rfl, HPG, rfl⟩
        case round =>
          obtain ⟨n', hn', rfl, hpg, rfl⟩ := hrel
          obtain ⟨t, ht⟩ : ∃ t, n' % d = t := ⟨_, rfl⟩
          have et : (n' : Int) % d = t := by rw [← ht]; rfl
          by_cases ht0 : t = 0
          · subst ht0
            obtain ⟨q, hq⟩ : ∃ q, n' / d = q := ⟨_, rfl⟩
            have eq : (n' : Int) / d = q := by rw [← hq]; rfl
            have hlt : q < n' := by rw [← hq]; exact Nat.div_lt_self hpg.out.n1 hd2
            have HPN := Kept.mk (hpg.out.next hd2 (Nat.dvd_of_mod_eq_zero ht))
            rw [hq] at HPN
            have ez2 : (((0 : Nat) : Int) == 0) = true := rfl
            clear ht hq
            go_wp2
            go_roundw
            case rel => exact ⟨q, by omega, rfl, HPN, trivial⟩
            case measure => simp [intOf] <;> omega
          · have HPD := Kept.mk (hpg.out.done (fun h => ht0 (by rw [← ht]; exact Nat.mod_eq_zero_of_dvd h)))
            have ez2 : ((t : Int) == 0) = false := by rw [beq_eq_false_iff_ne]; omega
            clear ht ht0
            go_wp2
            go_roundw
            case rel => exact ⟨n', d + 1, l ++ [d], by omega, by omega, by omega, rfl, by go_num, by simp; omega, HPD, ⟨by rw [FFld.ints_append]; exact HM5.out⟩, HB5⟩
            case measure => simp [intOf] <;> omega
      · have ez : ((s : Int) == 0) = false := by rw [beq_eq_false_iff_ne]; omega
        have HPG := Kept.mk (hat.out.skip (fun h => hs0 (by rw [← hs]; exact Nat.mod_eq_zero_of_dvd h)))
        have hl9 : l.length ≤ 255 := by have := hat.out.len; omega
        clear hs hs0 hdd
        go_wp2
        go_loopw [0] (fun nv wr' => ∃ (n' : Nat), n' ≤ n ∧ nv = .int .i64 n' ∧ Kept (FFld.PgAt n0 d n' (l)) ∧ wr = wr') (fun nv _ => (intOf nv).toNat)
        case atStart => exact ⟨n, Nat.le_refl _, rfl, HPG, rfl⟩
        case round =>
          obtain ⟨n', hn', rfl, hpg, rfl⟩ := hrel
          obtain ⟨t, ht⟩ : ∃ t, n' % d = t := ⟨_, rfl⟩
          have et : (n' : Int) % d = t := by rw [← ht]; rfl
          by_cases ht0 : t = 0
          · subst ht0
            obtain ⟨q, hq⟩ : ∃ q, n' / d = q := ⟨_, rfl⟩
            have eq : (n' : Int) / d = q := by rw [← hq]; rfl
            have hlt : q < n' := by rw [← hq]; exact Nat.div_lt_self hpg.out.n1 hd2
            have HPN := Kept.mk (hpg.out.next hd2 (Nat.dvd_of_mod_eq_zero ht))
            rw [hq] at HPN
            have ez2 : (((0 : Nat) : Int) == 0) = true := rfl
            clear ht hq
            go_wp2
            go_roundw
            case rel => exact ⟨q, by omega, rfl, HPN, trivial⟩
            case measure => simp [intOf] <;> omega
          · have HPD := Kept.mk (hpg.out.done (fun h => ht0 (by rw [← ht]; exact Nat.mod_eq_zero_of_dvd h)))
            have ez2 : ((t : Int) == 0) = false := by rw [beq_eq_false_iff_ne]; omega
            clear ht ht0
            go_wp2
            go_roundw
            case rel => exact ⟨n', d + 1, l, by omega, by omega, by omega, rfl, by go_num, by omega, HPD, hm, hbl⟩
            case measure => simp [intOf] <;> omega
    · have hlt : n < d * d := by omega
      by_cases hn1 : 1 < n
      · have HF := Kept.mk (hat.out.last hd2 hlt hn1 (by omega))
        clear hlt hdd
        have HMa := Lib.hid (hm.out.alloc (.cells #[.int .i64 n] 3))
        have HNW := Lib.hid (new_one (K := .i64) (x := (n : Int)) (w := wr.alloc (.cells #[.int .i64 n] 3)) (b := wr.heap.size) (o := 0) (by exact (Row.new (E := 3) (K := .i64) wr [(n : Int)]).cell (i := 0) (by simp)))
        have HBB := Lib.hid (show w.heap.size ≤ (wr.alloc (.cells #[.int .i64 n] 3)).heap.size by have := hbl.out.size; simp; omega)
        have H1 := Lib.hid (show ((ints l).length + [(n : Int)].length) * 8 ≤ 140737488355328 by rw [FFld.ints_len]; simp; omega)
        have H2 := Lib.hid (show (ints l).length + [(n : Int)].length ≤ maxLen by rw [FFld.ints_len]; unfold maxLen; simp; omega)
        have hOwn := Kept.mk hm.out.own
        go_wp2_with (at_builtin; refine wpList_append_mine _ rfl _ _ 35 rfl 3 .i64 8 Tryz.underlying35 info_i64 w.heap.size _ (ints l) rfl HMa.out HBB.out ⟨wr.heap.size, 0, none⟩ 1 1 [(n : Int)] rfl rfl HNW.out H1.out H2.out ?_)
        intro v' w5 hm5 hg5 hn5
        have HM5 := Kept.mk hm5
        have HB5 := Kept.mk (hbl.out.grown (growTrans (World.grownBy_alloc wr (.cells #[.int .i64 n] 3) _) hg5) hbl.out.size (fun j hj => (hOwn.out j hj).1))
        clear hm5 hg5 hn5
        go_wp2
        go_ret
        exact ⟨HB5.out, _, _, rfl, by rw [FFld.ints_append]; exact HM5.out, HF.out⟩
      · obtain rfl : n = 1 := by have := hat.out.n1; omega
        have HF := Kept.mk (hat.out.full (by omega))
        clear hlt hdd
        go_wp2
        go_ret
        exact ⟨hbl.out, _, _, rfl, hm.out, HF.out⟩
end Go.Proofs.YtfhhnfpapgfnmaaGreat

set_option linter.unusedVariables false
set_option linter.unusedSectionVars false
set_option linter.unusedSimpArgs false
namespace Go.Proofs.YtfhhnfpapgfnmaaGreat
namespace FFld
theorem ofd_split (p : Nat) (f : Nat → Nat) (j : Nat) : ∀ n, ofd p f (j + n) = ofd p f j + p ^ j * ofd p (fun i => f (i + j)) n := by
  intro n
  induction n with
  | zero => simp [ofd]
  | succ n ih =>
    rw [← Nat.add_assoc, ofd_succ, ih, ofd_succ, Nat.mul_add, Nat.add_assoc, Nat.pow_add, Nat.mul_assoc]
    congr 3
    rw [Nat.add_comm]
/-- The loop over digits ends where the second number has none: the rest of the first one is put on top. -/
theorem DlAt.top {p k j n u a : Nat} {f : Nat → Nat} (h : DlAt p f k j n u) (hp : 2 ≤ p) (ha : a < p ^ k) (hf : ∀ i, j ≤ i → f i = dig p a i) : n + a / p ^ j * u = ofd p f k := by
  have hjk := h.jk
  obtain ⟨r, rfl⟩ : ∃ r, k = j + r := ⟨k - j, by omega⟩
  rw [ofd_split, ← h.n, h.u, Nat.mul_comm]
  congr 2
  have hlt : a / p ^ j < p ^ r := by
    rw [Nat.pow_add] at ha
    exact Nat.div_lt_of_lt_mul ha
  rw [← ofd_dig (by omega) r _ hlt]
  refine ofd_congr r fun i _ => ?_
  rw [hf (i + j) (by omega)]
  unfold dig
  rw [Nat.div_div_eq_div_mul, ← Nat.pow_add, Nat.add_comm j i]
theorem pmul_fuel {p k m : Nat} (h : PK p k m) (a : Nat) : ∀ (n c : Nat), c < p ^ n → pmul p k m a (n + 1) c = pmul p k m a n c := by
  intro n
  induction n with
  | zero => intro c hc; simp at hc; subst hc; rw [pmul_zero_right h]; rfl
  | succ n ih =>
    intro c hc
    have h1 := ih (c / p) (div_lt_pow h.p0 hc)
    show padd p k (pscl p k (c % p) a) (pshf p k m (pmul p k m a (n + 1) (c / p))) = padd p k (pscl p k (c % p) a) (pshf p k m (pmul p k m a n (c / p)))
    rw [h1]
theorem pmul_step {p k m : Nat} (h : PK p k m) (a b : Nat) (hb : b < p ^ k) : pmul p k m a k b = padd p k (pscl p k (b % p) a) (pshf p k m (pmul p k m a k (b / p))) := by
  obtain ⟨n, rfl⟩ : ∃ n, k = n + 1 := ⟨k - 1, by have := h.k1; omega⟩
  have h1 := pmul_fuel h a n (b / p) (div_lt_pow h.p0 hb)
  rw [h1]
  rfl
/-- What x ^ k is, as the program has it. -/
theorem pshf_over {p k m : Nat} (h : PK p k m) (a : Nat) (ha : a < p ^ k) (h1 : p ^ k ≤ m) (h2 : m < 2 * p ^ k) :
    pshf p k m a = padd p k (a % p ^ (k - 1) * p) (pscl p k (a / p ^ (k - 1)) (pscl p k (p - 1) (m - p ^ k))) := by
  have hk := h.k1
  refine dig_ext h.p0 k _ _ (pshf_lt h _) (padd_lt h _ _) fun i hi => ?_
  rw [dig_pshf h _ _ hi, dig_padd h _ _ _ hi, dig_pscl h _ _ _ hi, neg_dig h]
  rw [dig_ofd k _ i (fun _ => Nat.mod_lt _ h.p0) hi]
  have hprv : dig p (a % p ^ (k - 1) * p) i = prv p a i := by
    cases i with
    | zero => rw [dig_zero, Nat.mul_mod_left]; rfl
    | succ i =>
      rw [dig_succ, Nat.mul_div_cancel _ h.p0]
      simp only [prv]
      unfold dig
      obtain ⟨r, hr⟩ : ∃ r, k - 1 = i + (r + 1) := ⟨k - 2 - i, by omega⟩
      rw [hr, Nat.pow_add, Nat.mod_mul_right_div_self, Nat.pow_succ', Nat.mod_mul_right_mod]
  have htop : dig p a (k - 1) = a / p ^ (k - 1) := by
    unfold dig
    refine Nat.mod_eq_of_lt (Nat.div_lt_of_lt_mul ?_)
    rw [← Nat.pow_succ, show (k - 1).succ = k from by omega]
    exact ha
  have hdm : dig p (m - p ^ k) i = dig p m i := by
    unfold dig
    obtain ⟨lo, hlo⟩ : ∃ lo, m = p ^ k + lo := ⟨m - p ^ k, by omega⟩
    obtain ⟨r, hr⟩ : ∃ r, k = i + (r + 1) := ⟨k - 1 - i, by omega⟩
    rw [hlo, Nat.add_sub_cancel_left, hr, Nat.pow_add, Nat.mul_add_div (Nat.pow_pos h.p0), Nat.pow_succ', Nat.mul_add_mod]
  rw [hprv, htop, hdm]
  generalize a / p ^ (k - 1) = x
  generalize p - dig p m i = d
  rw [Nat.mod_mul_mod, Nat.add_mod_mod, Nat.mul_comm]
theorem last_eq {p k : Nat} (hp : 2 ≤ p) (hk : 1 ≤ k) : p ^ k / p = p ^ (k - 1) := by
  obtain ⟨n, rfl⟩ : ∃ n, k = n + 1 := ⟨k - 1, by omega⟩
  rw [Nat.pow_succ, Nat.mul_div_cancel _ (by omega)]
  rfl
/-- For p = 2 sums are exclusive ors. -/
theorem padd_xor {k m : Nat} (h : PK 2 k m) (a b : Nat) (ha : a < 2 ^ k) (hb : b < 2 ^ k) : padd 2 k a b = a ^^^ b := by
  refine dig_ext h.p0 k _ _ (padd_lt h _ _) (Nat.xor_lt_two_pow ha hb) fun i hi => ?_
  rw [dig_padd h _ _ _ hi]
  have key : ∀ x : Nat, dig 2 x i = (x.testBit i).toNat := fun x => by
    unfold dig
    rw [Nat.testBit_eq_decide_div_mod_eq]
    have := Nat.mod_two_eq_zero_or_one (x / 2 ^ i)
    rcases this with e | e <;> rw [e] <;> rfl
  rw [key, key, key, Nat.testBit_xor]
  cases a.testBit i <;> cases b.testBit i <;> rfl
end FFld
end Go.Proofs.YtfhhnfpapgfnmaaGreat

set_option linter.unusedVariables false
set_option linter.unusedSectionVars false
set_option linter.unusedSimpArgs false
namespace Go.Proofs.YtfhhnfpapgfnmaaGreat
namespace FFld
section
variable {p k m : Nat} (h : PK p k m)
include h
theorem ppow_zero (a : Nat) (ha : a < p ^ k) : ppow h a 0 = 1 := by rw [ppow_of h a 0 ha]; rfl
theorem ppow_one (a : Nat) (ha : a < p ^ k) : ppow h a 1 = a := by
  rw [ppow_of h a 1 ha]
  simp only [Rng.pow]
  rw [(rng h).one_mul]
theorem ppow_succ (a n : Nat) (ha : a < p ^ k) : ppow h a (n + 1) = pmul p k m (ppow h a n) k a := by
  rw [ppow_of h a _ ha, ppow_of h a _ ha]
  rfl
theorem ppow_add (a i j : Nat) (ha : a < p ^ k) : pmul p k m (ppow h a i) k (ppow h a j) = ppow h a (i + j) := by
  rw [ppow_of h a _ ha, ppow_of h a _ ha, ppow_of h a _ ha, (rng h).pow_add]
  rfl
theorem ppow_mul (a i n : Nat) (ha : a < p ^ k) : ppow h (ppow h a i) n = ppow h a (i * n) := by
  rw [ppow_of h a (i * n) ha, (rng h).pow_mul, ppow_of h (ppow h a i) n (ppow_lt h a i)]
  congr 2
  exact Subtype.ext (ppow_of h a i ha)
end
theorem FD.Ok.g_ne {D : FD} (h : D.Ok) : (⟨D.g, h.gq⟩ : El (D.p ^ D.k)) ≠ (FD.dom h.nzd).zero := fun e => by
  have : D.g = 0 := congrArg Subtype.val e
  have := h.g1
  omega
theorem FD.Ok.cycle {D : FD} (h : D.Ok) : ppow h.pre.pk D.g (D.p ^ D.k - 1) = 1 := by
  rw [ppow_of _ _ _ h.gq, ← dom_pow h.nzd, (h.ord _).2 (Nat.dvd_refl _)]
  rfl
theorem FD.Ok.pow_mod {D : FD} (h : D.Ok) (n : Nat) : ppow h.pre.pk D.g (n % (D.p ^ D.k - 1)) = ppow h.pre.pk D.g n := by
  have hc := h.cycle
  rw [ppow_of _ _ _ h.gq] at hc
  conv => rhs; rw [ppow_of _ _ _ h.gq, ← Nat.mod_add_div n (D.p ^ D.k - 1), (rng h.pre.pk).pow_add, (rng h.pre.pk).pow_mul, (Subtype.ext hc : (rng h.pre.pk).pow ⟨D.g, h.gq⟩ (D.p ^ D.k - 1) = (rng h.pre.pk).one), (rng h.pre.pk).one_pow, (rng h.pre.pk).mul_one]
  rw [ppow_of _ _ _ h.gq]
theorem FD.Ok.log {D : FD} (h : D.Ok) (a : Nat) (ha : a < D.p ^ D.k) (h0 : a ≠ 0) : ∃ n, n < D.p ^ D.k - 1 ∧ ppow h.pre.pk D.g n = a := by
  have hall := nzl_all h.nzd
  have hlen := nzl_len (D.p ^ D.k)
  obtain ⟨n, hn, e⟩ := (FD.dom h.nzd).exists_log hall h.g_ne (by rw [hlen]; exact h.ord) (a := ⟨a, ha⟩) (fun e => h0 (congrArg Subtype.val e))
  rw [hlen] at hn
  refine ⟨n, hn, ?_⟩
  rw [ppow_of _ _ _ h.gq, ← dom_pow h.nzd, e]
theorem FD.Ok.pow_ne {D : FD} (h : D.Ok) (n : Nat) : ppow h.pre.pk D.g n ≠ 0 := by
  rw [ppow_of _ _ _ h.gq, ← dom_pow h.nzd]
  intro e
  exact (FD.dom h.nzd).pow_ne h.g_ne n (Subtype.ext e)
theorem FD.Ok.pow_inj {D : FD} (h : D.Ok) {i j : Nat} (hi : i < D.p ^ D.k - 1) (hj : j < D.p ^ D.k - 1) (e : ppow h.pre.pk D.g i = ppow h.pre.pk D.g j) : i = j := by
  rw [ppow_of _ _ _ h.gq, ppow_of _ _ _ h.gq, ← dom_pow h.nzd, ← dom_pow h.nzd] at e
  exact (FD.dom h.nzd).pow_inj h.g_ne h.ord hi hj (Subtype.ext e)
/-- The tables of powers and logarithms. -/
structure TabOk (D : FD) (h : D.Ok) (P L : List Nat) : Prop where
  pl : P.length = D.p ^ D.k - 1
  pw : ∀ i, i < D.p ^ D.k - 1 → P[i]?.getD 0 = ppow h.pre.pk D.g i
  ll : L.length = D.p ^ D.k
  lg : ∀ a, a < D.p ^ D.k → a ≠ 0 → L[a]?.getD 0 < D.p ^ D.k - 1 ∧ ppow h.pre.pk D.g (L[a]?.getD 0) = a
theorem TabOk.product {D : FD} {h : D.Ok} {P L : List Nat} (t : TabOk D h P L) (a b : Nat) (ha : a < D.p ^ D.k) (hb : b < D.p ^ D.k) (a0 : a ≠ 0) (b0 : b ≠ 0) : ppow h.pre.pk D.g (L[a]?.getD 0 + L[b]?.getD 0) = pmul D.p D.k D.m a D.k b := by
  rw [← ppow_add h.pre.pk _ _ _ h.gq, (t.lg a ha a0).2, (t.lg b hb b0).2]
theorem TabOk.power {D : FD} {h : D.Ok} {P L : List Nat} (t : TabOk D h P L) (a n : Nat) (ha : a < D.p ^ D.k) (a0 : a ≠ 0) : ppow h.pre.pk D.g (L[a]?.getD 0 * n) = ppow h.pre.pk a n := by
  rw [← ppow_mul h.pre.pk _ _ _ h.gq, (t.lg a ha a0).2]
/-- 1 is added to the first digit alone. -/
theorem padd_one {p k m : Nat} (h : PK p k m) (t : Nat) (ht : t < p ^ k) : padd p k t 1 = if t % p = p - 1 then t + 1 - p else t + 1 := by
  have hp := h.p2
  have hk := h.k1
  have hdiv := Nat.div_add_mod t p
  have hml := Nat.mod_lt t h.p0
  have hlt : (if t % p = p - 1 then t + 1 - p else t + 1) < p ^ k := by
    split
    · omega
    · rcases Nat.lt_or_ge (t + 1) (p ^ k) with hl | hl
      · exact hl
      · exfalso
        have e : t + 1 = p ^ k := by omega
        obtain ⟨n, rfl⟩ : ∃ n, k = n + 1 := ⟨k - 1, by omega⟩
        have hm : (t + 1) % p = 0 := by rw [e, Nat.pow_succ, Nat.mul_mod_left]
        rename_i hne
        have : (t + 1) % p = t % p + 1 := by
          conv => lhs; rw [← hdiv, Nat.add_assoc, Nat.mul_add_mod]
          exact Nat.mod_eq_of_lt (by omega)
        omega
  refine dig_ext h.p0 k _ _ (padd_lt h _ _) hlt fun i hi => ?_
  rw [dig_padd h _ _ _ hi]
  cases i with
  | zero =>
    rw [dig_zero, dig_zero, dig_zero, Nat.mod_eq_of_lt (show 1 < p by omega)]
    split
    · rename_i e
      rw [e, show p - 1 + 1 = p from by omega, Nat.mod_self]
      have e1 : t + 1 - p = p * (t / p) := by omega
      rw [e1, Nat.mul_mod_right]
    · rename_i e
      rw [Nat.mod_eq_of_lt (show t % p + 1 < p by omega)]
      conv => rhs; rw [← hdiv, Nat.add_assoc, Nat.mul_add_mod]
      exact (Nat.mod_eq_of_lt (by omega)).symm
  | succ i =>
    rw [dig_succ p 1, Nat.div_eq_of_lt (show 1 < p by omega), dig_of_zero, Nat.add_zero, dig_mod, dig_succ, dig_succ]
    congr 1
    split
    · have e1 : t + 1 - p = p * (t / p) := by omega
      rw [e1, Nat.mul_div_cancel_left _ h.p0]
    · rename_i e
      conv => rhs; rw [← hdiv, Nat.add_assoc, Nat.mul_add_div h.p0, Nat.div_eq_of_lt (show t % p + 1 < p by omega), Nat.add_zero]
theorem padd_comm' (p k a b : Nat) : padd p k a b = padd p k b a := ofd_congr k fun i _ => by rw [Nat.add_comm]
/-- a + b is a times 1 + b / a. -/
theorem TabOk.sum {D : FD} {h : D.Ok} {P L : List Nat} (t : TabOk D h P L) (a b : Nat) (ha : a < D.p ^ D.k) (hb : b < D.p ^ D.k) (a0 : a ≠ 0) (b0 : b ≠ 0) :
    ∃ r, ppow h.pre.pk D.g (L[b]?.getD 0 + (D.p ^ D.k - 1) - L[a]?.getD 0) = r ∧ r < D.p ^ D.k ∧ r ≠ 0 ∧ pmul D.p D.k D.m a D.k (padd D.p D.k r 1) = padd D.p D.k a b := by
  have hpk := h.pre.pk
  obtain ⟨ha1, ha2⟩ := t.lg a ha a0
  obtain ⟨hb1, hb2⟩ := t.lg b hb b0
  refine ⟨_, rfl, ppow_lt _ _ _, h.pow_ne _, ?_⟩
  generalize L[a]?.getD 0 = la at *
  generalize L[b]?.getD 0 = lb at *
  have hr : pmul D.p D.k D.m a D.k (ppow hpk D.g (lb + (D.p ^ D.k - 1) - la)) = b := by
    rw [show pmul D.p D.k D.m a D.k (ppow hpk D.g (lb + (D.p ^ D.k - 1) - la)) = pmul D.p D.k D.m (ppow hpk D.g la) D.k (ppow hpk D.g (lb + (D.p ^ D.k - 1) - la)) from by rw [ha2]]
    rw [ppow_add hpk _ _ _ h.gq, ← h.pow_mod, show la + (lb + (D.p ^ D.k - 1) - la) = lb + (D.p ^ D.k - 1) from by omega, Nat.add_mod_right, h.pow_mod, hb2]
  rw [pmul_comm hpk a _ ha (padd_lt hpk _ _), pmul_add hpk, pmul_comm hpk _ a (ppow_lt hpk _ _) ha, hr, pmul_one hpk _ (Nat.le_refl _) a ha, padd_comm']
end FFld
end Go.Proofs.YtfhhnfpapgfnmaaGreat

set_option linter.unusedVariables false
set_option linter.unusedSectionVars false
set_option linter.unusedSimpArgs false
namespace Go.Proofs.YtfhhnfpapgfnmaaGreat
namespace FFld
/-- How far the tables are filled. -/
structure TfAt (D : FD) (h : D.Ok) (P L : List Nat) (n a : Nat) : Prop where
  pl : P.length = D.p ^ D.k - 1
  pw : ∀ i, i < n → P[i]?.getD 0 = ppow h.pre.pk D.g i
  ll : L.length = D.p ^ D.k
  lg : ∀ i, i < n → L[ppow h.pre.pk D.g i]?.getD 0 = i
  cur : a = ppow h.pre.pk D.g n
  le : n ≤ D.p ^ D.k - 1
theorem TfAt.start {D : FD} (h : D.Ok) : TfAt D h (List.replicate (D.p ^ D.k - 1) 0) (List.replicate (D.p ^ D.k) 0) 0 1 :=
  ⟨by simp, fun i hi => by omega, by simp, fun i hi => by omega, (ppow_zero h.pre.pk _ h.gq).symm, by omega⟩
theorem TfAt.next {D : FD} {h : D.Ok} {P L : List Nat} {n a : Nat} (t : TfAt D h P L n a) (hn : n < D.p ^ D.k - 1) : TfAt D h (P.set n a) (L.set a n) (n + 1) (pmul D.p D.k D.m a D.k D.g) := by
  have ha : a < D.p ^ D.k := by rw [t.cur]; exact ppow_lt _ _ _
  refine ⟨by rw [List.length_set]; exact t.pl, fun i hi => ?_, by rw [List.length_set]; exact t.ll, fun i hi => ?_, ?_, by omega⟩
  · by_cases e : i = n
    · subst e
      rw [List.getElem?_set_self (by rw [t.pl]; exact hn), Option.getD_some]
      exact t.cur
    · rw [List.getElem?_set_ne (by omega)]
      exact t.pw i (by omega)
  · by_cases e : i = n
    · subst e
      rw [← t.cur, List.getElem?_set_self (by rw [t.ll]; exact ha), Option.getD_some]
    · have hne : a ≠ ppow h.pre.pk D.g i := fun e2 => by
        rw [t.cur] at e2
        exact e (h.pow_inj (by omega) hn e2.symm)
      rw [List.getElem?_set_ne hne]
      exact t.lg i (by omega)
  · rw [ppow_succ h.pre.pk _ _ h.gq, ← t.cur]
theorem TfAt.done {D : FD} {h : D.Ok} {P L : List Nat} {a : Nat} (t : TfAt D h P L (D.p ^ D.k - 1) a) : TabOk D h P L :=
  ⟨t.pl, t.pw, t.ll, fun x hx h0 => by
    obtain ⟨n, hn, e⟩ := h.log x hx h0
    have := t.lg n hn
    rw [e] at this
    rw [this]
    exact ⟨hn, e⟩⟩
theorem TfAt.cur_lt {D : FD} {h : D.Ok} {P L : List Nat} {n a : Nat} (t : TfAt D h P L n a) : a < D.p ^ D.k := by rw [t.cur]; exact ppow_lt _ _ _
end FFld
end Go.Proofs.YtfhhnfpapgfnmaaGreat

set_option linter.unusedVariables false
set_option linter.unusedSectionVars false
set_option linter.unusedSimpArgs false
namespace Go.Proofs.YtfhhnfpapgfnmaaGreat
namespace FFld
/-- To the elements of xs from the place s on the first j of q are added, each times c. -/
def addmF (D : FD) (xs : List Nat) (s : Nat) (q : List Nat) (c : Nat) : Nat → List Nat
  | 0 => xs
  | j + 1 => (addmF D xs s q c j).set (s + j) (padd D.p D.k ((addmF D xs s q c j)[s + j]?.getD 0) (pmul D.p D.k D.m (q[j]?.getD 0) D.k c))
def addm (D : FD) (xs : List Nat) (s : Nat) (q : List Nat) (c : Nat) : List Nat := addmF D xs s q c q.length
theorem addmF_len (D : FD) (xs : List Nat) (s : Nat) (q : List Nat) (c j : Nat) : (addmF D xs s q c j).length = xs.length := by
  induction j with
  | zero => rfl
  | succ j ih => simp only [addmF, List.length_set, ih]
theorem addm_len (D : FD) (xs : List Nat) (s : Nat) (q : List Nat) (c : Nat) : (addm D xs s q c).length = xs.length := addmF_len D xs s q c _
theorem addmF_lt {D : FD} (hk : PK D.p D.k D.m) {xs : List Nat} (s : Nat) (q : List Nat) (c j : Nat) (hx : ∀ a ∈ xs, a < D.p ^ D.k) : ∀ a ∈ addmF D xs s q c j, a < D.p ^ D.k := by
  induction j with
  | zero => exact hx
  | succ j ih => exact mem_set ih (padd_lt hk _ _)
theorem addmF_old (D : FD) (xs : List Nat) (s : Nat) (q : List Nat) (c j i : Nat) (h : i < s ∨ s + j ≤ i) : (addmF D xs s q c j)[i]?.getD 0 = xs[i]?.getD 0 := by
  induction j with
  | zero => rfl
  | succ j ih =>
    simp only [addmF]
    rw [List.getElem?_set_ne (by omega)]
    exact ih (by omega)
theorem addmF_zero {D : FD} (hk : PK D.p D.k D.m) {xs : List Nat} (s : Nat) (q : List Nat) (j : Nat) (hx : ∀ a ∈ xs, a < D.p ^ D.k) (hs : s + j ≤ xs.length) : addmF D xs s q 0 j = xs := by
  induction j with
  | zero => rfl
  | succ j ih =>
    simp only [addmF]
    rw [ih (by omega), pmul_zero_right hk, padd_zero hk _ (getD_lt (Nat.pow_pos hk.p0) hx _)]
    apply List.ext_getElem?
    intro i
    by_cases e : s + j = i
    · subst e
      rw [List.getElem?_set_self (by omega), List.getElem?_eq_getElem (by omega)]
      rfl
    · rw [List.getElem?_set_ne e]
/-- The rest behind t steps of a division whose quotient has n places; dv is what the top coefficient is multiplied by. -/
def divF (D : FD) (q : List Nat) (inv n : Nat) (p : List Nat) : Nat → List Nat
  | 0 => p
  | t + 1 => addm D (divF D q inv n p t) (n - 1 - t) q (pscl D.p D.k (D.p - 1) (pmul D.p D.k D.m ((divF D q inv n p t)[n - 1 - t + (q.length - 1)]?.getD 0) D.k inv))
/-- The place n - 1 - t of the quotient. -/
def divQ (D : FD) (q : List Nat) (inv n : Nat) (p : List Nat) (t : Nat) : Nat := pmul D.p D.k D.m ((divF D q inv n p t)[n - 1 - t + (q.length - 1)]?.getD 0) D.k inv
theorem divF_len (D : FD) (q : List Nat) (inv n : Nat) (p : List Nat) (t : Nat) : (divF D q inv n p t).length = p.length := by
  induction t with
  | zero => rfl
  | succ t ih => simp only [divF]; rw [addm_len, ih]
theorem divF_lt {D : FD} (hk : PK D.p D.k D.m) (q : List Nat) (inv n : Nat) {p : List Nat} (t : Nat) (hp : ∀ a ∈ p, a < D.p ^ D.k) : ∀ a ∈ divF D q inv n p t, a < D.p ^ D.k := by
  induction t with
  | zero => exact hp
  | succ t ih => exact addmF_lt hk _ _ _ _ ih
end FFld
end Go.Proofs.YtfhhnfpapgfnmaaGreat
