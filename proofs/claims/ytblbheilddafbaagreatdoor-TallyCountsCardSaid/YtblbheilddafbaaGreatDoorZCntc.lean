/-
  Texts of the proof, merged by program: Rfc Ctx Cnt Cntc.
-/
import Derived.Test.YtblbheilddafbaaGreatDoorZZdv
import Derived.Test.YtblbheilddafbaaGreatDoorZRpw
import Derived.Test.YtblbheilddafbaaGreatDoorZFac
import Derived.Test.YtblbheilddafbaaGreatDoorZ22
set_option linter.unusedVariables false
set_option linter.unusedSimpArgs false
namespace Go.Proofs.YtblbheilddafbaaGreatDoor
open Go Go.RowKit
theorem fac_next (p : Nat) : ((fac (p + 1 + 1) : Nat) : Int) = (fac (p + 1) : Nat) * ((p : Int) + 2) := by
  show ((fac (p + 1) * (p + 1 + 1) : Nat) : Int) = _
  rw [Int.natCast_mul]
  congr 1
theorem bin_next (m p : Nat) : ((bin (m + p) p : Nat) : Int) * ((m + (p + 1) : Nat) : Int) = ((bin (m + (p + 1)) (p + 1) : Nat) : Int) * ((p : Int) + 1) := by
  have h1 := bin_fac (n := m + p) (k := p) (by omega)
  have h2 := bin_fac (n := m + (p + 1)) (k := p + 1) (by omega)
  rw [show m + p - p = m by omega] at h1
  rw [show m + (p + 1) - (p + 1) = m by omega, show m + (p + 1) = m + p + 1 by omega] at h2
  have e1 : fac (p + 1) = fac p * (p + 1) := rfl
  have e2 : fac (m + p + 1) = fac (m + p) * (m + p + 1) := rfl
  rw [e1, e2, ← h1] at h2
  have key : bin (m + p) p * (m + p + 1) = bin (m + p + 1) (p + 1) * (p + 1) := by
    have hp : 0 < fac p * fac m := Nat.mul_pos (fac_pos _) (fac_pos _)
    refine Nat.eq_of_mul_eq_mul_right hp ?_
    have a1 : bin (m + p) p * (m + p + 1) * (fac p * fac m) = bin (m + p) p * fac p * fac m * (m + p + 1) := by simp only [Nat.mul_assoc, Nat.mul_comm, Nat.mul_left_comm]
    have a2 : bin (m + p + 1) (p + 1) * (p + 1) * (fac p * fac m) = bin (m + p + 1) (p + 1) * (fac p * (p + 1)) * fac m := by simp only [Nat.mul_assoc, Nat.mul_comm, Nat.mul_left_comm]
    rw [a1, a2, h2]
  rw [show m + (p + 1) = m + p + 1 by omega]
  have := congrArg (fun x : Nat => (x : Int)) key
  simpa [Int.natCast_mul] using this
set_option maxRecDepth 20000 in
set_option maxHeartbeats 4000000 in
theorem rfact_any (n : Nat) (w : World) (hn : n ≤ 1000) : Calls Tryz.prog 53 #[.int .i64 n] w (RetZ (64 + 1001 * 64) w ((fac n : Nat) : Int)) := by
  have HX0 : Kept (Bxs w [.cells #[.bool false, .slice none 0 0] 25] (w.alloc (.cells #[.bool false, .slice none 0 0] 25))) := ⟨(Bxs.start w).alloc (by simp) _⟩
  go_enter Tryz.func53, Tryz.ntmps53
  go_wp2_with fail
  refine (rof_any 1 _ (by omega) (by omega)).mono ?_
  rintro e w1 ⟨hb1, v1, rfl, hI1⟩
  obtain ⟨s1, u1, rfl, hs1, hn1⟩ := hI1
  obtain ⟨o1, k1, c1, rfl, _, _⟩ := hn1.form
  have HX1 := Kept.mk (HX0.out.below hb1)
  have HI1 : Kept (ZV 64 w1 (.agg #[.bool s1, .slice o1 k1 c1]) 1) := ⟨⟨_, _, rfl, hs1, hn1⟩⟩
  clear hb1 hs1 hn1
  have HX2 : Kept (Bxs w [.cells #[.bool false, .slice none 0 0] 25] (w1.alloc (.cells #[.bool s1, .slice o1 k1 c1] 25))) := ⟨HX1.out.below ((Below.refl _ _).alloc (Nat.le_refl _) _)⟩
  have HG2 : Kept ((w1.alloc (.cells #[.bool s1, .slice o1 k1 c1] 25)).heap[w1.heap.size]? = some (.cells #[.bool s1, .slice o1 k1 c1] 25 (0, 0))) := ⟨heap_alloc_new w1 _⟩
  have HI2 := Kept.mk (HI1.out.below ((Below.refl _ _).alloc (Nat.le_refl _) (.cells #[.bool s1, .slice o1 k1 c1] 25)))
  have hgl := HX1.out.l1
  go_wp2
  go_loopw [4] (fun i wr => ∃ (p : Nat) (s : Bool) (o : Option Addr) (kk c : Nat), p ≤ n ∧ (p = 0 ∨ p + 1 ≤ n) ∧ i = .int .i64 ((p : Int) + 2) ∧ Kept (Bxs w [.cells #[.bool false, .slice none 0 0] 25] wr) ∧ Kept (wr.heap[w1.heap.size]? = some (.cells #[.bool s, .slice o kk c] 25 (0, 0))) ∧ Kept (ZV (64 + p * 64) wr (.agg #[.bool s, .slice o kk c]) ((fac (p + 1) : Nat) : Int))) (fun i _ => n + 2 - (intOf i).toNat)
  case atStart => exact ⟨0, s1, o1, k1, c1, Nat.zero_le _, .inl rfl, rfl, HX2, HG2, ⟨by rw [Nat.zero_mul]; exact HI2.out⟩⟩
  case round =>
    obtain ⟨p, s, o, kk, c, hpn, hp2, rfl, hx, hg, hI⟩ := hrel
    by_cases hc : p + 2 ≤ n
    · skip
      obtain ⟨a0, a1, f0, f1⟩ := two_cells hg.out
      have hgw : w1.heap.size < wr.heap.size := (Array.getElem?_eq_some_iff.1 hg.out).1
      go_wp2_with fail
      refine wp_region_held_drew (S := fun _ => True) (by kernel_rfl) trivial (fun hHeld => ?_)
      refine wpAnyH_take (i := 1) (v := ?_) rfl (by kernel_rfl) (by kernel_rfl) (by kernel_rfl) (fun _ _ _ h => h) (Or.inl ⟨by rfl, ?_⟩) (by assumption) ?_
      rotate_left
      · (intro w hSw; (try dsimp only at hSw); go_simp; (try with_reducible rfl))
      try simp only [Act.put, List.getElem_toArray, List.getElem_cons_succ, List.getElem_cons_zero, List.setIfInBounds_toArray, List.set_cons_zero, List.set_cons_succ]
      refine wpAnyH_ready (rs := [0, 2]) (by kernel_rfl) (by simp) ?_
      refine AllReadyH.cons rfl (fun K hK => ?_) (AllReadyH.cons rfl (fun K hK => ?_) AllReadyH.nil)
      · go_simp
        refine hK.out _ _ trivial (fun hHeld => ?_)
        clear hK K
        try simp only [Act.put, List.getElem_toArray, List.getElem_cons_succ, List.getElem_cons_zero, List.setIfInBounds_toArray, List.set_cons_zero, List.set_cons_succ]
        refine wpAnyH_ready (rs := [2]) (by kernel_rfl) (by simp) ?_
        refine AllReadyH.cons rfl (fun K hK => ?_) AllReadyH.nil
        go_simp
        refine (rof_any _ _ (by omega) (by omega)).mono ?_
        rintro e w2 ⟨hb2, v2, rfl, hI2⟩
        have hb2' : Below wr.heap.size wr w2 := (Below.refl _ _).drew.trans hb2
        have HG2' := Kept.mk ((hb2'.block _ hgw).trans hg.out)
        obtain ⟨a0', a1', -, -⟩ := two_cells HG2'.out
        refine hK.out _ _ trivial (fun hHeld => ?_)
        clear hK K
        try simp only [Act.put, List.getElem_toArray, List.getElem_cons_succ, List.getElem_cons_zero, List.setIfInBounds_toArray, List.set_cons_zero, List.set_cons_succ]
        refine wpAnyH_ready (rs := [3]) (by kernel_rfl) (by simp) ?_
        refine AllReadyH.cons rfl (fun K hK => ?_) AllReadyH.nil
        go_simp
        refine (rmulz_any (hI.out.below hb2') hI2 (by omega) (by decide)).mono ?_
        rintro e w3 ⟨hb3, v3, rfl, hI3⟩
        obtain ⟨s3, u3, rfl, hs3, hn3⟩ := hI3
        obtain ⟨o3, k3, c3, rfl, _, _⟩ := hn3.form
        have HX3 := Kept.mk (hx.out.below (hb2'.trans (hb3.mono hb2'.size)))
        have HG3 := Kept.mk ((hb3.block _ (Nat.lt_of_lt_of_le hgw hb2'.size)).trans HG2'.out)
        have HI3 : Kept (ZV (64 + (p + 1) * 64) w3 (.agg #[.bool s3, .slice o3 k3 c3]) ((fac (p + 1 + 1) : Nat) : Int)) := ⟨by rw [show ((fac (p + 1 + 1) : Nat) : Int) = (fac (p + 1) : Nat) * ((p : Int) + 2) from fac_next p, Nat.succ_mul, ← Nat.add_assoc]; exact ⟨_, _, rfl, hs3, hn3⟩⟩
        have s3' := hb3.size
        clear hs3 hn3
        obtain ⟨b0, b1, g0, g1⟩ := two_cells HG3.out
        obtain ⟨hx5, hg5, hi5⟩ := zbox_store HX3.out HG3.out (by simp; omega) HI3.out
        have HX5 := Kept.mk hx5
        have HG5 := Kept.mk hg5
        have HI5 := Kept.mk hi5
        clear hx5 hg5 hi5
        refine hK.out _ _ trivial (fun hHeld => ?_)
        clear hK K
        try simp only [Act.put, List.getElem_toArray, List.getElem_cons_succ, List.getElem_cons_zero, List.setIfInBounds_toArray, List.set_cons_zero, List.set_cons_succ]
        refine wpAnyH_ready (rs := [4]) (by kernel_rfl) (by simp) ?_
        refine AllReadyH.cons rfl (fun K hK => ?_) AllReadyH.nil
        go_simp
        refine hK.out _ _ trivial (fun hHeld => ?_)
        clear hK K
        try simp only [Act.put, List.getElem_toArray, List.getElem_cons_succ, List.getElem_cons_zero, List.setIfInBounds_toArray, List.set_cons_zero, List.set_cons_succ]
        refine wpAnyH_done (by kernel_rfl) ?_ _
        go_wp2
        go_roundw
        case rel => exact ⟨p + 1, s3, o3, k3, c3, by omega, by omega, by go_num, HX5, HG5, HI5⟩
        case measure => simp [intOf] <;> omega
      · go_simp
        refine (rof_any _ _ (by omega) (by omega)).mono ?_
        rintro e w2 ⟨hb2, v2, rfl, hI2⟩
        have hb2' : Below wr.heap.size wr w2 := (Below.refl _ _).drew.trans hb2
        have HG2' := Kept.mk ((hb2'.block _ hgw).trans hg.out)
        obtain ⟨a0', a1', -, -⟩ := two_cells HG2'.out
        refine hK.out _ _ trivial (fun hHeld => ?_)
        clear hK K
        try simp only [Act.put, List.getElem_toArray, List.getElem_cons_succ, List.getElem_cons_zero, List.setIfInBounds_toArray, List.set_cons_zero, List.set_cons_succ]
        refine wpAnyH_ready (rs := [0]) (by kernel_rfl) (by simp) ?_
        refine AllReadyH.cons rfl (fun K hK => ?_) AllReadyH.nil
        go_simp
        refine hK.out _ _ trivial (fun hHeld => ?_)
        clear hK K
        try simp only [Act.put, List.getElem_toArray, List.getElem_cons_succ, List.getElem_cons_zero, List.setIfInBounds_toArray, List.set_cons_zero, List.set_cons_succ]
        refine wpAnyH_ready (rs := [3]) (by kernel_rfl) (by simp) ?_
        refine AllReadyH.cons rfl (fun K hK => ?_) AllReadyH.nil
        go_simp
        refine (rmulz_any (hI.out.below hb2') hI2 (by omega) (by decide)).mono ?_
        rintro e w3 ⟨hb3, v3, rfl, hI3⟩
        obtain ⟨s3, u3, rfl, hs3, hn3⟩ := hI3
        obtain ⟨o3, k3, c3, rfl, _, _⟩ := hn3.form
        have HX3 := Kept.mk (hx.out.below (hb2'.trans (hb3.mono hb2'.size)))
        have HG3 := Kept.mk ((hb3.block _ (Nat.lt_of_lt_of_le hgw hb2'.size)).trans HG2'.out)
        have HI3 : Kept (ZV (64 + (p + 1) * 64) w3 (.agg #[.bool s3, .slice o3 k3 c3]) ((fac (p + 1 + 1) : Nat) : Int)) := ⟨by rw [show ((fac (p + 1 + 1) : Nat) : Int) = (fac (p + 1) : Nat) * ((p : Int) + 2) from fac_next p, Nat.succ_mul, ← Nat.add_assoc]; exact ⟨_, _, rfl, hs3, hn3⟩⟩
        have s3' := hb3.size
        clear hs3 hn3
        obtain ⟨b0, b1, g0, g1⟩ := two_cells HG3.out
        obtain ⟨hx5, hg5, hi5⟩ := zbox_store HX3.out HG3.out (by simp; omega) HI3.out
        have HX5 := Kept.mk hx5
        have HG5 := Kept.mk hg5
        have HI5 := Kept.mk hi5
        clear hx5 hg5 hi5
        refine hK.out _ _ trivial (fun hHeld => ?_)
        clear hK K
        try simp only [Act.put, List.getElem_toArray, List.getElem_cons_succ, List.getElem_cons_zero, List.setIfInBounds_toArray, List.set_cons_zero, List.set_cons_succ]
        refine wpAnyH_ready (rs := [4]) (by kernel_rfl) (by simp) ?_
        refine AllReadyH.cons rfl (fun K hK => ?_) AllReadyH.nil
        go_simp
        refine hK.out _ _ trivial (fun hHeld => ?_)
        clear hK K
        try simp only [Act.put, List.getElem_toArray, List.getElem_cons_succ, List.getElem_cons_zero, List.setIfInBounds_toArray, List.set_cons_zero, List.set_cons_succ]
        refine wpAnyH_done (by kernel_rfl) ?_ _
        go_wp2
        go_roundw
        case rel => exact ⟨p + 1, s3, o3, k3, c3, by omega, by omega, by go_num, HX5, HG5, HI5⟩
        case measure => simp [intOf] <;> omega
    · have he : ((fac (p + 1) : Nat) : Int) = (fac n : Nat) := by
        rcases hp2 with h | h
        · subst h
          have : n = 0 ∨ n = 1 := by omega
          rcases this with h | h <;> subst h <;> rfl
        · rw [show p + 1 = n by omega]
      have hI' := hI.out
      rw [he] at hI'
      obtain ⟨a0, a1, f0, f1⟩ := two_cells hg.out
      have hbx := hx.out.b0
      obtain ⟨c0, c1', g0, g1⟩ := two_cells hbx
      have hszw := hx.out.l1
      obtain ⟨hs9, hn9⟩ := hI'.parts
      have HE := Kept.mk (rint_end (L := 64 + 1001 * 64) (w := w) (s := s) (ao := o) (k := kk) (c := c) hbx hx.out.1 (by omega) hs9 (hn9.mono (by omega)))
      clear hbx hs9 hn9 hI' he
      go_wp2
      exact bodyPost_ret (v := .agg #[.bool s, .slice o kk c]) (by simp [results, Tryz.results53, go_sem, HE.out.2.1, HE.out.2.2]) rfl HE.out.1
set_option maxRecDepth 20000 in
set_option maxHeartbeats 4000000 in
theorem rchoose_in (n k : Nat) (w : World) (hn : n ≤ 1000) (hk : k ≤ n) : Calls Tryz.prog 52 #[.int .i64 n, .int .i64 k] w (RetZ (64 + 1001 * 64) w ((bin n k : Nat) : Int)) := by
  obtain ⟨m, hm⟩ : ∃ m, m + k = n := ⟨n - k, by omega⟩
  have HX0 : Kept (Bxs w [.cells #[.bool false, .slice none 0 0] 25] (w.alloc (.cells #[.bool false, .slice none 0 0] 25))) := ⟨(Bxs.start w).alloc (by simp) _⟩
  go_enter Tryz.func52, Tryz.ntmps52
  go_wp2_with fail
  refine (rof_any 1 _ (by omega) (by omega)).mono ?_
  rintro e w1 ⟨hb1, v1, rfl, hI1⟩
  obtain ⟨s1, u1, rfl, hs1, hn1⟩ := hI1
  obtain ⟨o1, k1, c1, rfl, _, _⟩ := hn1.form
  have HX1 := Kept.mk (HX0.out.below hb1)
  have HI1 : Kept (ZV 64 w1 (.agg #[.bool s1, .slice o1 k1 c1]) 1) := ⟨⟨_, _, rfl, hs1, hn1⟩⟩
  clear hb1 hs1 hn1
  have HX2 : Kept (Bxs w [.cells #[.bool false, .slice none 0 0] 25] (w1.alloc (.cells #[.bool s1, .slice o1 k1 c1] 25))) := ⟨HX1.out.below ((Below.refl _ _).alloc (Nat.le_refl _) _)⟩
  have HG2 : Kept ((w1.alloc (.cells #[.bool s1, .slice o1 k1 c1] 25)).heap[w1.heap.size]? = some (.cells #[.bool s1, .slice o1 k1 c1] 25 (0, 0))) := ⟨heap_alloc_new w1 _⟩
  have HI2 := Kept.mk (HI1.out.below ((Below.refl _ _).alloc (Nat.le_refl _) (.cells #[.bool s1, .slice o1 k1 c1] 25)))
  have hgl := HX1.out.l1
  go_wp2
  go_loopw [6] (fun i wr => ∃ (p : Nat) (s : Bool) (o : Option Addr) (kk c : Nat), p ≤ k ∧ i = .int .i64 ((p : Int) + 1) ∧ Kept (Bxs w [.cells #[.bool false, .slice none 0 0] 25] wr) ∧ Kept (wr.heap[w1.heap.size]? = some (.cells #[.bool s, .slice o kk c] 25 (0, 0))) ∧ Kept (ZV (64 + p * 64) wr (.agg #[.bool s, .slice o kk c]) ((bin (m + p) p : Nat) : Int))) (fun i _ => k + 2 - (intOf i).toNat)
  case atStart => exact ⟨0, s1, o1, k1, c1, Nat.zero_le _, rfl, HX2, HG2, ⟨by rw [Nat.zero_mul, bin_zero]; exact HI2.out⟩⟩
  case round =>
    obtain ⟨p, s, o, kk, c, hpk, rfl, hx, hg, hI⟩ := hrel
    by_cases hc : p + 1 ≤ k
    · skip
      obtain ⟨a0, a1, f0, f1⟩ := two_cells hg.out
      have hgw : w1.heap.size < wr.heap.size := (Array.getElem?_eq_some_iff.1 hg.out).1
      obtain ⟨f, hfe⟩ : ∃ f : Int, ((m + (p + 1) : Nat) : Int) = f := ⟨_, rfl⟩
      have hf0 : 0 ≤ f := by omega
      have hf1 : f ≤ 3000 := by omega
      have hw1 : IntKind.i64.wrap ((n : Int) - k) = m := by rw [IntKind.wrap_i64]; omega
      have hf : IntKind.i64.wrap (IntKind.i64.wrap ((n : Int) - k) + (p + 1)) = f := by rw [hw1, IntKind.wrap_i64]; omega
      clear hw1
      have HF : Kept (((bin (m + p) p : Nat) : Int) * f = ((bin (m + (p + 1)) (p + 1) : Nat) : Int) * ((p : Int) + 1)) := ⟨by rw [← hfe]; exact bin_next m p⟩
      have HFF := Kept.mk hf
      clear hf hfe
      go_wp2_with fail
      refine wp_region_held_drew (S := fun _ => True) (by kernel_rfl) trivial (fun hHeld => ?_)
      refine wpAnyH_take (i := 1) (v := ?_) rfl (by kernel_rfl) (by kernel_rfl) (by kernel_rfl) (fun _ _ _ h => h) (Or.inl ⟨by rfl, ?_⟩) (by assumption) ?_
      rotate_left
      · (intro w hSw; (try dsimp only at hSw); go_simp; (try with_reducible rfl))
      try simp only [Act.put, List.getElem_toArray, List.getElem_cons_succ, List.getElem_cons_zero, List.setIfInBounds_toArray, List.set_cons_zero, List.set_cons_succ]
      refine wpAnyH_take (i := 2) (v := ?_) rfl (by kernel_rfl) (by kernel_rfl) (by kernel_rfl) (fun _ _ _ h => h) (Or.inl ⟨by rfl, ?_⟩) (by assumption) ?_
      rotate_left
      · (intro w hSw; (try dsimp only at hSw); go_simp; (try with_reducible rfl))
      try simp only [Act.put, List.getElem_toArray, List.getElem_cons_succ, List.getElem_cons_zero, List.setIfInBounds_toArray, List.set_cons_zero, List.set_cons_succ]
      refine wpAnyH_take (i := 3) (v := ?_) rfl (by kernel_rfl) (by kernel_rfl) (by kernel_rfl) (fun _ _ _ h => h) (Or.inl ⟨by rfl, ?_⟩) (by assumption) ?_
      rotate_left
      · (intro w hSw; (try dsimp only at hSw); go_simp; (try with_reducible rfl))
      try simp only [Act.put, List.getElem_toArray, List.getElem_cons_succ, List.getElem_cons_zero, List.setIfInBounds_toArray, List.set_cons_zero, List.set_cons_succ]
      refine wpAnyH_take (i := 4) (v := ?_) rfl (by kernel_rfl) (by kernel_rfl) (by kernel_rfl) (fun _ _ _ h => h) (Or.inl ⟨by rfl, ?_⟩) (by assumption) ?_
      rotate_left
      · (intro w hSw; (try dsimp only at hSw); go_simp; (try with_reducible rfl))
      try simp only [Act.put, List.getElem_toArray, List.getElem_cons_succ, List.getElem_cons_zero, List.setIfInBounds_toArray, List.set_cons_zero, List.set_cons_succ]
      refine wpAnyH_take (i := 5) (v := ?_) rfl (by kernel_rfl) (by kernel_rfl) (by kernel_rfl) (fun _ _ _ h => h) (Or.inl ⟨by rfl, ?_⟩) (by assumption) ?_
      rotate_left
      · (intro w hSw; (try dsimp only at hSw); go_simp; (try with_reducible rfl))
      try simp only [Act.put, List.getElem_toArray, List.getElem_cons_succ, List.getElem_cons_zero, List.setIfInBounds_toArray, List.set_cons_zero, List.set_cons_succ]
      refine wpAnyH_take (i := 8) (v := ?_) rfl (by kernel_rfl) (by kernel_rfl) (by kernel_rfl) (fun _ _ _ h => h) (Or.inl ⟨by rfl, ?_⟩) (by assumption) ?_
      rotate_left
      · (intro w hSw; (try dsimp only at hSw); go_simp; (try with_reducible rfl))
      try simp only [Act.put, List.getElem_toArray, List.getElem_cons_succ, List.getElem_cons_zero, List.setIfInBounds_toArray, List.set_cons_zero, List.set_cons_succ]
      refine wpAnyH_ready (rs := [0, 6]) (by kernel_rfl) (by simp) ?_
      refine AllReadyH.cons rfl (fun K hK => ?_) (AllReadyH.cons rfl (fun K hK => ?_) AllReadyH.nil)
      · go_simp
        refine hK.out _ _ trivial (fun hHeld => ?_)
        clear hK K
        try simp only [Act.put, List.getElem_toArray, List.getElem_cons_succ, List.getElem_cons_zero, List.setIfInBounds_toArray, List.set_cons_zero, List.set_cons_succ]
        refine wpAnyH_ready (rs := [6]) (by kernel_rfl) (by simp) ?_
        refine AllReadyH.cons rfl (fun K hK => ?_) AllReadyH.nil
        go_simp
        refine (rof_any _ _ (by rw [HFF.out]; omega) (by rw [HFF.out]; omega)).mono ?_
        rintro e w2 ⟨hb2, v2, rfl, hI2⟩
        rw [HFF.out] at hI2
        have hb2' : Below wr.heap.size wr w2 := (Below.refl _ _).drew.trans hb2
        have HG2' := Kept.mk ((hb2'.block _ hgw).trans hg.out)
        obtain ⟨a0', a1', -, -⟩ := two_cells HG2'.out
        refine hK.out _ _ trivial (fun hHeld => ?_)
        clear hK K
        try simp only [Act.put, List.getElem_toArray, List.getElem_cons_succ, List.getElem_cons_zero, List.setIfInBounds_toArray, List.set_cons_zero, List.set_cons_succ]
        refine wpAnyH_ready (rs := [7]) (by kernel_rfl) (by simp) ?_
        refine AllReadyH.cons rfl (fun K hK => ?_) AllReadyH.nil
        go_simp
        refine (rmulz_any (hI.out.below hb2') hI2 (by omega) (by decide)).mono ?_
        rintro e w3 ⟨hb3, v3, rfl, hI3⟩
        rw [HF.out] at hI3
        refine hK.out _ _ trivial (fun hHeld => ?_)
        clear hK K
        try simp only [Act.put, List.getElem_toArray, List.getElem_cons_succ, List.getElem_cons_zero, List.setIfInBounds_toArray, List.set_cons_zero, List.set_cons_succ]
        refine wpAnyH_ready (rs := [9]) (by kernel_rfl) (by simp) ?_
        refine AllReadyH.cons rfl (fun K hK => ?_) AllReadyH.nil
        go_simp
        refine (rof_any _ _ (by omega) (by omega)).mono ?_
        rintro e w4 ⟨hb4, v4, rfl, hI4⟩
        refine hK.out _ _ trivial (fun hHeld => ?_)
        clear hK K
        try simp only [Act.put, List.getElem_toArray, List.getElem_cons_succ, List.getElem_cons_zero, List.setIfInBounds_toArray, List.set_cons_zero, List.set_cons_succ]
        refine wpAnyH_ready (rs := [10]) (by kernel_rfl) (by simp) ?_
        refine AllReadyH.cons rfl (fun K hK => ?_) AllReadyH.nil
        go_simp
        refine (rquo_any (hI3.below hb4) hI4 (by omega) (by omega) (by decide)).mono ?_
        rintro e w5 ⟨hb5, v5, rfl, hI5⟩
        obtain ⟨s3, u3, rfl, hs3, hn3⟩ := hI5
        obtain ⟨o3, k3, c3, rfl, _, _⟩ := hn3.form
        have hb9 := hb2'.trans ((hb3.trans ((hb4.trans (hb5.mono hb4.size)).mono hb3.size)).mono hb2'.size)
        have HX3 := Kept.mk (hx.out.below hb9)
        have HG3 := Kept.mk ((hb9.block _ hgw).trans hg.out)
        have HI3 : Kept (ZV (64 + (p + 1) * 64) w5 (.agg #[.bool s3, .slice o3 k3 c3]) ((bin (m + (p + 1)) (p + 1) : Nat) : Int)) := ⟨by rw [Nat.succ_mul, ← Nat.add_assoc]; exact ⟨_, _, rfl, hs3, hn3⟩⟩
        have s3' := hb9.size
        clear hs3 hn3
        obtain ⟨b0, b1, g0, g1⟩ := two_cells HG3.out
        obtain ⟨hx5, hg5, hi5⟩ := zbox_store HX3.out HG3.out (by simp; omega) HI3.out
        have HX5 := Kept.mk hx5
        have HG5 := Kept.mk hg5
        have HI5 := Kept.mk hi5
        clear hx5 hg5 hi5
        refine hK.out _ _ trivial (fun hHeld => ?_)
        clear hK K
        try simp only [Act.put, List.getElem_toArray, List.getElem_cons_succ, List.getElem_cons_zero, List.setIfInBounds_toArray, List.set_cons_zero, List.set_cons_succ]
        refine wpAnyH_ready (rs := [11]) (by kernel_rfl) (by simp) ?_
        refine AllReadyH.cons rfl (fun K hK => ?_) AllReadyH.nil
        go_simp
        refine hK.out _ _ trivial (fun hHeld => ?_)
        clear hK K
        try simp only [Act.put, List.getElem_toArray, List.getElem_cons_succ, List.getElem_cons_zero, List.setIfInBounds_toArray, List.set_cons_zero, List.set_cons_succ]
        refine wpAnyH_done (by kernel_rfl) ?_ _
        go_wp2
        go_roundw
        case rel => exact ⟨p + 1, s3, o3, k3, c3, by omega, by go_num, HX5, HG5, HI5⟩
        case measure => simp [intOf] <;> omega
      · go_simp
        refine (rof_any _ _ (by rw [HFF.out]; omega) (by rw [HFF.out]; omega)).mono ?_
        rintro e w2 ⟨hb2, v2, rfl, hI2⟩
        rw [HFF.out] at hI2
        have hb2' : Below wr.heap.size wr w2 := (Below.refl _ _).drew.trans hb2
        have HG2' := Kept.mk ((hb2'.block _ hgw).trans hg.out)
        obtain ⟨a0', a1', -, -⟩ := two_cells HG2'.out
        refine hK.out _ _ trivial (fun hHeld => ?_)
        clear hK K
        try simp only [Act.put, List.getElem_toArray, List.getElem_cons_succ, List.getElem_cons_zero, List.setIfInBounds_toArray, List.set_cons_zero, List.set_cons_succ]
        refine wpAnyH_ready (rs := [0]) (by kernel_rfl) (by simp) ?_
        refine AllReadyH.cons rfl (fun K hK => ?_) AllReadyH.nil
        go_simp
        refine hK.out _ _ trivial (fun hHeld => ?_)
        clear hK K
        try simp only [Act.put, List.getElem_toArray, List.getElem_cons_succ, List.getElem_cons_zero, List.setIfInBounds_toArray, List.set_cons_zero, List.set_cons_succ]
        refine wpAnyH_ready (rs := [7]) (by kernel_rfl) (by simp) ?_
        refine AllReadyH.cons rfl (fun K hK => ?_) AllReadyH.nil
        go_simp
        refine (rmulz_any (hI.out.below hb2') hI2 (by omega) (by decide)).mono ?_
        rintro e w3 ⟨hb3, v3, rfl, hI3⟩
        rw [HF.out] at hI3
        refine hK.out _ _ trivial (fun hHeld => ?_)
        clear hK K
        try simp only [Act.put, List.getElem_toArray, List.getElem_cons_succ, List.getElem_cons_zero, List.setIfInBounds_toArray, List.set_cons_zero, List.set_cons_succ]
        refine wpAnyH_ready (rs := [9]) (by kernel_rfl) (by simp) ?_
        refine AllReadyH.cons rfl (fun K hK => ?_) AllReadyH.nil
        go_simp
        refine (rof_any _ _ (by omega) (by omega)).mono ?_
        rintro e w4 ⟨hb4, v4, rfl, hI4⟩
        refine hK.out _ _ trivial (fun hHeld => ?_)
        clear hK K
        try simp only [Act.put, List.getElem_toArray, List.getElem_cons_succ, List.getElem_cons_zero, List.setIfInBounds_toArray, List.set_cons_zero, List.set_cons_succ]
        refine wpAnyH_ready (rs := [10]) (by kernel_rfl) (by simp) ?_
        refine AllReadyH.cons rfl (fun K hK => ?_) AllReadyH.nil
        go_simp
        refine (rquo_any (hI3.below hb4) hI4 (by omega) (by omega) (by decide)).mono ?_
        rintro e w5 ⟨hb5, v5, rfl, hI5⟩
        obtain ⟨s3, u3, rfl, hs3, hn3⟩ := hI5
        obtain ⟨o3, k3, c3, rfl, _, _⟩ := hn3.form
        have hb9 := hb2'.trans ((hb3.trans ((hb4.trans (hb5.mono hb4.size)).mono hb3.size)).mono hb2'.size)
        have HX3 := Kept.mk (hx.out.below hb9)
        have HG3 := Kept.mk ((hb9.block _ hgw).trans hg.out)
        have HI3 : Kept (ZV (64 + (p + 1) * 64) w5 (.agg #[.bool s3, .slice o3 k3 c3]) ((bin (m + (p + 1)) (p + 1) : Nat) : Int)) := ⟨by rw [Nat.succ_mul, ← Nat.add_assoc]; exact ⟨_, _, rfl, hs3, hn3⟩⟩
        have s3' := hb9.size
        clear hs3 hn3
        obtain ⟨b0, b1, g0, g1⟩ := two_cells HG3.out
        obtain ⟨hx5, hg5, hi5⟩ := zbox_store HX3.out HG3.out (by simp; omega) HI3.out
        have HX5 := Kept.mk hx5
        have HG5 := Kept.mk hg5
        have HI5 := Kept.mk hi5
        clear hx5 hg5 hi5
        refine hK.out _ _ trivial (fun hHeld => ?_)
        clear hK K
        try simp only [Act.put, List.getElem_toArray, List.getElem_cons_succ, List.getElem_cons_zero, List.setIfInBounds_toArray, List.set_cons_zero, List.set_cons_succ]
        refine wpAnyH_ready (rs := [11]) (by kernel_rfl) (by simp) ?_
        refine AllReadyH.cons rfl (fun K hK => ?_) AllReadyH.nil
        go_simp
        refine hK.out _ _ trivial (fun hHeld => ?_)
        clear hK K
        try simp only [Act.put, List.getElem_toArray, List.getElem_cons_succ, List.getElem_cons_zero, List.setIfInBounds_toArray, List.set_cons_zero, List.set_cons_succ]
        refine wpAnyH_done (by kernel_rfl) ?_ _
        go_wp2
        go_roundw
        case rel => exact ⟨p + 1, s3, o3, k3, c3, by omega, by go_num, HX5, HG5, HI5⟩
        case measure => simp [intOf] <;> omega
    · have he : ((bin (m + p) p : Nat) : Int) = (bin n k : Nat) := by rw [show p = k by omega, hm]
      have hI' := hI.out
      rw [he] at hI'
      obtain ⟨a0, a1, f0, f1⟩ := two_cells hg.out
      have hbx := hx.out.b0
      obtain ⟨c0, c1', g0, g1⟩ := two_cells hbx
      have hszw := hx.out.l1
      obtain ⟨hs9, hn9⟩ := hI'.parts
      have HE := Kept.mk (rint_end (L := 64 + 1001 * 64) (w := w) (s := s) (ao := o) (k := kk) (c := c) hbx hx.out.1 (by omega) hs9 (hn9.mono (by omega)))
      clear hbx hs9 hn9 hI' he
      go_wp2
      exact bodyPost_ret (v := .agg #[.bool s, .slice o kk c]) (by simp [results, Tryz.results52, go_sem, HE.out.2.1, HE.out.2.2]) rfl HE.out.1
set_option maxRecDepth 20000 in
set_option maxHeartbeats 1000000 in
theorem rchoose_neg (n : Nat) (k : Int) (w : World) (hn : n ≤ 1000) (h0 : -9223372036854775808 ≤ k) (h1 : k ≤ 9223372036854775807) (hk : k < 0) : Calls Tryz.prog 52 #[.int .i64 n, .int .i64 k] w (RetZ 64 w 0) := by
  have HX0 : Kept (Bxs w [.cells #[.bool false, .slice none 0 0] 25] (w.alloc (.cells #[.bool false, .slice none 0 0] 25))) := ⟨(Bxs.start w).alloc (by simp) _⟩
  have hsz := HX0.out.l1
  obtain ⟨c0, c1, f0, f1⟩ := two_cells HX0.out.b0
  go_enter Tryz.func52, Tryz.ntmps52
  go_wp2
  exact bodyPost_ret (v := .agg #[.bool false, .slice none 0 0]) (by simp [results, Tryz.results52, go_sem]) rfl ⟨HX0.out.1, _, rfl, _, _, rfl, rfl, NumR.zero _ _⟩
set_option maxRecDepth 20000 in
set_option maxHeartbeats 1000000 in
theorem rchoose_big (n : Nat) (k : Int) (w : World) (hn : n ≤ 1000) (h0 : -9223372036854775808 ≤ k) (h1 : k ≤ 9223372036854775807) (hk : (n : Int) < k) : Calls Tryz.prog 52 #[.int .i64 n, .int .i64 k] w (RetZ 64 w 0) := by
  have HX0 : Kept (Bxs w [.cells #[.bool false, .slice none 0 0] 25] (w.alloc (.cells #[.bool false, .slice none 0 0] 25))) := ⟨(Bxs.start w).alloc (by simp) _⟩
  have hsz := HX0.out.l1
  obtain ⟨c0, c1, f0, f1⟩ := two_cells HX0.out.b0
  go_enter Tryz.func52, Tryz.ntmps52
  go_wp2
  exact bodyPost_ret (v := .agg #[.bool false, .slice none 0 0]) (by simp [results, Tryz.results52, go_sem]) rfl ⟨HX0.out.1, _, rfl, _, _, rfl, rfl, NumR.zero _ _⟩
end Go.Proofs.YtblbheilddafbaaGreatDoor

set_option linter.unusedVariables false
set_option linter.unusedSimpArgs false
namespace Go.Proofs.YtblbheilddafbaaGreatDoor
open Go Go.RowKit
set_option maxRecDepth 20000 in
set_option maxHeartbeats 1000000 in
theorem choose_arg_lo (n k : Int) (w : World) (h0 : -9223372036854775808 ≤ n) (h1 : n ≤ 9223372036854775807) (k0 : -9223372036854775808 ≤ k) (k1 : k ≤ 9223372036854775807) (hr : n < 0) : Calls Tryz.prog 50 #[.int .i64 n, .int .i64 k] w (RetV w (.tuple #[.agg #[.bool false, .slice none 0 0], .int .i64 1])) := by
  have HX0 : Kept (Bxs w [.cells #[.bool false, .slice none 0 0] 30] (w.alloc (.cells #[.bool false, .slice none 0 0] 30))) := ⟨(Bxs.start w).alloc (by simp) _⟩
  go_enter Tryz.func50, Tryz.ntmps50
  go_wp2
  exact bodyPost_ret (v := .tuple #[.agg #[.bool false, .slice none 0 0], .int .i64 1]) (by simp [results, Tryz.results50, go_sem]) rfl ⟨HX0.out.1, rfl⟩
set_option maxRecDepth 20000 in
set_option maxHeartbeats 1000000 in
theorem fact_arg_lo (n : Int) (w : World) (h0 : -9223372036854775808 ≤ n) (h1 : n ≤ 9223372036854775807) (hr : n < 0) : Calls Tryz.prog 51 #[.int .i64 n] w (RetV w (.tuple #[.agg #[.bool false, .slice none 0 0], .int .i64 1])) := by
  have HX0 : Kept (Bxs w [.cells #[.bool false, .slice none 0 0] 30] (w.alloc (.cells #[.bool false, .slice none 0 0] 30))) := ⟨(Bxs.start w).alloc (by simp) _⟩
  go_enter Tryz.func51, Tryz.ntmps51
  go_wp2
  exact bodyPost_ret (v := .tuple #[.agg #[.bool false, .slice none 0 0], .int .i64 1]) (by simp [results, Tryz.results51, go_sem]) rfl ⟨HX0.out.1, rfl⟩
set_option maxRecDepth 20000 in
set_option maxHeartbeats 1000000 in
theorem choose_arg_hi (n k : Int) (w : World) (h0 : -9223372036854775808 ≤ n) (h1 : n ≤ 9223372036854775807) (k0 : -9223372036854775808 ≤ k) (k1 : k ≤ 9223372036854775807) (hr : 1000 < n) : Calls Tryz.prog 50 #[.int .i64 n, .int .i64 k] w (RetV w (.tuple #[.agg #[.bool false, .slice none 0 0], .int .i64 1])) := by
  have HX0 : Kept (Bxs w [.cells #[.bool false, .slice none 0 0] 30] (w.alloc (.cells #[.bool false, .slice none 0 0] 30))) := ⟨(Bxs.start w).alloc (by simp) _⟩
  go_enter Tryz.func50, Tryz.ntmps50
  go_wp2
  exact bodyPost_ret (v := .tuple #[.agg #[.bool false, .slice none 0 0], .int .i64 1]) (by simp [results, Tryz.results50, go_sem]) rfl ⟨HX0.out.1, rfl⟩
set_option maxRecDepth 20000 in
set_option maxHeartbeats 1000000 in
theorem fact_arg_hi (n : Int) (w : World) (h0 : -9223372036854775808 ≤ n) (h1 : n ≤ 9223372036854775807) (hr : 1000 < n) : Calls Tryz.prog 51 #[.int .i64 n] w (RetV w (.tuple #[.agg #[.bool false, .slice none 0 0], .int .i64 1])) := by
  have HX0 : Kept (Bxs w [.cells #[.bool false, .slice none 0 0] 30] (w.alloc (.cells #[.bool false, .slice none 0 0] 30))) := ⟨(Bxs.start w).alloc (by simp) _⟩
  go_enter Tryz.func51, Tryz.ntmps51
  go_wp2
  exact bodyPost_ret (v := .tuple #[.agg #[.bool false, .slice none 0 0], .int .i64 1]) (by simp [results, Tryz.results51, go_sem]) rfl ⟨HX0.out.1, rfl⟩
set_option maxRecDepth 20000 in
set_option maxHeartbeats 1000000 in
theorem choose_zero_lo (n : Nat) (k : Int) (w : World) (hn : n ≤ 1000) (k0 : -9223372036854775808 ≤ k) (k1 : k ≤ 9223372036854775807) (hr : k < 0) : Calls Tryz.prog 50 #[.int .i64 n, .int .i64 k] w (RetOk 625 w 0) := by
  have HX0 : Kept (Bxs w [.cells #[.bool false, .slice none 0 0] 30] (w.alloc (.cells #[.bool false, .slice none 0 0] 30))) := ⟨(Bxs.start w).alloc (by simp) _⟩
  go_enter Tryz.func50, Tryz.ntmps50
  go_wp2
  exact bodyPost_ret (v := .tuple #[.agg #[.bool false, .slice none 0 0], .int .i64 0]) (by simp [results, Tryz.results50, go_sem]) rfl ⟨HX0.out.1, _, _, _, _, rfl, zeroInt _⟩
set_option maxRecDepth 20000 in
set_option maxHeartbeats 1000000 in
theorem choose_zero_hi (n : Nat) (k : Int) (w : World) (hn : n ≤ 1000) (k0 : -9223372036854775808 ≤ k) (k1 : k ≤ 9223372036854775807) (hr : (n : Int) < k) : Calls Tryz.prog 50 #[.int .i64 n, .int .i64 k] w (RetOk 625 w 0) := by
  have HX0 : Kept (Bxs w [.cells #[.bool false, .slice none 0 0] 30] (w.alloc (.cells #[.bool false, .slice none 0 0] 30))) := ⟨(Bxs.start w).alloc (by simp) _⟩
  go_enter Tryz.func50, Tryz.ntmps50
  go_wp2
  exact bodyPost_ret (v := .tuple #[.agg #[.bool false, .slice none 0 0], .int .i64 0]) (by simp [results, Tryz.results50, go_sem]) rfl ⟨HX0.out.1, _, _, _, _, rfl, zeroInt _⟩
theorem choose_arg (n k : Int) (w : World) (h0 : -9223372036854775808 ≤ n) (h1 : n ≤ 9223372036854775807) (k0 : -9223372036854775808 ≤ k) (k1 : k ≤ 9223372036854775807) (hr : n < 0 ∨ 1000 < n) : Calls Tryz.prog 50 #[.int .i64 n, .int .i64 k] w (RetV w (.tuple #[.agg #[.bool false, .slice none 0 0], .int .i64 1])) := by
  rcases hr with hr | hr
  · exact choose_arg_lo n k w h0 h1 k0 k1 hr
  · exact choose_arg_hi n k w h0 h1 k0 k1 hr
theorem fact_arg (n : Int) (w : World) (h0 : -9223372036854775808 ≤ n) (h1 : n ≤ 9223372036854775807) (hr : n < 0 ∨ 1000 < n) : Calls Tryz.prog 51 #[.int .i64 n] w (RetV w (.tuple #[.agg #[.bool false, .slice none 0 0], .int .i64 1])) := by
  rcases hr with hr | hr
  · exact fact_arg_lo n w h0 h1 hr
  · exact fact_arg_hi n w h0 h1 hr
/-- One binomial, in tally and in the reference. -/
theorem choose_both (n : Nat) (k : Int) (hn : n ≤ 1000) (k0 : -9223372036854775808 ≤ k) (k1 : k ≤ 9223372036854775807) : ∃ β : Int,
    (∀ w, Calls Tryz.prog 50 #[.int .i64 n, .int .i64 k] w (RetOk 625 w β)) ∧ (∀ w, Calls Tryz.prog 52 #[.int .i64 n, .int .i64 k] w (RetZ (64 + 1001 * 64) w β)) := by
  by_cases hk : k < 0
  · exact ⟨0, fun w => choose_zero_lo n k w hn k0 k1 hk, fun w => (rchoose_neg n k w hn k0 k1 hk).mono fun e w' ⟨hb, v, he, hz⟩ => ⟨hb, v, he, hz.mono (by decide)⟩⟩
  · by_cases hkn : (n : Int) < k
    · exact ⟨0, fun w => choose_zero_hi n k w hn k0 k1 hkn, fun w => (rchoose_big n k w hn k0 k1 hkn).mono fun e w' ⟨hb, v, he, hz⟩ => ⟨hb, v, he, hz.mono (by decide)⟩⟩
    · obtain ⟨j, rfl⟩ : ∃ j : Nat, k = j := ⟨k.toNat, by omega⟩
      exact ⟨_, fun w => choose_any n j w hn (by omega), fun w => rchoose_in n j w hn (by omega)⟩
end Go.Proofs.YtblbheilddafbaaGreatDoor

set_option linter.unusedVariables false
set_option linter.unusedSimpArgs false
namespace Go.Proofs.YtblbheilddafbaaGreatDoor
open Go Go.RowKit
set_option maxRecDepth 20000 in
set_option maxHeartbeats 8000000 in
theorem tallyCounts_any (n0 k0 : Int) (w : World) (hn0 : -9223372036854775808 ≤ n0) (hn1 : n0 ≤ 9223372036854775807) (hk0 : -9223372036854775808 ≤ k0) (hk1 : k0 ≤ 9223372036854775807) :
    Calls Tryz.prog 10 #[.int .i64 n0, .int .i64 k0] w (RetV w (.bool true)) := by
  have hnot : ∀ (x : Bool) (w : World), (Op.unary .not (.bool x)).run Tryz.prog w = .ok (.bool (!x)) w := fun _ _ => rfl
  go_enter Tryz.func10, Tryz.ntmps10
  go_wp2
  go_loopw [0, 1, 5] (fun nv kv iv wr => ∃ (q : Nat) (n k : Int), q ≤ 2 ∧ iv = .int .i64 q ∧ nv = .int .i64 n ∧ kv = .int .i64 k ∧ -9223372036854775808 ≤ n ∧ n ≤ 9223372036854775807 ∧ -9223372036854775808 ≤ k ∧ k ≤ 9223372036854775807 ∧ Kept (Below w.heap.size w wr)) (fun _ _ iv _ => 2 - (intOf iv).toNat)
  case atStart => exact ⟨0, n0, k0, by omega, rfl, rfl, rfl, hn0, hn1, hk0, hk1, ⟨Below.refl _ _⟩⟩
  case round =>
    obtain ⟨q, n, k, hq, rfl, rfl, rfl, hn0, hn1, hk0, hk1, HW⟩ := hrel
    by_cases hq2 : q < 2
    · skip
      obtain ⟨U, hU⟩ : ∃ U, IntKind.u64.wrap n = U := ⟨_, rfl⟩
      obtain ⟨V, hV⟩ : ∃ V, IntKind.u64.wrap k = V := ⟨_, rfl⟩
      have hU0 : 0 ≤ U ∧ U ≤ 18446744073709551615 := by rw [← hU, IntKind.wrap_u64]; omega
      have hV0 : 0 ≤ V ∧ V ≤ 18446744073709551615 := by rw [← hV, IntKind.wrap_u64]; omega
      obtain ⟨hU0, hU1⟩ := hU0
      obtain ⟨hV0, hV1⟩ := hV0
      have hu0 : 0 ≤ U % 120 := by omega
      have hu1 : U % 120 ≤ 119 := by omega
      have hv0 : 0 ≤ V % 130 := by omega
      have hv1 : V % 130 ≤ 129 := by omega
      by_cases hr : n < 0 ∨ 1000 < n
      · skip
        go_wp2_with fail
        refine (choose_arg n k _ hn0 hn1 hk0 hk1 hr).mono ?_
        rintro e w1 ⟨hb1, rfl⟩
        replace HW := Kept.mk (HW.out.trans (Below.mono hb1 HW.out.size))
        clear hb1
        have hI1 : IntV 625 w1 (.agg #[.bool false, .slice none 0 0]) 0 := zeroInt w1
        have hal2 : Below w1.heap.size w1 (w1.alloc (.cells #[.bool false, .slice none 0 0] 30)) := (Below.refl _ _).alloc (Nat.le_refl _) _
        replace HW := Kept.mk (HW.out.trans (Below.mono hal2 HW.out.size))
        have HBc : Kept (Hb (w1.alloc (.cells #[.bool false, .slice none 0 0] 30)) w1.heap.size (.bool false) (.slice none 0 0)) := ⟨Hb.new _ _ _ _ rfl⟩
        have HIc : Kept (IntV 625 (w1.alloc (.cells #[.bool false, .slice none 0 0] 30)) (.agg #[.bool false, .slice none 0 0]) 0) := ⟨hI1.below hal2⟩
        clear hal2 hI1
        go_wp2_with fail
        refine (fact_arg n _ hn0 hn1 hr).mono ?_
        rintro e w3 ⟨hb3, rfl⟩
        replace HBc := Kept.mk (HBc.out.below hb3)
        replace HIc := Kept.mk (HIc.out.below hb3)
        replace HW := Kept.mk (HW.out.trans (Below.mono hb3 HW.out.size))
        clear hb3
        have hI3 : IntV 625 w3 (.agg #[.bool false, .slice none 0 0]) 0 := zeroInt w3
        have hal4 : Below w3.heap.size w3 (w3.alloc (.cells #[.bool false, .slice none 0 0] 30)) := (Below.refl _ _).alloc (Nat.le_refl _) _
        replace HBc := Kept.mk (HBc.out.below hal4)
        replace HIc := Kept.mk (HIc.out.below hal4)
        replace HW := Kept.mk (HW.out.trans (Below.mono hal4 HW.out.size))
        have HBf : Kept (Hb (w3.alloc (.cells #[.bool false, .slice none 0 0] 30)) w3.heap.size (.bool false) (.slice none 0 0)) := ⟨Hb.new _ _ _ _ rfl⟩
        have HIf : Kept (IntV 625 (w3.alloc (.cells #[.bool false, .slice none 0 0] 30)) (.agg #[.bool false, .slice none 0 0]) 0) := ⟨hI3.below hal4⟩
        clear hal4 hI3
        rcases hr with hr | hr
        · skip
          obtain ⟨p6, q6, -, -⟩ := two_cells HBc.out
          go_wp2_with fail
          refine (sign_any HIc.out).mono ?_
          rintro e w5 ⟨hb5, he5⟩
          subst he5
          replace HBc := Kept.mk (HBc.out.below hb5)
          replace HIc := Kept.mk (HIc.out.below hb5)
          replace HBf := Kept.mk (HBf.out.below hb5)
          replace HIf := Kept.mk (HIf.out.below hb5)
          replace HW := Kept.mk (HW.out.trans (Below.mono hb5 HW.out.size))
          clear hb5 p6 q6
          obtain ⟨p8, q8, -, -⟩ := two_cells HBf.out
          go_wp2_with fail
          refine (sign_any HIf.out).mono ?_
          rintro e w7 ⟨hb7, he7⟩
          subst he7
          replace HBc := Kept.mk (HBc.out.below hb7)
          replace HIc := Kept.mk (HIc.out.below hb7)
          replace HBf := Kept.mk (HBf.out.below hb7)
          replace HIf := Kept.mk (HIf.out.below hb7)
          replace HW := Kept.mk (HW.out.trans (Below.mono hb7 HW.out.size))
          clear hb7 p8 q8
          go_wp2
          go_roundw
          case rel => exact ⟨q + 1, U % 120, V % 130, by omega, by go_num, by first | rfl | (congr 1; omega), by first | rfl | (congr 1; omega), by omega, by omega, by omega, by omega, HW⟩
          case measure => simp [intOf] <;> omega
        · skip
          obtain ⟨p6, q6, -, -⟩ := two_cells HBc.out
          go_wp2_with fail
          refine (sign_any HIc.out).mono ?_
          rintro e w5 ⟨hb5, he5⟩
          subst he5
          replace HBc := Kept.mk (HBc.out.below hb5)
          replace HIc := Kept.mk (HIc.out.below hb5)
          replace HBf := Kept.mk (HBf.out.below hb5)
          replace HIf := Kept.mk (HIf.out.below hb5)
          replace HW := Kept.mk (HW.out.trans (Below.mono hb5 HW.out.size))
          clear hb5 p6 q6
          obtain ⟨p8, q8, -, -⟩ := two_cells HBf.out
          go_wp2_with fail
          refine (sign_any HIf.out).mono ?_
          rintro e w7 ⟨hb7, he7⟩
          subst he7
          replace HBc := Kept.mk (HBc.out.below hb7)
          replace HIc := Kept.mk (HIc.out.below hb7)
          replace HBf := Kept.mk (HBf.out.below hb7)
          replace HIf := Kept.mk (HIf.out.below hb7)
          replace HW := Kept.mk (HW.out.trans (Below.mono hb7 HW.out.size))
          clear hb7 p8 q8
          go_wp2
          go_roundw
          case rel => exact ⟨q + 1, U % 120, V % 130, by omega, by go_num, by first | rfl | (congr 1; omega), by first | rfl | (congr 1; omega), by omega, by omega, by omega, by omega, HW⟩
          case measure => simp [intOf] <;> omega
      · skip
        obtain ⟨N, rfl⟩ : ∃ N : Nat, n = N := ⟨n.toNat, by omega⟩
        have hN : N ≤ 1000 := by omega
        clear hr
        obtain ⟨β, hcb, hrb⟩ := choose_both N k hN hk0 hk1
        have HCB := Kept.mk hcb
        have HRB := Kept.mk hrb
        clear hcb hrb
        obtain ⟨F, hF⟩ : ∃ F : Int, ((fac N : Nat) : Int) = F := ⟨_, rfl⟩
        have HFB : Kept (∀ W, Calls Tryz.prog 51 #[.int .i64 N] W (RetOk 625 W F)) := ⟨fun W => by rw [← hF]; exact fact_any N W hN⟩
        have HRF : Kept (∀ W, Calls Tryz.prog 53 #[.int .i64 N] W (RetZ (64 + 1001 * 64) W F)) := ⟨fun W => by rw [← hF]; exact rfact_any N W hN⟩
        clear hF
        go_wp2_with fail
        refine (HCB.out _).mono ?_
        rintro e w1 hR
        obtain ⟨hb1, s1, o1, k1, c1, rfl, hI1⟩ := hR
        replace HW := Kept.mk (HW.out.trans (Below.mono hb1 HW.out.size))
        clear hb1 
        have hal2 : Below w1.heap.size w1 (w1.alloc (.cells #[.bool s1, .slice o1 k1 c1] 30)) := (Below.refl _ _).alloc (Nat.le_refl _) _
        replace HW := Kept.mk (HW.out.trans (Below.mono hal2 HW.out.size))
        have HBc : Kept (Hb (w1.alloc (.cells #[.bool s1, .slice o1 k1 c1] 30)) w1.heap.size (.bool s1) (.slice o1 k1 c1)) := ⟨Hb.new _ _ _ _ rfl⟩
        have HIc : Kept (IntV 625 (w1.alloc (.cells #[.bool s1, .slice o1 k1 c1] 30)) (.agg #[.bool s1, .slice o1 k1 c1]) β) := ⟨hI1.below hal2⟩
        clear hal2 hI1
        go_wp2_with fail
        refine (HFB.out _).mono ?_
        rintro e w3 hR
        obtain ⟨hb3, s3, o3, k3, c3, rfl, hI3⟩ := hR
        replace HBc := Kept.mk (HBc.out.below hb3)
        replace HIc := Kept.mk (HIc.out.below hb3)
        replace HW := Kept.mk (HW.out.trans (Below.mono hb3 HW.out.size))
        clear hb3 
        have hal4 : Below w3.heap.size w3 (w3.alloc (.cells #[.bool s3, .slice o3 k3 c3] 30)) := (Below.refl _ _).alloc (Nat.le_refl _) _
        replace HBc := Kept.mk (HBc.out.below hal4)
        replace HIc := Kept.mk (HIc.out.below hal4)
        replace HW := Kept.mk (HW.out.trans (Below.mono hal4 HW.out.size))
        have HBf : Kept (Hb (w3.alloc (.cells #[.bool s3, .slice o3 k3 c3] 30)) w3.heap.size (.bool s3) (.slice o3 k3 c3)) := ⟨Hb.new _ _ _ _ rfl⟩
        have HIf : Kept (IntV 625 (w3.alloc (.cells #[.bool s3, .slice o3 k3 c3] 30)) (.agg #[.bool s3, .slice o3 k3 c3]) F) := ⟨hI3.below hal4⟩
        clear hal4 hI3
        go_wp2_with fail
        generalize w3.alloc (.cells #[.bool s3, .slice o3 k3 c3] 30) = ws at *
        have HI1 : Kept (∀ W u, Below ws.heap.size ws W → ZV (64 + 1001 * 64) W u β → Calls Tryz.prog 27 #[(.agg #[.bool s1, .slice o1 k1 c1]), u] W (RetV W (.bool true))) := ⟨fun W u h hv => is_any (HIc.out.below h) hv (by decide) (by decide)⟩
        have HI2 : Kept (∀ W u, Below ws.heap.size ws W → ZV (64 + 1001 * 64) W u F → Calls Tryz.prog 27 #[(.agg #[.bool s3, .slice o3 k3 c3]), u] W (RetV W (.bool true))) := ⟨fun W u h hv => is_any (HIf.out.below h) hv (by decide) (by decide)⟩
        have HR1 : Kept (∀ W, Below ws.heap.size ws W → Calls Tryz.prog 52 #[.int .i64 N, .int .i64 k] W (RetZ (64 + 1001 * 64) W β)) := ⟨fun W _ => HRB.out W⟩
        have HR2 : Kept (∀ W, Below ws.heap.size ws W → Calls Tryz.prog 53 #[.int .i64 N] W (RetZ (64 + 1001 * 64) W F)) := ⟨fun W _ => HRF.out W⟩
        obtain ⟨i0c, i1c, -, -⟩ := two_cells HBc.out
        obtain ⟨i0f, i1f, -, -⟩ := two_cells HBf.out
        go_region_held3 (fun w' => w'.cell? ⟨w1.heap.size, 0, none⟩ = some (.bool s1) ∧ w'.cell? ⟨w1.heap.size, 1, none⟩ = some (.slice o1 k1 c1) ∧ w'.cell? ⟨w3.heap.size, 0, none⟩ = some (.bool s3) ∧ w'.cell? ⟨w3.heap.size, 1, none⟩ = some (.slice o3 k3 c3))
          (first | exact ⟨m0c, m1c, m0f, m1f⟩ | exact ⟨l0c, l1c, l0f, l1f⟩ | exact ⟨k0c, k1c, k0f, k1f⟩ | exact ⟨j0c, j1c, j0f, j1f⟩ | exact ⟨i0c, i1c, i0f, i1f⟩ | go_keep)
          ((first
            | (go_at_call 52; (with_reducible refine (HR1.out _ ?h1).mono ?_); (case h1 => exact ((Bxs.start ws).drew).1); rintro e w1' ⟨hb1, v1', rfl, hV1⟩; have hy1 := Bxs.below ((Bxs.start ws).drew) hb1; obtain ⟨j0c, j1c, -, -⟩ := two_cells (HBc.out.below hy1.1); obtain ⟨j0f, j1f, -, -⟩ := two_cells (HBf.out.below hy1.1))
            | (go_at_call 27; (with_reducible refine (HI1.out _ _ ?h1 ?h2).mono ?_); (case h1 => exact hy1.1); (case h2 => exact hV1); rintro e w2' ⟨hb2, rfl⟩; have hy2 := Bxs.below hy1 hb2; obtain ⟨k0c, k1c, -, -⟩ := two_cells (HBc.out.below hy2.1); obtain ⟨k0f, k1f, -, -⟩ := two_cells (HBf.out.below hy2.1))
            | (go_at_call 53; (with_reducible refine (HR2.out _ ?h1).mono ?_); (case h1 => exact hy2.1); rintro e w3' ⟨hb3, v3', rfl, hV3⟩; have hy3 := Bxs.below hy2 hb3; obtain ⟨l0c, l1c, -, -⟩ := two_cells (HBc.out.below hy3.1); obtain ⟨l0f, l1f, -, -⟩ := two_cells (HBf.out.below hy3.1))
            | (go_at_call 27; (with_reducible refine (HI2.out _ _ ?h1 ?h2).mono ?_); (case h1 => exact hy3.1); (case h2 => exact hV3); rintro e w4' ⟨hb4, rfl⟩; have hy4 := Bxs.below hy3 hb4; obtain ⟨m0c, m1c, -, -⟩ := two_cells (HBc.out.below hy4.1); obtain ⟨m0f, m1f, -, -⟩ := two_cells (HBf.out.below hy4.1))))
        have hfin : Below w.heap.size w w4' := HW.out.trans (hy4.1.mono HW.out.size)
        have HFIN := Kept.mk hfin
        clear hfin
        go_wp2
        go_roundw
        case rel => exact ⟨q + 1, U % 120, V % 130, by omega, by go_num, by first | rfl | (congr 1; omega), by first | rfl | (congr 1; omega), by omega, by omega, by omega, by omega, HFIN⟩
        case measure => simp [intOf] <;> omega
    · skip
      obtain rfl : q = 2 := by omega
      go_wp2_with fail
      refine (awake_any _).mono ?_
      rintro e w1 ⟨hb1, he1⟩
      subst he1
      replace HW := Kept.mk (HW.out.trans (Below.mono hb1 HW.out.size))
      clear hb1 
      go_wp2
      go_ret
      exact ⟨HW.out, rfl⟩
end Go.Proofs.YtblbheilddafbaaGreatDoor

set_option linter.unusedVariables false
namespace Go.Proofs.YtblbheilddafbaaGreatDoor.tallyCounts
open Go Go.ChangeShapes Go.WideShapes Go.ChangeAt Go.RowKit Go.Proofs.YtblbheilddafbaaGreatDoor
set_option maxRecDepth 100000 in
theorem contract (H : Type) (enc : TypeId × Value → H) (W : World) (base : Nat) (args : Array Value) (ds gs : List (DataW H)) (before : List MemPlace)
    (hval : ∀ (j : Nat) t v, Tryz.f10.params[j]? = some t → args[j]? = some v → Value.okWide Tryz.prog W .any base t v)
    (hW : DataW.Whole enc Tryz.prog Tryz.f10.params.toList Rows.tallyCountsSpec.vars false W args.toList ds gs before) :
    Calls Tryz.prog 10 args W fun e W' => ∃ v, e = .returned v ∧ Rows.tallyCountsSpec.post enc Tryz.prog Tryz.f10 false true false false W args v W' := by
  have hW' := hW
  obtain ⟨p, q, hA0, hV, rfl, hfz, hnd⟩ := hW
  have hA : DataW.TrodAll enc Tryz.prog W 0 (fun _ => true) true Tryz.f10.params.toList args.toList ds p := hA0
  rw [Tryz.params10] at hA hval
  obtain ⟨v0, vs0, d0, ds0, p0, q0, hargs, rfl, rfl, h0, r0⟩ := trodAll_cons hA
  obtain ⟨v1, vs1, d1, ds1, p1, q1, rfl, rfl, rfl, h1, r1⟩ := trodAll_cons r0
  obtain ⟨rfl, rfl, rfl⟩ := trodAll_nil r1
  obtain rfl : args = #[v0, v1] := Array.toList_inj.1 hargs
  obtain ⟨rfl, rfl⟩ := trodVars_none hV
  obtain ⟨a0, rfl, rfl, rfl, w0⟩ := open_int Tryz.underlying3 (hval 0 3 v0 rfl rfl) h0
  obtain ⟨a1, rfl, rfl, rfl, w1⟩ := open_int Tryz.underlying3 (hval 1 3 v1 rfl rfl) h1
  clear hA0
  simp only [List.append_nil] at hW'
  have hr0 := i64_bounds w0
  have hr1 := i64_bounds w1
  refine (tallyCounts_any a0 a1 W hr0.1 hr0.2 hr1.1 hr1.2).mono fun e W' ⟨hb, he⟩ => ?_
  subst he
  exact ⟨_, rfl, post_of_below (pa := []) (pv := []) hW' (fun _ _ _ => trodAll_cons_mk (shut_bool Tryz.underlying4 _) trodAll_mk0) (fun _ _ => trodAll_cons_mk (shut_int Tryz.underlying3 w0) (trodAll_cons_mk (shut_int Tryz.underlying3 w1) trodAll_mk0)) (fun _ _ => rfl) rfl
    hb (ok_one (by kernel_rfl) rfl (okWide_bool_mk Tryz.underlying4 _))⟩
end Go.Proofs.YtblbheilddafbaaGreatDoor.tallyCounts
