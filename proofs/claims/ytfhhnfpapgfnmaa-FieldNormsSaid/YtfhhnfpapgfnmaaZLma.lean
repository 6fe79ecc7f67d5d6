/-
  Texts of the proof, merged by program: Lma.
-/
import Derived.Test.YtfhhnfpapgfnmaaZLca
set_option linter.unusedVariables false
set_option linter.unusedSimpArgs false
namespace Go.Proofs.Ytfhhnfpapgfnmaa
open Go Go.RowKit Go.Deep
open FFld (ints)
set_option maxRecDepth 20000 in
set_option maxHeartbeats 1000000 in
theorem nil_Prime (w : World) : Calls Try.prog 20 #[.pointer none] w (RB w (.tuple #[.int .i64 0, .int .i64 0])) := by
  go_enter Try.func20, Try.ntmps20
  go_wp2
  go_ret2
  exact ⟨Below.refl _ _, rfl⟩
set_option maxRecDepth 20000 in
set_option maxHeartbeats 1000000 in
theorem nil_Div (w : World) : Calls Try.prog 27 #[.pointer none, .int .i64 1, .int .i64 1] w (RB w (.tuple #[.int .i64 0, .int .i64 3])) := by
  go_enter Try.func27, Try.ntmps27
  go_wp2
  go_ret2
  exact ⟨Below.refl _ _, rfl⟩
set_option maxRecDepth 20000 in
set_option maxHeartbeats 1000000 in
theorem nil_Pow (w : World) : Calls Try.prog 28 #[.pointer none, .int .i64 1, .int .i64 1] w (RB w (.tuple #[.int .i64 0, .int .i64 3])) := by
  go_enter Try.func28, Try.ntmps28
  go_wp2
  go_ret2
  exact ⟨Below.refl _ _, rfl⟩
set_option maxRecDepth 20000 in
set_option maxHeartbeats 1000000 in
theorem nil_Log (w : World) : Calls Try.prog 29 #[.pointer none, .int .i64 1] w (RB w (.tuple #[.int .i64 0, .int .i64 3])) := by
  go_enter Try.func29, Try.ntmps29
  go_wp2
  go_ret2
  exact ⟨Below.refl _ _, rfl⟩
set_option maxRecDepth 20000 in
set_option maxHeartbeats 1000000 in
theorem nil_Root (w : World) : Calls Try.prog 30 #[.pointer none, .int .i64 1] w (RB w (.tuple #[.int .i64 0, .int .i64 3])) := by
  go_enter Try.func30, Try.ntmps30
  go_wp2
  go_ret2
  exact ⟨Below.refl _ _, rfl⟩
set_option maxRecDepth 20000 in
set_option maxHeartbeats 1000000 in
theorem nil_Value (w : World) : Calls Try.prog 31 #[.pointer none, .slice none 0 0, .int .i64 0] w (RB w (.tuple #[.int .i64 0, .int .i64 3])) := by
  go_enter Try.func31, Try.ntmps31
  go_wp2
  go_ret2
  exact ⟨Below.refl _ _, rfl⟩
set_option maxRecDepth 20000 in
set_option maxHeartbeats 1000000 in
theorem nil_Product (w : World) : Calls Try.prog 32 #[.pointer none, .slice none 0 0, .slice none 0 0] w (RB w (.tuple #[.slice none 0 0, .int .i64 3])) := by
  go_enter Try.func32, Try.ntmps32
  go_wp2
  go_ret2
  exact ⟨Below.refl _ _, rfl⟩
set_option maxRecDepth 20000 in
set_option maxHeartbeats 1000000 in
theorem nil_Divide (ao : Option Addr) (n c : Nat) (w : World) : Calls Try.prog 33 #[.pointer none, .slice none 0 0, .slice ao n c] w (RB w (.tuple #[.slice none 0 0, .slice none 0 0, .int .i64 3])) := by
  go_enter Try.func33, Try.ntmps33
  go_wp2
  exact bodyPost_ret (v := .tuple #[.slice none 0 0, .slice none 0 0, .int .i64 3]) (by simp [results, Try.results33, go_sem]) rfl ⟨Below.refl _ _, rfl⟩
set_option maxRecDepth 20000 in
set_option maxHeartbeats 1000000 in
theorem nil_Common (w : World) : Calls Try.prog 34 #[.pointer none, .slice none 0 0, .slice none 0 0] w (RB w (.tuple #[.slice none 0 0, .int .i64 3])) := by
  go_enter Try.func34, Try.ntmps34
  go_wp2
  go_ret2
  exact ⟨Below.refl _ _, rfl⟩
set_option maxRecDepth 20000 in
set_option maxHeartbeats 1000000 in
theorem nil_Through (w : World) : Calls Try.prog 35 #[.pointer none, .slice none 0 0, .slice none 0 0] w (RB w (.tuple #[.slice none 0 0, .int .i64 3])) := by
  go_enter Try.func35, Try.ntmps35
  go_wp2
  go_ret2
  exact ⟨Below.refl _ _, rfl⟩
set_option maxRecDepth 20000 in
set_option maxHeartbeats 1000000 in
theorem nil_Roots (ao : Option Addr) (n c : Nat) (w : World) : Calls Try.prog 36 #[.pointer none, .slice ao n c] w (RB w (.tuple #[.slice none 0 0, .int .i64 3])) := by
  go_enter Try.func36, Try.ntmps36
  go_wp2
  go_ret2
  exact ⟨Below.refl _ _, rfl⟩
set_option maxRecDepth 20000 in
set_option maxHeartbeats 1000000 in
theorem nil_Irreducible (w : World) : Calls Try.prog 37 #[.pointer none, .slice none 0 0] w (RB w (.tuple #[.bool false, .int .i64 3])) := by
  go_enter Try.func37, Try.ntmps37
  go_wp2
  go_ret2
  exact ⟨Below.refl _ _, rfl⟩
set_option maxRecDepth 20000 in
set_option maxHeartbeats 1000000 in
theorem nil_Echelon (w : World) : Calls Try.prog 38 #[.pointer none, .slice none 0 0] w (RB w (.tuple #[.slice none 0 0, .int .i64 3])) := by
  go_enter Try.func38, Try.ntmps38
  go_wp2
  go_ret2
  exact ⟨Below.refl _ _, rfl⟩
set_option maxRecDepth 20000 in
set_option maxHeartbeats 1000000 in
theorem nil_Solve (w : World) : Calls Try.prog 39 #[.pointer none, .slice none 0 0, .slice none 0 0] w (RB w (.tuple #[.slice none 0 0, .int .i64 3])) := by
  go_enter Try.func39, Try.ntmps39
  go_wp2
  go_ret2
  exact ⟨Below.refl _ _, rfl⟩
set_option maxRecDepth 20000 in
set_option maxHeartbeats 1000000 in
theorem nil_Deny (w : World) : Calls Try.prog 40 #[.pointer none, .slice none 0 0, .slice none 0 0] w (RB w (.tuple #[.slice none 0 0, .bool false])) := by
  go_enter Try.func40, Try.ntmps40
  go_wp2
  go_ret2
  exact ⟨Below.refl _ _, rfl⟩
set_option maxRecDepth 20000 in
set_option maxHeartbeats 1000000 in
theorem nil_Order (w : World) : Calls Try.prog 21 #[.pointer none] w (RB w (.int .i64 0)) := by
  go_enter Try.func21, Try.ntmps21
  go_wp2
  go_ret
  exact ⟨Below.refl _ _, rfl⟩
set_option maxRecDepth 20000 in
set_option maxHeartbeats 1000000 in
theorem nil_Modulus (w : World) : Calls Try.prog 23 #[.pointer none] w (RB w (.slice none 0 0)) := by
  go_enter Try.func23, Try.ntmps23
  go_wp2
  go_ret
  exact ⟨Below.refl _ _, rfl⟩
set_option maxRecDepth 20000 in
set_option maxHeartbeats 1000000 in
theorem nil_Generator (w : World) : Calls Try.prog 25 #[.pointer none] w (RB w (.int .i64 0)) := by
  go_enter Try.func25, Try.ntmps25
  go_wp2
  go_ret
  exact ⟨Below.refl _ _, rfl⟩
set_option maxRecDepth 20000 in
set_option maxHeartbeats 1000000 in
theorem nil_Add (w : World) : Calls Try.prog 41 #[.pointer none, .int .i64 1, .int .i64 1] w (RB w (.int .i64 0)) := by
  go_enter Try.func41, Try.ntmps41
  go_wp2
  go_ret
  exact ⟨Below.refl _ _, rfl⟩
set_option maxRecDepth 20000 in
set_option maxHeartbeats 1000000 in
theorem nil_Sub (w : World) : Calls Try.prog 42 #[.pointer none, .int .i64 1, .int .i64 0] w (RB w (.int .i64 0)) := by
  go_enter Try.func42, Try.ntmps42
  go_wp2
  go_ret
  exact ⟨Below.refl _ _, rfl⟩
set_option maxRecDepth 20000 in
set_option maxHeartbeats 1000000 in
theorem nil_Mul (w : World) : Calls Try.prog 43 #[.pointer none, .int .i64 1, .int .i64 1] w (RB w (.int .i64 0)) := by
  go_enter Try.func43, Try.ntmps43
  go_wp2
  go_ret
  exact ⟨Below.refl _ _, rfl⟩
set_option maxRecDepth 20000 in
set_option maxHeartbeats 1000000 in
theorem nil_Trace (w : World) : Calls Try.prog 44 #[.pointer none, .int .i64 1] w (RB w (.int .i64 0)) := by
  go_enter Try.func44, Try.ntmps44
  go_wp2
  go_ret
  exact ⟨Below.refl _ _, rfl⟩
set_option maxRecDepth 20000 in
set_option maxHeartbeats 1000000 in
theorem nil_Norm (w : World) : Calls Try.prog 45 #[.pointer none, .int .i64 1] w (RB w (.int .i64 0)) := by
  go_enter Try.func45, Try.ntmps45
  go_wp2
  go_ret
  exact ⟨Below.refl _ _, rfl⟩
set_option maxRecDepth 20000 in
set_option maxHeartbeats 1000000 in
theorem nil_Minimal (w : World) : Calls Try.prog 46 #[.pointer none, .int .i64 1] w (RB w (.slice none 0 0)) := by
  go_enter Try.func46, Try.ntmps46
  go_wp2
  go_ret
  exact ⟨Below.refl _ _, rfl⟩
set_option maxRecDepth 20000 in
set_option maxHeartbeats 1000000 in
theorem nil_Check (w : World) : Calls Try.prog 47 #[.pointer none, .slice none 0 0] w (RB w (.int .i64 3)) := by
  go_enter Try.func47, Try.ntmps47
  go_wp2
  go_ret
  exact ⟨Below.refl _ _, rfl⟩
set_option maxRecDepth 20000 in
set_option maxHeartbeats 1000000 in
theorem nil_Denies (w : World) : Calls Try.prog 48 #[.pointer none, .slice none 0 0, .slice none 0 0, .slice none 0 0] w (RB w (.bool false)) := by
  go_enter Try.func48, Try.ntmps48
  go_wp2
  go_ret
  exact ⟨Below.refl _ _, rfl⟩
/-- A number has one list of digits. -/
theorem FFld.Digs.uniq {p : Nat} (hp : 2 ≤ p) : ∀ {l l' : List Nat} {n : Nat}, FFld.Digs p n l → FFld.Digs p n l' → l = l'
  | [], l', n, h, h' => by
    have hn : n = 0 := h.val.symm
    exact ((h'.nil_iff hp).2 hn).symm
  | c :: t, [], n, h, h' => by
    have hn : n = 0 := h'.val.symm
    exact (h.nil_iff hp).2 hn
  | c :: t, c' :: t', n, h, h' => by
    have e : c + p * FFld.num p t = n := h.val
    have e' : c' + p * FFld.num p t' = n := h'.val
    have hc := h.lt c List.mem_cons_self
    have hc' := h'.lt c' List.mem_cons_self
    have hcc : c = c' := by
      have h1 : (c + p * FFld.num p t) % p = c := by rw [Nat.add_mul_mod_self_left, Nat.mod_eq_of_lt hc]
      have h2 : (c' + p * FFld.num p t') % p = c' := by rw [Nat.add_mul_mod_self_left, Nat.mod_eq_of_lt hc']
      rw [e] at h1
      rw [e'] at h2
      exact h1.symm.trans h2
    subst hcc
    have hnn : FFld.num p t = FFld.num p t' := Nat.eq_of_mul_eq_mul_left (show 0 < p by omega) (by omega)
    have tail : ∀ s : List Nat, FFld.Digs p n (c :: s) → FFld.Digs p (FFld.num p s) s := fun s hs => ⟨rfl, fun x hx => hs.lt x (List.mem_cons_of_mem _ hx), fun hz => by
      cases s with
      | nil => simp at hz
      | cons a b => exact hs.nz (by rw [List.getLast?_cons_cons]; exact hz)⟩
    have ht := tail t h
    have ht' := tail t' h'
    rw [hnn] at ht
    rw [FFld.Digs.uniq hp ht ht']
set_option maxRecDepth 20000 in
set_option maxHeartbeats 2000000 in
/-- same answers true of slices that hold the same. -/
theorem same_eq (va vb : Value) (xs : List Int) (w : World) (ha : Sl .i64 w va xs) (hb : Sl .i64 w vb xs) (hn : xs.length ≤ 1000000) :
    Calls Try.prog 22 #[va, vb] w (RB w (.bool true)) := by
  obtain ⟨a1, k1, rfl, hk1, hm1, hx1⟩ := ha
  obtain ⟨a2, k2, rfl, hk2, hm2, hx2⟩ := hb
  obtain ⟨n, hN⟩ : ∃ n, xs.length = n := ⟨_, rfl⟩
  rw [hN] at hk1 hk2 hn ⊢
  have HN := Kept.mk hN
  have H1 := Kept.mk hx1
  have H2 := Kept.mk hx2
  unfold maxLen at hm1 hm2
  have e0 : ((n : Int) == (n : Int)) = true := by simp
  clear hx1 hx2 hN
  go_enter Try.func22, Try.ntmps22
  go_wp2
  go_loopw [5] (fun iv wr => ∃ (i : Nat), i ≤ n ∧ iv = .int .i64 i ∧ Kept (Below w.heap.size w wr)) (fun iv _ => n - (intOf iv).toNat)
  case atStart => exact ⟨0, Nat.zero_le _, rfl, ⟨Below.refl _ _⟩⟩
  case round =>
    obtain ⟨i, hin, rfl, hbx⟩ := hrel
    by_cases hlt : i < n
    · obtain ⟨g1, o1, rfl, hg1, u1⟩ := H1.out i (by rw [HN.out]; exact hlt)
      obtain ⟨g2, o2, rfl, hg2, u2⟩ := H2.out i (by rw [HN.out]; exact hlt)
      obtain ⟨x, hx⟩ : ∃ x, xs[i]?.getD 0 = x := ⟨_, rfl⟩
      rw [hx] at u1 u2
      have u1 := (hbx.out.cell (p := ⟨g1, o1 + i, none⟩) hg1).trans u1
      have u2 := (hbx.out.cell (p := ⟨g2, o2 + i, none⟩) hg2).trans u2
      clear hx
      go_wp2
      go_quiet (fail)
      go_wp2
      go_roundw
      case rel => exact ⟨i + 1, by omega, by go_num, ⟨below_drewN hbx.out _⟩⟩
      case measure => simp [intOf] <;> omega
    · obtain rfl : i = n := by omega
      go_wp2
      go_ret
      exact ⟨hbx.out, rfl⟩
end Go.Proofs.Ytfhhnfpapgfnmaa
