import Derived.Test.YtalahdkhglagpaaGreatDoorDkh
set_option linter.unusedVariables false
set_option linter.unusedSimpArgs false
namespace Go.Proofs.YtalahdkhglagpaaGreatDoor
open Go Go.RowKit Go.Deep
open Dsg
set_option maxRecDepth 20000 in
set_option maxHeartbeats 4000000 in
/-- Where Check answers an error, Resolve answers it too. -/
theorem resolve_err (v : Int) (ao : Option Addr) (rows : List (List Int)) (cap : Nat) (w : World) (h : Sls w ao rows) (hcap : rows.length ≤ cap) (hmax : cap ≤ maxLen) (hE0 : ckE v rows ≠ 0) :
    Calls Tryz.prog 10 #[.int .i64 v, .slice ao rows.length cap] w (RB w (.tuple #[.slice none 0 0, .int .i64 (ckE v rows : Nat)])) := by
  have HCK := Kept.mk (check_any v ao rows cap w h hcap hmax)
  obtain ⟨pa, pb, pc, pd, pe, hpv⟩ := ckV_form v rows
  have heb := ckE_le v rows
  have HNO : Kept (∀ w', Below w.heap.size w w' → RB w (.tuple #[.slice none 0 0, .int .i64 (ckE v rows : Nat)]) (.returned (.tuple #[.slice none 0 0, .int .i64 (ckE v rows : Nat)])) w') := ⟨fun w' hb => ⟨hb, rfl⟩⟩
  obtain ⟨CR, hCR⟩ : ∃ P, RB w (.tuple #[.slice none 0 0, .int .i64 (ckE v rows : Nat)]) = P := ⟨_, rfl⟩
  rw [hCR] at HNO ⊢
  obtain ⟨E, hE⟩ : ∃ E, ckE v rows = E := ⟨_, rfl⟩
  rw [hE, hpv] at HCK
  rw [hE] at HNO heb hE0
  obtain ⟨n, hN⟩ : ∃ n, rows.length = n := ⟨_, rfl⟩
  rw [hN] at hcap HCK ⊢
  unfold maxLen at hmax
  have eE : ((E : Int) != 0) = true := by rw [bne_iff_ne]; omega
  clear h hN hpv hCR hE
  go_enter Tryz.func10, Tryz.ntmps10
  go_wp2_with fail
  refine HCK.out.mono ?_
  rintro e w0 ⟨hb0, rfl⟩
  have HF := Kept.mk (HNO.out _ (hb0.alloc hb0.size (prbox pa pb pc pd pe)))
  clear hb0
  go_wp2
  exact HF.out
set_option maxRecDepth 20000 in
set_option maxHeartbeats 4000000 in
theorem params_any (a b c d e : Int) (w : World) :
    Calls Tryz.prog 7 #[prv a b c d e, prv a b c d e] w (RB w (.bool true)) := by
  have HX : Kept (Bxs w [prbox a b c d e, rbx a b c d e] ((w.alloc (prbox a b c d e)).alloc (rbx a b c d e))) := ⟨((Bxs.start w).alloc (by simp) _).alloc (by simp) _⟩
  obtain ⟨⟨p0, p1, p2, p3, p4⟩, _⟩ := five_cells HX.out.b0
  obtain ⟨⟨q0, q1, q2, q3, q4⟩, _⟩ := five_cells HX.out.b1
  have HB := Kept.mk HX.out.1
  have ea : (a == a) = true := by simp
  have eb : (b == b) = true := by simp
  have ec : (c == c) = true := by simp
  have ed : (d == d) = true := by simp
  have ee : (e == e) = true := by simp
  go_enter Tryz.func7, Tryz.ntmps7
  go_wp2
  go_ret
  exact ⟨HB.out, rfl⟩
end Go.Proofs.YtalahdkhglagpaaGreatDoor
