/-
  Texts of the proof, merged by program: Rtb1 Rtb2 Rtb3.
-/
import Derived.Test.YtfhhnfpapgfnmaaZRtp
import Derived.Test.YtfhhnfpapgfnmaaZLgb
set_option linter.unusedVariables false
set_option linter.unusedSimpArgs false
namespace Go.Proofs.Ytfhhnfpapgfnmaa
open Go Go.RowKit Go.Deep
open FFld (ints)
set_option maxRecDepth 20000 in
set_option maxHeartbeats 4000000 in
/-- The reference's root, where there is one. -/
theorem rroot_some {D : FFld.FD} (hD : D.Ok) (a r : Nat) (w : World) (ha : a < D.p ^ D.k) (hr : FFld.RootIs D a r) :
    Calls Try.prog 58 #[rfv D.q D.p D.k D.m, .int .i64 a] w (RB w (.tuple #[.int .i64 r, .bool true])) := by
  have HX0 : Kept (Bxs w [rbox D.q D.p D.k D.m] (w.alloc (rbox D.q D.p D.k D.m))) := ⟨(Bxs.start w).alloc (by simp) _⟩
  have hq6 : D.p ^ D.k ≤ 65536 := hD.pre.small
  have HM := Kept.mk (fun W x (hx : x < D.p ^ D.k) => rmul_any D.q D.p D.k D.m x x W hD.pre.pk.p2 hD.pre.pk.k1 hx hx hq6 (md_ok hD))
  have HR := Kept.mk hr
  have hrq : r < D.q := hr.1
  have hq6' : D.q ≤ 65536 := hq6
  have ha6 := el_le hD ha
  clear hr ha
  go_enter Try.func58, Try.ntmps58
  obtain ⟨c0, c1, c2, c3⟩ := four_cells HX0.out.b0
  go_wp2
  go_loopw [6] (fun xv wr => ∃ i : Nat, i ≤ r ∧ xv = .int .i64 i ∧ Kept (Bxs w [rbox D.q D.p D.k D.m] wr)) (fun xv _ => r - (intOf xv).toNat)
  case atStart => exact ⟨0, Nat.zero_le _, rfl, HX0⟩
  case round =>
    clear c0 c1 c2 c3
    obtain ⟨i, hir, rfl, hbx⟩ := hrel
    obtain ⟨c0, c1, c2, c3⟩ := four_cells hbx.out.b0
    have hiq : i < D.p ^ D.k := show i < D.q by omega
    obtain ⟨s, hs⟩ : ∃ s, FFld.pmul D.p D.k D.m i D.k i = s := ⟨_, rfl⟩
    have hM := Kept.mk (fun W => HM.out W i hiq)
    rw [hs] at hM
    by_cases hsa : s = a
    · have e0 : ((s : Int) == (a : Int)) = true := by rw [hsa]; simp
      obtain rfl : i = r := Nat.le_antisymm hir (HR.out.2.2 i hiq (hs.trans hsa))
      clear hs
      go_wp2_with fail
      refine (hM.out _).mono ?_
      rintro e w2 ⟨hb2, rfl⟩
      have HX2 := Kept.mk (hbx.out.below hb2)
      clear hb2 hM
      go_wp2
      go_ret2
      exact ⟨HX2.out.1, rfl⟩
    · have e0 : ((s : Int) == (a : Int)) = false := by rw [beq_eq_false_iff_ne]; omega
      have hlt : i < r := by
        rcases Nat.lt_or_ge i r with h | h
        · exact h
        · exfalso
          obtain rfl : i = r := by omega
          exact hsa (hs.symm.trans HR.out.2.1)
      clear hs
      go_wp2_with fail
      refine (hM.out _).mono ?_
      rintro e w2 ⟨hb2, rfl⟩
      have HX2 := Kept.mk (hbx.out.below hb2)
      clear hb2 hM c0 c1 c2 c3
      go_wp2
      go_roundw
      case rel => exact ⟨i + 1, by omega, by go_num, HX2⟩
      case measure => simp [intOf] <;> omega
end Go.Proofs.Ytfhhnfpapgfnmaa

set_option linter.unusedVariables false
set_option linter.unusedSimpArgs false
namespace Go.Proofs.Ytfhhnfpapgfnmaa
open Go Go.RowKit Go.Deep
open FFld (ints)
set_option maxRecDepth 20000 in
set_option maxHeartbeats 4000000 in
/-- The reference's root, where there is none. -/
theorem rroot_none {D : FFld.FD} (hD : D.Ok) (a : Nat) (w : World) (ha : a < D.p ^ D.k) (hr : ∀ x, x < D.p ^ D.k → FFld.pmul D.p D.k D.m x D.k x ≠ a) :
    Calls Try.prog 58 #[rfv D.q D.p D.k D.m, .int .i64 a] w (RB w (.tuple #[.int .i64 0, .bool false])) := by
  have HX0 : Kept (Bxs w [rbox D.q D.p D.k D.m] (w.alloc (rbox D.q D.p D.k D.m))) := ⟨(Bxs.start w).alloc (by simp) _⟩
  have hq6 : D.p ^ D.k ≤ 65536 := hD.pre.small
  have HM := Kept.mk (fun W x (hx : x < D.p ^ D.k) => rmul_any D.q D.p D.k D.m x x W hD.pre.pk.p2 hD.pre.pk.k1 hx hx hq6 (md_ok hD))
  have HR := Kept.mk hr
  have hq6' : D.q ≤ 65536 := hq6
  have ha6 := el_le hD ha
  clear hr ha
  go_enter Try.func58, Try.ntmps58
  obtain ⟨c0, c1, c2, c3⟩ := four_cells HX0.out.b0
  go_wp2
  go_loopw [6] (fun xv wr => ∃ i : Nat, i ≤ D.q ∧ xv = .int .i64 i ∧ Kept (Bxs w [rbox D.q D.p D.k D.m] wr)) (fun xv _ => D.q - (intOf xv).toNat)
  case atStart => exact ⟨0, Nat.zero_le _, rfl, HX0⟩
  case round =>
    clear c0 c1 c2 c3
    obtain ⟨i, hir, rfl, hbx⟩ := hrel
    obtain ⟨c0, c1, c2, c3⟩ := four_cells hbx.out.b0
    by_cases hlt : i < D.q
    · have hiq : i < D.p ^ D.k := hlt
      obtain ⟨s, hs⟩ : ∃ s, FFld.pmul D.p D.k D.m i D.k i = s := ⟨_, rfl⟩
      have hM := Kept.mk (fun W => HM.out W i hiq)
      rw [hs] at hM
      have hsa : s ≠ a := fun e => HR.out i hiq (hs.trans e)
      have e0 : ((s : Int) == (a : Int)) = false := by rw [beq_eq_false_iff_ne]; omega
      clear hs
      go_wp2_with fail
      refine (hM.out _).mono ?_
      rintro e w2 ⟨hb2, rfl⟩
      have HX2 := Kept.mk (hbx.out.below hb2)
      clear hb2 hM c0 c1 c2 c3
      go_wp2
      go_roundw
      case rel => exact ⟨i + 1, by omega, by go_num, HX2⟩
      case measure => simp [intOf] <;> omega
    · go_wp2
      go_ret2
      exact ⟨hbx.out.1, rfl⟩
end Go.Proofs.Ytfhhnfpapgfnmaa

set_option linter.unusedVariables false
set_option linter.unusedSimpArgs false
namespace Go.Proofs.Ytfhhnfpapgfnmaa
open Go Go.RowKit Go.Deep
open FFld (ints)
/-- What Root returns. -/
def RtRet (D : FFld.FD) (r : Nat) (w : World) (e : Ending) (w' : World) : Prop := Below w.heap.size w w' ∧ ((∃ y, FFld.RootIs D r y ∧ e = .returned (.tuple #[.int .i64 (y : Nat), .int .i64 0])) ∨ ((∀ z, z < D.p ^ D.k → FFld.pmul D.p D.k D.m z D.k z ≠ r) ∧ e = .returned (.tuple #[.int .i64 0, .int .i64 4])))
set_option maxRecDepth 20000 in
set_option maxHeartbeats 4000000 in
theorem froot_any {D : FFld.FD} {b : Nat} (x : Int) (w : World) (hf : FldB D w b) (hx0 : -9223372036854775808 ≤ x) (hx1 : x ≤ 9223372036854775807) (r : Nat) (hr : x % D.q = r) (hrq : r < D.p ^ D.k) :
    Calls Try.prog 30 #[.pointer (some ⟨b, 0, none⟩), .int .i64 x] w (RtRet D r w) := by
  have hA := Kept.mk (reduced_any x w hf hx0 hx1)
  rw [hr] at hA
  clear hr hx0 hx1
  have HF := Kept.mk hf
  obtain ⟨h, ar, ms, ml, hb, hv, _, _⟩ := hf
  have HD := Kept.mk h
  obtain ⟨T, y, fl, rfl, hm, hc, hcall⟩ := hv.log
  obtain ⟨T2, y2, fs, fp, fw, he, ho⟩ := hv.ops
  obtain ⟨rfl, rfl⟩ : T = T2 ∧ y = y2 := by simpa using he
  obtain ⟨c0, c1, c2, c3, c4, c5⟩ := six_cells hb
  have hq6 : D.q ≤ 65536 := h.pre.small
  have hr6 := el_le h hrq
  by_cases hr0 : r = 0
  · subst hr0
    have e0 : (((0 : Nat) : Int) == 0) = true := rfl
    clear hv hb hcall ho
    go_enter Try.func30, Try.ntmps30
    go_wp2_with fail
    refine hA.out.mono ?_
    rintro e w2 ⟨rfl, rfl⟩
    go_wp2
    go_ret2
    exact ⟨Below.refl _ _, .inl ⟨0, FFld.RootIs.zero HD.out, rfl⟩⟩
  · have e0 : ((r : Int) == 0) = false := by rw [beq_eq_false_iff_ne]; omega
    obtain ⟨l, hl, hla⟩ := h.log r hrq hr0
    have HL := Kept.mk (hcall w (Below.refl _ _) r l hrq hr0 hl hla)
    obtain ⟨m, hm1⟩ : ∃ m, D.p ^ D.k - 1 = m := ⟨_, rfl⟩
    obtain ⟨hqm, hm6, eqm, _, eqx⟩ := pred_eq (q := D.q) hm1 h.pre.pk.one_lt hq6
    have hlm : l < m := by rw [← hm1]; exact hl
    have hl6 : l ≤ 65536 := Nat.le_trans (Nat.le_of_lt hlm) hm6
    have hmw := ho.mw
    have hcw := ho.cw
    have HLA := Kept.mk hla
    have HO := Kept.mk ho
    have HM := Kept.mk hm1
    have hgq := h.gq
    clear hv hb hcall ho hla hl hm1
    by_cases hlo : l % 2 = 1
    · have et1 := odd_tmod hlo
      by_cases hmo : m % 2 = 1
      · obtain ⟨hf2, hh2, hf6, et2, ed2⟩ := half_odd hl6 hm6 hlo hmo
        have ew2 := (wsum hl6 hm6).2
        have hrt : Kept (FFld.ppow HD.out.pre.pk D.g (hf2 + hf2) = r) := ⟨by
          rw [hh2, ← HD.out.pow_mod, HM.out, Nat.add_mod_right, Nat.mod_eq_of_lt hlm]
          exact HLA.out⟩
        obtain ⟨u, hu⟩ : ∃ u, FFld.ppow HD.out.pre.pk D.g hf2 = u := ⟨_, rfl⟩
        have huq : u < D.p ^ D.k := by rw [← hu]; exact FFld.ppow_lt _ _ _
        obtain ⟨s, hs⟩ : ∃ s, FFld.pscl D.p D.k (D.p - 1) u = s := ⟨_, rfl⟩
        have hRt := Kept.mk (HD.out.root_even hu hrt.out hs)
        have hP := Kept.mk (fun W (hW : Below w.heap.size w W) => HO.out.power W hW D.g hf2 hgq (.inl (Nat.ne_of_gt HD.out.g1)) (by omega))
        have hN := Kept.mk (fun W (hf : FldB D W b) => negative_any u W hf huq)
        rw [hs] at hN
        have hu6 := el_le HD.out huq
        have hs6 : s ≤ 65536 := el_le HD.out (by rw [← hs]; exact FFld.pscl_lt HD.out.pre.pk _ _)
        have e5 : FFld.ppow HD.out.pre.pk D.g hf2 = u := hu
        have hP2 : Kept (∀ W, Below w.heap.size w W → Calls Try.prog fw #[y, .int .i64 (D.g : Nat), .int .i64 (hf2 : Nat)] W (RB W (.int .i64 (u : Nat)))) := ⟨fun W hW => by rw [← e5]; exact hP.out W hW⟩
        have hg6 : D.g ≤ 65536 := el_le HD.out HD.out.gq
        have ehf : IntKind.i64.wrap (hf2 : Int) = hf2 := wi (by omega) (by omega)
        clear hu hs hP e5
        clear hqm hlo hmo hh2 hr0
        go_enter Try.func30, Try.ntmps30
        go_wp2_with fail
        refine hA.out.mono ?_
        rintro e w2 ⟨rfl, rfl⟩
        go_wp2_with fail
        refine HL.out.mono ?_
        rintro e w3 ⟨hb3, rfl⟩
        have k0 := belowCell hb3 c0
        have k1 := belowCell hb3 c1
        have k4 := belowCell hb3 c4
        have HB3 := Kept.mk hb3
        clear hb3 c0 c1 c2 c3 c4 c5
        go_wp2
        go_region_held3 (fun w' => w'.cell? ⟨b, 0, none⟩ = some (.iface T y) ∧ w'.cell? ⟨b, 4, none⟩ = some (.int .i64 D.g))
          (first | exact ⟨k0, k4⟩ | exact ⟨l0, l4⟩ | go_keep)
          ((first
            | ((with_reducible refine (hP2.out _ ?_).mono ?_); (exact (by first | exact HB3.out | exact HB3.out.drew)); rintro e w4 ⟨hb4, rfl⟩; have HB4 := Kept.mk (bstep (show Below w.heap.size w _ from (by first | exact HB3.out | exact HB3.out.drew)) hb4); have l0 := belowCell hb4 k0; have l4 := belowCell hb4 k4; clear hb4)))
        go_wp2_with fail
        refine (hN.out _ (HF.out.below HB4.out)).mono ?_
        rintro e w5 ⟨hb5, rfl⟩
        have HB5 := Kept.mk (bstep HB4.out hb5)
        clear hb5
        by_cases hsu : s < u
        · rw [if_pos hsu] at hRt
          have em : min (u : Int) s = s := by omega
          go_wp2
          go_ret2
          exact ⟨HB5.out, .inl ⟨s, hRt.out, by first | rfl | (congr 1) | (simp; omega)⟩⟩
        · rw [if_neg hsu] at hRt
          have em : min (u : Int) s = u := by omega
          go_wp2
          go_ret2
          exact ⟨HB5.out, .inl ⟨u, hRt.out, by first | rfl | (congr 1) | (simp; omega)⟩⟩
      · have et2 := odd_sum hlo hmo
        have ew2 := (wsum hl6 hm6).2
        have hno : Kept (∀ z, z < D.p ^ D.k → FFld.pmul D.p D.k D.m z D.k z ≠ r) := ⟨fun z hz => by
          rw [← HLA.out]
          exact HD.out.root_none (by rw [HM.out]; exact hlm) hlo (by rw [HM.out]; omega) z hz⟩
        clear hqm hlo hmo hr0
        go_enter Try.func30, Try.ntmps30
        go_wp2_with fail
        refine hA.out.mono ?_
        rintro e w2 ⟨rfl, rfl⟩
        go_wp2_with fail
        refine HL.out.mono ?_
        rintro e w3 ⟨hb3, rfl⟩
        have k1 := belowCell hb3 c1
        have HB3 := Kept.mk hb3
        clear hb3 c0 c1 c2 c3 c4 c5
        go_wp2
        go_ret2
        exact ⟨HB3.out, .inr ⟨hno.out, rfl⟩⟩
    · have et1 := even_tmod hlo
      obtain ⟨hf2, hh2, hf6, ed2⟩ := half_even hl6 hlo
      have hrt : Kept (FFld.ppow HD.out.pre.pk D.g (hf2 + hf2) = r) := ⟨by rw [hh2]; exact HLA.out⟩
      obtain ⟨u, hu⟩ : ∃ u, FFld.ppow HD.out.pre.pk D.g hf2 = u := ⟨_, rfl⟩
      have huq : u < D.p ^ D.k := by rw [← hu]; exact FFld.ppow_lt _ _ _
      obtain ⟨s, hs⟩ : ∃ s, FFld.pscl D.p D.k (D.p - 1) u = s := ⟨_, rfl⟩
      have hRt := Kept.mk (HD.out.root_even hu hrt.out hs)
      have hP := Kept.mk (fun W (hW : Below w.heap.size w W) => HO.out.power W hW D.g hf2 hgq (.inl (Nat.ne_of_gt HD.out.g1)) (by omega))
      have hN := Kept.mk (fun W (hf : FldB D W b) => negative_any u W hf huq)
      rw [hs] at hN
      have hu6 := el_le HD.out huq
      have hs6 : s ≤ 65536 := el_le HD.out (by rw [← hs]; exact FFld.pscl_lt HD.out.pre.pk _ _)
      have e5 : FFld.ppow HD.out.pre.pk D.g hf2 = u := hu
      have hP2 : Kept (∀ W, Below w.heap.size w W → Calls Try.prog fw #[y, .int .i64 (D.g : Nat), .int .i64 (hf2 : Nat)] W (RB W (.int .i64 (u : Nat)))) := ⟨fun W hW => by rw [← e5]; exact hP.out W hW⟩
      have hg6 : D.g ≤ 65536 := el_le HD.out HD.out.gq
      have ehf : IntKind.i64.wrap (hf2 : Int) = hf2 := wi (by omega) (by omega)
      clear hu hs hP e5
      clear hqm hlo hh2 hr0
      go_enter Try.func30, Try.ntmps30
      go_wp2_with fail
      refine hA.out.mono ?_
      rintro e w2 ⟨rfl, rfl⟩
      go_wp2_with fail
      refine HL.out.mono ?_
      rintro e w3 ⟨hb3, rfl⟩
      have k0 := belowCell hb3 c0
      have k1 := belowCell hb3 c1
      have k4 := belowCell hb3 c4
      have HB3 := Kept.mk hb3
      clear hb3 c0 c1 c2 c3 c4 c5
      go_wp2
      go_region_held3 (fun w' => w'.cell? ⟨b, 0, none⟩ = some (.iface T y) ∧ w'.cell? ⟨b, 4, none⟩ = some (.int .i64 D.g))
        (first | exact ⟨k0, k4⟩ | exact ⟨l0, l4⟩ | go_keep)
        ((first
          | ((with_reducible refine (hP2.out _ ?_).mono ?_); (exact (by first | exact HB3.out | exact HB3.out.drew)); rintro e w4 ⟨hb4, rfl⟩; have HB4 := Kept.mk (bstep (show Below w.heap.size w _ from (by first | exact HB3.out | exact HB3.out.drew)) hb4); have l0 := belowCell hb4 k0; have l4 := belowCell hb4 k4; clear hb4)))
      go_wp2_with fail
      refine (hN.out _ (HF.out.below HB4.out)).mono ?_
      rintro e w5 ⟨hb5, rfl⟩
      have HB5 := Kept.mk (bstep HB4.out hb5)
      clear hb5
      by_cases hsu : s < u
      · rw [if_pos hsu] at hRt
        have em : min (u : Int) s = s := by omega
        go_wp2
        go_ret2
        exact ⟨HB5.out, .inl ⟨s, hRt.out, by first | rfl | (congr 1) | (simp; omega)⟩⟩
      · rw [if_neg hsu] at hRt
        have em : min (u : Int) s = u := by omega
        go_wp2
        go_ret2
        exact ⟨HB5.out, .inl ⟨u, hRt.out, by first | rfl | (congr 1) | (simp; omega)⟩⟩
end Go.Proofs.Ytfhhnfpapgfnmaa
