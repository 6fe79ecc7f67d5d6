/-
  Texts of the proof, merged by program: Lmb.
-/
import Derived.Test.YtfhhnfpapgfnmaaZLma
set_option linter.unusedVariables false
set_option linter.unusedSimpArgs false
namespace Go.Proofs.Ytfhhnfpapgfnmaa
open Go Go.RowKit Go.Deep
open FFld (ints)
theorem mod_len {D : FFld.FD} (h : D.Ok) {ml : List Nat} (hd : FFld.Digs D.p D.m ml) : ml.length ≤ 17 := by
  refine hd.len h.pre.pk.p2 (k := 17) ?_
  have h2 : 2 ^ 17 ≤ D.p ^ 17 := Nat.pow_le_pow_left h.pre.pk.p2 17
  rw [show (2 : Nat) ^ 17 = 131072 from rfl] at h2
  have hq : D.q ≤ 65536 := h.pre.small
  have hm : D.m < 131072 := by
    by_cases hk : D.k = 1
    · rw [h.pre.mod1 hk]
      have := h.p6
      omega
    · have := (h.pre.mod2 (by have := h.pre.k1; omega)).2.1
      omega
  omega
set_option maxRecDepth 20000 in
set_option maxHeartbeats 8000000 in
theorem fieldMakes_any (order : Int) (w : World) (o0 : -9223372036854775808 ≤ order) (o1 : order ≤ 9223372036854775807) :
    Calls Try.prog 3 #[.int .i64 order] w (RB w (.bool true)) := by
  have HR := Kept.mk (fun W o (a : -9223372036854775808 ≤ o) (b : o ≤ 9223372036854775807) => rnew_any o W a b)
  have HN := Kept.mk (fun W o (a : -9223372036854775808 ≤ o) (b : o ≤ 9223372036854775807) => fnew_any o W a b)
  go_enter Try.func3, Try.ntmps3
  go_wp2
  go_loopw [0, 3] (fun ov kv wr => ∃ (o : Int) (t : Nat), t ≤ 2 ∧ kv = .int .i64 t ∧ ov = .int .i64 o ∧ -9223372036854775808 ≤ o ∧ o ≤ 9223372036854775807 ∧ Kept (Below w.heap.size w wr)) (fun _ kv _ => 2 - (intOf kv).toNat)
  case atStart => exact ⟨order, 0, by omega, rfl, rfl, o0, o1, ⟨Below.refl _ _⟩⟩
  case round =>
    obtain ⟨o, t, ht, rfl, rfl, p0, p1, HW⟩ := hrel
    by_cases hlt : t < 2
    · obtain ⟨U, hU⟩ : ∃ U, IntKind.u64.wrap o = U := ⟨_, rfl⟩
      obtain ⟨hU0, hU1⟩ : 0 ≤ U ∧ U ≤ 18446744073709551615 := by rw [← hU, IntKind.wrap_u64]; omega
      have hu0 : 0 ≤ U % 1100 := by omega
      have hu1 : U % 1100 ≤ 1099 := by omega
      go_wp2_with fail
      refine (HR.out _ o p0 p1).mono ?_
      rintro e w1 ⟨hb1, h⟩
      have HB1 := Kept.mk (bstep HW.out hb1)
      clear hb1
      rcases h with ⟨D, hD, hq, rfl⟩ | ⟨hn, rfl⟩
      · have hbx : Below w1.heap.size w1 (w1.alloc (rbox D.q D.p D.k D.m)) := (Below.refl _ _).alloc (Nat.le_refl _) _
        obtain ⟨i0, i1, i2, i3⟩ := four_cells (heap_alloc_new w1 (rbox D.q D.p D.k D.m))
        have HB2 := Kept.mk (bstep HB1.out hbx)
        have HD := Kept.mk hD
        have HQ := Kept.mk hq
        clear hbx hD hq
        go_wp2_with fail
        refine (HN.out _ o p0 p1).mono ?_
        rintro e w2 ⟨hb2, h⟩
        rcases h with ⟨D', b, hq', hbb, rfl, hf⟩ | ⟨hn, rfl⟩
        · have hDD : D' = D := FFld.FD.uniq hf.ok HD.out (by have := HQ.out; omega)
          subst hDD
          obtain rfl : o = D'.q := hq'
          have HF2 := Kept.mk hf
          have HB3 := Kept.mk (bstep HB2.out hb2)
          have j0 := belowCell hb2 i0
          have j1 := belowCell hb2 i1
          have j2 := belowCell hb2 i2
          have j3 := belowCell hb2 i3
          obtain ⟨g4, hg4⟩ : ∃ g, w1.heap.size = g := ⟨_, rfl⟩
          rw [hg4] at j0 j1 j2 j3
          have HP := Kept.mk (fprime_any w2 hf)
          clear hb2 hf i0 i1 i2 i3
          go_wp2_with fail
          try rw [hg4]
          clear hg4
          refine HP.out.mono ?_
          rintro e w3 hR
          obtain ⟨hb3, rfl⟩ := hR.rb
          have HF3 := Kept.mk (HF2.out.below hb3)
          have HB4 := Kept.mk (bstep HB3.out hb3)
          have k0 := belowCell hb3 j0
          have k1 := belowCell hb3 j1
          have k2 := belowCell hb3 j2
          have k3 := belowCell hb3 j3
          have hp6 := HD.out.p6
          have hp2 := HD.out.pre.pk.p2
          have hm9 : D'.m < 1099511627776 := by
            have hqq : D'.q ≤ 65536 := HD.out.pre.small
            by_cases hk : D'.k = 1
            · rw [HD.out.pre.mod1 hk]; omega
            · have := (HD.out.pre.mod2 (by have := HD.out.pre.k1; omega)).2.1; omega
          have C1 := Kept.mk (fun W (hW : Below w3.heap.size w3 W) => show Calls Try.prog 21 #[.pointer (some ⟨b, 0, none⟩)] W (RB W (.int .i64 D'.q)) from (order_any W (HF3.out.below hW)).mono fun e w' ⟨h1, h2⟩ => ⟨h1 ▸ Below.refl _ _, h2⟩)
          have C2 := Kept.mk (fun W (hW : Below w3.heap.size w3 W) => fmodulus_any W (HF3.out.below hW))
          have C3 := Kept.mk (fun W (hW : Below w3.heap.size w3 W) => rmodulus_any D'.q D'.p D'.k D'.m W hp2 hp6 hm9)
          have C4 := Kept.mk (fun W (hW : Below w3.heap.size w3 W) va vb (ml : List Nat) (h : ml.length ≤ 17) (ha : Sl .i64 W va (ints ml)) (hb : Sl .i64 W vb (ints ml)) => same_eq va vb (ints ml) W ha hb (by rw [FFld.ints_len]; omega))
          have C5 := Kept.mk (fun W (hW : Below w3.heap.size w3 W) => show Calls Try.prog 25 #[.pointer (some ⟨b, 0, none⟩)] W (RB W (.int .i64 D'.g)) from (generator_any W (HF3.out.below hW)).mono fun e w' ⟨h1, h2⟩ => ⟨h1 ▸ Below.refl _ _, h2⟩)
          have C6 := Kept.mk (fun W (hW : Below w3.heap.size w3 W) => rgenerator_any D' HD.out W)
          clear hb3 j0 j1 j2 j3 HP
          go_wp2
          go_region_held3 (fun w' => w'.cell? ⟨g4, 0, none⟩ = some (.int .i64 D'.q) ∧ w'.cell? ⟨g4, 1, none⟩ = some (.int .i64 D'.p) ∧ w'.cell? ⟨g4, 2, none⟩ = some (.int .i64 D'.k) ∧ w'.cell? ⟨g4, 3, none⟩ = some (.int .i64 D'.m))
            (first | exact ⟨r0, r1, r2, r3⟩ | exact ⟨q0, q1, q2, q3⟩ | exact ⟨p0, p1, p2, p3⟩ | exact ⟨n0, n1, n2, n3⟩ | exact ⟨m0, m1, m2, m3⟩ | exact ⟨l0, l1, l2, l3⟩ | exact ⟨j0, j1, j2, j3⟩ | exact ⟨k0, k1, k2, k3⟩ | go_keep)
            ((first
              | (go_at_call 21; (with_reducible refine (C1.out _ ?h1).mono ?_); (case h1 => exact (by first | exact Below.refl _ _ | exact (Below.refl _ _).drew)); rintro e v1 ⟨hb1, rfl⟩; have hy1 := Kept.mk (bstep (show Below w3.heap.size w3 _ from (by first | exact Below.refl _ _ | exact (Below.refl _ _).drew)) hb1); have j0 := belowCell hy1.out k0; have j1 := belowCell hy1.out k1; have j2 := belowCell hy1.out k2; have j3 := belowCell hy1.out k3; clear hb1)
              | (go_at_call 23; (with_reducible refine (C2.out _ ?h1).mono ?_); (case h1 => exact hy1.out); rintro e v2 ⟨hb2, va, ml, rfl, hsa, hda⟩; have hy2 := Kept.mk (bstep (show Below w3.heap.size w3 _ from hy1.out) hb2); have l0 := belowCell hy2.out k0; have l1 := belowCell hy2.out k1; have l2 := belowCell hy2.out k2; have l3 := belowCell hy2.out k3; have HSA := Kept.mk hsa; have HDA := Kept.mk hda; clear hsa hda; clear hb2)
              | (go_at_call 24; (with_reducible refine (C3.out _ ?h1).mono ?_); (case h1 => exact hy2.out); rintro e v3 ⟨hb3, vb, ml2, rfl, hmb, hdb⟩; have hy3 := Kept.mk (bstep (show Below w3.heap.size w3 _ from hy2.out) hb3); have m0 := belowCell hy3.out k0; have m1 := belowCell hy3.out k1; have m2 := belowCell hy3.out k2; have m3 := belowCell hy3.out k3; have HSB : Kept (Sl .i64 v3 vb (ints ml)) := ⟨by rw [FFld.Digs.uniq hp2 HDA.out hdb]; exact hmb.sl⟩; have HSA3 := Kept.mk (HSA.out.below hb3); clear hmb hdb; clear hb3)
              | (go_at_call 22; (with_reducible refine (C4.out _ ?h1 _ _ ml ?h2 ?h3 ?h4).mono ?_); (case h1 => exact hy3.out); (case h2 => exact mod_len HD.out HDA.out); (case h3 => first | exact HSA3.out | exact HSA3.out.below (belowDrew _)); (case h4 => first | exact HSB.out | exact HSB.out.below (belowDrew _)); rintro e v4 ⟨hb4, rfl⟩; have hy4 := Kept.mk (bstep (show Below w3.heap.size w3 _ from hy3.out) hb4); have n0 := belowCell hy4.out k0; have n1 := belowCell hy4.out k1; have n2 := belowCell hy4.out k2; have n3 := belowCell hy4.out k3; clear hb4)
              | (go_at_call 25; (with_reducible refine (C5.out _ ?h1).mono ?_); (case h1 => exact hy4.out); rintro e v5 ⟨hb5, rfl⟩; have hy5 := Kept.mk (bstep (show Below w3.heap.size w3 _ from hy4.out) hb5); have p0 := belowCell hy5.out k0; have p1 := belowCell hy5.out k1; have p2 := belowCell hy5.out k2; have p3 := belowCell hy5.out k3; clear hb5)
              | (go_at_call 26; (with_reducible refine (C6.out _ ?h1).mono ?_); (case h1 => exact hy5.out); rintro e v6 ⟨hb6, rfl⟩; have hy6 := Kept.mk (bstep (show Below w3.heap.size w3 _ from hy5.out) hb6); have q0 := belowCell hy6.out k0; have q1 := belowCell hy6.out k1; have q2 := belowCell hy6.out k2; have q3 := belowCell hy6.out k3; clear hb6)))
          have HBE := Kept.mk (bstep HB4.out hy6.out)
          clear C1 C2 C3 C4 C5 C6 hy1 hy2 hy3 hy4 hy5 hy6
          go_wp2
          go_roundw
          case rel => exact ⟨U % 1100, t + 1, by omega, by go_num, by first | rfl | (congr 1; omega), by omega, by omega, HBE⟩
          case measure => simp [intOf] <;> omega
        · exact absurd ⟨D, HD.out, HQ.out⟩ hn
      · have hbx : Below w1.heap.size w1 (w1.alloc rzbox) := (Below.refl _ _).alloc (Nat.le_refl _) _
        have HB2 := Kept.mk (bstep HB1.out hbx)
        have HNO := Kept.mk hn
        clear hbx hn
        go_wp2_with fail
        refine (HN.out _ o p0 p1).mono ?_
        rintro e w2 ⟨hb2, h⟩
        rcases h with ⟨D', b, hq', hbb, rfl, hf⟩ | ⟨hn, rfl⟩
        · exact absurd ⟨D', hf.ok, hq'⟩ HNO.out
        · have HB3 := Kept.mk (bstep HB2.out hb2)
          clear hb2 hn
          go_wp2
          go_roundw
          case rel => exact ⟨U % 1100, t + 1, by omega, by go_num, by first | rfl | (congr 1; omega), by omega, by omega, HB3⟩
          case measure => simp [intOf] <;> omega
    · obtain rfl : t = 2 := by omega
      go_wp2_with fail
      refine (nil_Prime _).mono ?_
      rintro e u0 ⟨hb, rfl⟩
      replace HW := Kept.mk (bstep (show Below w.heap.size w _ from (by first | exact HW.out | exact HW.out.alloc HW.out.size _)) hb)
      clear hb
      go_wp2_with fail
      refine (nil_Div _).mono ?_
      rintro e u1 ⟨hb, rfl⟩
      replace HW := Kept.mk (bstep (show Below w.heap.size w _ from (by first | exact HW.out | exact HW.out.alloc HW.out.size _)) hb)
      clear hb
      go_wp2_with fail
      refine (nil_Pow _).mono ?_
      rintro e u2 ⟨hb, rfl⟩
      replace HW := Kept.mk (bstep (show Below w.heap.size w _ from (by first | exact HW.out | exact HW.out.alloc HW.out.size _)) hb)
      clear hb
      go_wp2_with fail
      refine (nil_Log _).mono ?_
      rintro e u3 ⟨hb, rfl⟩
      replace HW := Kept.mk (bstep (show Below w.heap.size w _ from (by first | exact HW.out | exact HW.out.alloc HW.out.size _)) hb)
      clear hb
      go_wp2_with fail
      refine (nil_Root _).mono ?_
      rintro e u4 ⟨hb, rfl⟩
      replace HW := Kept.mk (bstep (show Below w.heap.size w _ from (by first | exact HW.out | exact HW.out.alloc HW.out.size _)) hb)
      clear hb
      go_wp2_with fail
      refine (nil_Value _).mono ?_
      rintro e u5 ⟨hb, rfl⟩
      replace HW := Kept.mk (bstep (show Below w.heap.size w _ from (by first | exact HW.out | exact HW.out.alloc HW.out.size _)) hb)
      clear hb
      go_wp2_with fail
      refine (nil_Product _).mono ?_
      rintro e u6 ⟨hb, rfl⟩
      replace HW := Kept.mk (bstep (show Below w.heap.size w _ from (by first | exact HW.out | exact HW.out.alloc HW.out.size _)) hb)
      clear hb
      go_wp2_with fail
      refine (nil_Divide _ _ _ _).mono ?_
      rintro e u7 ⟨hb, rfl⟩
      replace HW := Kept.mk (bstep (show Below w.heap.size w _ from (by first | exact HW.out | exact HW.out.alloc HW.out.size _)) hb)
      clear hb
      go_wp2_with fail
      refine (nil_Common _).mono ?_
      rintro e u8 ⟨hb, rfl⟩
      replace HW := Kept.mk (bstep (show Below w.heap.size w _ from (by first | exact HW.out | exact HW.out.alloc HW.out.size _)) hb)
      clear hb
      go_wp2_with fail
      refine (nil_Through _).mono ?_
      rintro e u9 ⟨hb, rfl⟩
      replace HW := Kept.mk (bstep (show Below w.heap.size w _ from (by first | exact HW.out | exact HW.out.alloc HW.out.size _)) hb)
      clear hb
      go_wp2_with fail
      refine (nil_Roots _ _ _ _).mono ?_
      rintro e u10 ⟨hb, rfl⟩
      replace HW := Kept.mk (bstep (show Below w.heap.size w _ from (by first | exact HW.out | exact HW.out.alloc HW.out.size _)) hb)
      clear hb
      go_wp2_with fail
      refine (nil_Irreducible _).mono ?_
      rintro e u11 ⟨hb, rfl⟩
      replace HW := Kept.mk (bstep (show Below w.heap.size w _ from (by first | exact HW.out | exact HW.out.alloc HW.out.size _)) hb)
      clear hb
      go_wp2_with fail
      refine (nil_Echelon _).mono ?_
      rintro e u12 ⟨hb, rfl⟩
      replace HW := Kept.mk (bstep (show Below w.heap.size w _ from (by first | exact HW.out | exact HW.out.alloc HW.out.size _)) hb)
      clear hb
      go_wp2_with fail
      refine (nil_Solve _).mono ?_
      rintro e u13 ⟨hb, rfl⟩
      replace HW := Kept.mk (bstep (show Below w.heap.size w _ from (by first | exact HW.out | exact HW.out.alloc HW.out.size _)) hb)
      clear hb
      go_wp2_with fail
      refine (nil_Deny _).mono ?_
      rintro e u14 ⟨hb, rfl⟩
      replace HW := Kept.mk (bstep (show Below w.heap.size w _ from (by first | exact HW.out | exact HW.out.alloc HW.out.size _)) hb)
      clear hb
      go_wp2_with fail
      refine (nil_Order _).mono ?_
      rintro e u15 ⟨hb, rfl⟩
      replace HW := Kept.mk (bstep (show Below w.heap.size w _ from (by first | exact HW.out | exact HW.out.alloc HW.out.size _)) hb)
      clear hb
      go_wp2_with fail
      refine (nil_Modulus _).mono ?_
      rintro e u16 ⟨hb, rfl⟩
      replace HW := Kept.mk (bstep (show Below w.heap.size w _ from (by first | exact HW.out | exact HW.out.alloc HW.out.size _)) hb)
      clear hb
      go_wp2_with fail
      refine (nil_Generator _).mono ?_
      rintro e u17 ⟨hb, rfl⟩
      replace HW := Kept.mk (bstep (show Below w.heap.size w _ from (by first | exact HW.out | exact HW.out.alloc HW.out.size _)) hb)
      clear hb
      go_wp2_with fail
      refine (nil_Add _).mono ?_
      rintro e u18 ⟨hb, rfl⟩
      replace HW := Kept.mk (bstep (show Below w.heap.size w _ from (by first | exact HW.out | exact HW.out.alloc HW.out.size _)) hb)
      clear hb
      go_wp2_with fail
      refine (nil_Sub _).mono ?_
      rintro e u19 ⟨hb, rfl⟩
      replace HW := Kept.mk (bstep (show Below w.heap.size w _ from (by first | exact HW.out | exact HW.out.alloc HW.out.size _)) hb)
      clear hb
      go_wp2_with fail
      refine (nil_Mul _).mono ?_
      rintro e u20 ⟨hb, rfl⟩
      replace HW := Kept.mk (bstep (show Below w.heap.size w _ from (by first | exact HW.out | exact HW.out.alloc HW.out.size _)) hb)
      clear hb
      go_wp2_with fail
      refine (nil_Trace _).mono ?_
      rintro e u21 ⟨hb, rfl⟩
      replace HW := Kept.mk (bstep (show Below w.heap.size w _ from (by first | exact HW.out | exact HW.out.alloc HW.out.size _)) hb)
      clear hb
      go_wp2_with fail
      refine (nil_Norm _).mono ?_
      rintro e u22 ⟨hb, rfl⟩
      replace HW := Kept.mk (bstep (show Below w.heap.size w _ from (by first | exact HW.out | exact HW.out.alloc HW.out.size _)) hb)
      clear hb
      go_wp2_with fail
      refine (nil_Minimal _).mono ?_
      rintro e u23 ⟨hb, rfl⟩
      replace HW := Kept.mk (bstep (show Below w.heap.size w _ from (by first | exact HW.out | exact HW.out.alloc HW.out.size _)) hb)
      clear hb
      go_wp2_with fail
      refine (nil_Check _).mono ?_
      rintro e u24 ⟨hb, rfl⟩
      replace HW := Kept.mk (bstep (show Below w.heap.size w _ from (by first | exact HW.out | exact HW.out.alloc HW.out.size _)) hb)
      clear hb
      go_wp2_with fail
      refine (nil_Denies _).mono ?_
      rintro e u25 ⟨hb, rfl⟩
      replace HW := Kept.mk (bstep (show Below w.heap.size w _ from (by first | exact HW.out | exact HW.out.alloc HW.out.size _)) hb)
      clear hb
      go_wp2_with fail
      refine (awake_any _).mono ?_
      rintro e u99 ⟨hb, rfl⟩
      replace HW := Kept.mk (bstep HW.out hb)
      clear hb
      go_wp2
      go_ret
      exact ⟨HW.out, rfl⟩
end Go.Proofs.Ytfhhnfpapgfnmaa
