/-
  Texts of the proof, merged by program: Rir Rts Frt Frz.
-/
import Derived.Test.YtfhhnfpapgfnmaaZFxw
import Derived.Test.YtfhhnfpapgfnmaaZRcm
import Derived.Test.YtfhhnfpapgfnmaaZRth
import Derived.Test.YtfhhnfpapgfnmaaZRtq
import Derived.Test.YtfhhnfpapgfnmaaZRtn
import Derived.Test.YtfhhnfpapgfnmaaZPly
import Derived.Test.YtfhhnfpapgfnmaaZHor
set_option linter.unusedVariables false
set_option linter.unusedSimpArgs false
namespace Go.Proofs.Ytfhhnfpapgfnmaa
open Go Go.RowKit Go.Deep
open FFld (ints)
/-- The answer of Irreducible. -/
def IrRet {D : FFld.FD} (hD : D.Ok) (pl : List Nat) (w : World) (e : Ending) (w' : World) : Prop := Below w.heap.size w w' ∧ ∃ b, e = .returned (.bool b) ∧ (b = true ↔ FFld.IrrP hD pl)
set_option maxRecDepth 20000 in
set_option maxHeartbeats 8000000 in
theorem rirreducible_any {D : FFld.FD} (hD : D.Ok) (vp : Value) (pl : List Nat) (w : World) (hp : Sl .i64 w vp (ints pl)) (hpq : ∀ a ∈ pl, a < D.p ^ D.k) (ht : FFld.Tz pl) (hpl : pl.length ≤ 1000) :
    Calls Try.prog 69 #[rfv D.q D.p D.k D.m, vp] w (IrRet hD pl w) := by
  obtain ⟨ap, cp, rfl, hcp, hmp⟩ := hp.form
  have hk := hD.pre.pk
  have HX0 : Kept (Bxs w [rbox D.q D.p D.k D.m] (w.alloc (rbox D.q D.p D.k D.m))) := ⟨(Bxs.start w).alloc (by simp) _⟩
  have hq6 : D.p ^ D.k ≤ 65536 := hD.pre.small
  rw [FFld.ints_len] at hp hcp ⊢
  obtain ⟨n, hn⟩ : ∃ n, pl.length = n := ⟨_, rfl⟩
  rw [hn] at hp hcp ⊢
  have HP := Kept.mk hp
  have HPQ := Kept.mk hpq
  have HTZ := Kept.mk ht
  have HN := Kept.mk hn
  have HNG := Kept.mk (fun W a (ha : a < D.p ^ D.k) => rneg_any D.q D.p D.k D.m a W hk.p2 hk.k1 ha hq6)
  have HQ6 := Kept.mk hq6
  have hal2 : ∀ (z : Nat) (W : World), Below W.heap.size W (W.alloc (.cells #[.int .i64 0, .int .i64 z] 3)) := fun z W => (Below.refl _ _).alloc (Nat.le_refl _) _
  have HAL2 := Kept.mk hal2
  have hal1 : ∀ (W : World), Below W.heap.size W (W.alloc (.cells #[.int .i64 1] 3)) := fun W => (Below.refl _ _).alloc (Nat.le_refl _) _
  have HAL1 := Kept.mk hal1
  have hn6 : n ≤ 1000 := by omega
  clear hp hpq ht hal2 hal1 hq6 hn hpl
  by_cases hsm : n < 2
  · have HNO : Kept (∀ w', Below w.heap.size w w' → IrRet hD pl w (.returned (.bool false)) w') := ⟨fun w' h => ⟨h, false, rfl, fun e => absurd e (by simp), fun e => absurd e.1 (by rw [HN.out]; omega)⟩⟩
    have ew : IntKind.i64.wrap ((n : Int) - 1) = (n : Int) - 1 := by rw [IntKind.wrap_i64]; omega
    have ec : decide ((n : Int) - 1 < 1) = true := by rw [decide_eq_true_eq]; omega
    go_enter Try.func69, Try.ntmps69
    go_wp2
    go_ret
    exact HNO.out _ HX0.out.1
  · obtain ⟨m, rfl⟩ : ∃ m, n = m + 1 := ⟨n - 1, by omega⟩
    have ew : IntKind.i64.wrap (((m + 1 : Nat) : Int) - 1) = m := by rw [IntKind.wrap_i64]; omega
    have ec : decide ((m : Int) < 1) = false := by rw [decide_eq_false_iff_not]; omega
    have HPS := Kept.mk (HP.out.below HX0.out.1)
    have HXS := Kept.mk (FFld.x_start hD pl (D.p ^ D.k))
    have hs0 := two_sl (w.alloc (rbox D.q D.p D.k D.m)) (0 : Int) 1
    rw [show (w.alloc (rbox D.q D.p D.k D.m)).heap.size = w.heap.size + 1 by simp] at hs0
    have HS0 := Kept.mk hs0
    clear hs0
    have HB0 := Kept.mk (HX0.out.below (HAL2.out 1 (w.alloc (rbox D.q D.p D.k D.m))))
    have htop : pl[pl.length - 1]?.getD 0 ≠ 0 := HTZ.out.top (by rw [HN.out]; omega)
    have HTOP := Kept.mk htop
    have HPD := Kept.mk (fun vp vq pl ql W h1 h2 h3 h4 h5 h6 => rproductp_any hD vp vq pl ql W h1 h2 h3 h4 h5 h6)
    have HDV := Kept.mk (fun vo ol W h1 h2 h3 h4 => rpdivide_any hD vo (.slice ap (m + 1) cp) ol pl W h1 h2 h3 HPQ.out (by rw [HN.out]; omega) HTOP.out h4 (by rw [HN.out]; omega))
    clear htop
    go_enter Try.func69, Try.ntmps69
    go_wp2
    go_loopw [6, 7] (fun xv dv wr => ∃ (d : Nat) (xl : List Nat), 2 * d ≤ m + 2 ∧ 1 ≤ d ∧ dv = .int .i64 d ∧ Kept (Sl .i64 wr xv (ints xl)) ∧ Kept (FFld.RemW hD pl ((FFld.FD.dom hD.nzd).ser.pow (FFld.xx (FFld.FD.dom hD.nzd)) ((D.p ^ D.k) ^ (d - 1))) xl) ∧ Kept (∀ d', 1 ≤ d' → d' < d → FFld.NoC hD pl d') ∧ Kept (Bxs w [rbox D.q D.p D.k D.m] wr)) (fun _ dv _ => m + 2 - (intOf dv).toNat)
    case atStart => exact ⟨1, [0, 1], by omega, by omega, rfl, HS0, HXS, ⟨fun d' h1 h2 => absurd h2 (by omega)⟩, HB0⟩
    case round =>
      clear HS0 HXS HB0
      obtain ⟨d, xl, hd2, hd1, rfl, hsx, hxw, hno, hbx⟩ := hrel
      have hsx1 := hsx.out
      obtain ⟨ax, cx, rfl, hcx, hmx⟩ := hsx1.form
      rw [FFld.ints_len] at hcx hsx ⊢
      obtain ⟨nx, hnx⟩ : ∃ x, xl.length = x := ⟨_, rfl⟩
      rw [hnx] at hcx hsx ⊢
      have HNX := Kept.mk hnx
      obtain ⟨i0, i1, i2, i3⟩ := four_cells hbx.out.b0
      clear hsx1 hnx
      have e2d : IntKind.i64.wrap (2 * (d : Int)) = 2 * (d : Int) := by rw [IntKind.wrap_i64]; omega
      by_cases hle : 2 * d ≤ m
      · have ec2 : decide (2 * (d : Int) ≤ m) = true := by rw [decide_eq_true_eq]; omega
        have HON := Kept.mk (FFld.one_start hD pl)
        have HSY := Kept.mk (one_sln wr 1)
        have HSX1 := Kept.mk (hsx.out.below (HAL1.out wr))
        have HB1 := Kept.mk (hbx.out.below (HAL1.out wr))
        have HEQ : Kept (0 + (D.p ^ D.k) ^ (d - 1) * D.q = (D.p ^ D.k) ^ d) := ⟨by
          show 0 + (D.p ^ D.k) ^ (d - 1) * (D.p ^ D.k) = _
          rw [Nat.zero_add, ← Nat.pow_succ, Nat.succ_eq_add_one, Nat.sub_add_cancel hd1]⟩
        obtain ⟨y0, y1, y2, y3⟩ := four_cells HB1.out.b0
        obtain ⟨wz, hwz⟩ : ∃ W, W = wr := ⟨_, rfl⟩
        have hqq : D.q ≤ 65536 := HQ6.out
        go_wp2
        go_loopw [6, 8, 9] (fun xv yv ev wr => ∃ (a b e : Nat) (xl yl : List Nat), e ≤ 65536 ∧ ev = .int .i64 e ∧ Kept (Sl .i64 wr xv (ints xl)) ∧ Kept (Sl .i64 wr yv (ints yl)) ∧ Kept (FFld.RemW hD pl ((FFld.FD.dom hD.nzd).ser.pow (FFld.xx (FFld.FD.dom hD.nzd)) a) yl) ∧ Kept (FFld.RemW hD pl ((FFld.FD.dom hD.nzd).ser.pow (FFld.xx (FFld.FD.dom hD.nzd)) b) xl) ∧ Kept (a + b * e = (D.p ^ D.k) ^ d) ∧ Kept (Bxs w [rbox D.q D.p D.k D.m] wr)) (fun _ _ ev _ => (intOf ev).toNat)
        case atStart => exact ⟨0, (D.p ^ D.k) ^ (d - 1), D.q, xl, [1], hqq, rfl, HSX1, HSY, HON, hxw, HEQ, HB1⟩
        case round =>
          clear HSX1 HSY HON HEQ HB1 i0 i1 i2 i3 y0 y1 y2 y3 hsx hxw hbx hwz
          obtain ⟨a, b, e, xl, yl, he6, rfl, hsx, hsy, hyw, hxw, heq, hbx⟩ := hrel
          have hsx1 := hsx.out
          obtain ⟨ax, cx, rfl, hcx, hmx⟩ := hsx1.form
          have hsy1 := hsy.out
          obtain ⟨ay, cy, rfl, hcy, hmy⟩ := hsy1.form
          rw [FFld.ints_len] at hcx hcy hsx hsy ⊢
          rw [FFld.ints_len]
          obtain ⟨nx, hnx⟩ : ∃ x, xl.length = x := ⟨_, rfl⟩
          rw [hnx] at hcx hsx ⊢
          have HNX := Kept.mk hnx
          obtain ⟨ny, hny⟩ : ∃ x, yl.length = x := ⟨_, rfl⟩
          rw [hny] at hcy hsy ⊢
          have HNY := Kept.mk hny
          obtain ⟨i0, i1, i2, i3⟩ := four_cells hbx.out.b0
          have HPW := Kept.mk (HP.out.below hbx.out.1)
          clear hsx1 hsy1 hnx hny
          by_cases he0 : 0 < e
          · obtain ⟨e', he'⟩ : ∃ e', e / 2 = e' := ⟨_, rfl⟩
            have en : (e : Int) / 2 = e' := by rw [← he']; rfl
            have hlt : e' < e := by omega
            by_cases h1 : e % 2 = 1
            · have ep : ((e : Int) % 2 == 1) = true := by rw [beq_iff_eq]; omega
              have HEQ : Kept (a + b + (b + b) * e' = (D.p ^ D.k) ^ d) := ⟨by
                rw [← heq.out, show e = 2 * e' + 1 by omega, Nat.mul_add, Nat.mul_one, ← Nat.two_mul, Nat.mul_comm 2 b, Nat.mul_assoc]
                omega⟩
              clear he' h1 heq
              obtain ⟨aml, ahml⟩ : ∃ l, FFld.mulL D yl xl = l := ⟨_, rfl⟩
              have aHMW := Kept.mk (FFld.RemW.mul hD HPQ.out (by rw [HN.out]; omega) (by rw [HN.out]; omega) HTOP.out hyw.out hxw.out)
              rw [ahml] at aHMW
              have aHP1 := Kept.mk (fun W (hW : Below wr.heap.size wr W) => rproductp_any hD (.slice ay ny cy) (.slice ax nx cx) yl xl W (hsy.out.below hW) (hsx.out.below hW) hyw.out.lt hxw.out.lt (by have := hyw.out.len; omega) (by have := hxw.out.len; omega))
              rw [ahml] at aHP1
              have aHMQ : Kept ((∀ a ∈ aml, a < D.p ^ D.k) ∧ aml.length ≤ 100000) := ⟨by
                rw [← ahml]
                refine ⟨FFld.mulL_lt hk _ _, ?_⟩
                have := mulL_le D yl xl
                have := hyw.out.len
                have := hxw.out.len
                omega⟩
              have aHD1 := Kept.mk (fun W v (hW : Below wr.heap.size wr W) (h : Sl .i64 W v (ints aml)) => HDV.out v aml W h ((HPW.out).below hW) aHMQ.out.1 aHMQ.out.2)
              clear ahml
              go_wp2
              go_region_held3 (fun w' => w'.cell? ⟨w.heap.size, 0, none⟩ = some (.int .i64 D.q) ∧ w'.cell? ⟨w.heap.size, 1, none⟩ = some (.int .i64 D.p) ∧ w'.cell? ⟨w.heap.size, 2, none⟩ = some (.int .i64 D.k) ∧ w'.cell? ⟨w.heap.size, 3, none⟩ = some (.int .i64 D.m))
                (first | exact ⟨al0, al1, al2, al3⟩ | exact ⟨aj0, aj1, aj2, aj3⟩ | exact ⟨i0, i1, i2, i3⟩ | go_keep)
                ((first
                  | (go_at_call 66; (refine (aHP1.out _ (by repeat (first | (with_reducible exact Below.refl _ _) | (with_reducible refine Below.drew ?_)))).mono ?_); rintro e av1 ⟨ahb1, avo, rfl, ahs1⟩; have aHC1 := Kept.mk (bstep (show Below wr.heap.size wr _ from (by repeat (first | (with_reducible exact Below.refl _ _) | (with_reducible refine Below.drew ?_)))) ahb1); have aj0 := belowCell aHC1.out i0; have aj1 := belowCell aHC1.out i1; have aj2 := belowCell aHC1.out i2; have aj3 := belowCell aHC1.out i3; have aHSO := Kept.mk ahs1; clear ahb1 ahs1)
                  | (go_at_call 68; (refine (aHD1.out _ avo aHC1.out aHSO.out).mono ?_); rintro e av2 ⟨ahb2, avq, avr, rfl, ahsq, ahsr⟩; have aHC2 := Kept.mk (bstep aHC1.out ahb2); have al0 := belowCell aHC2.out i0; have al1 := belowCell aHC2.out i1; have al2 := belowCell aHC2.out i2; have al3 := belowCell aHC2.out i3; have aHSR := Kept.mk ahsr; clear ahb2 ahsq ahsr)))
              have HPA := Kept.mk (HPW.out.below aHC2.out)
              have HXA := Kept.mk (hsx.out.below aHC2.out)
              have HBA := Kept.mk (hbx.out.below aHC2.out)
              clear aHP1 aHD1 aHSO HPW
              obtain ⟨bml, bhml⟩ : ∃ l, FFld.mulL D xl xl = l := ⟨_, rfl⟩
              have bHMW := Kept.mk (FFld.RemW.mul hD HPQ.out (by rw [HN.out]; omega) (by rw [HN.out]; omega) HTOP.out hxw.out hxw.out)
              rw [bhml] at bHMW
              have bHP1 := Kept.mk (fun W (hW : Below av2.heap.size av2 W) => rproductp_any hD (.slice ax nx cx) (.slice ax nx cx) xl xl W (HXA.out.below hW) (HXA.out.below hW) hxw.out.lt hxw.out.lt (by have := hxw.out.len; omega) (by have := hxw.out.len; omega))
              rw [bhml] at bHP1
              have bHMQ : Kept ((∀ a ∈ bml, a < D.p ^ D.k) ∧ bml.length ≤ 100000) := ⟨by
                rw [← bhml]
                refine ⟨FFld.mulL_lt hk _ _, ?_⟩
                have := mulL_le D xl xl
                have := hxw.out.len
                have := hxw.out.len
                omega⟩
              have bHD1 := Kept.mk (fun W v (hW : Below av2.heap.size av2 W) (h : Sl .i64 W v (ints bml)) => HDV.out v bml W h ((HPA.out).below hW) bHMQ.out.1 bHMQ.out.2)
              clear bhml
              go_wp2
              go_region_held3 (fun w' => w'.cell? ⟨w.heap.size, 0, none⟩ = some (.int .i64 D.q) ∧ w'.cell? ⟨w.heap.size, 1, none⟩ = some (.int .i64 D.p) ∧ w'.cell? ⟨w.heap.size, 2, none⟩ = some (.int .i64 D.k) ∧ w'.cell? ⟨w.heap.size, 3, none⟩ = some (.int .i64 D.m))
                (first | exact ⟨bl0, bl1, bl2, bl3⟩ | exact ⟨bj0, bj1, bj2, bj3⟩ | exact ⟨al0, al1, al2, al3⟩ | go_keep)
                ((first
                  | (go_at_call 66; (refine (bHP1.out _ (by repeat (first | (with_reducible exact Below.refl _ _) | (with_reducible refine Below.drew ?_)))).mono ?_); rintro e bv1 ⟨bhb1, bvo, rfl, bhs1⟩; have bHC1 := Kept.mk (bstep (show Below av2.heap.size av2 _ from (by repeat (first | (with_reducible exact Below.refl _ _) | (with_reducible refine Below.drew ?_)))) bhb1); have bj0 := belowCell bHC1.out al0; have bj1 := belowCell bHC1.out al1; have bj2 := belowCell bHC1.out al2; have bj3 := belowCell bHC1.out al3; have bHSO := Kept.mk bhs1; clear bhb1 bhs1)
                  | (go_at_call 68; (refine (bHD1.out _ bvo bHC1.out bHSO.out).mono ?_); rintro e bv2 ⟨bhb2, bvq, bvr, rfl, bhsq, bhsr⟩; have bHC2 := Kept.mk (bstep bHC1.out bhb2); have bl0 := belowCell bHC2.out al0; have bl1 := belowCell bHC2.out al1; have bl2 := belowCell bHC2.out al2; have bl3 := belowCell bHC2.out al3; have bHSR := Kept.mk bhsr; clear bhb2 bhsq bhsr)))
              have HBB := Kept.mk (HBA.out.below bHC2.out)
              have HYB := Kept.mk (aHSR.out.below bHC2.out)
              clear bHP1 bHD1 bHSO
              go_wp2
              go_roundw
              case rel => exact ⟨a + b, b + b, e', _, _, by omega, rfl, bHSR, HYB, aHMW, bHMW, HEQ, HBB⟩
              case measure => simp [intOf] <;> omega
            · have ep : ((e : Int) % 2 == 1) = false := by rw [beq_eq_false_iff_ne]; omega
              have HEQ : Kept (a + (b + b) * e' = (D.p ^ D.k) ^ d) := ⟨by
                rw [← heq.out, show e = 2 * e' by omega, ← Nat.two_mul, Nat.mul_comm 2 b, Nat.mul_assoc]⟩
              clear he' h1 heq
              obtain ⟨bml, bhml⟩ : ∃ l, FFld.mulL D xl xl = l := ⟨_, rfl⟩
              have bHMW := Kept.mk (FFld.RemW.mul hD HPQ.out (by rw [HN.out]; omega) (by rw [HN.out]; omega) HTOP.out hxw.out hxw.out)
              rw [bhml] at bHMW
              have bHP1 := Kept.mk (fun W (hW : Below wr.heap.size wr W) => rproductp_any hD (.slice ax nx cx) (.slice ax nx cx) xl xl W (hsx.out.below hW) (hsx.out.below hW) hxw.out.lt hxw.out.lt (by have := hxw.out.len; omega) (by have := hxw.out.len; omega))
              rw [bhml] at bHP1
              have bHMQ : Kept ((∀ a ∈ bml, a < D.p ^ D.k) ∧ bml.length ≤ 100000) := ⟨by
                rw [← bhml]
                refine ⟨FFld.mulL_lt hk _ _, ?_⟩
                have := mulL_le D xl xl
                have := hxw.out.len
                have := hxw.out.len
                omega⟩
              have bHD1 := Kept.mk (fun W v (hW : Below wr.heap.size wr W) (h : Sl .i64 W v (ints bml)) => HDV.out v bml W h ((HPW.out).below hW) bHMQ.out.1 bHMQ.out.2)
              clear bhml
              go_wp2
              go_region_held3 (fun w' => w'.cell? ⟨w.heap.size, 0, none⟩ = some (.int .i64 D.q) ∧ w'.cell? ⟨w.heap.size, 1, none⟩ = some (.int .i64 D.p) ∧ w'.cell? ⟨w.heap.size, 2, none⟩ = some (.int .i64 D.k) ∧ w'.cell? ⟨w.heap.size, 3, none⟩ = some (.int .i64 D.m))
                (first | exact ⟨bl0, bl1, bl2, bl3⟩ | exact ⟨bj0, bj1, bj2, bj3⟩ | exact ⟨i0, i1, i2, i3⟩ | go_keep)
                ((first
                  | (go_at_call 66; (refine (bHP1.out _ (by repeat (first | (with_reducible exact Below.refl _ _) | (with_reducible refine Below.drew ?_)))).mono ?_); rintro e bv1 ⟨bhb1, bvo, rfl, bhs1⟩; have bHC1 := Kept.mk (bstep (show Below wr.heap.size wr _ from (by repeat (first | (with_reducible exact Below.refl _ _) | (with_reducible refine Below.drew ?_)))) bhb1); have bj0 := belowCell bHC1.out i0; have bj1 := belowCell bHC1.out i1; have bj2 := belowCell bHC1.out i2; have bj3 := belowCell bHC1.out i3; have bHSO := Kept.mk bhs1; clear bhb1 bhs1)
                  | (go_at_call 68; (refine (bHD1.out _ bvo bHC1.out bHSO.out).mono ?_); rintro e bv2 ⟨bhb2, bvq, bvr, rfl, bhsq, bhsr⟩; have bHC2 := Kept.mk (bstep bHC1.out bhb2); have bl0 := belowCell bHC2.out i0; have bl1 := belowCell bHC2.out i1; have bl2 := belowCell bHC2.out i2; have bl3 := belowCell bHC2.out i3; have bHSR := Kept.mk bhsr; clear bhb2 bhsq bhsr)))
              have HBB := Kept.mk (hbx.out.below bHC2.out)
              have HYB := Kept.mk (hsy.out.below bHC2.out)
              clear bHP1 bHD1 bHSO
              go_wp2
              go_roundw
              case rel => exact ⟨a, b + b, e', _, yl, by omega, rfl, bHSR, HYB, hyw, bHMW, HEQ, HBB⟩
              case measure => simp [intOf] <;> omega
          · obtain rfl : e = 0 := by omega
            have HYD : Kept (FFld.RemW hD pl ((FFld.FD.dom hD.nzd).ser.pow (FFld.xx (FFld.FD.dom hD.nzd)) ((D.p ^ D.k) ^ d)) yl) := ⟨by
              have e1 := heq.out
              rw [Nat.mul_zero, Nat.add_zero] at e1
              rw [← e1]
              exact hyw.out⟩
            obtain ⟨z, hz⟩ : ∃ z, FFld.pscl D.p D.k (D.p - 1) 1 = z := ⟨_, rfl⟩
            have HN1 : Kept (∀ W, Calls Try.prog 113 #[rfv D.q D.p D.k D.m, .int .i64 1] W (RB W (.int .i64 z))) := ⟨fun W => by
              have := HNG.out W 1 hk.one_lt
              rw [hz] at this
              exact this⟩
            have HZL := Kept.mk (FFld.negx_lt hD)
            have HCO := Kept.mk (FFld.cm_ok hD HPQ.out HTZ.out (by rw [HN.out]; omega) HYD.out.len)
            have HNI := Kept.mk (fun out => FFld.noc_is (out := out) hD HPQ.out HTZ.out (by rw [HN.out]; omega) (by rw [HN.out]; omega) HYD.out)
            rw [hz] at HZL HCO HNI
            obtain ⟨sl, hsl⟩ : ∃ l, FFld.trm (FFld.sumL D yl [0, z]) = l := ⟨_, rfl⟩
            have HSU := Kept.mk (fun W v2 (h1 : Sl .i64 W (.slice ay ny cy) (ints yl)) (h2 : Sl .i64 W v2 (ints [0, z])) => rpsum_any hD (.slice ay ny cy) v2 yl [0, z] W h1 h2 hyw.out.lt HZL.out hyw.out.len (by simp))
            rw [hsl] at HSU HCO HNI
            have HCM := Kept.mk (fun W v2 (h1 : Sl .i64 W (.slice ap (m + 1) cp) (ints pl)) (h2 : Sl .i64 W v2 (ints sl)) => rcommon_any hD (.slice ap (m + 1) cp) v2 pl sl W h1 h2 HCO.out)
            have hal := HAL2.out z
            have hz6 : z ≤ 65536 := by have := HQ6.out; have := HZL.out z (List.mem_cons_of_mem _ List.mem_cons_self); omega
            clear hz hsl HZL HCO heq hyw hxw
            go_wp2
            go_region_held3 (fun w' => w'.cell? ⟨w.heap.size, 0, none⟩ = some (.int .i64 D.q) ∧ w'.cell? ⟨w.heap.size, 1, none⟩ = some (.int .i64 D.p) ∧ w'.cell? ⟨w.heap.size, 2, none⟩ = some (.int .i64 D.k) ∧ w'.cell? ⟨w.heap.size, 3, none⟩ = some (.int .i64 D.m))
              (first | exact ⟨n0, n1, n2, n3⟩ | exact ⟨m0, m1, m2, m3⟩ | exact ⟨l0, l1, l2, l3⟩ | exact ⟨j0, j1, j2, j3⟩ | exact ⟨i0, i1, i2, i3⟩ | go_keep)
              ((first
                | (go_at_call 113; (with_reducible refine (HN1.out _).mono ?_); rintro e v1 ⟨hb1, rfl⟩; have HC1 := Kept.mk (bstep (show Below wr.heap.size wr _ from (by repeat (first | (with_reducible exact Below.refl _ _) | (with_reducible refine Below.drew ?_)))) hb1); have j0 := belowCell HC1.out i0; have j1 := belowCell HC1.out i1; have j2 := belowCell HC1.out i2; have j3 := belowCell HC1.out i3; have l0 := belowCell (hal v1) j0; have l1 := belowCell (hal v1) j1; have l2 := belowCell (hal v1) j2; have l3 := belowCell (hal v1) j3; have HC1A := Kept.mk (bstep HC1.out (hal v1)); have HSO := Kept.mk (hsy.out.below HC1A.out); have HS2 := Kept.mk (two_sl v1 (0 : Int) z); clear hb1)
                | (go_at_call 119; (refine (HSU.out _ _ HSO.out HS2.out).mono ?_); rintro e v2 ⟨hb2, vo, rfl, hs2⟩; have HC2 := Kept.mk (bstep HC1A.out hb2); have m0 := belowCell HC2.out i0; have m1 := belowCell HC2.out i1; have m2 := belowCell HC2.out i2; have m3 := belowCell HC2.out i3; have HSP := Kept.mk hs2; clear hb2 hs2)
                | (go_at_call 67; (refine (HCM.out _ vo (HPW.out.below HC2.out) HSP.out).mono ?_); rintro e v3 ⟨hb3, vc, o, rfl, hsc, hcm⟩; obtain ⟨ac, cc, rfl, hcc, hmc⟩ := hsc.form; rw [FFld.ints_len]; have HC3 := Kept.mk (bstep HC2.out hb3); have n0 := belowCell HC3.out i0; have n1 := belowCell HC3.out i1; have n2 := belowCell HC3.out i2; have n3 := belowCell HC3.out i3; have HCI := Kept.mk hcm; clear hb3 hsc hcc hmc hcm)))
            have HNC := Kept.mk (HNI.out o HCI.out)
            have HX9 := Kept.mk (hbx.out.below HC3.out)
            have HY9 := Kept.mk (hsy.out.below HC3.out)
            obtain ⟨no, hno2⟩ : ∃ x, o.length = x := ⟨_, rfl⟩
            rw [hno2] at HNC ⊢
            clear HNI HCI hno2
            by_cases hgo : 1 < no
            · have ego : decide ((1 : Int) < no) = true := by rw [decide_eq_true_eq]; omega
              have HNO : Kept (∀ w', Below w.heap.size w w' → IrRet hD pl w (.returned (.bool false)) w') := ⟨fun w' h => ⟨h, false, rfl, fun e => absurd e (by simp), fun e => absurd (HNC.out.2 (e.2 d hd1 (by rw [HN.out]; omega))) (by omega)⟩⟩
              go_wp2
              go_ret
              exact HNO.out _ HX9.out.1
            · have ego : decide ((1 : Int) < no) = false := by rw [decide_eq_false_iff_not]; omega
              have HND := Kept.mk (HNC.out.1 (by omega))
              go_wp2
              go_roundw
              case rel => exact ⟨d + 1, yl, by omega, by omega, by go_num, HY9, HYD, ⟨fun d' q1 q2 => by
                by_cases e9 : d' = d
                · rw [e9]; exact HND.out
                · exact hno.out d' q1 (by omega)⟩, HX9⟩
              case measure => simp [intOf] <;> omega
      · have ec2 : decide (2 * (d : Int) ≤ m) = false := by rw [decide_eq_false_iff_not]; omega
        have HYES : Kept (∀ w', Below w.heap.size w w' → IrRet hD pl w (.returned (.bool true)) w') := ⟨fun w' h => ⟨h, true, rfl, fun _ => ⟨by rw [HN.out]; omega, fun d' q1 q2 => hno.out d' q1 (by rw [HN.out] at q2; omega)⟩, fun _ => rfl⟩⟩
        go_wp2
        go_ret
        exact HYES.out _ hbx.out.1
end Go.Proofs.Ytfhhnfpapgfnmaa

set_option linter.unusedVariables false
set_option linter.unusedSimpArgs false
namespace Go.Proofs.Ytfhhnfpapgfnmaa
open Go Go.RowKit Go.Deep
open FFld (ints)
namespace FFld
/-- The elements below i at which the polynomial is 0. -/
def rtsF (D : FD) (pl : List Nat) : Nat → List Nat
  | 0 => []
  | i + 1 => if hornF D pl i pl.length = 0 then rtsF D pl i ++ [i] else rtsF D pl i
theorem rtsF_len (D : FD) (pl : List Nat) : ∀ i, (rtsF D pl i).length ≤ i
  | 0 => Nat.le_refl _
  | i + 1 => by
    have := rtsF_len D pl i
    unfold rtsF
    split
    · rw [List.length_append]
      simp only [List.length_cons, List.length_nil]
      omega
    · omega
end FFld
/-- What Roots returns. -/
def RtRet (D : FFld.FD) (pl : List Nat) (w : World) (e : Ending) (w' : World) : Prop := Below w.heap.size w w' ∧ ∃ v, e = .returned (.tuple #[v, .int .i64 0]) ∧ Sl .i64 w' v (ints (FFld.rtsF D pl D.q))
section
variable {D : FFld.FD} {b : Nat} (v : Value) (pl : List Nat) (w : World) (hf : FldB D w b) (hp : Sl .i64 w v (ints pl)) (hc : cErr D (ints pl) = 0)
include hf hp hc
set_option maxRecDepth 20000 in
set_option maxHeartbeats 4000000 in
/-- The program's Roots of 0. -/
theorem froots_zero (h0 : pl.length = 0) :
    Calls Try.prog 36 #[.pointer (some ⟨b, 0, none⟩), v] w (fun e w' => w = w' ∧ e = .returned (.tuple #[.slice none 0 0, .int .i64 6])) := by
  have hC := Kept.mk (fcheck_any v (ints pl) w hf hp)
  rw [hc] at hC
  obtain ⟨ap, cp, hvp, hcp, hmp⟩ := hp.form
  subst hvp
  rw [FFld.ints_len, h0] at hC ⊢
  clear hf hp hc hcp
  go_enter Try.func36, Try.ntmps36
  go_wp2_with fail
  refine hC.out.mono ?_
  rintro e w1 ⟨rfl, rfl⟩
  go_wp2
  go_ret2
  exact ⟨rfl, rfl⟩
set_option maxRecDepth 20000 in
set_option maxHeartbeats 4000000 in
/-- The program's Roots. -/
theorem froots_any (hpq : ∀ a ∈ pl, a < D.p ^ D.k) (h0 : pl.length ≠ 0) (hpl : pl.length ≤ 100000) :
    Calls Try.prog 36 #[.pointer (some ⟨b, 0, none⟩), v] w (RtRet D pl w) := by
  obtain ⟨h, T, xv, fs, fp, fw, ms, hb, ho, hna⟩ := hf.open2
  obtain ⟨c0, c1, _⟩ := six_cells hb
  have hC := Kept.mk (fcheck_any v (ints pl) w hf hp)
  rw [hc] at hC
  obtain ⟨ap, cp, hvp, hcp, hmp⟩ := hp.form
  subst hvp
  rw [FFld.ints_len] at hcp hp hC ⊢
  have hq6 : D.q ≤ 65536 := h.pre.small
  have HG := Kept.mk (fun x W (hx : x < D.q) (hW : Below w.heap.size w W) => gvalue_any h (.slice ap pl.length cp) pl x w W ho hna hW (hp.below hW) hpq hx hpl)
  have hbl0 : b < w.heap.size := hf.lt
  obtain ⟨n, hn⟩ : ∃ n, pl.length = n := ⟨_, rfl⟩
  have HRL := Kept.mk (FFld.rtsF_len D pl)
  have HRS : Kept (∀ i, FFld.rtsF D pl (i + 1) = if FFld.hornF D pl i n = 0 then FFld.rtsF D pl i ++ [i] else FFld.rtsF D pl i) := ⟨fun i => by rw [← hn]; rfl⟩
  rw [hn] at hC hcp hpl h0 HG ⊢
  have e0 : ((n : Int) == 0) = false := by rw [beq_eq_false_iff_ne]; omega
  clear hp hpq ho hb hc hf hn
  go_enter Try.func36, Try.ntmps36
  go_wp2_with fail
  refine hC.out.mono ?_
  rintro e w1 ⟨rfl, rfl⟩
  go_wp2
  go_loopw [7, 22] (fun v iv wr => ∃ (i c k : Nat) (a : Option Addr) (l : List Nat), i ≤ D.q ∧ iv = .int .i64 i ∧ v = .slice a k c ∧ Kept (l.length = k) ∧ Kept (l = FFld.rtsF D pl i) ∧ Kept (Mine 3 .i64 w.heap.size wr (.slice a k c) (ints l)) ∧ Kept (Below w.heap.size w wr)) (fun _ iv _ => D.q - (intOf iv).toNat)
  case atStart => exact ⟨0, 0, 0, none, [], Nat.zero_le _, rfl, rfl, ⟨rfl⟩, ⟨rfl⟩, ⟨Mine.nil _ _ _ _⟩, ⟨Below.refl _ _⟩⟩
  case round =>
    obtain ⟨i, c, k, a, l, hi, rfl, rfl, hll, hle, hmv, hbl⟩ := hrel
    by_cases hlt : i < D.q
    · have hkk : k ≤ i := by
        have := HRL.out i
        rw [← hle.out, hll.out] at this
        exact this
      obtain ⟨hv, hhv⟩ : ∃ x, FFld.hornF D pl i n = x := ⟨_, rfl⟩
      have HV := Kept.mk (fun W (hW : Below w.heap.size w W) => HG.out i W hlt hW)
      have HS := Kept.mk (HRS.out i)
      rw [hhv] at HV HS
      have f0 : wr.cell? ⟨b, 0, none⟩ = some (.iface T xv) := (hbl.out.cell (p := ⟨b, 0, none⟩) hbl0).trans c0
      clear hhv
      by_cases hz : hv = 0
      · subst hz
        have HS2 : Kept (FFld.rtsF D pl (i + 1) = l ++ [i]) := ⟨by rw [HS.out, if_pos rfl, hle.out]⟩
        clear HS
        go_wp2_with fail
        refine (HV.out wr hbl.out).mono ?_
        rintro e w3 ⟨hb3, rfl⟩
        have HB3 := Kept.mk (bstep hbl.out hb3)
        have HM3 := Kept.mk (hmv.out.below hb3)
        clear hb3 f0
        have HMa := Kept.mk (HM3.out.alloc (.cells #[.int .i64 (i : Int)] 3))
        have HNW := Kept.mk (new_one (K := .i64) (x := (i : Int)) (w := w3.alloc (.cells #[.int .i64 (i : Int)] 3)) (b := w3.heap.size) (o := 0) (by exact (Row.new (E := 3) (K := .i64) w3 [(i : Int)]).cell (i := 0) (by simp)))
        have HBB := Kept.mk (show w.heap.size ≤ (w3.alloc (.cells #[.int .i64 (i : Int)] 3)).heap.size by have := HB3.out.size; simp; omega)
        have H1 := Kept.mk (show ((ints l).length + [(i : Int)].length) * 8 ≤ 140737488355328 by rw [FFld.ints_len, hll.out]; simp; omega)
        have H2 := Kept.mk (show (ints l).length + [(i : Int)].length ≤ maxLen by rw [FFld.ints_len, hll.out]; unfold maxLen; simp; omega)
        have HLL := Kept.mk (show (l ++ [i]).length = k + 1 by rw [List.length_append, hll.out]; rfl)
        have hOwn := Kept.mk HM3.out.own
        go_wp2_with (at_builtin; refine wpList_append_mine _ rfl _ _ 34 rfl 3 .i64 8 Try.underlying34 info_i64 w.heap.size (.slice a k c) (ints l) (by rfl) HMa.out HBB.out ⟨w3.heap.size, 0, none⟩ 1 1 [(i : Int)] (by rfl) rfl HNW.out H1.out H2.out ?_)
        intro v' w7 hm5 hg5 hn5
        have hgg := growTrans (World.grownBy_alloc w3 (.cells #[.int .i64 (i : Int)] 3) _) hg5
        have HB5 := Kept.mk (HB3.out.grown hgg HB3.out.size (fun j hj => (hOwn.out j hj).1))
        rw [show ints l ++ [(i : Int)] = ints (l ++ [i]) from by rw [FFld.ints_append]; rfl] at hm5
        have HM5 := Kept.mk hm5
        obtain ⟨a', c', hvv, _, _⟩ := hm5.sl.form
        rw [FFld.ints_len, HLL.out] at hvv
        subst hvv
        clear hm5 hg5 hn5 hgg
        go_wp2
        go_roundw
        case rel => exact ⟨i + 1, c', k + 1, a', l ++ [i], by omega, by go_num, rfl, HLL, ⟨HS2.out.symm⟩, HM5, HB5⟩
        case measure => simp [intOf] <;> omega
      · have HS2 : Kept (FFld.rtsF D pl (i + 1) = l) := ⟨by rw [HS.out, if_neg hz, hle.out]⟩
        have ez : ((hv : Int) == 0) = false := by rw [beq_eq_false_iff_ne]; omega
        clear HS
        go_wp2_with fail
        refine (HV.out wr hbl.out).mono ?_
        rintro e w3 ⟨hb3, rfl⟩
        have HB3 := Kept.mk (bstep hbl.out hb3)
        have HM3 := Kept.mk (hmv.out.below hb3)
        clear hb3 f0
        go_wp2
        go_roundw
        case rel => exact ⟨i + 1, c, k, a, l, by omega, by go_num, rfl, hll, ⟨HS2.out.symm⟩, HM3, HB3⟩
        case measure => simp [intOf] <;> omega
    · have HEQ : Kept (l = FFld.rtsF D pl D.q) := ⟨by rw [hle.out, show i = D.q by omega]⟩
      have hge : decide ((i : Int) < D.q) = false := by rw [decide_eq_false_iff_not]; omega
      go_wp2
      go_ret2
      exact ⟨hbl.out, _, rfl, by rw [← HEQ.out]; exact hmv.out.sl⟩
end
end Go.Proofs.Ytfhhnfpapgfnmaa

set_option linter.unusedVariables false
set_option linter.unusedSimpArgs false
namespace Go.Proofs.Ytfhhnfpapgfnmaa
open Go Go.RowKit Go.Deep
open FFld (ints)
namespace FFld
theorem rtsF_pre (D : FD) (pl : List Nat) (i : Nat) : ∀ d, ∃ t, rtsF D pl (i + d) = rtsF D pl i ++ t
  | 0 => ⟨[], (List.append_nil _).symm⟩
  | d + 1 => by
    obtain ⟨t, h⟩ := rtsF_pre D pl i d
    have e : rtsF D pl (i + (d + 1)) = if hornF D pl (i + d) pl.length = 0 then rtsF D pl (i + d) ++ [i + d] else rtsF D pl (i + d) := rfl
    by_cases h0 : hornF D pl (i + d) pl.length = 0
    · exact ⟨t ++ [i + d], by rw [e, if_pos h0, h, List.append_assoc]⟩
    · exact ⟨t, by rw [e, if_neg h0, h]⟩
/-- A root stands at its place. -/
theorem rtsF_at {D : FD} {pl : List Nat} {i q : Nat} (hi : i < q) (h0 : hornF D pl i pl.length = 0) : (rtsF D pl i).length < (rtsF D pl q).length ∧ (rtsF D pl q)[(rtsF D pl i).length]?.getD 0 = i := by
  obtain ⟨d, rfl⟩ : ∃ d, q = i + 1 + d := ⟨q - (i + 1), by omega⟩
  obtain ⟨t, h⟩ := rtsF_pre D pl (i + 1) d
  have e : rtsF D pl (i + 1) = rtsF D pl i ++ [i] := by
    show (if hornF D pl i pl.length = 0 then rtsF D pl i ++ [i] else rtsF D pl i) = _
    rw [if_pos h0]
  rw [h, e]
  refine ⟨by simp only [List.length_append, List.length_cons, List.length_nil]; omega, ?_⟩
  rw [List.append_assoc, List.getElem?_append_right (Nat.le_refl _), Nat.sub_self]
  rfl
end FFld
/-- What is still to be shown of fixed. -/
def FxAll : Prop := ∀ (D : FFld.FD) (hD : D.Ok) (b : Nat) (v : Value) (pl : List Nat) (w : World), FldB D w b → Sl .i64 w v (ints pl) → (∀ a ∈ pl, a < D.p ^ D.k) → FFld.Tz pl → 2 ≤ pl.length → pl.length ≤ 1000 → Calls Try.prog 102 #[.pointer (some ⟨b, 0, none⟩), v] w (FxRet hD pl w)
set_option maxRecDepth 20000 in
set_option maxHeartbeats 8000000 in
theorem fieldRoots_of (hfx : FxAll) (order : Int) (vl : Value) (xs : List Int) (w : World) (o0 : -9223372036854775808 ≤ order) (o1 : order ≤ 9223372036854775807) (hl : Sl .i64 w vl xs) (hlb : I64s xs) :
    Calls Try.prog 9 #[.int .i64 order, vl] w (RB w (.bool true)) := by
  obtain ⟨al, cl, hvl, hcl, hml⟩ := hl.form
  subst hvl
  have HL := Kept.mk hl
  have HLB := Kept.mk hlb
  have HFX := Kept.mk hfx
  clear hl hlb hfx
  go_enter Try.func9, Try.ntmps9
  go_wp2_with fail
  refine (some_any order 130 w o0 o1 (by omega) (by omega)).mono ?_
  rintro e w1 ⟨hb1, D, b, hD, hle, hbl, hf, rfl⟩
  have HD := Kept.mk hD
  have hq0 : D.q = D.p ^ D.k := rfl
  have hq6 := hD.pre.small
  have hq1 := hD.pre.pk.one_lt
  rw [← hq0] at hq1
  have hbx : Below w1.heap.size w1 (w1.alloc (rbox D.q D.p D.k D.m)) := (Below.refl _ _).alloc (Nat.le_refl _) _
  obtain ⟨i0, i1, i2, i3⟩ := four_cells (heap_alloc_new w1 (rbox D.q D.p D.k D.m))
  have HB := Kept.mk (bstep hb1 hbx)
  have HF := Kept.mk (hf.below hbx)
  have HL1 := Kept.mk (HL.out.below HB.out)
  have HP1 : Kept (∀ W, Below (w1.alloc (rbox D.q D.p D.k D.m)).heap.size (w1.alloc (rbox D.q D.p D.k D.m)) W → Calls Try.prog 64 #[rfv D.q D.p D.k D.m, .slice al xs.length cl, .int .i64 9] W (fun e w' => Below W.heap.size W w' ∧ ∃ v, e = .returned v ∧ Sl .i64 w' v (ints (polF D xs 9)))) := Kept.mk (fun W hW => poly_any hD _ xs 9 W (HL1.out.below hW) HLB.out (by omega))
  have hp12 := polF_len D xs 9
  have HPT := Kept.mk (polF_tz D xs 9)
  have HPL := Kept.mk (polF_lt hD xs 9)
  obtain ⟨pl, hpl⟩ : ∃ l, polF D xs 9 = l := ⟨_, rfl⟩
  rw [hpl] at HP1 hp12 HPT HPL
  clear hb1 hf hbx hpl HL hq0
  go_wp2_with fail
  refine (HP1.out _ (Below.refl _ _)).mono ?_
  rintro e w2 ⟨hb2, vp, rfl, hsp⟩
  replace HF := Kept.mk (HF.out.below hb2)
  replace HB := Kept.mk (bstep HB.out hb2)
  replace i0 := belowCell hb2 i0
  replace i1 := belowCell hb2 i1
  replace i2 := belowCell hb2 i2
  replace i3 := belowCell hb2 i3
  have HSP := Kept.mk hsp
  obtain ⟨ap, cp, rfl, hcp, hmp⟩ := hsp.form
  rw [FFld.ints_len] at hcp HSP ⊢
  obtain ⟨np, hnp⟩ : ∃ n, pl.length = n := ⟨_, rfl⟩
  have HNP := Kept.mk hnp
  rw [hnp] at hcp HSP hp12 ⊢
  clear hb2 hsp hnp HP1 HL1
  have HCP := Kept.mk (cErr_poly HPL.out HPT.out (by rw [HNP.out]; omega))
  have HIR := Kept.mk (fun X (hF : FldB D X b) (hP : Sl .i64 X (.slice ap np cp) (ints pl)) => firreducible_of HD.out (.slice ap np cp) pl X hF hP HCP.out HPL.out HPT.out (by rw [HNP.out]; omega) (fun W hW h2 => HFX.out D HD.out b (.slice ap np cp) pl W (hF.below hW) (hP.below hW) HPL.out HPT.out h2 (by rw [HNP.out]; omega)))
  have HRI := Kept.mk (fun X (hP : Sl .i64 X (.slice ap np cp) (ints pl)) => rirreducible_any HD.out (.slice ap np cp) pl X hP HPL.out HPT.out (by rw [HNP.out]; omega))
  by_cases hz : np = 0
  · subst hz
    have HRO := Kept.mk (froots_zero (.slice ap 0 cp) pl w2 HF.out HSP.out HCP.out HNP.out)
    go_wp2_with fail
    refine HRO.out.mono ?_
    rintro e w3 ⟨rfl, rfl⟩
    go_wp2_with fail
    refine (HIR.out _ HF.out HSP.out).mono ?_
    rintro e w4 ⟨hb4, bi, rfl, hbi⟩
    replace HF := Kept.mk (HF.out.below hb4)
    replace HSP := Kept.mk (HSP.out.below hb4)
    replace HB := Kept.mk (bstep HB.out hb4)
    replace i0 := belowCell hb4 i0
    replace i1 := belowCell hb4 i1
    replace i2 := belowCell hb4 i2
    replace i3 := belowCell hb4 i3
    have HBI := Kept.mk hbi
    clear hb4 hbi HRO HIR
    go_wp2_with fail
    refine (HRI.out _ HSP.out).mono ?_
    rintro e w5 ⟨hb5, br, rfl, hbr⟩
    replace HF := Kept.mk (HF.out.below hb5)
    replace HSP := Kept.mk (HSP.out.below hb5)
    replace HB := Kept.mk (bstep HB.out hb5)
    replace i0 := belowCell hb5 i0
    replace i1 := belowCell hb5 i1
    replace i2 := belowCell hb5 i2
    replace i3 := belowCell hb5 i3
    obtain rfl : bi = br := Bool.eq_iff_iff.2 (HBI.out.trans hbr.symm)
    have hne : (bi != bi) = false := by cases bi <;> rfl
    clear hb5 hbr HBI HRI
    go_wp2_with fail
    refine (awake_any _).mono ?_
    rintro e w6 ⟨hb6, rfl⟩
    have HB6 := Kept.mk (bstep HB.out hb6)
    clear hb6
    go_wp2
    go_ret
    exact ⟨HB6.out, rfl⟩
  · have ez : ((np : Int) == 0) = false := by rw [beq_eq_false_iff_ne]; omega
    have HRO := Kept.mk (froots_any (.slice ap np cp) pl w2 HF.out HSP.out HCP.out HPL.out (by rw [HNP.out]; exact hz) (by rw [HNP.out]; omega))
    have HRV := Kept.mk (fun x X (hx : x < D.q) (hP : Sl .i64 X (.slice ap np cp) (ints pl)) => rvalue_any HD.out (.slice ap np cp) pl x X hP HPL.out hx (by rw [HNP.out]; omega))
    have HAT := Kept.mk (fun i (hi : i < D.q) (h0 : FFld.hornF D pl i pl.length = 0) => FFld.rtsF_at (D := D) (pl := pl) (i := i) (q := D.q) hi h0)
    have HRL := Kept.mk (FFld.rtsF_len D pl)
    have HST : Kept (∀ i, FFld.rtsF D pl (i + 1) = if FFld.hornF D pl i pl.length = 0 then FFld.rtsF D pl i ++ [i] else FFld.rtsF D pl i) := ⟨fun i => rfl⟩
    obtain ⟨R, hR⟩ : ∃ R, FFld.rtsF D pl = R := ⟨_, rfl⟩
    rw [hR] at HAT HRL HST
    have HRE := Kept.mk hR
    have HR0 : Kept ((R 0).length = 0) := ⟨by have := HRL.out 0; omega⟩
    clear hR
    go_wp2_with fail
    refine HRO.out.mono ?_
    rintro e w3 ⟨hb3, vs, rfl, hss⟩
    replace HF := Kept.mk (HF.out.below hb3)
    replace HSP := Kept.mk (HSP.out.below hb3)
    replace HB := Kept.mk (bstep HB.out hb3)
    replace i0 := belowCell hb3 i0
    replace i1 := belowCell hb3 i1
    replace i2 := belowCell hb3 i2
    replace i3 := belowCell hb3 i3
    rw [HRE.out] at hss
    obtain ⟨as_, cs, rfl, hcs, hms⟩ := hss.form
    rw [FFld.ints_len] at hcs hss ⊢
    obtain ⟨ns, hns⟩ : ∃ n, (R D.q).length = n := ⟨_, rfl⟩
    have hnsq : ns ≤ D.q := by rw [← hns]; exact HRL.out _
    rw [hns] at hcs hss HAT ⊢
    have HNS := Kept.mk hns
    have HSS := Kept.mk hss
    clear hb3 hss hns HRO HRE
    go_wp2_with fail
    refine (HIR.out _ HF.out HSP.out).mono ?_
    rintro e w4 ⟨hb4, bi, rfl, hbi⟩
    replace HF := Kept.mk (HF.out.below hb4)
    replace HSP := Kept.mk (HSP.out.below hb4)
    replace HSS := Kept.mk (HSS.out.below hb4)
    replace HB := Kept.mk (bstep HB.out hb4)
    replace i0 := belowCell hb4 i0
    replace i1 := belowCell hb4 i1
    replace i2 := belowCell hb4 i2
    replace i3 := belowCell hb4 i3
    have HBI := Kept.mk hbi
    clear hb4 hbi HIR
    go_wp2_with fail
    refine (HRI.out _ HSP.out).mono ?_
    rintro e w5 ⟨hb5, br, rfl, hbr⟩
    replace HF := Kept.mk (HF.out.below hb5)
    replace HSP := Kept.mk (HSP.out.below hb5)
    replace HSS := Kept.mk (HSS.out.below hb5)
    replace HB := Kept.mk (bstep HB.out hb5)
    replace i0 := belowCell hb5 i0
    replace i1 := belowCell hb5 i1
    replace i2 := belowCell hb5 i2
    replace i3 := belowCell hb5 i3
    obtain rfl : bi = br := Bool.eq_iff_iff.2 (HBI.out.trans hbr.symm)
    have hne : (bi != bi) = false := by cases bi <;> rfl
    clear hb5 hbr HBI HRI
    have HI0 := Kept.mk (And.intro i0 (And.intro i1 (And.intro i2 i3)))
    go_wp2
    go_loopw [12, 13] (fun nv xv wr => ∃ (x n : Nat), x ≤ D.q ∧ xv = .int .i64 x ∧ nv = .int .i64 n ∧ Kept ((R x).length = n) ∧ Kept (Below w5.heap.size w5 wr)) (fun _ xv _ => D.q - (intOf xv).toNat)
    case atStart => exact ⟨0, 0, Nat.zero_le _, rfl, rfl, HR0, ⟨Below.refl _ _⟩⟩
    case round =>
      clear i0 i1 i2 i3
      obtain ⟨x, n, hx, rfl, rfl, hn, hbl2⟩ := hrel
      have hnx : n ≤ x := by rw [← hn.out]; exact HRL.out x
      obtain ⟨i0, i1, i2, i3⟩ := HI0.out
      replace i0 := belowCell hbl2.out i0
      replace i1 := belowCell hbl2.out i1
      replace i2 := belowCell hbl2.out i2
      replace i3 := belowCell hbl2.out i3
      by_cases hlt : x < D.q
      · obtain ⟨hv, hhv⟩ : ∃ h, FFld.hornF D pl x pl.length = h := ⟨_, rfl⟩
        have HV := Kept.mk (fun X (hP : Sl .i64 X (.slice ap np cp) (ints pl)) => HRV.out x X hlt hP)
        have HS2 := Kept.mk (HST.out x)
        have HA2 := Kept.mk (HAT.out x hlt)
        rw [hhv] at HV HS2 HA2
        rw [hn.out] at HA2
        clear hhv
        by_cases hz2 : hv = 0
        · subst hz2
          obtain ⟨a1, a2⟩ := HA2.out rfl
          obtain ⟨bs, os, rfl, hbs, hcell⟩ := (HSS.out.below hbl2.out).news_at n (by rw [FFld.ints_len, HNS.out]; exact a1)
          rw [FFld.ints_get, a2] at hcell
          have HN2 : Kept ((R (x + 1)).length = n + 1) := ⟨by rw [HS2.out, if_pos rfl, List.length_append, hn.out]; rfl⟩
          have ege : decide ((ns : Int) ≤ n) = false := by rw [decide_eq_false_iff_not]; omega
          clear HS2 HA2 a2
          go_wp2_with fail
          refine (HV.out _ (HSP.out.below hbl2.out)).mono ?_
          rintro e w7 ⟨hb7, rfl⟩
          have HB7 := Kept.mk (bstep hbl2.out hb7)
          have k1 := belowCell hb7 hcell
          have hxx : ((x : Int) != (x : Int)) = false := by simp
          clear hb7 hcell i0 i1 i2 i3
          go_wp2
          go_roundw
          case rel => exact ⟨x + 1, n + 1, by omega, by go_num, by go_num, HN2, HB7⟩
          case measure => simp [intOf] <;> omega
        · have HN2 : Kept ((R (x + 1)).length = n) := ⟨by rw [HS2.out, if_neg hz2, hn.out]⟩
          have ev : ((hv : Int) == 0) = false := by rw [beq_eq_false_iff_ne]; omega
          clear HS2 HA2
          go_wp2_with fail
          refine (HV.out _ (HSP.out.below hbl2.out)).mono ?_
          rintro e w7 ⟨hb7, rfl⟩
          have HB7 := Kept.mk (bstep hbl2.out hb7)
          clear hb7 i0 i1 i2 i3
          go_wp2
          go_roundw
          case rel => exact ⟨x + 1, n, by omega, by go_num, rfl, HN2, HB7⟩
          case measure => simp [intOf] <;> omega
      · obtain rfl : x = D.q := by omega
        obtain rfl : n = ns := by rw [← hn.out, HNS.out]
        have enn : ((n : Int) == (n : Int)) = true := by simp
        have ell : decide ((D.q : Int) < D.q) = false := by simp
        go_wp2_with fail
        refine (awake_any _).mono ?_
        rintro e w8 ⟨hb8, rfl⟩
        have HB8 := Kept.mk (bstep (bstep HB.out hbl2.out) hb8)
        clear hb8
        go_wp2
        go_ret
        exact ⟨HB8.out, rfl⟩
end Go.Proofs.Ytfhhnfpapgfnmaa

set_option linter.unusedVariables false
namespace Go.Proofs.Ytfhhnfpapgfnmaa
open Go Go.RowKit Go.Deep
open FFld (ints)
/-- The law of roots and of irreducible polynomials. -/
theorem fieldRoots_any (order : Int) (vl : Value) (xs : List Int) (w : World) (o0 : -9223372036854775808 ≤ order) (o1 : order ≤ 9223372036854775807) (hl : Sl .i64 w vl xs) (hlb : I64s xs) :
    Calls Try.prog 9 #[.int .i64 order, vl] w (RB w (.bool true)) :=
  fieldRoots_of (fun _ hD b v pl w hf hp hpq ht h2 hpl => fixed_any hD b v pl w hf hp hpq ht h2 hpl) order vl xs w o0 o1 hl hlb
end Go.Proofs.Ytfhhnfpapgfnmaa
