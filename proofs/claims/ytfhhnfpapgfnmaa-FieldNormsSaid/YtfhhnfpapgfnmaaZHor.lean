/-
  Texts of the proof, merged by program: Hor.
-/
import Derived.Test.YtfhhnfpapgfnmaaZTrm
import Derived.Test.YtfhhnfpapgfnmaaZChk
import Derived.Test.YtfhhnfpapgfnmaaZLca
import Derived.Test.YtfhhnfpapgfnmaaZ9
set_option linter.unusedVariables false
set_option linter.unusedSimpArgs false
namespace Go.Proofs.Ytfhhnfpapgfnmaa
open Go Go.RowKit Go.Deep
open FFld (ints)
namespace FFld
/-- Horner's rule: the value of the last i coefficients. -/
def hornF (D : FD) (pl : List Nat) (x : Nat) : Nat → Nat
  | 0 => 0
  | i + 1 => padd D.p D.k (pmul D.p D.k D.m (hornF D pl x i) D.k x) (pl[pl.length - 1 - i]?.getD 0)
theorem hornF_lt {D : FD} (h : PK D.p D.k D.m) (pl : List Nat) (x i : Nat) : hornF D pl x i < D.p ^ D.k := by
  cases i with
  | zero => exact Nat.pow_pos h.p0
  | succ i => exact padd_lt h _ _
end FFld
set_option maxRecDepth 20000 in
set_option maxHeartbeats 4000000 in
/-- The reference's Value. -/
theorem rvalue_any {D : FFld.FD} (hD : D.Ok) (v : Value) (pl : List Nat) (x : Nat) (w : World) (hp : Sl .i64 w v (ints pl)) (hpq : ∀ a ∈ pl, a < D.p ^ D.k) (hx : x < D.p ^ D.k) (hpl : pl.length ≤ 100000) :
    Calls Try.prog 65 #[rfv D.q D.p D.k D.m, v, .int .i64 x] w (RB w (.int .i64 (FFld.hornF D pl x pl.length : Nat))) := by
  obtain ⟨ap, cp, hvp, hcp, hmp⟩ := hp.form
  subst hvp
  have HX0 : Kept (Bxs w [rbox D.q D.p D.k D.m] (w.alloc (rbox D.q D.p D.k D.m))) := ⟨(Bxs.start w).alloc (by simp) _⟩
  have HPS := Kept.mk hp
  have HPQ := Kept.mk hpq
  have hq6 : D.p ^ D.k ≤ 65536 := hD.pre.small
  have HM := Kept.mk (fun W a b (ha : a < D.p ^ D.k) (hb : b < D.p ^ D.k) => rmul_any D.q D.p D.k D.m a b W hD.pre.pk.p2 hD.pre.pk.k1 ha hb hq6 (md_ok hD))
  have HA := Kept.mk (fun W a b (ha : a < D.p ^ D.k) (hb : b < D.p ^ D.k) => radd_any D.q D.p D.k D.m a b W hD.pre.pk.p2 hD.pre.pk.k1 ha hb hq6)
  obtain ⟨n, hn⟩ : ∃ n, pl.length = n := ⟨_, rfl⟩
  rw [FFld.ints_len, hn] at hcp HPS ⊢
  rw [hn] at hpl
  have HN := Kept.mk hn
  have HXQ := Kept.mk hx
  have hx6 : x ≤ 65536 := by omega
  clear hp hpq hn hq6 hx
  go_enter Try.func65, Try.ntmps65
  go_wp2
  go_loopw [7, 8] (fun rv iv wr => ∃ (i r : Nat), i ≤ n ∧ iv = .int .i64 ((n : Int) - 1 - i) ∧ rv = .int .i64 r ∧ Kept (FFld.hornF D pl x i = r) ∧ Kept (Bxs w [rbox D.q D.p D.k D.m] wr)) (fun _ iv _ => (intOf iv + 1).toNat)
  case atStart => exact ⟨0, 0, Nat.zero_le _, by go_num, rfl, ⟨rfl⟩, HX0⟩
  case round =>
    obtain ⟨i, r, hin, rfl, rfl, hr, hbx⟩ := hrel
    by_cases hlt : i < n
    · obtain ⟨j, hj⟩ : ∃ j, n - 1 - i = j := ⟨_, rfl⟩
      have hj1 : (n : Int) - 1 - i = j := by omega
      rw [hj1]
      obtain ⟨bp, op, rfl, hbp, hcell⟩ := (HPS.out.below hbx.out.1).news_at j (by rw [FFld.ints_len, HN.out]; omega)
      obtain ⟨c, hc⟩ : ∃ c, pl[j]?.getD 0 = c := ⟨_, rfl⟩
      rw [FFld.ints_get, hc] at hcell
      have hcq : c < D.p ^ D.k := by rw [← hc]; exact FFld.getD_lt (Nat.pow_pos hD.pre.pk.p0) HPQ.out j
      have hrq : r < D.p ^ D.k := by rw [← hr.out]; exact FFld.hornF_lt hD.pre.pk pl x i
      obtain ⟨z, hz⟩ : ∃ z, FFld.pmul D.p D.k D.m r D.k x = z := ⟨_, rfl⟩
      have hzq : z < D.p ^ D.k := by rw [← hz]; exact FFld.pmul_lt hD.pre.pk _ _ _
      obtain ⟨s, hs⟩ : ∃ s, FFld.padd D.p D.k z c = s := ⟨_, rfl⟩
      have HV : Kept (FFld.hornF D pl x (i + 1) = s) := ⟨by simp only [FFld.hornF]; rw [hr.out, hz, HN.out, hj, hc, hs]⟩
      have hM := Kept.mk (fun W => HM.out W r x hrq HXQ.out)
      rw [hz] at hM
      have hA := Kept.mk (fun W => HA.out W z c hzq hcq)
      rw [hs] at hA
      obtain ⟨i0, i1, i2, i3⟩ := four_cells hbx.out.b0
      have i4 : wr.cell? ⟨bp, op + j, none⟩ = some (.int .i64 c) := hcell
      clear hz hs hzq hcq hrq hc hcell
      have hjn : j < n := by omega
      clear hj
      go_wp2
      go_region_held3 (fun w' => w'.cell? ⟨w.heap.size, 0, none⟩ = some (.int .i64 D.q) ∧ w'.cell? ⟨w.heap.size, 1, none⟩ = some (.int .i64 D.p) ∧ w'.cell? ⟨w.heap.size, 2, none⟩ = some (.int .i64 D.k) ∧ w'.cell? ⟨w.heap.size, 3, none⟩ = some (.int .i64 D.m) ∧ w'.cell? ⟨bp, op + j, none⟩ = some (.int .i64 c))
        (first | exact ⟨k0, k1, k2, k3, k4⟩ | exact ⟨j0, j1, j2, j3, j4⟩ | exact ⟨i0, i1, i2, i3, i4⟩ | go_keep)
        ((first
          | (go_at_call 54; (with_reducible refine (hM.out _).mono ?_); rintro e v1 ⟨hb1, rfl⟩; have hy1 := Kept.mk (bstep (show Below wr.heap.size wr _ from (by first | exact Below.refl _ _ | exact (Below.refl _ _).drew)) hb1); have j0 := belowCell hy1.out i0; have j1 := belowCell hy1.out i1; have j2 := belowCell hy1.out i2; have j3 := belowCell hy1.out i3; have j4 := belowCell hy1.out i4; clear hb1)
          | (go_at_call 52; (with_reducible refine (hA.out _).mono ?_); rintro e v2 ⟨hb2, rfl⟩; have hy2 := Kept.mk (bstep (show Below wr.heap.size wr _ from hy1.out) hb2); have k0 := belowCell hy2.out i0; have k1 := belowCell hy2.out i1; have k2 := belowCell hy2.out i2; have k3 := belowCell hy2.out i3; have k4 := belowCell hy2.out i4; clear hb2)))
      have HX9 := Kept.mk (hbx.out.below hy2.out)
      go_wp2
      go_roundw
      case rel => exact ⟨i + 1, s, by omega, by go_num, rfl, HV, HX9⟩
      case measure => simp [intOf] <;> omega
    · obtain rfl : i = n := by omega
      have hj1 : (i : Int) - 1 - i = -1 := by omega
      rw [hj1]
      go_wp2
      go_ret
      exact ⟨hbx.out.1, by rw [hr.out]; rfl⟩
/-- A method value of sum is made: the receiver is no nil pointer. -/
theorem ArV.nilA {D : FFld.FD} {h : D.Ok} {w : World} {T : TypeId} {x : Value} (hv : ArV D h w (.iface T x)) : ∀ W, (nilAhead 251 T x "dauber/field.sum").run Try.prog W = .ok (some false) W := by
  rcases hv with ⟨_, e⟩ | ⟨_, gP, gL, q1, q, P, L, e, _⟩
  · simp only [Value.iface.injEq] at e
    obtain ⟨rfl, rfl⟩ := e
    intro W
    kernel_rfl
  · simp only [Value.iface.injEq] at e
    obtain ⟨rfl, rfl⟩ := e
    intro W
    kernel_rfl
theorem FldB.open2 {D : FFld.FD} {w : World} {b : Nat} (hf : FldB D w b) : ∃ (h : D.Ok) (T : TypeId) (x : Value) (fs fp fw : FuncId) (ms : Value), w.heap[b]? = some (.cells #[.iface T x, .int .i64 D.q, .int .i64 D.p, .int .i64 D.k, .int .i64 D.g, ms] 100 (0, 0)) ∧ ArOps D h w T x fs fp fw ∧ ∀ W, (nilAhead 251 T x "dauber/field.sum").run Try.prog W = .ok (some false) W := by
  obtain ⟨h, ar, ms, ml, h1, h2, h3, h4⟩ := hf
  obtain ⟨T, x, fs, fp, fw, rfl, ho⟩ := h2.ops
  exact ⟨h, T, x, fs, fp, fw, ms, h1, ho, h2.nilA⟩
set_option maxRecDepth 20000 in
set_option maxHeartbeats 4000000 in
/-- The program's Horner rule, whatever arithmetic stands behind the interface. -/
theorem gvalue_any {D : FFld.FD} {T : TypeId} {xv : Value} {fs fp fw : FuncId} (hD : D.Ok) (v : Value) (pl : List Nat) (x : Nat) (w0 w : World) (ho : ArOps D hD w0 T xv fs fp fw) (hna : ∀ W, (nilAhead 251 T xv "dauber/field.sum").run Try.prog W = .ok (some false) W) (hw : Below w0.heap.size w0 w) (hp : Sl .i64 w v (ints pl)) (hpq : ∀ a ∈ pl, a < D.p ^ D.k) (hx : x < D.p ^ D.k) (hpl : pl.length ≤ 100000) :
    Calls Try.prog 92 #[.iface T xv, v, .int .i64 x] w (RB w (.int .i64 (FFld.hornF D pl x pl.length : Nat))) := by
  obtain ⟨ap, cp, hvp, hcp, hmp⟩ := hp.form
  subst hvp
  have HPS := Kept.mk hp
  have HPQ := Kept.mk hpq
  have HPr := Kept.mk ho.product
  have HSu := Kept.mk ho.sum
  have hms := ho.ms
  have hcs := ho.cs
  have hmp' := ho.mp
  have hcp' := ho.cp
  obtain ⟨n, hn⟩ : ∃ n, pl.length = n := ⟨_, rfl⟩
  rw [FFld.ints_len, hn] at hcp HPS ⊢
  rw [hn] at hpl
  have HN := Kept.mk hn
  have HXQ := Kept.mk hx
  have HW := Kept.mk hw
  clear hp hpq hn hx ho hw
  go_enter Try.func92, Try.ntmps92
  go_wp2
  go_loopw [7, 8] (fun rv iv wr => ∃ (i r : Nat), i ≤ n ∧ iv = .int .i64 ((n : Int) - 1 - i) ∧ rv = .int .i64 r ∧ Kept (FFld.hornF D pl x i = r) ∧ Kept (Below w.heap.size w wr)) (fun _ iv _ => (intOf iv + 1).toNat)
  case atStart => exact ⟨0, 0, Nat.zero_le _, by go_num, rfl, ⟨rfl⟩, ⟨Below.refl _ _⟩⟩
  case round =>
    obtain ⟨i, r, hin, rfl, rfl, hr, hbx⟩ := hrel
    by_cases hlt : i < n
    · obtain ⟨j, hj⟩ : ∃ j, n - 1 - i = j := ⟨_, rfl⟩
      have hj1 : (n : Int) - 1 - i = j := by omega
      rw [hj1]
      obtain ⟨bp, op, rfl, hbp, c0⟩ := (HPS.out.below hbx.out).news_at j (by rw [FFld.ints_len, HN.out]; omega)
      obtain ⟨c, hc⟩ : ∃ c, pl[j]?.getD 0 = c := ⟨_, rfl⟩
      rw [FFld.ints_get, hc] at c0
      have hcq : c < D.p ^ D.k := by rw [← hc]; exact FFld.getD_lt (Nat.pow_pos hD.pre.pk.p0) HPQ.out j
      have hrq : r < D.p ^ D.k := by rw [← hr.out]; exact FFld.hornF_lt hD.pre.pk pl x i
      obtain ⟨z, hz⟩ : ∃ z, FFld.pmul D.p D.k D.m r D.k x = z := ⟨_, rfl⟩
      have hzq : z < D.p ^ D.k := by rw [← hz]; exact FFld.pmul_lt hD.pre.pk _ _ _
      obtain ⟨s, hs⟩ : ∃ s, FFld.padd D.p D.k z c = s := ⟨_, rfl⟩
      have HV : Kept (FFld.hornF D pl x (i + 1) = s) := ⟨by simp only [FFld.hornF]; rw [hr.out, hz, HN.out, hj, hc, hs]⟩
      have hB0 := bstep HW.out hbx.out
      have hM := Kept.mk (fun W (hW : Below wr.heap.size wr W) => HPr.out W (bstep hB0 hW) r x hrq HXQ.out)
      rw [hz] at hM
      have hA := Kept.mk (fun W (hW : Below wr.heap.size wr W) => HSu.out W (bstep hB0 hW) z c hzq hcq)
      rw [hs] at hA
      clear hz hs hzq hcq hrq hc hB0
      have hjn : j < n := by omega
      clear hj
      go_wp2
      go_region_held3 (fun w' => w'.cell? ⟨bp, op + j, none⟩ = some (.int .i64 c))
        (first | exact c0 | exact k0 | exact l0 | go_keep)
        ((first
          | ((with_reducible refine (hM.out _ (by repeat (first | (with_reducible exact Below.refl _ _) | (with_reducible exact HB2.out) | (with_reducible exact HB3.out) | (with_reducible refine Below.drew ?_)))).mono ?_); rintro e w2 ⟨hb2, rfl⟩; have HB2 : Kept (Below wr.heap.size wr w2) := ⟨bstep (by repeat (first | (with_reducible exact Below.refl _ _) | (with_reducible exact HB2.out) | (with_reducible exact HB3.out) | (with_reducible refine Below.drew ?_))) hb2⟩; have k0 := belowCell HB2.out c0; clear hb2)
          | ((with_reducible refine (hA.out _ (by repeat (first | (with_reducible exact Below.refl _ _) | (with_reducible exact HB2.out) | (with_reducible exact HB3.out) | (with_reducible refine Below.drew ?_)))).mono ?_); rintro e w3 ⟨hb3, rfl⟩; have HB3 : Kept (Below wr.heap.size wr w3) := ⟨bstep (by repeat (first | (with_reducible exact Below.refl _ _) | (with_reducible exact HB2.out) | (with_reducible exact HB3.out) | (with_reducible refine Below.drew ?_))) hb3⟩; have l0 := belowCell HB3.out c0; clear hb3)))
      all_goals (have HX9 := Kept.mk (bstep hbx.out HB3.out); go_wp2; go_roundw; (case rel => exact ⟨i + 1, s, by omega, by go_num, rfl, HV, HX9⟩); (case measure => simp [intOf] <;> omega))
    · obtain rfl : i = n := by omega
      have hj1 : (i : Int) - 1 - i = -1 := by omega
      rw [hj1]
      go_wp2
      go_ret
      exact ⟨hbx.out, by rw [hr.out]; rfl⟩
set_option maxRecDepth 20000 in
set_option maxHeartbeats 4000000 in
/-- The program's Value, of a polynomial. -/
theorem fvalue_any {D : FFld.FD} {b : Nat} (v : Value) (pl : List Nat) (y : Int) (x : Nat) (w : World) (hf : FldB D w b) (hp : Sl .i64 w v (ints pl)) (hc : cErr D (ints pl) = 0) (hpq : ∀ a ∈ pl, a < D.p ^ D.k) (hy0 : -9223372036854775808 ≤ y) (hy1 : y ≤ 9223372036854775807) (hr : y % D.q = x) (hx : x < D.p ^ D.k) (hpl : pl.length ≤ 100000) :
    Calls Try.prog 31 #[.pointer (some ⟨b, 0, none⟩), v, .int .i64 y] w (RB w (.tuple #[.int .i64 (FFld.hornF D pl x pl.length : Nat), .int .i64 0])) := by
  obtain ⟨h, T, xv, fs, fp, fw, ms, hb, ho, hna⟩ := hf.open2
  obtain ⟨c0, _⟩ := six_cells hb
  have hC := Kept.mk (fcheck_any v (ints pl) w hf hp)
  rw [hc] at hC
  obtain ⟨ap, cp, hvp, hcp, hmp⟩ := hp.form
  subst hvp
  rw [FFld.ints_len] at hcp hp hC ⊢
  have HP := Kept.mk hp
  have HR := Kept.mk (fun W (hW : Below w.heap.size w W) => reduced_any y W (hf.below hW) hy0 hy1)
  rw [hr] at HR
  have HG := Kept.mk (fun W (hW : Below w.heap.size w W) => gvalue_any h (.slice ap pl.length cp) pl x w W ho hna hW (hp.below hW) hpq hx hpl)
  have hbl : b < w.heap.size := hf.lt
  clear hp hpq hx ho hb hc hr
  go_enter Try.func31, Try.ntmps31
  go_wp2_with fail
  refine hC.out.mono ?_
  rintro e w1 ⟨rfl, rfl⟩
  go_wp2
  go_region_held3 (fun w' => w'.cell? ⟨b, 0, none⟩ = some (.iface T xv))
    (first | exact c0 | exact k0 | exact l0 | go_keep)
    ((first
      | (go_at_call 89; (with_reducible refine (HR.out _ (by repeat (first | (with_reducible exact Below.refl _ _) | (with_reducible exact HB2.out) | (with_reducible exact HB3.out) | (with_reducible refine Below.drew ?_)))).mono ?_); rintro e w2 ⟨rfl, rfl⟩; have k0 := c0)
      | (go_at_call 92; (with_reducible refine (HG.out _ (by repeat (first | (with_reducible exact Below.refl _ _) | (with_reducible exact HB2.out) | (with_reducible exact HB3.out) | (with_reducible refine Below.drew ?_)))).mono ?_); rintro e w3 ⟨hb3, rfl⟩; have HB3 : Kept (Below w.heap.size w w3) := ⟨bstep (by repeat (first | (with_reducible exact Below.refl _ _) | (with_reducible exact HB2.out) | (with_reducible exact HB3.out) | (with_reducible refine Below.drew ?_))) hb3⟩; have l0 := belowCell HB3.out c0; clear hb3)))
  go_wp2
  go_ret2
  exact ⟨HB3.out, rfl⟩
end Go.Proofs.Ytfhhnfpapgfnmaa
