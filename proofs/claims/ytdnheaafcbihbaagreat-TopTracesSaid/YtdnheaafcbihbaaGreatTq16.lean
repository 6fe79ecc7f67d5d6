/-
  Texts of the proof, merged by program: Pchr Pbe Toe Trm Chk Hor Plq Rtd Rdv Scl Cmp1 Eva Thp Slk Pel.
-/
import Derived.Test.YtdnheaafcbihbaaGreatTq15
set_option linter.unusedSectionVars false
set_option linter.unusedSimpArgs false
set_option linter.unusedVariables false
set_option maxHeartbeats 16000000
namespace Go.Proofs.YtdnheaafcbihbaaGreat
namespace FFld
structure Chr {α : Type} (F : Dom α) (p : Nat) : Prop where
 prime : Prime p
 small : p <= 65536
 zero : F.nm p = F.zero
section
variable {α : Type} {F : Dom α} {p : Nat}
theorem Chr.mod (h : Chr F p) (n : Nat) : F.nm n = F.nm (n % p) := by
 conv => lhs; rw [<- Nat.div_add_mod n p]
 rw [F.nm_add, F.nm_mul, h.zero, F.zero_mul, F.zero_add]
theorem nm_gcd : ∀ (m n : Nat), F.nm m = F.zero -> F.nm n = F.zero -> F.nm (Nat.gcd m n) = F.zero := by
 intro m
 induction m using Nat.strongRecOn with
 | ind m ih =>
   intro n hm hn
   rcases Nat.eq_zero_or_pos m with h | h
   ·subst h
    rw [Nat.gcd_zero_left]
    exact hn
   ·rw [Nat.gcd_rec]
    refine ih _ (Nat.mod_lt _ h) _ ?_ hm
    rw [<- Nat.div_add_mod n m, F.nm_add, F.nm_mul, hm, F.zero_mul, F.zero_add] at hn
    exact hn
theorem Chr.ne (h : Chr F p) {n : Nat} (hn : ¬ p ∣ n) : F.nm n ≠ F.zero := fun e => by
 have := nm_gcd p n h.zero e
 have hc : Nat.gcd p n = 1 := h.prime.coprime hn
 rw [hc, F.nm_one] at this
 exact F.one_ne this
theorem Chr.inj (h : Chr F p) {i j : Nat} (hi : i < p) (hj : j < p) (e : F.nm i = F.nm j) : i = j := by
 have key : ∀ i j, i < j -> j < p -> F.nm i ≠ F.nm j := fun i j hij hjp e => by
  obtain ⟨d, rfl⟩ : ∃ d, j = i + d := ⟨j - i, by omega⟩
  rw [F.nm_add] at e
  have e2 : F.nm d = F.zero := by
   refine F.add_left_cancel (a := F.nm i) ?_
   rw [<- e, F.add_zero]
  exact h.ne (fun hd => by have := Nat.le_of_dvd (by omega) hd; omega) e2
 rcases Nat.lt_trichotomy i j with h1 | h1 | h1
 ·exact absurd e (key i j h1 hj)
 ·exact h1
 ·exact absurd e.symm (key j i h1 hi)
theorem Chr.frob (h : Chr F p) (x y : α) : F.pow (F.add x y) p = F.add (F.pow x p) (F.pow y p) := by
 have hp2 := h.prime.1
 by_cases h0 : y = F.zero
 ·subst h0
  rw [F.zero_pow (by omega), F.add_zero, F.add_zero]
 ·refine F.add_pow_all y (by omega) ((List.range p).map fun i => F.mul (F.nm i) y) (nodup_map_on List.nodup_range fun i hi j hj e => ?_) (by simp) (fun r hr => ?_) x
  ·exact h.inj (List.mem_range.1 hi) (List.mem_range.1 hj) (F.mul_left_cancel h0 (by rw [F.mul_comm y, F.mul_comm y]; exact e))
  ·obtain ⟨i, hi, rfl⟩ := List.mem_map.1 hr
   have p1 : ∀ i, F.pow (F.nm i) p = F.nm i := fun i => by
    rw [h.mod i, <- F.nm_pow, h.mod (_ ^ _), fermat_nat h.prime h.small _ (Nat.mod_lt _ (by omega))]
   have e : F.add (F.mul (F.nm i) y) y = F.mul (F.nm (i + 1)) y := by
    show _ = F.mul (F.add (F.nm i) F.one) y
    rw [F.add_mul, F.one_mul]
   rw [e, F.mul_pow, F.mul_pow, p1, p1]
   show F.mul (F.add (F.nm i) F.one) _ = _
   rw [F.add_mul, F.one_mul]
end
end FFld
end Go.Proofs.YtdnheaafcbihbaaGreat
namespace Go.Proofs.YtdnheaafcbihbaaGreat
namespace FFld
section
variable {α : Type} {F : Dom α} {E : List α} {p n : Nat} {f : Nat -> α}
end
end FFld
end Go.Proofs.YtdnheaafcbihbaaGreat
namespace Go.Proofs.YtdnheaafcbihbaaGreat
namespace FFld
def toE {D : FD} (h : PK D.p D.k D.m) (a : Nat) : El (D.p ^ D.k) := if ha : a < D.p ^ D.k then ⟨a, ha⟩ else ⟨0, Nat.pow_pos h.p0⟩
theorem toE_val {D : FD} (h : PK D.p D.k D.m) {a : Nat} (ha : a < D.p ^ D.k) : (toE h a).1 = a := by
 unfold toE
 rw [dif_pos ha]
section
variable {D : FD} (hD : D.Ok)
theorem toE_add {a b : Nat} (ha : a < D.p ^ D.k) (hb : b < D.p ^ D.k) : toE hD.pre.pk (padd D.p D.k a b) = (FD.dom hD.nzd).add (toE hD.pre.pk a) (toE hD.pre.pk b) := by
 apply Subtype.ext
 rw [toE_val _ (padd_lt hD.pre.pk _ _)]
 show _ = padd D.p D.k (toE hD.pre.pk a).1 (toE hD.pre.pk b).1
 rw [toE_val _ ha, toE_val _ hb]
theorem toE_mul {a b : Nat} (ha : a < D.p ^ D.k) (hb : b < D.p ^ D.k) : toE hD.pre.pk (pmul D.p D.k D.m a D.k b) = (FD.dom hD.nzd).mul (toE hD.pre.pk a) (toE hD.pre.pk b) := by
 apply Subtype.ext
 rw [toE_val _ (pmul_lt hD.pre.pk _ _ _)]
 show _ = pmul D.p D.k D.m (toE hD.pre.pk a).1 D.k (toE hD.pre.pk b).1
 rw [toE_val _ ha, toE_val _ hb]
theorem toE_neg {a : Nat} (ha : a < D.p ^ D.k) : toE hD.pre.pk (pscl D.p D.k (D.p - 1) a) = (FD.dom hD.nzd).neg (toE hD.pre.pk a) := by
 apply Subtype.ext
 rw [toE_val _ (pscl_lt hD.pre.pk _ _)]
 show _ = pscl D.p D.k (D.p - 1) (toE hD.pre.pk a).1
 rw [toE_val _ ha]
theorem toE_zero : toE hD.pre.pk 0 = (FD.dom hD.nzd).zero := by
 apply Subtype.ext
 rw [toE_val _ (Nat.pow_pos hD.pre.pk.p0)]
 rfl
theorem toE_one : toE hD.pre.pk 1 = (FD.dom hD.nzd).one := by
 apply Subtype.ext
 rw [toE_val _ hD.pre.pk.one_lt]
 rfl
end
end FFld
end Go.Proofs.YtdnheaafcbihbaaGreat
namespace Go.Proofs.YtdnheaafcbihbaaGreat
open Go Go.RowKit Go.Deep
open FFld (ints)
def polF (D : FFld.FD) (xs : List Int) (most : Nat) : List Nat := FFld.trm ((xs.take most).map (redN D))
def zlast (xs : List Int) : Bool := decide (0 < xs.length) && decide (xs[xs.length - 1]?.getD 0 = 0)
def cErr (D : FFld.FD) (xs : List Int) : Nat := if 200 < xs.length then 2 else if elsB D xs = true /\ zlast xs = false then 0 else 1
set_option maxRecDepth 20000 in
theorem fcheck_any {D : FFld.FD} {b : Nat} (v : Value) (xs : List Int) (w : World) (hf : FldB D w b) (h : Sl .i64 w v xs) :
 Calls Tryz.prog 169 #[.pointer (some ⟨b, 0, none⟩), v] w (fun e w' => w = w' /\ e = .returned (.int .i64 (cErr D xs : Nat))) := by
 have HA := Kept.mk (areElements_any (D := D) (b := b) v xs w hf h)
 obtain ⟨ao, cap, hv, hcap, hmax, hc⟩ := h
 subst hv
 obtain ⟨n, hN⟩ : ∃ n, xs.length = n := ⟨_, rfl⟩
 have HC := Kept.mk hc
 have hE : cErr D xs = if 200 < n then 2 else if elsB D xs = true /\ zlast xs = false then 0 else 1 := by unfold cErr; rw [hN]
 have hZ : zlast xs = (decide (0 < n) && decide (xs[n - 1]?.getD 0 = 0)) := by unfold zlast; rw [hN]
 rw [hN] at hcap HA ⊢
 have HN := Kept.mk hN
 unfold maxLen at hmax
 clear hc hN
 by_cases h200 : 200 < n
 ·rw [if_pos h200] at hE
  have e1 : decide ((n : Int) > 200) = true := by simp; omega
  rw [hE]
  clear hE hZ HA
  go_enter Tryz.func169, Tryz.ntmps169
  go_wp2
  go_ret
  exact ⟨rfl, rfl⟩
 ·rw [if_neg h200] at hE
  have e1 : decide ((n : Int) > 200) = false := by simp; omega
  obtain ⟨t, ht⟩ : ∃ t, elsB D xs = t := ⟨_, rfl⟩
  rw [ht] at hE HA
  clear ht
  cases t with
  | false =>
    rw [if_neg (by simp)] at hE
    rw [hE]
    clear hE hZ
    go_enter Tryz.func169, Tryz.ntmps169
    go_wp2_with fail
    refine HA.out.mono ?_
    rintro e w2 ⟨rfl, rfl⟩
    go_wp2
    go_ret
    exact ⟨rfl, rfl⟩
  | true =>
    by_cases hn0 : n = 0
    ·subst hn0
     have hz : zlast xs = false := by rw [hZ]; rfl
     rw [hz, if_pos (by simp)] at hE
     have e2 : decide (((0 : Nat) : Int) > 0) = false := rfl
     rw [hE]
     clear hE hZ hz
     go_enter Tryz.func169, Tryz.ntmps169
     go_wp2_with fail
     refine HA.out.mono ?_
     rintro e w2 ⟨rfl, rfl⟩
     go_wp2
     go_ret
     exact ⟨rfl, rfl⟩
    ·obtain ⟨b1, o1, rfl, hb1, hcell⟩ := HC.out (n - 1) (by rw [HN.out]; omega)
     obtain ⟨m, rfl⟩ : ∃ m, n = m + 1 := ⟨n - 1, by omega⟩
     simp only [Nat.add_sub_cancel] at hcell hZ
     obtain ⟨x, hx⟩ : ∃ x, xs[m]?.getD 0 = x := ⟨_, rfl⟩
     rw [hx] at hcell hZ
     have e2 : decide (((m + 1 : Nat) : Int) > 0) = true := by rw [decide_eq_true_eq]; omega
     by_cases hx0 : x = 0
     ·have hz : zlast xs = true := by rw [hZ, hx0]; simp
      rw [hz, if_neg (by simp)] at hE
      have e3 : (x == 0) = true := by rw [hx0]; rfl
      rw [hE]
      clear hE hZ hz hx
      go_enter Tryz.func169, Tryz.ntmps169
      go_wp2_with fail
      refine HA.out.mono ?_
      rintro e w2 ⟨rfl, rfl⟩
      go_wp2
      go_ret
      exact ⟨rfl, rfl⟩
     ·have hz : zlast xs = false := by rw [hZ]; simp [hx0]
      rw [hz, if_pos (by simp)] at hE
      have e3 : (x == 0) = false := by rw [beq_eq_false_iff_ne]; exact hx0
      rw [hE]
      clear hE hZ hz hx hx0
      go_enter Tryz.func169, Tryz.ntmps169
      go_wp2_with fail
      refine HA.out.mono ?_
      rintro e w2 ⟨rfl, rfl⟩
      go_wp2
      go_ret
      exact ⟨rfl, rfl⟩
end Go.Proofs.YtdnheaafcbihbaaGreat
namespace Go.Proofs.YtdnheaafcbihbaaGreat
open Go Go.RowKit Go.Deep
open FFld (ints)
namespace FFld
def hornF (D : FD) (pl : List Nat) (x : Nat) : Nat -> Nat
 | 0 => 0
 | i + 1 => padd D.p D.k (pmul D.p D.k D.m (hornF D pl x i) D.k x) (pl[pl.length - 1 - i]?.getD 0)
theorem hornF_lt {D : FD} (h : PK D.p D.k D.m) (pl : List Nat) (x i : Nat) : hornF D pl x i < D.p ^ D.k := by
 cases i with
 | zero => exact Nat.pow_pos h.p0
 | succ i => exact padd_lt h _ _
end FFld
theorem ArV.nilA {D : FFld.FD} {h : D.Ok} {w : World} {T : TypeId} {x : Value} (hv : ArV D h w (.iface T x)) : ∀ W, (nilAhead 378 T x "dauber/field.sum").run Tryz.prog W = .ok (some false) W := by
 rcases hv with ⟨_, e⟩ | ⟨_, gP, gL, q1, q, P, L, e, _⟩
 ·simp only [Value.iface.injEq] at e
  obtain ⟨rfl, rfl⟩ := e
  intro W
  kernel_rfl
 ·simp only [Value.iface.injEq] at e
  obtain ⟨rfl, rfl⟩ := e
  intro W
  kernel_rfl
theorem FldB.open2 {D : FFld.FD} {w : World} {b : Nat} (hf : FldB D w b) : ∃ (h : D.Ok) (T : TypeId) (x : Value) (fs fp fw : FuncId) (ms : Value), w.heap[b]? = some (.cells #[.iface T x, .int .i64 D.q, .int .i64 D.p, .int .i64 D.k, .int .i64 D.g, ms] 179 (0, 0)) /\ ArOps D h w T x fs fp fw /\ ∀ W, (nilAhead 378 T x "dauber/field.sum").run Tryz.prog W = .ok (some false) W := by
 obtain ⟨h, ar, ms, ml, h1, h2, h3, h4⟩ := hf
 obtain ⟨T, x, fs, fp, fw, rfl, ho⟩ := h2.ops
 exact ⟨h, T, x, fs, fp, fw, ms, h1, ho, h2.nilA⟩
set_option maxRecDepth 20000 in
theorem gvalue_any {D : FFld.FD} {T : TypeId} {xv : Value} {fs fp fw : FuncId} (hD : D.Ok) (v : Value) (pl : List Nat) (x : Nat) (w0 w : World) (ho : ArOps D hD w0 T xv fs fp fw) (hna : ∀ W, (nilAhead 378 T xv "dauber/field.sum").run Tryz.prog W = .ok (some false) W) (hw : Below w0.heap.size w0 w) (hp : Sl .i64 w v (ints pl)) (hpq : ∀ a ∈ pl, a < D.p ^ D.k) (hx : x < D.p ^ D.k) (hpl : pl.length <= 100000) :
 Calls Tryz.prog 149 #[.iface T xv, v, .int .i64 x] w (RB w (.int .i64 (FFld.hornF D pl x pl.length : Nat))) := by
 obtain ⟨ap, cp, hvp, hcp, hmp⟩ := hp.form
 subst hvp
 have HPS := Kept.mk hp
 have HPQ := Kept.mk hpq
 have HPr := Kept.mk ho.product
 have HSu := Kept.mk ho.sum
 have hms := ho.ms
 have hcs := ho.cs
 have hmp' := ho.mp
 have hcp' := ho.cp
 obtain ⟨n, hn⟩ : ∃ n, pl.length = n := ⟨_, rfl⟩
 rw [FFld.ints_len, hn] at hcp HPS ⊢
 rw [hn] at hpl
 have HN := Kept.mk hn
 have HXQ := Kept.mk hx
 have HW := Kept.mk hw
 clear hp hpq hn hx ho hw
 go_enter Tryz.func149, Tryz.ntmps149
 go_wp2
 go_loopw [7, 8] (fun rv iv wr => ∃ (i r : Nat), i <= n /\ iv = .int .i64 ((n : Int) - 1 - i) /\ rv = .int .i64 r /\ Kept (FFld.hornF D pl x i = r) /\ Kept (Below w.heap.size w wr)) (fun _ iv _ => (intOf iv + 1).toNat)
 case atStart => exact ⟨0, 0, Nat.zero_le _, by go_num, rfl, ⟨rfl⟩, ⟨Below.refl _ _⟩⟩
 case round =>
  obtain ⟨i, r, hin, rfl, rfl, hr, hbx⟩ := hrel
  by_cases hlt : i < n
  ·obtain ⟨j, hj⟩ : ∃ j, n - 1 - i = j := ⟨_, rfl⟩
   have hj1 : (n : Int) - 1 - i = j := by omega
   rw [hj1]
   obtain ⟨bp, op, rfl, hbp, c0⟩ := (HPS.out.below hbx.out).news_at j (by rw [FFld.ints_len, HN.out]; omega)
   obtain ⟨c, hc⟩ : ∃ c, pl[j]?.getD 0 = c := ⟨_, rfl⟩
   rw [FFld.ints_get, hc] at c0
   have hcq : c < D.p ^ D.k := by rw [<- hc]; exact FFld.getD_lt (Nat.pow_pos hD.pre.pk.p0) HPQ.out j
   have hrq : r < D.p ^ D.k := by rw [<- hr.out]; exact FFld.hornF_lt hD.pre.pk pl x i
   obtain ⟨z, hz⟩ : ∃ z, FFld.pmul D.p D.k D.m r D.k x = z := ⟨_, rfl⟩
   have hzq : z < D.p ^ D.k := by rw [<- hz]; exact FFld.pmul_lt hD.pre.pk _ _ _
   obtain ⟨s, hs⟩ : ∃ s, FFld.padd D.p D.k z c = s := ⟨_, rfl⟩
   have HV : Kept (FFld.hornF D pl x (i + 1) = s) := ⟨by simp only [FFld.hornF]; rw [hr.out, hz, HN.out, hj, hc, hs]⟩
   have hB0 := bstep HW.out hbx.out
   have hM := Kept.mk (fun W (hW : Below wr.heap.size wr W) => HPr.out W (bstep hB0 hW) r x hrq HXQ.out)
   rw [hz] at hM
   have hA := Kept.mk (fun W (hW : Below wr.heap.size wr W) => HSu.out W (bstep hB0 hW) z c hzq hcq)
   rw [hs] at hA
   clear hz hs hzq hcq hrq hc hB0
   have hjn : j < n := by omega
   clear hj
   go_wp2
   go_region_held3 (fun w' => w'.cell? ⟨bp, op + j, none⟩ = some (.int .i64 c))
    (first | exact c0 | exact k0 | exact l0 | go_keep)
    ((first
      | ((with_reducible refine (hM.out _ (by repeat (first | (with_reducible exact Below.refl _ _) | (with_reducible exact HB2.out) | (with_reducible exact HB3.out) | (with_reducible refine Below.drew ?_)))).mono ?_); rintro e w2 ⟨hb2, rfl⟩; have HB2 : Kept (Below wr.heap.size wr w2) := ⟨bstep (by repeat (first | (with_reducible exact Below.refl _ _) | (with_reducible exact HB2.out) | (with_reducible exact HB3.out) | (with_reducible refine Below.drew ?_))) hb2⟩; have k0 := belowCell HB2.out c0; clear hb2)
      | ((with_reducible refine (hA.out _ (by repeat (first | (with_reducible exact Below.refl _ _) | (with_reducible exact HB2.out) | (with_reducible exact HB3.out) | (with_reducible refine Below.drew ?_)))).mono ?_); rintro e w3 ⟨hb3, rfl⟩; have HB3 : Kept (Below wr.heap.size wr w3) := ⟨bstep (by repeat (first | (with_reducible exact Below.refl _ _) | (with_reducible exact HB2.out) | (with_reducible exact HB3.out) | (with_reducible refine Below.drew ?_))) hb3⟩; have l0 := belowCell HB3.out c0; clear hb3)))
   all_goals (have HX9 := Kept.mk (bstep hbx.out HB3.out); go_wp2; go_roundw; (case rel => exact ⟨i + 1, s, by omega, by go_num, rfl, HV, HX9⟩); (case measure => simp [intOf] <;> omega))
  ·obtain rfl : i = n := by omega
   have hj1 : (i : Int) - 1 - i = -1 := by omega
   rw [hj1]
   go_wp2
   go_ret
   exact ⟨hbx.out, by rw [hr.out]; rfl⟩
set_option maxRecDepth 20000 in
theorem fvalue_any {D : FFld.FD} {b : Nat} (v : Value) (pl : List Nat) (y : Int) (x : Nat) (w : World) (hf : FldB D w b) (hp : Sl .i64 w v (ints pl)) (hc : cErr D (ints pl) = 0) (hpq : ∀ a ∈ pl, a < D.p ^ D.k) (hy0 : -9223372036854775808 <= y) (hy1 : y <= 9223372036854775807) (hr : y % D.q = x) (hx : x < D.p ^ D.k) (hpl : pl.length <= 100000) :
 Calls Tryz.prog 161 #[.pointer (some ⟨b, 0, none⟩), v, .int .i64 y] w (RB w (.tuple #[.int .i64 (FFld.hornF D pl x pl.length : Nat), .int .i64 0])) := by
 obtain ⟨h, T, xv, fs, fp, fw, ms, hb, ho, hna⟩ := hf.open2
 obtain ⟨c0, _⟩ := six_cells hb
 have hC := Kept.mk (fcheck_any v (ints pl) w hf hp)
 rw [hc] at hC
 obtain ⟨ap, cp, hvp, hcp, hmp⟩ := hp.form
 subst hvp
 rw [FFld.ints_len] at hcp hp hC ⊢
 have HP := Kept.mk hp
 have HR := Kept.mk (fun W (hW : Below w.heap.size w W) => reduced_any y W (hf.below hW) hy0 hy1)
 rw [hr] at HR
 have HG := Kept.mk (fun W (hW : Below w.heap.size w W) => gvalue_any h (.slice ap pl.length cp) pl x w W ho hna hW (hp.below hW) hpq hx hpl)
 have hbl : b < w.heap.size := hf.lt
 clear hp hpq hx ho hb hc hr
 go_enter Tryz.func161, Tryz.ntmps161
 go_wp2_with fail
 refine hC.out.mono ?_
 rintro e w1 ⟨rfl, rfl⟩
 go_wp2
 go_region_held3 (fun w' => w'.cell? ⟨b, 0, none⟩ = some (.iface T xv))
  (first | exact c0 | exact k0 | exact l0 | go_keep)
  ((first
    | (go_at_call 158; (with_reducible refine (HR.out _ (by repeat (first | (with_reducible exact Below.refl _ _) | (with_reducible exact HB2.out) | (with_reducible exact HB3.out) | (with_reducible refine Below.drew ?_)))).mono ?_); rintro e w2 ⟨rfl, rfl⟩; have k0 := c0)
    | (go_at_call 149; (with_reducible refine (HG.out _ (by repeat (first | (with_reducible exact Below.refl _ _) | (with_reducible exact HB2.out) | (with_reducible exact HB3.out) | (with_reducible refine Below.drew ?_)))).mono ?_); rintro e w3 ⟨hb3, rfl⟩; have HB3 : Kept (Below w.heap.size w w3) := ⟨bstep (by repeat (first | (with_reducible exact Below.refl _ _) | (with_reducible exact HB2.out) | (with_reducible exact HB3.out) | (with_reducible refine Below.drew ?_))) hb3⟩; have l0 := belowCell HB3.out c0; clear hb3)))
 go_wp2
 go_ret2
 exact ⟨HB3.out, rfl⟩
end Go.Proofs.YtdnheaafcbihbaaGreat
namespace Go.Proofs.YtdnheaafcbihbaaGreat
namespace FFld
def outF (D : FD) (ql : List Nat) (inv n : Nat) (pl : List Nat) (t : Nat) : List Nat := (List.range n).map fun i => if n - t <= i then divQ D ql inv n pl (n - 1 - i) else 0
theorem range_get {n i : Nat} (f : Nat -> Nat) (hi : i < n) : ((List.range n).map f)[i]?.getD 0 = f i := by
 rw [List.getElem?_map, List.getElem?_range hi]
 rfl
theorem set_get (l : List Nat) (i j v : Nat) : (l.set i v)[j]?.getD 0 = if i = j /\ j < l.length then v else l[j]?.getD 0 := by
 rw [List.getElem?_set]
 by_cases e : i = j
 ·subst e
  by_cases h : i < l.length
  ·rw [if_pos rfl, if_pos h, if_pos ⟨rfl, h⟩]; rfl
  ·rw [if_pos rfl, if_neg h, if_neg (fun q => h q.2), List.getElem?_eq_none (by omega)]
 ·rw [if_neg e, if_neg (fun q => e q.1)]
theorem rstF_done {D : FD} {ql : List Nat} {inv n : Nat} {pl : List Nat} {l : Nat} (hn : n + ql.length = pl.length + 1) (hq : 1 <= ql.length) (h1 : 1 <= n) (hl : l <= pl.length) (hz : ∀ j, l <= j -> (divF D ql inv n pl n)[j]?.getD 0 = 0) (ht : l = 0 \/ (divF D ql inv n pl n)[l - 1]?.getD 0 ≠ 0) : (divF D ql inv n pl n).take l = rstF D ql inv pl := by
 have e : pl.length + 1 - ql.length = n := by omega
 unfold rstF
 rw [if_neg (by omega), e, trm_is (by rw [divF_len]; exact hl) hz ht]
theorem deRet_eq {D : FD} {ql pl qs rs : List Nat} {inv : Nat} (hq1 : 1 <= ql.length) (h : if pl.length < ql.length then qs = [] /\ rs = pl
 else qs.length = pl.length + 1 - ql.length /\ (∀ t, t < qs.length -> qs[qs.length - 1 - t]?.getD 0 = divQ D ql inv qs.length pl t) /\
  ∃ n, n <= pl.length /\ rs = (divF D ql inv qs.length pl qs.length).take n /\ (∀ i, n <= i -> (divF D ql inv qs.length pl qs.length)[i]?.getD 0 = 0) /\ (n = 0 \/ (divF D ql inv qs.length pl qs.length)[n - 1]?.getD 0 ≠ 0)) : qs = quoF D ql inv pl /\ rs = rstF D ql inv pl := by
 by_cases hlt : pl.length < ql.length
 ·rw [if_pos hlt] at h
  unfold quoF rstF
  rw [if_pos hlt, if_pos hlt]
  exact h
 ·rw [if_neg hlt] at h
  obtain ⟨h1, h2, n, h3, h4, h5, h6⟩ := h
  constructor
  ·unfold quoF
   rw [if_neg hlt, <- h1]
   refine ext_getD (by simp) fun i hi => ?_
   rw [range_get _ hi]
   have := h2 (qs.length - 1 - i) (by omega)
   rw [show qs.length - 1 - (qs.length - 1 - i) = i by omega] at this
   exact this
  ·rw [h4]
   exact rstF_done (by omega) hq1 (by omega) h3 h5 h6
end FFld
end Go.Proofs.YtdnheaafcbihbaaGreat
namespace Go.Proofs.YtdnheaafcbihbaaGreat
open Go Go.RowKit Go.Deep
namespace FFld
def mulF (D : FD) (pl ql : List Nat) : Nat -> List Nat
 | 0 => List.replicate (pl.length + ql.length - 1) 0
 | i + 1 => addm D (mulF D pl ql i) i ql (pl[i]?.getD 0)
def mulL (D : FD) (pl ql : List Nat) : List Nat := if pl.length = 0 \/ ql.length = 0 then [] else mulF D pl ql pl.length
theorem mulF_len (D : FD) (pl ql : List Nat) (i : Nat) : (mulF D pl ql i).length = pl.length + ql.length - 1 := by
 induction i with
 | zero => simp [mulF]
 | succ i ih => simp only [mulF]; rw [addm_len, ih]
theorem mulF_lt {D : FD} (hk : PK D.p D.k D.m) (pl ql : List Nat) (i : Nat) : ∀ a ∈ mulF D pl ql i, a < D.p ^ D.k := by
 induction i with
 | zero =>
   intro a ha
   rw [(List.mem_replicate.1 ha).2]
   exact Nat.pow_pos hk.p0
 | succ i ih => exact addmF_lt hk _ _ _ _ ih
theorem mulL_lt {D : FD} (hk : PK D.p D.k D.m) (pl ql : List Nat) : ∀ a ∈ mulL D pl ql, a < D.p ^ D.k := by
 unfold mulL
 by_cases h : pl.length = 0 \/ ql.length = 0
 ·rw [if_pos h]; intro a ha; cases ha
 ·rw [if_neg h]; exact mulF_lt hk pl ql _
end FFld
open FFld (ints)
set_option maxRecDepth 20000 in
theorem multiply_any {D : FFld.FD} {b : Nat} (hD : D.Ok) (vp vq : Value) (pl ql : List Nat) (w : World) (hf : FldB D w b) (hp : Sl .i64 w vp (ints pl)) (hq : Sl .i64 w vq (ints ql)) (hpq : ∀ a ∈ pl, a < D.p ^ D.k) (hqq : ∀ a ∈ ql, a < D.p ^ D.k) (hpl : pl.length <= 100000) (hqll : ql.length <= 100000) :
 Calls Tryz.prog 153 #[.pointer (some ⟨b, 0, none⟩), vp, vq] w (fun e w' => Below w.heap.size w w' /\ ∃ v, e = .returned v /\ Sl .i64 w' v (ints (FFld.mulL D pl ql))) := by
 obtain ⟨ap, cp, rfl, hcp, hmp⟩ := hp.form
 obtain ⟨aq, cq, rfl, hcq, hmq⟩ := hq.form
 rw [FFld.ints_len] at hcp hcq
 have HPS := Kept.mk hp
 have HQS := Kept.mk hq
 have HF := Kept.mk hf
 have HPQ := Kept.mk hpq
 have HQQ := Kept.mk hqq
 clear hp hq hf hpq hqq
 rw [FFld.ints_len, FFld.ints_len] at *
 by_cases h0 : pl.length = 0 \/ ql.length = 0
 ·have hL : FFld.mulL D pl ql = [] := by unfold FFld.mulL; rw [if_pos h0]
  have HS : Kept (Sl .i64 w (.slice none 0 0) (ints [])) := ⟨(Mine.nil 3 .i64 0 w).sl⟩
  rw [hL]
  by_cases h1 : pl.length = 0
  ·have e1 : ((pl.length : Int) == 0) = true := by rw [h1]; rfl
   go_enter Tryz.func153, Tryz.ntmps153
   go_wp2
   go_ret
   exact ⟨Below.refl _ _, _, rfl, HS.out⟩
  ·have h2 : ql.length = 0 := by omega
   have e1 : ((pl.length : Int) == 0) = false := by rw [beq_eq_false_iff_ne]; omega
   have e2 : ((ql.length : Int) == 0) = true := by rw [h2]; rfl
   go_enter Tryz.func153, Tryz.ntmps153
   go_wp2
   go_ret
   exact ⟨Below.refl _ _, _, rfl, HS.out⟩
 ·have hL : FFld.mulL D pl ql = FFld.mulF D pl ql pl.length := by unfold FFld.mulL; rw [if_neg h0]
  rw [hL]
  have e1 : ((pl.length : Int) == 0) = false := by rw [beq_eq_false_iff_ne]; omega
  have e2 : ((ql.length : Int) == 0) = false := by rw [beq_eq_false_iff_ne]; omega
  obtain ⟨n, hn⟩ : ∃ n, pl.length + ql.length - 1 = n := ⟨_, rfl⟩
  have en : (pl.length : Int) + ql.length - 1 = n := by omega
  have HN : Kept (∀ i, (FFld.mulF D pl ql i).length = n) := ⟨fun i => by rw [FFld.mulF_len, hn]⟩
  have hlen : pl.length + ql.length = n + 1 := by omega
  have hn6 : n <= 200000 := by omega
  have HZ : Kept (FFld.mulF D pl ql 0 = List.replicate n 0) := ⟨by simp only [FFld.mulF]; rw [hn]⟩
  obtain ⟨np, hnp⟩ : ∃ np, pl.length = np := ⟨_, rfl⟩
  obtain ⟨nq, hnq⟩ : ∃ nq, ql.length = nq := ⟨_, rfl⟩
  have HNP := Kept.mk hnp
  have HNQ := Kept.mk hnq
  have HCP := Kept.mk (HPS.out.cells (Nat.le_refl _))
  rw [hnp] at hcp hpl e1 en hlen h0 ⊢
  rw [hnq] at hcq hqll e2 en hlen h0
  rw [hnq]
  clear hL hn hnp hnq
  go_enter Tryz.func153, Tryz.ntmps153
  go_wp2_with (at_make; refine wpList_make_zeros _ rfl _ _ 22 rfl 3 .i64 Tryz.underlying22 info_i64 _ _ n rfl rfl (by omega) (by omega) (by omega) ?_)
  intro w3 hrow hbel
  rw [FFld.ints_rep] at hrow
  have HW3 := Kept.mk hrow.wv
  have HB3 := Kept.mk hbel
  clear hrow hbel
  go_wp2
  go_loopw [27] (fun iv wr => ∃ i : Nat, i <= np /\ iv = .int .i64 i /\ Kept (Wv wr w.heap.size (FFld.mulF D pl ql i)) /\ Kept (Below w.heap.size w wr)) (fun iv _ => np - (intOf iv).toNat)
  case atStart => exact ⟨0, Nat.zero_le _, rfl, ⟨by rw [HZ.out]; exact HW3.out⟩, HB3⟩
  case round =>
   obtain ⟨i, hi, rfl, hwv, hbl⟩ := hrel
   by_cases hlt : i < np
   ·obtain ⟨bp, op, rfl, hcell⟩ := HCP.out _ hbl.out i (by rw [HNP.out]; exact hlt)
    obtain ⟨c, hc⟩ : ∃ c, pl[i]?.getD 0 = c := ⟨_, rfl⟩
    have hcq2 : c < D.p ^ D.k := by rw [<- hc]; exact FFld.getD_lt (Nat.pow_pos hD.pre.pk.p0) HPQ.out i
    rw [hc] at hcell
    obtain ⟨R, hR⟩ : ∃ R, FFld.mulF D pl ql i = R := ⟨_, rfl⟩
    have hRl : R.length = n := by rw [<- hR]; exact HN.out i
    have HRQ : Kept (∀ a ∈ R, a < D.p ^ D.k) := ⟨by rw [<- hR]; exact FFld.mulF_lt hD.pre.pk pl ql i⟩
    have HNX : Kept (FFld.mulF D pl ql (i + 1) = FFld.addm D R i ql c) := ⟨by simp only [FFld.mulF]; rw [hR, hc]⟩
    rw [hR] at hwv
    have hAm := Kept.mk (fun (n' cc : Nat) (hn' : ql.length <= n') => addMultiple_any (s := i) (n := n') (cc := cc) (cap := cq) w wr HF.out hbl.out (Nat.le_refl _) R hwv.out HRQ.out ql (HQS.out.qc hbl.out (Nat.le_refl _)) HQQ.out (by rw [hRl, HNQ.out]; omega) hn' c hcq2 (by rw [HNQ.out]; omega))
    rw [HNQ.out] at hAm
    have hs1 : (i : Int) <= (n : Int) := by omega
    have hs2 : i <= n := by omega
    have hs3 : (0 : Int) <= (i : Int) := by omega
    have hs6 : ((i : Int) < 0) = False := by simp
    clear hc hR hcq2
    go_wp2_with fail
    refine (hAm.out _ _ (by omega)).mono ?_
    rintro e w7 ⟨rfl, hg7, hw7⟩
    have HW7 := Kept.mk hw7
    have HB7 := Kept.mk (belowGrow hg7 hbl.out (Nat.le_refl _))
    clear hg7 hw7 hAm
    go_wp2
    go_roundw
    case rel => exact ⟨i + 1, by omega, by go_num, ⟨by rw [HNX.out]; exact HW7.out⟩, HB7⟩
    case measure => simp [intOf] <;> omega
   ·obtain rfl : i = np := by omega
    have HS := Kept.mk (hwv.out.sl (n := n) (c := n) (HN.out i).symm (Nat.le_refl _) (by unfold maxLen; omega))
    go_wp2
    go_ret
    exact ⟨hbl.out, _, rfl, HS.out⟩
end Go.Proofs.YtdnheaafcbihbaaGreat
namespace Go.Proofs.YtdnheaafcbihbaaGreat
open Go Go.RowKit Go.Deep
open FFld (ints)
def RdRet (D : FFld.FD) (ql : List Nat) (inv : Nat) (pl : List Nat) (w : World) (e : Ending) (w' : World) : Prop := Below w.heap.size w w' /\ ∃ (vq vr : Value), e = .returned (.tuple #[vq, vr]) /\ Sl .i64 w' vq (ints (FFld.quoF D ql inv pl)) /\ Sl .i64 w' vr (ints (FFld.rstF D ql inv pl))
end Go.Proofs.YtdnheaafcbihbaaGreat
namespace Go.Proofs.YtdnheaafcbihbaaGreat
namespace FFld
def invT (D : FD) (h : PK D.p D.k D.m) (l : List Nat) : Nat := ppow h (l[l.length - 1]?.getD 0) (D.q - 2)
theorem div_zeros {D : FD} (hD : D.Ok) {ql pl : List Nat} {n : Nat} (hq : ∀ a ∈ ql, a < D.p ^ D.k) (hp : ∀ a ∈ pl, a < D.p ^ D.k) (hn : n + ql.length = pl.length + 1) (h1 : 1 <= ql.length) (h0 : ql[ql.length - 1]?.getD 0 ≠ 0) :
 ∀ t, t <= n -> ∀ j, n - t + (ql.length - 1) <= j -> (divF D ql (invT D hD.pre.pk ql) n pl t)[j]?.getD 0 = 0
 | 0, _, j, hj => by
   show pl[j]?.getD 0 = 0
   rw [List.getElem?_eq_none (by omega)]
   rfl
 | t + 1, ht, j, hj => div_top hD hq hp hn h1 h0 rfl (t := t) (by omega) (fun j' hj' => div_zeros hD hq hp hn h1 h0 t (by omega) j' (by omega)) j (by omega)
theorem rst_short {D : FD} (hD : D.Ok) {ql pl : List Nat} (hq : ∀ a ∈ ql, a < D.p ^ D.k) (hp : ∀ a ∈ pl, a < D.p ^ D.k) (h1 : 1 <= ql.length) (h0 : ql[ql.length - 1]?.getD 0 ≠ 0) : (rstF D ql (invT D hD.pre.pk ql) pl).length + 1 <= ql.length := by
 unfold rstF
 split
 ·omega
 ·rename_i hlt
  have hz := div_zeros hD hq hp (n := pl.length + 1 - ql.length) (by omega) h1 h0 (pl.length + 1 - ql.length) (Nat.le_refl _)
  rw [trm_len, divF_len]
  generalize divF D ql (invT D hD.pre.pk ql) (pl.length + 1 - ql.length) pl (pl.length + 1 - ql.length) = X at *
  apply Classical.byContradiction
  intro hc
  rcases trmN_top X pl.length with h | h
  ·omega
  ·exact h (hz _ (by omega))
def cmnS (D : FD) (h : PK D.p D.k D.m) (pl ql : List Nat) : Nat -> List Nat × List Nat
 | 0 => (pl, ql)
 | i + 1 => ((cmnS D h pl ql i).2, rstF D (cmnS D h pl ql i).2 (invT D h (cmnS D h pl ql i).2) (cmnS D h pl ql i).1)
structure CmOk (D : FD) (N : Nat) (s : List Nat × List Nat) : Prop where
 p1 : ∀ a ∈ s.1, a < D.p ^ D.k
 p2 : ∀ a ∈ s.2, a < D.p ^ D.k
 t1 : Tz s.1
 t2 : Tz s.2
 l1 : s.1.length <= N
 l2 : s.2.length <= N
theorem Tz.top {l : List Nat} (h : Tz l) (h0 : l.length ≠ 0) : l[l.length - 1]?.getD 0 ≠ 0 := h.resolve_left h0
def monF (D : FD) (h : PK D.p D.k D.m) (l : List Nat) : List Nat := if l.length = 0 then [] else rowMul D l (invT D h l)
def CmnIs (D : FD) (h : PK D.p D.k D.m) (pl ql out : List Nat) : Prop := ∃ i, (∀ j, j < i -> (cmnS D h pl ql j).2.length ≠ 0) /\ (cmnS D h pl ql i).2.length = 0 /\ out = monF D h (cmnS D h pl ql i).1
end FFld
end Go.Proofs.YtdnheaafcbihbaaGreat
namespace Go.Proofs.YtdnheaafcbihbaaGreat
namespace FFld
namespace Dom
variable {α : Type} (F : Dom α)
theorem eval_snoc (c x : α) : ∀ (l : List α), F.eval (l ++ [c]) x = F.add (F.eval l x) (F.mul c (F.pow x l.length))
 | [] => by
   simp only [List.nil_append, eval, List.length_nil, pow_zero, F.mul_zero, F.add_zero, F.zero_add, F.mul_one]
 | a :: l => by
   simp only [List.cons_append, eval, List.length_cons]
   rw [eval_snoc c x l, F.mul_add, <- F.add_assoc, pow_succ, <- F.mul_assoc c, F.mul_comm x (F.mul c _)]
theorem eval_range (f : Nat -> α) (x : α) : ∀ (n : Nat), F.eval ((List.range n).map f) x = F.sm (fun i => F.mul (f i) (F.pow x i)) n
 | 0 => rfl
 | n + 1 => by
   rw [List.range_succ, List.map_append, List.map_cons, List.map_nil, eval_snoc, eval_range f x n, List.length_map, List.length_range]
   rfl
theorem syn_zero (r : α) : ∀ (l : List α), F.eval l r = F.zero -> (∀ c ∈ F.syn l r, c = F.zero) -> ∀ c ∈ l, c = F.zero
 | [], _, _, c, hc => absurd hc List.not_mem_nil
 | [a], h, _, c, hc => by
   rw [List.mem_singleton.1 hc]
   simp only [eval, F.mul_zero, F.add_zero] at h
   exact h
 | a :: b :: t, h, hs, c, hc => by
   have h1 : F.eval (b :: t) r = F.zero := hs _ (by simp only [syn]; exact List.mem_cons_self)
   have h2 := syn_zero r (b :: t) h1 fun d hd => hs d (by simp only [syn]; exact List.mem_cons_of_mem _ hd)
   rcases List.mem_cons.1 hc with rfl | hc
   ·have e : F.eval (c :: b :: t) r = F.add c (F.mul r (F.eval (b :: t) r)) := rfl
    rw [e, h1, F.mul_zero, F.add_zero] at h
    exact h
   ·exact h2 c hc
theorem roots_zero (R : List α) (hR : R.Nodup) : ∀ (l : List α), l.length <= R.length -> (∀ r ∈ R, F.eval l r = F.zero) -> ∀ c ∈ l, c = F.zero := by
 induction R with
 | nil => intro l h _ c hc; rw [List.eq_nil_of_length_eq_zero (Nat.le_zero.1 h)] at hc; exact absurd hc List.not_mem_nil
 | cons r R ih =>
   intro l h hr
   obtain ⟨hn, hR'⟩ := List.nodup_cons.1 hR
   have h0 := hr r List.mem_cons_self
   refine F.syn_zero r l h0 (ih hR' _ (by rw [syn_len]; simp only [List.length_cons] at h; omega) fun q hq => ?_)
   have hq0 := hr q (List.mem_cons_of_mem _ hq)
   have e := F.eval_syn l r q
   rw [h0, hq0, F.zero_add, F.zero_add] at e
   have e2 : F.mul (F.add q (F.neg r)) (F.eval (F.syn l r) q) = F.zero := by
    rw [F.add_mul, <- e, F.mul_comm (F.neg r), F.mul_neg, F.mul_comm _ r, F.add_neg]
   rcases F.nzd _ _ e2 with e3 | e3
   ·exact absurd (F.eq_of_sub e3 ▸ hq) hn
   ·exact e3
end Dom
section
variable {D : FD} (hD : D.Ok)
def evE (l : List Nat) (x : El (D.p ^ D.k)) : El (D.p ^ D.k) := (FD.dom hD.nzd).eval (l.map (toE hD.pre.pk)) x
def cfE (l : List Nat) (i : Nat) : El (D.p ^ D.k) := toE hD.pre.pk (l[i]?.getD 0)
theorem map_cf (l : List Nat) : l.map (toE hD.pre.pk) = (List.range l.length).map (cfE hD l) := by
 apply List.ext_getElem?
 intro i
 rw [List.getElem?_map, List.getElem?_map]
 by_cases h : i < l.length
 ·rw [List.getElem?_range h, List.getElem?_eq_getElem h]
  unfold cfE
  simp [List.getElem?_eq_getElem h]
 ·rw [List.getElem?_eq_none (by omega), List.getElem?_eq_none (by simp; omega)]
  rfl
theorem evE_len (l : List Nat) (x : El (D.p ^ D.k)) : evE hD l x = (FD.dom hD.nzd).sm (fun i => (FD.dom hD.nzd).mul (cfE hD l i) ((FD.dom hD.nzd).pow x i)) l.length := by
 unfold evE
 rw [map_cf, Dom.eval_range]
theorem sm_more {α : Type} (F : Dom α) (f : Nat -> α) (n : Nat) (hz : ∀ i, n <= i -> f i = F.zero) : ∀ d, F.sm f (n + d) = F.sm f n
 | 0 => rfl
 | d + 1 => by
   show F.add (F.sm f (n + d)) (f (n + d)) = _
   rw [sm_more F f n hz d, hz _ (by omega), F.add_zero]
theorem cfE_big {l : List Nat} {i : Nat} (h : l.length <= i) : cfE hD l i = (FD.dom hD.nzd).zero := by
 unfold cfE
 rw [List.getElem?_eq_none h]
 exact toE_zero hD
theorem evE_sum (l : List Nat) (x : El (D.p ^ D.k)) {n : Nat} (hn : l.length <= n) : evE hD l x = (FD.dom hD.nzd).sm (fun i => (FD.dom hD.nzd).mul (cfE hD l i) ((FD.dom hD.nzd).pow x i)) n := by
 obtain ⟨d, rfl⟩ : ∃ d, n = l.length + d := ⟨n - l.length, by omega⟩
 rw [evE_len, sm_more _ _ _ fun i hi => by rw [cfE_big hD hi, Dom.zero_mul]]
theorem evE_congr {l m : List Nat} (h : ∀ i : Nat, l[i]?.getD 0 = m[i]?.getD 0) (x : El (D.p ^ D.k)) : evE hD l x = evE hD m x := by
 rw [evE_sum hD l x (n := max l.length m.length) (by omega), evE_sum hD m x (n := max l.length m.length) (by omega)]
 exact Dom.sm_congr _ _ fun i _ => by unfold cfE; rw [h i]
theorem tz_ext {l m : List Nat} (hl : Tz l) (hm : Tz m) (h : ∀ i : Nat, l[i]?.getD 0 = m[i]?.getD 0) : l = m := by
 have key : ∀ {a b : List Nat}, Tz a -> (∀ i : Nat, a[i]?.getD 0 = b[i]?.getD 0) -> a.length <= b.length := fun {a b} ha hab => by
  rcases ha with h0 | h0
  ·omega
  ·apply Classical.byContradiction
   intro hc
   apply h0
   rw [hab, List.getElem?_eq_none (by omega)]
   rfl
 have e : l.length = m.length := Nat.le_antisymm (key hl h) (key hm fun i => (h i).symm)
 exact ext_getD e fun i _ => h i
theorem interp {l m : List Nat} {n : Nat} (hlq : ∀ a ∈ l, a < D.p ^ D.k) (hmq : ∀ a ∈ m, a < D.p ^ D.k) (hl : Tz l) (hm : Tz m) (ln : l.length <= n) (mn : m.length <= n) (R : List (El (D.p ^ D.k))) (hR : R.Nodup) (hn : R.length = n) (h : ∀ r ∈ R, evE hD l r = evE hD m r) : l = m := by
 have hz := Dom.roots_zero (FD.dom hD.nzd) R hR ((List.range n).map fun i => (FD.dom hD.nzd).add (cfE hD l i) ((FD.dom hD.nzd).neg (cfE hD m i))) (by simp [hn]) fun r hr => by
  rw [Dom.eval_range]
  have e1 : (FD.dom hD.nzd).sm (fun i => (FD.dom hD.nzd).mul ((FD.dom hD.nzd).add (cfE hD l i) ((FD.dom hD.nzd).neg (cfE hD m i))) ((FD.dom hD.nzd).pow r i)) n = (FD.dom hD.nzd).add (evE hD l r) (evE hD m r |> fun v => (FD.dom hD.nzd).mul ((FD.dom hD.nzd).neg (FD.dom hD.nzd).one) v) := by
   rw [evE_sum hD l r ln, evE_sum hD m r mn]
   dsimp only
   rw [<- Dom.sm_mul, <- Dom.sm_add]
   exact Dom.sm_congr _ _ fun i _ => by rw [Dom.add_mul, Dom.neg_mul, Dom.neg_mul, Dom.one_mul]
  rw [e1, h r hr]
  dsimp only
  rw [Dom.neg_mul, Dom.one_mul, Dom.add_neg]
 refine tz_ext hl hm fun i => ?_
 by_cases hi : i < n
 ·have h1 := hz _ (List.mem_map.2 ⟨i, List.mem_range.2 hi, rfl⟩)
  have h2 := Dom.eq_of_sub _ h1
  unfold cfE at h2
  have hk := hD.pre.pk
  have h3 := congrArg Subtype.val h2
  rw [toE_val hk (getD_lt (Nat.pow_pos hk.p0) hlq i), toE_val hk (getD_lt (Nat.pow_pos hk.p0) hmq i)] at h3
  exact h3
 ·rw [List.getElem?_eq_none (by omega), List.getElem?_eq_none (by omega)]
theorem evE_horn (pl : List Nat) (hp : ∀ a ∈ pl, a < D.p ^ D.k) {x : Nat} (hx : x < D.p ^ D.k) : ∀ i, i <= pl.length -> toE hD.pre.pk (hornF D pl x i) = evE hD (pl.drop (pl.length - i)) (toE hD.pre.pk x)
 | 0, _ => by
   rw [Nat.sub_zero, List.drop_length]
   exact toE_zero hD
 | i + 1, hi => by
   have hk := hD.pre.pk
   have e : pl.drop (pl.length - (i + 1)) = pl[pl.length - 1 - i]?.getD 0 :: pl.drop (pl.length - i) := by
    rw [show pl.length - (i + 1) = pl.length - 1 - i by omega, List.drop_eq_getElem_cons (by omega), List.getElem?_eq_getElem (by omega), show pl.length - 1 - i + 1 = pl.length - i by omega]
    rfl
   rw [e]
   simp only [hornF]
   rw [toE_add hD (pmul_lt hk _ _ _) (getD_lt (Nat.pow_pos hk.p0) hp _), toE_mul hD (hornF_lt hk _ _ _) hx, evE_horn pl hp hx i (by omega)]
   show _ = (FD.dom hD.nzd).add (toE hk (pl[pl.length - 1 - i]?.getD 0)) ((FD.dom hD.nzd).mul (toE hk x) (evE hD (pl.drop (pl.length - i)) (toE hk x)))
   rw [Dom.add_comm, Dom.mul_comm]
theorem horn_ev {pl : List Nat} (hp : ∀ a ∈ pl, a < D.p ^ D.k) {x : Nat} (hx : x < D.p ^ D.k) : toE hD.pre.pk (hornF D pl x pl.length) = evE hD pl (toE hD.pre.pk x) := by
 rw [evE_horn hD pl hp hx _ (Nat.le_refl _), Nat.sub_self, List.drop_zero]
theorem evE_trm (l : List Nat) (x : El (D.p ^ D.k)) : evE hD (trm l) x = evE hD l x := by
 refine evE_congr hD (fun i => ?_) x
 unfold trm
 by_cases h : i < trmN l l.length
 ·exact take_getD h
 ·by_cases h2 : i < l.length
  ·rw [List.getElem?_eq_none (by rw [List.length_take]; omega), trmN_zero l l.length i (by omega) h2]
   rfl
  ·rw [List.getElem?_eq_none (by rw [List.length_take]; omega), List.getElem?_eq_none (by omega)]
theorem evE_row (l : List Nat) (hl : ∀ a ∈ l, a < D.p ^ D.k) {c : Nat} (hc : c < D.p ^ D.k) (x : El (D.p ^ D.k)) : evE hD (rowMul D l c) x = (FD.dom hD.nzd).mul (toE hD.pre.pk c) (evE hD l x) := by
 have hk := hD.pre.pk
 rw [evE_sum hD (rowMul D l c) x (n := l.length) (by rw [rowMul_len]; exact Nat.le_refl _), evE_len, <- Dom.sm_mul]
 exact Dom.sm_congr _ _ fun i hi => by
  unfold cfE
  rw [rowMul_get _ _ _ _ hi, toE_mul hD (getD_lt (Nat.pow_pos hk.p0) hl i) hc, Dom.mul_comm _ _ (toE hk c), Dom.mul_assoc]
theorem evE_set (l : List Nat) (hl : ∀ a ∈ l, a < D.p ^ D.k) {j d : Nat} (hj : j < l.length) (hd : d < D.p ^ D.k) (x : El (D.p ^ D.k)) : evE hD (l.set j (padd D.p D.k (l[j]?.getD 0) d)) x = (FD.dom hD.nzd).add (evE hD l x) ((FD.dom hD.nzd).mul (toE hD.pre.pk d) ((FD.dom hD.nzd).pow x j)) := by
 have hk := hD.pre.pk
 rw [evE_sum hD (l.set j _) x (n := l.length) (by rw [List.length_set]; exact Nat.le_refl _), evE_len]
 have e : (FD.dom hD.nzd).mul (toE hk d) ((FD.dom hD.nzd).pow x j) = (FD.dom hD.nzd).sm (fun i => if i = j then (FD.dom hD.nzd).mul (toE hk d) ((FD.dom hD.nzd).pow x i) else (FD.dom hD.nzd).zero) l.length := by
  rw [Dom.sm_one _ (j := j) _ hj fun i _ hne => if_neg hne, if_pos rfl]
 rw [e, <- Dom.sm_add]
 exact Dom.sm_congr _ _ fun i hi => by
  unfold cfE
  rw [set_get]
  by_cases h : i = j
  ·subst h
   rw [if_pos ⟨rfl, hj⟩, if_pos rfl, toE_add hD (getD_lt (Nat.pow_pos hk.p0) hl i) hd, Dom.add_mul]
  ·rw [if_neg (fun q => h q.1.symm), if_neg h, Dom.add_zero]
theorem evE_take (l : List Nat) {j : Nat} (hj : j < l.length) (x : El (D.p ^ D.k)) : evE hD (l.take (j + 1)) x = (FD.dom hD.nzd).add (evE hD (l.take j) x) ((FD.dom hD.nzd).mul (cfE hD l j) ((FD.dom hD.nzd).pow x j)) := by
 have e : l.take (j + 1) = l.take j ++ [l[j]?.getD 0] := by
  rw [List.take_add_one, List.getElem?_eq_getElem hj]
  rfl
 unfold evE
 rw [e, List.map_append, List.map_cons, List.map_nil, Dom.eval_snoc, List.length_map, List.length_take, Nat.min_eq_left (by omega)]
 rfl
theorem evE_addm (xs : List Nat) (s : Nat) (q : List Nat) {c : Nat} (hx : ∀ a ∈ xs, a < D.p ^ D.k) (hq : ∀ a ∈ q, a < D.p ^ D.k) (hc : c < D.p ^ D.k) (hs : s + q.length <= xs.length) (x : El (D.p ^ D.k)) :
 evE hD (addm D xs s q c) x = (FD.dom hD.nzd).add (evE hD xs x) ((FD.dom hD.nzd).mul (toE hD.pre.pk c) ((FD.dom hD.nzd).mul ((FD.dom hD.nzd).pow x s) (evE hD q x))) := by
 have hk := hD.pre.pk
 have key : ∀ j, j <= q.length -> evE hD (addmF D xs s q c j) x = (FD.dom hD.nzd).add (evE hD xs x) ((FD.dom hD.nzd).mul (toE hk c) ((FD.dom hD.nzd).mul ((FD.dom hD.nzd).pow x s) (evE hD (q.take j) x))) := fun j => by
  induction j with
  | zero =>
    intro _
    have e0 : evE hD (q.take 0) x = (FD.dom hD.nzd).zero := rfl
    rw [e0, Dom.mul_zero, Dom.mul_zero, Dom.add_zero]
    rfl
  | succ j ih =>
    intro hj
    have hqj : q[j]?.getD 0 < D.p ^ D.k := getD_lt (Nat.pow_pos hk.p0) hq j
    simp only [addmF]
    rw [evE_set hD _ (addmF_lt hk s q c j hx) (by rw [addmF_len]; omega) (pmul_lt hk _ _ _), ih (by omega), evE_take hD q (by omega), toE_mul hD hqj hc, Dom.add_assoc]
    congr 1
    rw [Dom.mul_add, Dom.mul_add]
    congr 1
    unfold cfE
    rw [Dom.pow_add]
    generalize toE hk (q[j]?.getD 0) = a
    generalize toE hk c = b
    generalize (FD.dom hD.nzd).pow x s = u
    generalize (FD.dom hD.nzd).pow x j = v
    rw [Dom.mul_comm _ a b, Dom.mul_assoc, <- Dom.mul_assoc _ a u v, Dom.mul_comm _ a u, Dom.mul_assoc]
 have := key q.length (Nat.le_refl _)
 rw [List.take_of_length_le (Nat.le_refl _)] at this
 exact this
theorem evE_zeros (n : Nat) (x : El (D.p ^ D.k)) : evE hD (List.replicate n 0) x = (FD.dom hD.nzd).zero := by
 rw [evE_len]
 exact Dom.sm_zero _ _ fun i hi => by
  unfold cfE
  rw [List.length_replicate] at hi
  rw [List.getElem?_replicate_of_lt hi]
  show (FD.dom hD.nzd).mul (toE hD.pre.pk 0) _ = _
  rw [toE_zero hD, Dom.zero_mul]
theorem evE_mulL {pl ql : List Nat} (hp : ∀ a ∈ pl, a < D.p ^ D.k) (hq : ∀ a ∈ ql, a < D.p ^ D.k) (x : El (D.p ^ D.k)) : evE hD (mulL D pl ql) x = (FD.dom hD.nzd).mul (evE hD pl x) (evE hD ql x) := by
 have hk := hD.pre.pk
 unfold mulL
 split
 ·rename_i h
  rcases h with h | h
  ·rw [List.eq_nil_of_length_eq_zero h]
   exact (Dom.zero_mul _ _).symm
  ·rw [List.eq_nil_of_length_eq_zero h]
   exact (Dom.mul_zero _ _).symm
 ·rename_i h
  have key : ∀ i, i <= pl.length -> evE hD (mulF D pl ql i) x = (FD.dom hD.nzd).mul (evE hD (pl.take i) x) (evE hD ql x) := fun i => by
   induction i with
   | zero =>
     intro _
     show evE hD (List.replicate _ 0) x = _
     rw [evE_zeros]
     exact (Dom.zero_mul _ _).symm
   | succ i ih =>
     intro hi
     have hpi : pl[i]?.getD 0 < D.p ^ D.k := getD_lt (Nat.pow_pos hk.p0) hp i
     show evE hD (addm D (mulF D pl ql i) i ql (pl[i]?.getD 0)) x = _
     rw [evE_addm hD _ _ _ (mulF_lt hk _ _ _) hq hpi (by rw [mulF_len]; omega), ih (by omega), evE_take hD pl (by omega), Dom.add_mul]
     congr 1
     unfold cfE
     rw [Dom.mul_assoc]
  have := key pl.length (Nat.le_refl _)
  rw [List.take_of_length_le (Nat.le_refl _)] at this
  exact this
theorem evE_lin {a : Nat} (ha : a < D.p ^ D.k) (x : El (D.p ^ D.k)) : evE hD [pscl D.p D.k (D.p - 1) a, 1] x = (FD.dom hD.nzd).add x ((FD.dom hD.nzd).neg (toE hD.pre.pk a)) := by
 show (FD.dom hD.nzd).add (toE hD.pre.pk (pscl D.p D.k (D.p - 1) a)) ((FD.dom hD.nzd).mul x ((FD.dom hD.nzd).add (toE hD.pre.pk 1) ((FD.dom hD.nzd).mul x (FD.dom hD.nzd).zero))) = _
 rw [toE_neg hD ha, toE_one hD, Dom.mul_zero, Dom.add_zero, Dom.mul_one, Dom.add_comm]
end
end FFld
end Go.Proofs.YtdnheaafcbihbaaGreat
namespace Go.Proofs.YtdnheaafcbihbaaGreat
namespace FFld
def thV (D : FD) (xs : List Nat) : Nat -> List Nat
 | 0 => [1]
 | i + 1 => mulL D (thV D xs i) [pscl D.p D.k (D.p - 1) (xs[i]?.getD 0), 1]
def thA (D : FD) (xs : List Nat) (i : Nat) : Nat := hornF D (thV D xs i) (xs[i]?.getD 0) (thV D xs i).length
def misF (D : FD) (R : List Nat) (x y : Nat) : Nat := padd D.p D.k y (pscl D.p D.k (D.p - 1) (hornF D R x R.length))
def thR (D : FD) (h : PK D.p D.k D.m) (xs ys : List Nat) (n : Nat) : Nat -> List Nat
 | 0 => List.replicate n 0
 | i + 1 => addm D (thR D h xs ys n i) 0 (thV D xs i) (pmul D.p D.k D.m (misF D (thR D h xs ys n i) (xs[i]?.getD 0) (ys[i]?.getD 0)) D.k (ppow h (thA D xs i) (D.q - 2)))
theorem thV_len (D : FD) (xs : List Nat) : ∀ i, (thV D xs i).length = i + 1
 | 0 => rfl
 | i + 1 => by
   simp only [thV]
   unfold mulL
   rw [if_neg (by rw [thV_len D xs i]; simp), mulF_len, thV_len D xs i]
   simp
theorem thV_lt {D : FD} (h : PK D.p D.k D.m) (xs : List Nat) (i : Nat) : ∀ a ∈ thV D xs i, a < D.p ^ D.k := by
 cases i with
 | zero => intro a ha; rw [List.mem_singleton.1 ha]; exact h.one_lt
 | succ i => exact mulL_lt h _ _
theorem thR_len (D : FD) (h : PK D.p D.k D.m) (xs ys : List Nat) (n : Nat) : ∀ i, (thR D h xs ys n i).length = n
 | 0 => by simp [thR]
 | i + 1 => by
   simp only [thR]
   rw [addm_len, thR_len D h xs ys n i]
theorem thR_lt {D : FD} (h : PK D.p D.k D.m) (xs ys : List Nat) (n : Nat) : ∀ i, ∀ a ∈ thR D h xs ys n i, a < D.p ^ D.k
 | 0 => fun a ha => by rw [List.eq_of_mem_replicate ha]; exact Nat.pow_pos h.p0
 | i + 1 => by
   simp only [thR]
   exact addmF_lt h _ _ _ _ (thR_lt h xs ys n i)
theorem misF_lt {D : FD} (h : PK D.p D.k D.m) (R : List Nat) (x y : Nat) : misF D R x y < D.p ^ D.k := padd_lt h _ _
theorem lin_lt {D : FD} (h : PK D.p D.k D.m) (a : Nat) : ∀ c ∈ [pscl D.p D.k (D.p - 1) a, 1], c < D.p ^ D.k := fun c hc => by
 rcases List.mem_cons.1 hc with rfl | hc
 ·exact pscl_lt h _ _
 ·rw [List.mem_singleton.1 hc]; exact h.one_lt
section
variable {D : FD} (hD : D.Ok) {xs ys : List Nat} (hx : ∀ a ∈ xs, a < D.p ^ D.k) (hy : ∀ a ∈ ys, a < D.p ^ D.k)
def plE {D : FD} (hD : D.Ok) (xs : List Nat) (i : Nat) : El (D.p ^ D.k) := toE hD.pre.pk (xs[i]?.getD 0)
theorem toE_inj {D : FD} (h : PK D.p D.k D.m) {a b : Nat} (ha : a < D.p ^ D.k) (hb : b < D.p ^ D.k) (e : toE h a = toE h b) : a = b := by
 have := congrArg Subtype.val e
 rw [toE_val h ha, toE_val h hb] at this
 exact this
include hD hx
theorem at_lt (i : Nat) : xs[i]?.getD 0 < D.p ^ D.k := getD_lt (Nat.pow_pos hD.pre.pk.p0) hx i
theorem thV_ev (i : Nat) (x : El (D.p ^ D.k)) : evE hD (thV D xs (i + 1)) x = (FD.dom hD.nzd).mul (evE hD (thV D xs i) x) ((FD.dom hD.nzd).add x ((FD.dom hD.nzd).neg (plE hD xs i))) := by
 simp only [thV]
 rw [evE_mulL hD (thV_lt hD.pre.pk xs i) (lin_lt hD.pre.pk _), evE_lin hD (at_lt hD hx i)]
 rfl
theorem thV_zero : ∀ (i j : Nat), j < i -> evE hD (thV D xs i) (plE hD xs j) = (FD.dom hD.nzd).zero
 | 0, _, h => by omega
 | i + 1, j, h => by
   rw [thV_ev hD hx]
   by_cases e : j = i
   ·subst e
    rw [Dom.add_neg, Dom.mul_zero]
   ·rw [thV_zero i j (by omega), Dom.zero_mul]
theorem thV_one (x : El (D.p ^ D.k)) : evE hD (thV D xs 0) x = (FD.dom hD.nzd).one := by
 show (FD.dom hD.nzd).add (toE hD.pre.pk 1) ((FD.dom hD.nzd).mul x (FD.dom hD.nzd).zero) = _
 rw [Dom.mul_zero, Dom.add_zero, toE_one hD]
theorem thV_ne (x : El (D.p ^ D.k)) : ∀ (i : Nat), (∀ j, j < i -> x ≠ plE hD xs j) -> evE hD (thV D xs i) x ≠ (FD.dom hD.nzd).zero
 | 0, _ => by
   rw [thV_one hD hx]
   exact (FD.dom hD.nzd).one_ne
 | i + 1, h => by
   rw [thV_ev hD hx]
   exact Dom.mul_ne _ (thV_ne x i fun j hj => h j (by omega)) fun e => h i (by omega) (Dom.eq_of_sub _ e)
theorem thA_ev (i : Nat) : toE hD.pre.pk (thA D xs i) = evE hD (thV D xs i) (plE hD xs i) := horn_ev hD (thV_lt hD.pre.pk xs i) (at_lt hD hx i)
theorem thA_lt (i : Nat) : thA D xs i < D.p ^ D.k := hornF_lt hD.pre.pk _ _ _
theorem thA_dup {i : Nat} (h : thA D xs i = 0) : ∃ j, j < i /\ xs[i]?.getD 0 = xs[j]?.getD 0 := by
 apply Classical.byContradiction
 intro hc
 refine thV_ne hD hx (plE hD xs i) i (fun j hj e => hc ⟨j, hj, toE_inj hD.pre.pk (at_lt hD hx i) (at_lt hD hx j) e⟩) ?_
 rw [<- thA_ev hD hx, h, toE_zero hD]
theorem thA_ok {i : Nat} (h : thA D xs i ≠ 0) : ∀ j, j < i -> xs[i]?.getD 0 ≠ xs[j]?.getD 0 := fun j hj e => by
 apply h
 refine toE_inj hD.pre.pk (thA_lt hD hx i) (Nat.pow_pos hD.pre.pk.p0) ?_
 rw [thA_ev hD hx, toE_zero hD, show plE hD xs i = plE hD xs j from by unfold plE; rw [e]]
 exact thV_zero hD hx i j hj
include hy
theorem thR_ev {n : Nat} : ∀ (i : Nat), i <= n -> (∀ a, a < i -> thA D xs a ≠ 0) -> ∀ j, j < i -> evE hD (thR D hD.pre.pk xs ys n i) (plE hD xs j) = plE hD ys j
 | 0, _, _, j, hj => by omega
 | i + 1, hi, hA, j, hj => by
   have hk := hD.pre.pk
   have hc : pmul D.p D.k D.m (misF D (thR D hk xs ys n i) (xs[i]?.getD 0) (ys[i]?.getD 0)) D.k (ppow hk (thA D xs i) (D.q - 2)) < D.p ^ D.k := pmul_lt hk _ _ _
   simp only [thR]
   rw [evE_addm hD _ _ _ (thR_lt hk xs ys n i) (thV_lt hk xs i) hc (by rw [thV_len, thR_len]; omega), Dom.pow_zero, Dom.one_mul]
   by_cases e : j = i
   ·subst e
    have hAi := hA j (by omega)
    rw [<- thA_ev hD hx, <- toE_mul hD hc (thA_lt hD hx j)]
    have e1 : pmul D.p D.k D.m (pmul D.p D.k D.m (misF D (thR D hk xs ys n j) (xs[j]?.getD 0) (ys[j]?.getD 0)) D.k (ppow hk (thA D xs j) (D.q - 2))) D.k (thA D xs j) = misF D (thR D hk xs ys n j) (xs[j]?.getD 0) (ys[j]?.getD 0) := by
     rw [mul_swap hk (misF_lt hk _ _ _) (thA_lt hD hx j) (ppow_lt hk _ _), hD.div_mul (misF_lt hk _ _ _) (thA_lt hD hx j) hAi]
    rw [e1]
    unfold misF
    rw [toE_add hD (at_lt hD hy j) (pscl_lt hk _ _), toE_neg hD (hornF_lt hk _ _ _), horn_ev hD (thR_lt hk xs ys n j) (at_lt hD hx j)]
    show (FD.dom hD.nzd).add (evE hD (thR D hk xs ys n j) (plE hD xs j)) ((FD.dom hD.nzd).add (plE hD ys j) ((FD.dom hD.nzd).neg (evE hD (thR D hk xs ys n j) (plE hD xs j)))) = _
    generalize evE hD (thR D hk xs ys n j) (plE hD xs j) = u
    rw [Dom.add_comm _ (plE hD ys j), <- Dom.add_assoc, Dom.add_neg, Dom.zero_add]
   ·rw [thV_zero hD hx i j (by omega), Dom.mul_zero, Dom.add_zero]
    exact thR_ev i (by omega) (fun a ha => hA a (by omega)) j (by omega)
end
end FFld
end Go.Proofs.YtdnheaafcbihbaaGreat
namespace Go.Proofs.YtdnheaafcbihbaaGreat
namespace FFld
theorem mon_mul {α : Type} (F : Dom α) (a : α) (s : Nat) (g : Nat -> α) (n : Nat) : F.ser.mul (F.mon1 a s) g n = if n < s then F.zero else F.mul a (g (n - s)) := by
 show F.cv (F.mon1 a s) g n = _
 unfold Dom.cv Dom.mon1
 by_cases h : n < s
 ·rw [if_pos h]
  exact F.sm_zero _ fun i hi => by rw [if_neg (by omega), F.zero_mul]
 ·rw [if_neg h, F.sm_one (j := s) _ (by omega) fun i _ hne => by rw [if_neg hne, F.zero_mul], if_pos rfl]
theorem Eqv.dv {α : Type} {F : Dom α} {b x y g : Nat -> α} (h : Eqv F b x y) (hb : F.Dv g b) (hx : F.Dv g x) : F.Dv g y := by
 have e : F.ser.add x (F.ser.neg (F.ser.add x (F.ser.neg y))) = y := by
  refine F.ser.add_left_cancel (a := F.ser.add x (F.ser.neg y)) ?_
  rw [<- F.ser.add_assoc, F.ser.add_comm _ x, F.ser.add_assoc, F.ser.add_neg, F.ser.add_zero, F.ser.add_assoc, F.ser.add_comm (F.ser.neg y), F.ser.add_neg, F.ser.add_zero]
 rw [<- e]
 exact Dom.Dv.add F hx (Dom.Dv.neg F (Dom.Dv.trans F hb h))
section
variable {D : FD} (hD : D.Ok)
def serL (l : List Nat) : Nat -> El (D.p ^ D.k) := fun i => toE hD.pre.pk (l[i]?.getD 0)
theorem serL_sh (l : List Nat) : (FD.dom hD.nzd).Sh (serL hD l) l.length := fun i hi => by
 show toE hD.pre.pk (l[i]?.getD 0) = _
 rw [List.getElem?_eq_none hi]
 exact toE_zero hD
theorem serL_pl (l : List Nat) : (FD.dom hD.nzd).Pl (serL hD l) := ⟨_, serL_sh hD l⟩
theorem serL_dg {l : List Nat} (hl : ∀ a ∈ l, a < D.p ^ D.k) (h0 : l.length ≠ 0) (ht : Tz l) : (FD.dom hD.nzd).Dg (serL hD l) (l.length - 1) := by
 have hp := Nat.pow_pos (n := D.k) hD.pre.pk.p0
 exact ⟨fun i hi => serL_sh hD l i (by omega), fun e => ht.top h0 (toE_inj hD.pre.pk (getD_lt hp hl _) hp (Eq.trans e (toE_zero hD).symm))⟩
theorem serL_nil {l : List Nat} (h : l.length = 0) : serL hD l = (FD.dom hD.nzd).ser.zero := funext fun i => serL_sh hD l i (by omega)
theorem serL_addm {xs q : List Nat} {c s : Nat} (hx : ∀ a ∈ xs, a < D.p ^ D.k) (hq : ∀ a ∈ q, a < D.p ^ D.k) (hc : c < D.p ^ D.k) (hl : s + q.length <= xs.length) : serL hD (addm D xs s q c) = (FD.dom hD.nzd).ser.add (serL hD xs) ((FD.dom hD.nzd).ser.mul ((FD.dom hD.nzd).mon1 (toE hD.pre.pk c) s) (serL hD q)) := by
 have hp := Nat.pow_pos (n := D.k) hD.pre.pk.p0
 have hk := hD.pre.pk
 funext n
 show toE hD.pre.pk ((addm D xs s q c)[n]?.getD 0) = (FD.dom hD.nzd).add (toE hD.pre.pk (xs[n]?.getD 0)) ((FD.dom hD.nzd).ser.mul ((FD.dom hD.nzd).mon1 (toE hD.pre.pk c) s) (serL hD q) n)
 rw [mon_mul]
 by_cases h1 : n < s
 ·rw [if_pos h1, (FD.dom hD.nzd).add_zero]
  unfold addm
  rw [addmF_old _ _ _ _ _ _ _ (.inl h1)]
 ·rw [if_neg h1]
  obtain ⟨i, rfl⟩ : ∃ i, n = s + i := ⟨n - s, by omega⟩
  rw [Nat.add_sub_cancel_left]
  by_cases h2 : i < q.length
  ·rw [addm_at D xs s q c h2 hl, toE_add hD (getD_lt hp hx _) (pmul_lt hk _ _ _), toE_mul hD (getD_lt hp hq _) hc, (FD.dom hD.nzd).mul_comm]
   rfl
  ·have e : serL hD q i = (FD.dom hD.nzd).zero := serL_sh hD q i (by omega)
   rw [e, (FD.dom hD.nzd).mul_zero, (FD.dom hD.nzd).add_zero]
   unfold addm
   rw [addmF_old _ _ _ _ _ _ _ (.inr (by omega))]
theorem serL_divF {ql pl : List Nat} {inv n : Nat} (hq : ∀ a ∈ ql, a < D.p ^ D.k) (hp : ∀ a ∈ pl, a < D.p ^ D.k) (hn : n + ql.length = pl.length + 1) (h1 : 1 <= ql.length) : ∀ t, t <= n -> Eqv (FD.dom hD.nzd) (serL hD ql) (serL hD pl) (serL hD (divF D ql inv n pl t))
 | 0, _ => Eqv.refl _
 | t + 1, ht => by
   have hk := hD.pre.pk
   refine Eqv.trans (serL_divF (inv := inv) hq hp hn h1 t (by omega)) ?_
   apply Eqv.symm
   have e : divF D ql inv n pl (t + 1) = addm D (divF D ql inv n pl t) (n - 1 - t) ql (pscl D.p D.k (D.p - 1) (divQ D ql inv n pl t)) := rfl
   rw [e, serL_addm hD (divF_lt hk _ _ _ _ hp) hq (pscl_lt hk _ _) (by rw [divF_len]; omega)]
   refine ⟨(FD.dom hD.nzd).mon1 (toE hD.pre.pk (pscl D.p D.k (D.p - 1) (divQ D ql inv n pl t))) (n - 1 - t), ⟨_, (FD.dom hD.nzd).mon1_sh _ _⟩, ?_⟩
   rw [(FD.dom hD.nzd).ser.add_comm (serL hD (divF D ql inv n pl t)), (FD.dom hD.nzd).ser.add_assoc, (FD.dom hD.nzd).ser.add_neg, (FD.dom hD.nzd).ser.add_zero]
theorem serL_trm (l : List Nat) : serL hD (trm l) = serL hD l := by
 funext i
 show toE hD.pre.pk ((trm l)[i]?.getD 0) = toE hD.pre.pk (l[i]?.getD 0)
 congr 1
 by_cases h : i < trmN l l.length
 ·unfold trm
  rw [take_getD h]
 ·rw [List.getElem?_eq_none (by rw [trm_len]; omega)]
  by_cases h2 : i < l.length
  ·rw [trmN_zero l l.length i (by omega) h2]
   rfl
  ·rw [List.getElem?_eq_none (by omega)]
theorem rst_eqv {ql pl : List Nat} (inv : Nat) (hq : ∀ a ∈ ql, a < D.p ^ D.k) (hp : ∀ a ∈ pl, a < D.p ^ D.k) (h1 : 1 <= ql.length) : Eqv (FD.dom hD.nzd) (serL hD ql) (serL hD pl) (serL hD (rstF D ql inv pl)) := by
 unfold rstF
 split
 ·exact Eqv.refl _
 ·rw [serL_trm]
  exact serL_divF hD hq hp (by omega) h1 _ (Nat.le_refl _)
end
end FFld
end Go.Proofs.YtdnheaafcbihbaaGreat
namespace Go.Proofs.YtdnheaafcbihbaaGreat
namespace FFld
section
variable {D : FD} (hD : D.Ok)
include hD
theorem els_len : ((FD.dom hD.nzd).zero :: nzl (D.p ^ D.k)).length = D.p ^ D.k := by
 have h1 := hD.pre.pk.one_lt
 rw [List.length_cons, nzl_len]
 omega
theorem dom_els : Els (FD.dom hD.nzd) ((FD.dom hD.nzd).zero :: nzl (D.p ^ D.k)) := by
 have h1 := hD.pre.pk.one_lt
 refine ⟨List.nodup_cons.2 ⟨fun hm => ((nzl_all hD.nzd).mem _).1 hm rfl, nzl_nodup _⟩, fun a => ?_, fun a => ?_⟩
 ·by_cases h0 : a = (FD.dom hD.nzd).zero
  ·rw [h0]
   exact List.mem_cons_self
  ·exact List.mem_cons_of_mem _ (((nzl_all hD.nzd).mem a).2 h0)
 ·by_cases h0 : a = (FD.dom hD.nzd).zero
  ·rw [h0]
   exact Dom.zero_pow _ (by rw [List.length_cons]; omega)
  ·have e := (FD.dom hD.nzd).fermat (nzl_all hD.nzd) h0
   rw [List.length_cons, Dom.pow_succ, e, Dom.one_mul]
theorem nm_is : ∀ n, ((FD.dom hD.nzd).nm n).1 = pscl D.p D.k n 1
 | 0 => by
   rw [pscl_zero hD.pre.pk]
   exact congrArg Subtype.val (toE_zero hD).symm |>.trans (toE_val _ (Nat.pow_pos hD.pre.pk.p0))
 | n + 1 => by
   rw [pscl_sum hD.pre.pk, pscl_one hD.pre.pk 1 hD.pre.pk.one_lt, <- nm_is n]
   have e : (FD.dom hD.nzd).one.1 = 1 := (congrArg Subtype.val (toE_one hD)).symm.trans (toE_val _ hD.pre.pk.one_lt)
   show padd D.p D.k ((FD.dom hD.nzd).nm n).1 (FD.dom hD.nzd).one.1 = _
   rw [e]
theorem nm_toE (n : Nat) : toE hD.pre.pk (n % D.p) = (FD.dom hD.nzd).nm n := by
 have hk := hD.pre.pk
 have hlt : n % D.p < D.p ^ D.k := small_lt hk (Nat.mod_lt _ hk.p0)
 apply Subtype.ext
 rw [toE_val _ hlt, nm_is hD, pscl_small hk 1 n (by have := hk.p2; omega), Nat.one_mul]
theorem dom_chr : Chr (FD.dom hD.nzd) D.p := ⟨hD.pre.prime, hD.p6, by rw [<- nm_toE hD, Nat.mod_self]; exact toE_zero hD⟩
end
def derF (D : FD) (l : List Nat) : List Nat := (List.range (l.length - 1)).map fun i => pmul D.p D.k D.m (l[i + 1]?.getD 0) D.k ((i + 1) % D.p)
section
variable {D : FD} (hD : D.Ok)
end
end FFld
end Go.Proofs.YtdnheaafcbihbaaGreat
