/-
  Texts of the proof, merged by program: Fx Fz Lm Ex Fnw Mu Sd Fpo Cj Tr Awa Awb.
-/
import Derived.WalkMore
import Derived.Test.YtdnheaafcbihbaaGreatTq12
set_option linter.unusedSectionVars false
set_option linter.unusedSimpArgs false
set_option linter.unusedVariables false
set_option maxHeartbeats 16000000
namespace Go.Proofs.YtdnheaafcbihbaaGreat
namespace FFld
theorem addm_top {D : FD} (xs : List Nat) (s : Nat) (q : List Nat) (c : Nat) (hq : 1 <= q.length) (hs : s + q.length <= xs.length) : (addm D xs s q c)[s + (q.length - 1)]?.getD 0 = padd D.p D.k (xs[s + (q.length - 1)]?.getD 0) (pmul D.p D.k D.m (q[q.length - 1]?.getD 0) D.k c) := by
 obtain ⟨j, hj⟩ : ∃ j, q.length = j + 1 := ⟨q.length - 1, by omega⟩
 unfold addm
 rw [hj]
 simp only [addmF, Nat.add_sub_cancel]
 rw [List.getElem?_set_self (by rw [addmF_len]; omega), Option.getD_some, addmF_old D xs s q c j (s + j) (by omega)]
theorem addmF_evl {D : FD} (hD : D.Ok) (hk1 : D.k = 1) {d y : Nat} (hy : PK D.p d y) {xs : List Nat} (s : Nat) (q : List Nat) (c : Nat) (hx : ∀ a ∈ xs, a < D.p ^ D.k) (hq : ∀ a ∈ q, a < D.p ^ D.k) (hc : c < D.p ^ D.k) (hs : s + q.length <= xs.length) :
 ∀ j, j <= q.length -> evl D.p d y 1 (addmF D xs s q c j) = padd D.p d (evl D.p d y 1 xs) (pscl D.p d c (shn D.p d y (evl D.p d y 1 (q.take j)) s)) := by
 have hpk := hD.pre.pk
 have hm : D.m = D.p := hD.pre.mod1 hk1
 have hpk1 : PK D.p 1 D.p := ⟨hpk.p2, Nat.le_refl _⟩
 have hlt : ∀ a, a < D.p ^ D.k -> a < D.p := fun a ha => by rw [hk1, Nat.pow_one] at ha; exact ha
 intro j
 induction j with
 | zero =>
   intro _
   simp only [addmF, List.take_zero, evl]
   rw [shn_zero hy, pscl_nil hy, padd_zero hy _ (evl_lt hy _ _)]
 | succ j ih =>
   intro hj
   have ih := ih (by omega)
   have hu : (addmF D xs s q c j)[s + j]?.getD 0 < D.p := hlt _ (getD_lt (Nat.pow_pos hpk.p0) (addmF_lt hpk s q c j hx) _)
   have hz : q[j]?.getD 0 < D.p := hlt _ (getD_lt (Nat.pow_pos hpk.p0) hq _)
   have e : padd D.p D.k ((addmF D xs s q c j)[s + j]?.getD 0) (pmul D.p D.k D.m (q[j]?.getD 0) D.k c) = ((addmF D xs s q c j)[s + j]?.getD 0 + c * q[j]?.getD 0) % D.p := by
    rw [hm, hk1, pmul_k1 hpk1 _ _ hz (hlt _ hc), padd_k1 hpk1 _ _ hu (Nat.mod_lt _ hpk.p0), Nat.add_mod_mod, Nat.mul_comm c]
   simp only [addmF]
   rw [e]
   exact evl_row hy 1 c s _ q _ j (by omega) (by rw [addmF_len]; omega) ih
theorem addm_evl {D : FD} (hD : D.Ok) (hk1 : D.k = 1) {d y : Nat} (hy : PK D.p d y) {xs : List Nat} (s : Nat) (q : List Nat) (c : Nat) (hx : ∀ a ∈ xs, a < D.p ^ D.k) (hm : Mon D.p d y q) (hc : c < D.p ^ D.k) (hs : s + q.length <= xs.length) :
 evl D.p d y 1 (addm D xs s q c) = evl D.p d y 1 xs := by
 unfold addm
 rw [addmF_evl hD hk1 hy s q c hx (fun a ha => by rw [hk1, Nat.pow_one]; exact hm.lt a ha) hc hs q.length (Nat.le_refl _), List.take_length, hm.zero, shn_zero hy, pscl_nil hy, padd_zero hy _ (evl_lt hy _ _)]
theorem ppow_1 {p k m : Nat} (h : PK p k m) (n : Nat) : ppow h 1 n = 1 := by
 rw [ppow_of h 1 n h.one_lt]
 exact congrArg Subtype.val ((rng h).one_pow n)
theorem divF_ok {D : FD} (hD : D.Ok) (hk1 : D.k = 1) {d y : Nat} (hy : PK D.p d y) {pl ql : List Nat} (hx : ∀ a ∈ pl, a < D.p ^ D.k) (hm : Mon D.p d y ql) (n : Nat) (hn : n + ql.length = pl.length + 1) :
 ∀ t, t <= n -> evl D.p d y 1 (divF D ql 1 n pl t) = evl D.p d y 1 pl /\ ∀ j, n - t + (ql.length - 1) <= j -> (divF D ql 1 n pl t)[j]?.getD 0 = 0 := by
 have hpk := hD.pre.pk
 have hql := hm.len
 intro t
 induction t with
 | zero =>
   intro _
   refine ⟨rfl, fun j hj => ?_⟩
   simp only [divF]
   rw [List.getElem?_eq_none (by omega)]
   rfl
 | succ t ih =>
   intro ht
   obtain ⟨h1, h2⟩ := ih (by omega)
   have hR := divF_lt hpk ql 1 n t hx
   have hRl := divF_len D ql 1 n pl t
   simp only [divF]
   generalize divF D ql 1 n pl t = R at *
   have hc : pscl D.p D.k (D.p - 1) (pmul D.p D.k D.m (R[n - 1 - t + (ql.length - 1)]?.getD 0) D.k 1) < D.p ^ D.k := pscl_lt hpk _ _
   refine ⟨by rw [addm_evl hD hk1 hy _ ql _ hR hm hc (by omega), h1], fun j hj => ?_⟩
   by_cases e : j = n - 1 - t + (ql.length - 1)
   ·subst e
    rw [addm_top R _ ql _ (by omega) (by omega), hm.top]
    have hr : R[n - 1 - t + (ql.length - 1)]?.getD 0 < D.p ^ D.k := getD_lt (Nat.pow_pos hpk.p0) hR _
    rw [pmul_by_one hpk _ hr, pmul_one hpk _ (Nat.le_refl _) _ (pscl_lt hpk _ _)]
    exact padd_neg hpk _
   ·unfold addm
    rw [addmF_old D R _ ql _ _ j (by omega)]
    exact h2 j (by omega)
theorem evl_cut {p k m : Nat} (h : PK p k m) (a : Nat) (l : List Nat) : ∀ (r n : Nat), n + r = l.length -> (∀ i, n <= i -> l[i]?.getD 0 = 0) -> evl p k m a (l.take n) = evl p k m a l := by
 intro r
 induction r with
 | zero => intro n hn _; rw [List.take_of_length_le (by omega)]
 | succ r ih =>
   intro n hn hz
   rw [<- ih (n + 1) (by omega) (fun i hi => hz i (by omega)), take_snoc h l n (by omega), hz n (Nat.le_refl _), evl_trim h]
end FFld
end Go.Proofs.YtdnheaafcbihbaaGreat
namespace Go.Proofs.YtdnheaafcbihbaaGreat
namespace FFld
theorem Digs.len_ge {p n k : Nat} {l : List Nat} (h : Digs p n l) (hp : 2 <= p) (hn : p ^ k <= n) : k + 1 <= l.length := by
 have h1 := num_lt (p := p) (by omega) l h.lt
 rw [h.val] at h1
 rcases Nat.lt_or_ge k l.length with h2 | h2
 ·exact h2
 ·have := Nat.pow_le_pow_right (n := p) (by omega) h2
  omega
theorem rest_nil {D : FD} (hD : D.Ok) (hk1 : D.k = 1) {d y c k : Nat} (hd : 1 <= d) (hdk : d <= k) {pl ql rs : List Nat} (hp : Digs D.p c pl) (hq : Digs D.p y ql) (h1 : D.p ^ d <= y) (h2 : y < 2 * D.p ^ d) (hc0 : D.p ^ k <= c) (hc : c < D.p ^ (k + 1)) {n : Nat} (hn : n <= pl.length)
 (hrs : rs = (divF D ql 1 (pl.length + 1 - ql.length) pl (pl.length + 1 - ql.length)).take n)
 (hz : ∀ i, n <= i -> (divF D ql 1 (pl.length + 1 - ql.length) pl (pl.length + 1 - ql.length))[i]?.getD 0 = 0)
 (ht : n = 0 \/ (divF D ql 1 (pl.length + 1 - ql.length) pl (pl.length + 1 - ql.length))[n - 1]?.getD 0 ≠ 0) :
 rs.length = 0 ↔ pmul D.p d y 1 (k + 1) c = 0 := by
 have hpk := hD.pre.pk
 have hy : PK D.p d y := ⟨hpk.p2, hd⟩
 have hm := hq.mon hy h1 h2
 have hql := hm.len
 have hpl := hp.len_ge hpk.p2 hc0
 have hx : ∀ a ∈ pl, a < D.p ^ D.k := fun a ha => by rw [hk1, Nat.pow_one]; exact hp.lt a ha
 obtain ⟨e1, e2⟩ := divF_ok hD hk1 hy hx hm (pl.length + 1 - ql.length) (by omega) (pl.length + 1 - ql.length) (Nat.le_refl _)
 have hl := divF_len D ql 1 (pl.length + 1 - ql.length) pl (pl.length + 1 - ql.length)
 have hlt := divF_lt hpk ql 1 (pl.length + 1 - ql.length) (pl.length + 1 - ql.length) hx
 generalize divF D ql 1 (pl.length + 1 - ql.length) pl (pl.length + 1 - ql.length) = R at *
 have hnd : n <= d := by
  rcases ht with h | h
  ·omega
  ·rcases Nat.lt_or_ge d n with h3 | h3
   ·exact absurd (e2 (n - 1) (by omega)) h
   ·exact h3
 have e3 := evl_cut hy 1 R (R.length - n) n (by omega) hz
 rw [<- hrs, e1, <- evl_pmul hy 1 pl (k + 1) hp.lt (hp.len hpk.p2 hc), hp.val] at e3
 have hrl : rs.length = n := by rw [hrs, List.length_take, hl]; omega
 have hrlt : ∀ a ∈ rs, a < D.p := fun a ha => by
  have := hlt a (by rw [hrs] at ha; exact List.mem_of_mem_take ha)
  rw [hk1, Nat.pow_one] at this
  exact this
 rw [evl_one hy rs hrlt (by omega)] at e3
 rw [<- e3]
 constructor
 ·intro h
  rw [List.eq_nil_of_length_eq_zero h]
  rfl
 ·intro h
  rcases ht with h3 | h3
  ·omega
  ·by_cases hn0 : n = 0
   ·omega
   ·exfalso
    have hne : rs ≠ [] := fun e => by rw [e] at hrl; simp at hrl; omega
    have hlast : rs.getLast? ≠ some 0 := by
     rw [List.getLast?_eq_getElem?, hrl, hrs, List.getElem?_take, if_pos (by omega)]
     intro e
     rw [e] at h3
     exact h3 rfl
    have h4 := num_ge (p := D.p) hlast hne
    have h5 : 0 < D.p ^ (rs.length - 1) := Nat.pow_pos hpk.p0
    omega
end FFld
end Go.Proofs.YtdnheaafcbihbaaGreat
namespace Go.Proofs.YtdnheaafcbihbaaGreat
open Go Go.RowKit
open FFld (ints)
theorem meas_lt {q a b : Nat} {x y : Value} (hx : x = .int .i64 (a : Int)) (hy : y = .int .i64 (b : Int)) (h : q + 1 - a < q + 1 - b) : q + 1 - (intOf x).toNat < q + 1 - (intOf y).toNat := by subst hx; subst hy; exact h
set_option maxRecDepth 20000 in
theorem leastModulus_any {P D : FFld.FD} {b : Nat} (hP : P.Ok) (hPk : P.k = 1) (hD : D.Ok) (hk2 : 2 <= D.k) (hpp : P.p = D.p) (w : World) (hf : FldB P w b) :
 Calls Tryz.prog 206 #[.pointer (some ⟨b, 0, none⟩), .int .i64 D.q] w (RB w (.int .i64 D.m)) := by
 obtain ⟨p, hp⟩ : ∃ p, D.p = p := ⟨_, rfl⟩
 obtain ⟨k, hk⟩ : ∃ k, D.k = k := ⟨_, rfl⟩
 obtain ⟨m, hm⟩ : ∃ m, D.m = m := ⟨_, rfl⟩
 obtain ⟨q, hq⟩ : ∃ q, D.q = q := ⟨_, rfl⟩
 have hqk : p ^ k = q := by rw [<- hp, <- hk, <- hq]; rfl
 have hp2 : 2 <= p := by have := hP.pre.pk.p2; rw [hpp, hp] at this; exact this
 have hq6 : q <= 65536 := by have := hD.pre.small; rw [hq] at this; exact this
 obtain ⟨hqm, hm2, _, _⟩ := hD.pre.mod2 hk2
 rw [hq, hm] at hqm hm2
 have hk2' : 2 <= k := by rw [<- hk]; exact hk2
 have HF := Kept.mk hf
 have HIS := Kept.mk (fun (c : Nat) (h1 : q <= c) (hc : c <= m) (hi : FFld.Irr p k c) => show c = m from by
  have := FFld.FD.Ok.mod_is hD hk2 (c := c) (by rw [hq]; exact h1) (by rw [hm]; exact hc) (by rw [hp, hk]; exact hi)
  rw [hm] at this; exact this)
 have HNOT := Kept.mk (fun (c : Nat) (hc : c <= m) (hi : ¬ FFld.Irr p k c) => show c + 1 <= m from by
  have := FFld.FD.Ok.mod_not hD hk2 (c := c) (by rw [hm]; exact hc) (by rw [hp, hk]; exact hi)
  rw [hm] at this; exact this)
 have hp256 : p <= 256 := by
  rcases Nat.lt_or_ge 256 p with h | h
  ·have h3 : p ^ 2 <= p ^ k := Nat.pow_le_pow_right (by omega) hk2'
   have h4 := nmul_le (A := p) (B := p) (a := 257) (b := 257) h h
   rw [Nat.pow_two] at h3
   omega
  ·exact h
 have hPp : P.p = p := by rw [hpp, hp]
 have hbl : b < w.heap.size := hf.lt
 obtain ⟨_, T, xx, fs, fp, fw, ms, ml, hbb, _, _, _⟩ := hf.open
 obtain ⟨_, _, c2, _, _, _⟩ := six_cells hbb
 rw [hPp] at c2
 have HQK := Kept.mk hqk
 have hpk1 : 2 * q <= p ^ (k + 1) := by rw [Nat.pow_succ', HQK.out]; exact Nat.mul_le_mul_right _ hp2
 have HK1 := Kept.mk hpk1
 have hk16 : k <= 16 := by
  rcases Nat.lt_or_ge 16 k with h | h
  ·have h4 : 2 ^ 17 <= p ^ k := Nat.le_trans (Nat.pow_le_pow_right (by omega) h) (Nat.pow_le_pow_left hp2 _)
   rw [HQK.out, show (2 : Nat) ^ 17 = 131072 from rfl] at h4
   omega
  ·exact h
 -- the division of a candidate by a factor
 have hDiv := Kept.mk (fun W (hW : Below w.heap.size w W) (vc vx : Value) (pl ql : List Nat) (c x d : Nat) (hd : 1 <= d) (hdk : 2 * d <= k) (hc0 : q <= c) (hc : c <= m) (hx0 : p ^ d <= x) (hx1 : x < 2 * p ^ d) (hpl : FFld.Digs p c pl) (hql : FFld.Digs p x ql) (hsp : Sl .i64 W vc (ints pl)) (hsq : Sl .i64 W vx (ints ql)) =>
  show Calls Tryz.prog 216 #[.pointer (some ⟨b, 0, none⟩), vc, vx] W (fun e w' => Below W.heap.size W w' /\ ∃ (vq vr : Value) (rs : List Nat), e = .returned (.tuple #[vq, vr]) /\ Sl .i64 w' vr (ints rs) /\ (rs.length = 0 ↔ FFld.pmul p d x 1 (k + 1) c = 0)) from by
   have hd1 : FFld.PK p d x := ⟨hp2, hd⟩
   have hmon := hql.mon hd1 hx0 hx1
   have hck : c < p ^ (k + 1) := by omega
   have hpl1 := hpl.len hp2 hck
   have hpl2 := hpl.len_ge hp2 (k := k) (by rw [hqk]; exact hc0)
   have hk17 : k <= 40 := FFld.len_of_pow (Nat.pow_le_pow_left hp2 _) (show p ^ k <= 1099511627776 by omega)
   have hlen := hmon.len
   refine (divide_any hP vc vx pl ql W (HF.out.below hW) hsp hsq (fun a ha => by rw [hPk, Nat.pow_one, hPp]; exact hpl.lt a ha) (fun a ha => by rw [hPk, Nat.pow_one, hPp]; exact hql.lt a ha) (by omega) (by rw [hmon.top]; omega) (by omega) (by omega)).mono ?_
   rintro e w' ⟨hb, vq, vr, qs, rs, rfl, _, hr, h⟩
   rw [if_neg (by omega)] at h
   obtain ⟨h1, _, n, hn, hrs, hz, ht⟩ := h
   rw [hmon.top, FFld.ppow_1, h1] at hrs hz ht
   have hres := FFld.rest_nil hP hPk (k := k) hd (by omega) (by rw [hPp]; exact hpl) (by rw [hPp]; exact hql) (by rw [hPp]; exact hx0) (by rw [hPp]; exact hx1) (by rw [hPp, hqk]; exact hc0) (by rw [hPp]; exact hck) hn hrs hz ht
   rw [hPp] at hres
   exact ⟨hb, vq, vr, rs, rfl, hr, hres⟩)
 have hpd := Kept.mk (fun (d : Nat) (hd : 2 * d <= k) => show p ^ d <= 256 from by
  rcases Nat.lt_or_ge 256 (p ^ d) with h | h
  ·have h3 : p ^ (2 * d) <= p ^ k := Nat.pow_le_pow_right (by omega) hd
   have h4 := nmul_le (A := p ^ d) (B := p ^ d) (a := 257) (b := 257) h h
   rw [Nat.two_mul, Nat.pow_add] at h3
   generalize p ^ d * p ^ d = z at *
   omega
  ·exact h)
 rw [hq, hm]
 clear hbb hf hP hD hPk hk2 hPp hpp hp hk hm hq hqk hpk1
 go_enter Tryz.func206, Tryz.ntmps206
 go_wp2
 go_step3
 go_wp2
 go_step3
 go_wp2
 go_loopw [5] (fun mv wr => ∃ (c : Nat), q <= c /\ c <= m /\ mv = .int .i64 c /\ Kept (Below w.heap.size w wr)) (fun mv _ => m - (intOf mv).toNat)
 case atStart => exact ⟨q, Nat.le_refl _, hqm, rfl, ⟨Below.refl _ _⟩⟩
 case round =>
  obtain ⟨c, hc0, hcm, rfl, hbx⟩ := hrel
  have d2 := (hbx.out.cell (p := ⟨b, 2, none⟩) hbl).trans c2
  go_wp2_with fail
  refine (fdigits_any c p _ hp2 (by omega) (by omega)).mono ?_
  rintro e w1 ⟨hb1, v1, pl, rfl, hm1, hd1⟩
  have HC1 := Kept.mk (hbx.out.trans (hb1.mono hbx.out.size))
  have HS1 := Kept.mk hm1.sl
  have HD1 := Kept.mk hd1
  obtain ⟨a1, c1, rfl, hcap1, hmx1⟩ := hm1.sl.form
  rw [FFld.ints_len] at hcap1 HS1 ⊢
  have d3 := (HC1.out.cell (p := ⟨b, 2, none⟩) hbl).trans c2
  have hs1 := HC1.out.size
  have hbl1 : b < w1.heap.size := by omega
  clear hb1 hm1 hd1 d2
  go_wp2
  go_loopw [7] (fun fv wr => ∃ (f d : Nat), fv = .int .i64 f /\ 1 <= d /\ d <= 17 /\ f <= 65536 /\ Kept (f = p ^ d) /\ Kept (FFld.DvAt_ p k c d (p ^ d) true) /\ Kept (Below w1.heap.size w1 wr)) (fun fv _ => q + 1 - (intOf fv).toNat)
  case atStart => exact ⟨p, 1, rfl, Nat.le_refl _, by omega, by omega, ⟨(Nat.pow_one p).symm⟩, ⟨FFld.DvAt_.start p k c⟩, ⟨Below.refl _ _⟩⟩
  case round =>
   obtain ⟨f, d, rfl, hd1, hd17, hf6, hfe, hat, hbx1⟩ := hrel
   obtain ⟨ff, hff⟩ : ∃ ff, f * f = ff := ⟨_, rfl⟩
   have eff : wrap64 ((f : Int) * f) = ff := wmul hff (by rw [<- hff]; exact Nat.le_trans (nmul_le hf6 hf6) (by omega))
   have hffe : ff <= q ↔ 2 * d <= k := by
    rw [<- hff, hfe.out, <- HQK.out, <- Nat.pow_add, <- Nat.two_mul]
    exact ⟨fun h => (Nat.pow_le_pow_iff_right hp2).1 h, fun h => (Nat.pow_le_pow_iff_right hp2).2 h⟩
   have d4 := (hbx1.out.cell (p := ⟨b, 2, none⟩) hbl1).trans d3
   by_cases hlt : 2 * d <= k
   ·have hle : ff <= q := hffe.2 hlt
    have hf256 : f <= 256 := by rw [hfe.out]; exact hpd.out d hlt
    obtain ⟨f', hf'⟩ : ∃ f', f * p = f' := ⟨_, rfl⟩
    have hf'e : f' = p ^ (d + 1) := by rw [<- hf', hfe.out, Nat.pow_succ]
    have hf'6 : f' <= 65536 := by rw [<- hf']; exact Nat.le_trans (nmul_le hf256 hp256) (by omega)
    have hff1 : f + 1 <= f' := by
     rw [<- hf']
     have h1 : 0 < f := by rw [hfe.out]; exact Nat.pow_pos (by omega)
     have h2 : f * 2 <= f * p := Nat.mul_le_mul_left _ hp2
     omega
    have ef : wrap64 ((f : Int) * p) = f' := wmul hf' (by omega)
    have HF' := Kept.mk hf'e
    have hfq : f < q + 1 := Nat.lt_succ_of_le (Nat.le_trans (by rw [<- hff]; exact Nat.le_mul_self f) hle)
    have hmeas : q + 1 - f' < q + 1 - f := Nat.sub_lt_sub_left hfq hff1
    clear hff hffe hf' hf'e
    go_wp2
    rw [eff]
    go_loopw [8] (fun xv wr => ∃ (x : Nat), xv = .int .i64 x /\ f <= x /\ x <= 2 * f /\ Kept (FFld.DvAt_ p k c d x true) /\ Kept (Below w1.heap.size w1 wr)) (fun xv _ => 601 - (intOf xv).toNat)
    case atStart => exact ⟨f, rfl, Nat.le_refl _, by omega, by rw [hfe.out]; exact hat, hbx1⟩
    case round =>
     obtain ⟨x, rfl, hfx, hx2, hat, hbx1⟩ := hrel
     have d4 := (hbx1.out.cell (p := ⟨b, 2, none⟩) hbl1).trans d3
     by_cases hxl : x < 2 * f
     ·have hfac := Kept.mk (fun W => fdigits_any x p W hp2 (by omega) (by omega))
      have HX0 : Kept (p ^ d <= x /\ x < 2 * p ^ d) := ⟨by rw [<- hfe.out]; exact ⟨hfx, hxl⟩⟩
      obtain ⟨v, hv⟩ : ∃ v, FFld.pmul p d x 1 (k + 1) c = v := ⟨_, rfl⟩
      go_wp2_with fail
      refine (hfac.out _).mono ?_
      rintro e w2 ⟨hb2, v2, ql, rfl, hm2, hdx⟩
      have HX2 := Kept.mk (hbx1.out.trans (hb2.mono hbx1.out.size))
      have hsz2 := HX2.out.size
      have hD := hDiv.out w2 (HC1.out.trans (HX2.out.mono HC1.out.size)) _ v2 pl ql c x d hd1 hlt hc0 hcm HX0.out.1 HX0.out.2 HD1.out hdx (HS1.out.below HX2.out) hm2.sl
      rw [hv] at hD
      have HDV := Kept.mk hD
      obtain ⟨a2, c2', rfl, hcap2, hmx2⟩ := hm2.sl.form
      rw [FFld.ints_len] at hcap2 HDV ⊢
      clear hb2 hm2 hdx hD d4 hfac
      by_cases hv0 : v = 0
      ·subst hv0
       have hN := HNOT.out c hcm (FFld.DvAt_.fail hd1 hlt HX0.out.1 HX0.out.2 hv (x + 1))
       clear hv
       go_wp2_with fail
       refine HDV.out.mono ?_
       rintro e w3 ⟨hb3, vq, vr, rs, rfl, hsr, hz⟩
       obtain ⟨a3, c3, rfl, hcap3, hmx3⟩ := hsr.form
       have hz0 : rs.length = 0 := by simpa using hz
       rw [FFld.ints_len, hz0] at hcap3 ⊢
       have HX3 := Kept.mk (HC1.out.trans ((HX2.out.trans (hb3.mono HX2.out.size)).mono HC1.out.size))
       clear hb3 hz hsr
       go_wp2
       go_roundw
       case rel => exact ⟨c + 1, by omega, hN, by go_num, HX3⟩
       case measure => simp [intOf] <;> omega
      ·have HD2 := Kept.mk (hat.out.next (by rw [hv]; exact hv0))
       clear hv
       go_wp2_with fail
       refine HDV.out.mono ?_
       rintro e w3 ⟨hb3, vq, vr, rs, rfl, hsr, hz⟩
       obtain ⟨a3, c3, rfl, hcap3, hmx3⟩ := hsr.form
       have hz0 : ¬ rs.length = 0 := fun h => hv0 (hz.1 h)
       have ez : ((rs.length : Int) == 0) = false := by rw [beq_eq_false_iff_ne]; omega
       rw [FFld.ints_len] at hcap3 ⊢
       have HX3 := Kept.mk (HX2.out.trans (hb3.mono HX2.out.size))
       clear hb3 hz hsr
       go_wp2
       go_roundw
       case rel => exact ⟨x + 1, by go_num, by omega, by omega, HD2, HX3⟩
       case measure => simp [intOf] <;> omega
     ·obtain rfl : x = 2 * f := by omega
      have HD2 : Kept (FFld.DvAt_ p k c (d + 1) (p ^ (d + 1)) true) := ⟨by have := hat.out; rw [hfe.out] at this; exact this.row⟩
      go_wp2
      go_roundw
      case rel => exact ⟨f', d + 1, congrArg (Value.int .i64) ef, by omega, by omega, hf'6, HF', HD2, hbx1⟩
      case measure => exact meas_lt (congrArg (Value.int .i64) ef) rfl hmeas
   ·have hI := HIS.out c hc0 hcm (hat.out.done (by omega))
    have hle : ¬ ff <= q := fun h => hlt (hffe.1 h)
    clear hff hffe
    go_wp2
    go_ret
    exact ⟨HC1.out.trans (hbx1.out.mono HC1.out.size), by rw [<- hI]; rfl⟩
set_option maxRecDepth 20000 in
theorem extension_any {P D : FFld.FD} {b : Nat} (hP : P.Ok) (hPk : P.k = 1) (hD : D.Ok) (hk2 : 2 <= D.k) (hpp : P.p = D.p) (w : World) (hf : FldB P w b) :
 Calls Tryz.prog 147 #[.pointer (some ⟨b, 0, none⟩), .int .i64 D.q, .int .i64 D.k] w (FldRet D w) := by
 have hLm := Kept.mk (leastModulus_any hP hPk hD hk2 hpp w hf)
 have hbl := hf.lt
 have hpk := hD.pre.pk
 have hq6 : D.p ^ D.k <= 65536 := hD.pre.small
 obtain ⟨hqm, hm2, _, _⟩ := hD.pre.mod2 hk2
 have hNr := Kept.mk (fun W => newResidues_any D.p D.k D.m D.q W hpk rfl hq6 hqm hm2)
 have hp6 : D.p <= 65536 := Nat.le_trans (p_le_q hD) hq6
 have hp2 := hpk.p2
 have hm40 : D.m < 1099511627776 := by unfold FFld.FD.q at hm2; omega
 have hgq := hD.gq
 obtain ⟨_, T, xx, fs, fp, fw, ms, ml, hbb, _, _, _⟩ := hf.open
 obtain ⟨_, _, c2, _, _, _⟩ := six_cells hbb
 rw [hpp] at c2
 have HD := Kept.mk hD
 clear hbb hf hP hPk hqm hm2 hD
 go_enter Tryz.func147, Tryz.ntmps147
 go_wp2_with fail
 refine hLm.out.mono ?_
 rintro e w1 ⟨hb1, rfl⟩
 have HB1 := Kept.mk hb1
 have c21 := belowCell hb1 c2
 clear hb1 hLm
 go_wp2_with fail
 refine (hNr.out _).mono ?_
 rintro e w2 ⟨hb2, l, o, rfl, hR⟩
 have HB2 := Kept.mk (HB1.out.trans (hb2.mono HB1.out.size))
 have c22 := belowCell hb2 c21
 have hs2 := HB2.out.size
 have HR := Kept.mk hR
 have HX := Kept.mk (show (w2.alloc (.cells #[.int .i64 D.p, .int .i64 l, .int .i64 o] 217 (0, 0))).heap[w2.heap.size]? = some (.cells #[.int .i64 D.p, .int .i64 l, .int .i64 o] 217 (0, 0)) from heap_alloc_new w2 _)
 have hLg := Kept.mk (fun W => leastgen_res D HD.out (rsv D.p l o) W (fun W x y hx hy => rproduct_any D.p D.k D.m l o HR.out x y W hx hy))
 obtain ⟨e0, e1, e2, _⟩ := three_cells HX.out
 clear hb2 hR hNr
 go_wp2_with fail
 refine (hLg.out _).mono ?_
 rintro e w3 ⟨hb3, rfl⟩
 have HB3 := Kept.mk hb3
 clear hb3 hLg
 have hs3 := HB3.out.size
 have hsa : (w2.alloc (.cells #[.int .i64 D.p, .int .i64 l, .int .i64 o] 217 (0, 0))).heap.size = w2.heap.size + 1 := by simp
 have HA0 : Kept (Below w2.heap.size w2 (w2.alloc (.cells #[.int .i64 D.p, .int .i64 l, .int .i64 o] 217 (0, 0)))) := ⟨(Below.refl _ _).alloc (Nat.le_refl _) _⟩
 have h83 := (HB3.out.block w2.heap.size (by omega)).trans HX.out
 have hB23 : Below w2.heap.size w2 w3 := HA0.out.trans (HB3.out.mono (by omega))
 have hs23 := hB23.size
 have c23 := belowCell hB23 c22
 have hBw3 : Below w.heap.size w w3 := HB2.out.trans (hB23.mono hs2)
 clear e0 e1 e2 c2 c21 c22
 go_wp2
 obtain ⟨W0, hW0⟩ : ∃ W, w3.alloc (.cells #[.int .i64 D.g] 3 (0, 0)) = W := ⟨_, rfl⟩
 have hbA : Below w3.heap.size w3 W0 := by rw [<- hW0]; exact (Below.refl _ _).alloc (Nat.le_refl _) _
 have h90 : W0.cell? ⟨w3.heap.size, 0, none⟩ = some (.int .i64 D.g) := by
  rw [<- hW0, cell_of_row _ _ 0 _ _ (0, 0) (heap_alloc_new w3 _)]; rfl
 have h80 := (hbA.block w2.heap.size (by omega)).trans h83
 have d0 := belowCell hbA c23
 have hBW := Kept.mk (hBw3.trans (hbA.mono hBw3.size))
 have hsW : w3.heap.size < W0.heap.size := by rw [<- hW0]; simp
 have hNt := Kept.mk (fun W (hW : Below W0.heap.size W0 W) => newTables_any D HD.out w2.heap.size w3.heap.size W (fun W' hW' a ha => ext1_any D.p D.k D.m l o D.g a w2.heap.size w3.heap.size W' HR.out ha hgq (((hW.trans (hW'.mono hW.size)).block w2.heap.size (by omega)).trans h80) (belowCell (hW.trans (hW'.mono hW.size)) h90)))
 have hDg := Kept.mk (fun W => fdigits_any D.m D.p W hp2 hp6 hm40)
 have H80 := Kept.mk h80
 rw [hW0]
 clear hbA h80 h83 c23 hB23 hBw3 HX HA0 HB3
 clear HR H80
 go_region_held3 (fun w' => w'.cell? ⟨b, 2, none⟩ = some (.int .i64 D.p) /\ w'.cell? ⟨w3.heap.size, 0, none⟩ = some (.int .i64 D.g))
  (first | exact ⟨d0, h90⟩ | exact ⟨k0, k1⟩ | exact ⟨l0, l1⟩ | go_keep)
  ((first
    | (go_at_call 209; have HP5 := HB5.out; (with_reducible refine (hNt.out _ ?_).mono ?_); (exact (by first | exact HP5 | exact HP5.drew)); clear HP5; rintro e w4 ⟨hb4, gP, gL, q1, q, PP, L, rfl, r1, r2, r3, r4, r5⟩; have HB54 := Kept.mk (show Below w5.heap.size w5 w4 from (by first | exact hb4 | exact (Below.refl _ _).drew.trans hb4)); have HT := Kept.mk (And.intro r1 (And.intro r2 (And.intro r3 (And.intro r4 r5)))); have l0 := belowCell HB54.out k0; have l1 := belowCell HB54.out k1; clear hb4 r1 r2 r3 r4 r5)
    | (go_at_call 209; (with_reducible refine (hNt.out _ ?_).mono ?_); (exact (by first | exact Below.refl _ _ | exact (Below.refl _ _).drew)); rintro e w4 ⟨hb4, gP, gL, q1, q, PP, L, rfl, r1, r2, r3, r4, r5⟩; have HB4 := Kept.mk (show Below W0.heap.size W0 w4 from (by first | exact hb4 | exact (Below.refl _ _).drew.trans hb4)); have HT := Kept.mk (And.intro r1 (And.intro r2 (And.intro r3 (And.intro r4 r5)))); have k0 := belowCell HB4.out d0; have k1 := belowCell HB4.out h90; clear hb4 r1 r2 r3 r4 r5)
    | (go_at_call 211; have HP4 := HB4.out; clear HP4; (with_reducible refine (hDg.out _).mono ?_); rintro e w5 ⟨hb5, v5, ml5, rfl, hm5, hd5⟩; obtain ⟨a5, c5, rfl, hc5, hx5⟩ := hm5.sl.form; rw [FFld.ints_len] at hc5 hm5 ⊢; have HB45 := Kept.mk (show Below w4.heap.size w4 w5 from (by first | exact hb5 | exact (Below.refl _ _).drew.trans hb5)); have HS := Kept.mk (And.intro hm5.sl hd5); have l0 := belowCell HB45.out k0; have l1 := belowCell HB45.out k1; clear hb5 hm5 hd5)
    | (go_at_call 211; (with_reducible refine (hDg.out _).mono ?_); rintro e w5 ⟨hb5, v5, ml5, rfl, hm5, hd5⟩; obtain ⟨a5, c5, rfl, hc5, hx5⟩ := hm5.sl.form; rw [FFld.ints_len] at hc5 hm5 ⊢; have HB5 := Kept.mk (show Below W0.heap.size W0 w5 from (by first | exact hb5 | exact (Below.refl _ _).drew.trans hb5)); have HS := Kept.mk (And.intro hm5.sl hd5); have k0 := belowCell HB5.out d0; have k1 := belowCell HB5.out h90; clear hb5 hm5 hd5)))
 go_wp2
 go_ret
 have hb5 := bstep (bstep hBW.out HB4.out) HB45.out
 obtain ⟨r1, r2, r3, r4, r5⟩ := HT.out
 have hal : Below w5.heap.size w5 (w5.alloc (.cells #[.iface 221 (tbv D.p (some ⟨gP, 0, none⟩) q1 q1 (some ⟨gL, 0, none⟩) q q), .int .i64 D.q, .int .i64 D.p, .int .i64 D.k, .int .i64 D.g, .slice a5 ml5.length c5] 179 (0, 0))) := (Below.refl _ _).alloc (Nat.le_refl _) _
 exact ⟨bstep hb5 hal, w5.heap.size, hb5.size, rfl, HD.out, _, _, ml5, heap_alloc_new w5 _, .inr ⟨hk2, gP, gL, q1, q, PP, L, rfl, (r1.below HB45.out).below hal, (r2.below HB45.out).below hal, r3, r4, r5⟩, HS.out.1.below hal, HS.out.2⟩
def FnRet (q : Int) (w : World) (e : Ending) (w' : World) : Prop := Below w.heap.size w w' /\ ((∃ (D : FFld.FD) (b : Nat), q = D.q /\ w.heap.size <= b /\ e = .returned (.tuple #[.pointer (some ⟨b, 0, none⟩), .int .i64 0]) /\ FldB D w' b) \/ (¬ FFld.Fit q /\ e = .returned (.tuple #[.pointer none, .int .i64 20])))
set_option maxRecDepth 20000 in
theorem fnew_any (q : Int) (w : World) (hr0 : -9223372036854775808 <= q) (hr1 : q <= 9223372036854775807) :
 Calls Tryz.prog 73 #[.int .i64 q] w (FnRet q w) := by
 have hPp := Kept.mk (primePower_any q w hr0 hr1)
 go_enter Tryz.func73, Tryz.ntmps73
 go_wp2_with fail
 refine hPp.out.mono ?_
 rintro e w1 ⟨hb1, h⟩
 have HB1 := Kept.mk hb1
 clear hb1 hPp
 rcases h with ⟨p, k, hp, hk1, hq, hq6, rfl⟩ | ⟨hn, rfl⟩
 ·obtain ⟨m, g, hD⟩ := FFld.FD.exists p k hp hk1 hq6
  have hp6 : p ^ 1 <= 65536 := by
   have := Nat.pow_le_pow_right (n := p) (by have := hp.1; omega) hk1
   omega
  obtain ⟨m', g', hP⟩ := FFld.FD.exists p 1 hp (Nat.le_refl _) hp6
  have hqD : q = (((⟨p, k, m, g⟩ : FFld.FD).q : Nat) : Int) := hq
  have HD := Kept.mk hD
  have HP := Kept.mk hP
  have HQ := Kept.mk hqD
  have hPf := Kept.mk (fun W => show Calls Tryz.prog 146 #[.int .i64 p] W (FldRet ⟨p, 1, m', g'⟩ W) from primeField_any ⟨p, 1, m', g'⟩ HP.out rfl W)
  by_cases hk : k = 1
  ·subst hk
   have hPf' := Kept.mk (fun W => show Calls Tryz.prog 146 #[.int .i64 p] W (FldRet ⟨p, 1, m, g⟩ W) from primeField_any ⟨p, 1, m, g⟩ HD.out rfl W)
   clear hp hk1 hq hq6 hD hp6 hP hqD hPf
   go_wp2_with fail
   refine (hPf'.out _).mono ?_
   rintro e w2 ⟨hb2, b, hb, rfl, hf⟩
   have HB2 := Kept.mk (bstep HB1.out hb2)
   have HF := Kept.mk hf
   have HS := HB1.out.size
   clear hb2 hf
   go_wp2
   go_ret2
   exact ⟨HB2.out, .inl ⟨_, b, HQ.out, by omega, rfl, HF.out⟩⟩
  ·have hk2 : 2 <= k := by omega
   have ek : decide ((k : Int) > 1) = true := by simp; omega
   have hEx := Kept.mk (fun W b (hf : FldB ⟨p, 1, m', g'⟩ W b) => show Calls Tryz.prog 147 #[.pointer (some ⟨b, 0, none⟩), .int .i64 q, .int .i64 k] W (FldRet ⟨p, k, m, g⟩ W) from by
    rw [HQ.out]
    exact extension_any HP.out rfl HD.out hk2 rfl W hf)
   have hk1' : (1 : Int) < k := by omega
   clear hp hq hq6 hD hp6 hP hqD
   go_wp2_with fail
   refine (hPf.out _).mono ?_
   rintro e w2 ⟨hb2, b, hb, rfl, hf⟩
   have HB2 := Kept.mk (bstep HB1.out hb2)
   have HF := Kept.mk hf
   clear hb2 hf
   go_wp2_with fail
   refine (hEx.out _ _ HF.out).mono ?_
   rintro e w3 ⟨hb3, b', hb', rfl, hf⟩
   have HB3 := Kept.mk (bstep HB2.out hb3)
   have HF3 := Kept.mk hf
   have HS := HB2.out.size
   clear hb3 hf
   go_wp2
   go_ret2
   exact ⟨HB3.out, .inl ⟨_, b', HQ.out, by omega, rfl, HF3.out⟩⟩
 ·have HN := Kept.mk hn
  clear hn
  go_wp2
  go_ret2
  exact ⟨HB1.out, .inr ⟨HN.out, rfl⟩⟩
set_option maxRecDepth 20000 in
theorem fmul_any {D : FFld.FD} {b : Nat} (x y : Int) (w : World) (hf : FldB D w b) (hx0 : -9223372036854775808 <= x) (hx1 : x <= 9223372036854775807) (hy0 : -9223372036854775808 <= y) (hy1 : y <= 9223372036854775807) (r s : Nat) (hr : x % D.q = r) (hs : y % D.q = s) (hr1 : r < D.p ^ D.k) (hs1 : s < D.p ^ D.k) :
 Calls Tryz.prog 82 #[.pointer (some ⟨b, 0, none⟩), .int .i64 x, .int .i64 y] w (RB w (.int .i64 (FFld.pmul D.p D.k D.m r D.k s : Nat))) := by
 obtain ⟨h, T, xx, fs, fp, fw, ms, ml, hb, ho, _, _⟩ := hf.open
 obtain ⟨c0, _⟩ := six_cells hb
 have hP := Kept.mk (fun W (hW : Below w.heap.size w W) => ho.product W hW r s hr1 hs1)
 have hA := Kept.mk (fun W (hW : Below w.heap.size w W) => reduced_any x W (hf.below hW) hx0 hx1)
 have hB := Kept.mk (fun W (hW : Below w.heap.size w W) => reduced_any y W (hf.below hW) hy0 hy1)
 rw [hr] at hA
 rw [hs] at hB
 have hmp := ho.mp
 have hcp := ho.cp
 clear ho hb hf hx0 hx1 hy0 hy1 hr hs hr1 hs1
 go_enter Tryz.func82, Tryz.ntmps82
 go_wp2
 go_region_held3 (fun w' => w'.cell? ⟨b, 0, none⟩ = some (.iface T xx))
  (first | exact c0 | exact k0 | go_keep)
  ((first
    | ((with_reducible refine (hA.out _ ?_).mono ?_); (exact (by first | exact Below.refl _ _ | exact (Below.refl _ _).drew | exact (Below.refl _ _).drew.drew)); rintro e w2 ⟨rfl, rfl⟩)
    | ((with_reducible refine (hB.out _ ?_).mono ?_); (exact (by first | exact Below.refl _ _ | exact (Below.refl _ _).drew | exact (Below.refl _ _).drew.drew)); rintro e w2 ⟨rfl, rfl⟩)
    | ((with_reducible refine (hP.out _ ?_).mono ?_); (exact (by first | exact Below.refl _ _ | exact (Below.refl _ _).drew | exact (Below.refl _ _).drew.drew)); rintro e w2 ⟨hb2, rfl⟩; have HB2 := Kept.mk (show Below w.heap.size w w2 from (by first | exact hb2 | exact (Below.refl _ _).drew.trans hb2)); have k0 := belowCell HB2.out c0; clear hb2)))
 go_wp2
 go_ret
 exact ⟨HB2.out, rfl⟩
set_option maxRecDepth 20000 in
theorem fadd_any {D : FFld.FD} {b : Nat} (x y : Int) (w : World) (hf : FldB D w b) (hx0 : -9223372036854775808 <= x) (hx1 : x <= 9223372036854775807) (hy0 : -9223372036854775808 <= y) (hy1 : y <= 9223372036854775807) (r s : Nat) (hr : x % D.q = r) (hs : y % D.q = s) (hr1 : r < D.p ^ D.k) (hs1 : s < D.p ^ D.k) :
 Calls Tryz.prog 188 #[.pointer (some ⟨b, 0, none⟩), .int .i64 x, .int .i64 y] w (RB w (.int .i64 (FFld.padd D.p D.k r s : Nat))) := by
 obtain ⟨h, T, xx, fs, fp, fw, ms, ml, hb, ho, _, _⟩ := hf.open
 obtain ⟨c0, _⟩ := six_cells hb
 have hP := Kept.mk (fun W (hW : Below w.heap.size w W) => ho.sum W hW r s hr1 hs1)
 have hA := Kept.mk (fun W (hW : Below w.heap.size w W) => reduced_any x W (hf.below hW) hx0 hx1)
 have hB := Kept.mk (fun W (hW : Below w.heap.size w W) => reduced_any y W (hf.below hW) hy0 hy1)
 rw [hr] at hA
 rw [hs] at hB
 have hmp := ho.ms
 have hcp := ho.cs
 clear ho hb hf hx0 hx1 hy0 hy1 hr hs hr1 hs1
 go_enter Tryz.func188, Tryz.ntmps188
 go_wp2
 go_region_held3 (fun w' => w'.cell? ⟨b, 0, none⟩ = some (.iface T xx))
  (first | exact c0 | exact k0 | go_keep)
  ((first
    | ((with_reducible refine (hA.out _ ?_).mono ?_); (exact (by first | exact Below.refl _ _ | exact (Below.refl _ _).drew | exact (Below.refl _ _).drew.drew)); rintro e w2 ⟨rfl, rfl⟩)
    | ((with_reducible refine (hB.out _ ?_).mono ?_); (exact (by first | exact Below.refl _ _ | exact (Below.refl _ _).drew | exact (Below.refl _ _).drew.drew)); rintro e w2 ⟨rfl, rfl⟩)
    | ((with_reducible refine (hP.out _ ?_).mono ?_); (exact (by first | exact Below.refl _ _ | exact (Below.refl _ _).drew | exact (Below.refl _ _).drew.drew)); rintro e w2 ⟨hb2, rfl⟩; have HB2 := Kept.mk (show Below w.heap.size w w2 from (by first | exact hb2 | exact (Below.refl _ _).drew.trans hb2)); have k0 := belowCell HB2.out c0; clear hb2)))
 go_wp2
 go_ret
 exact ⟨HB2.out, rfl⟩
set_option maxRecDepth 20000 in
theorem fsub_any {D : FFld.FD} {b : Nat} (x y : Int) (w : World) (hf : FldB D w b) (hx0 : -9223372036854775808 <= x) (hx1 : x <= 9223372036854775807) (hy0 : -9223372036854775808 <= y) (hy1 : y <= 9223372036854775807) (r s : Nat) (hr : x % D.q = r) (hs : y % D.q = s) (hr1 : r < D.p ^ D.k) (hs1 : s < D.p ^ D.k) :
 Calls Tryz.prog 115 #[.pointer (some ⟨b, 0, none⟩), .int .i64 x, .int .i64 y] w (RB w (.int .i64 (FFld.padd D.p D.k r (FFld.pscl D.p D.k (D.p - 1) s) : Nat))) := by
 have hP := Kept.mk (difference_any r s w hf hr1 hs1)
 have hA := Kept.mk (reduced_any x w hf hx0 hx1)
 have hB := Kept.mk (reduced_any y w hf hy0 hy1)
 rw [hr] at hA
 rw [hs] at hB
 clear hf hx0 hx1 hy0 hy1 hr hs hr1 hs1
 go_enter Tryz.func115, Tryz.ntmps115
 go_wp2_with fail
 refine hA.out.mono ?_
 rintro e w2 ⟨rfl, rfl⟩
 go_wp2_with fail
 refine hB.out.mono ?_
 rintro e w2 ⟨rfl, rfl⟩
 go_wp2_with fail
 refine hP.out.mono ?_
 rintro e w2 ⟨hb2, rfl⟩
 have HB2 := Kept.mk hb2
 clear hb2
 go_wp2
 go_ret
 exact ⟨HB2.out, rfl⟩
set_option maxRecDepth 20000 in
theorem fdiv_any {D : FFld.FD} {b : Nat} (hD : D.Ok) (x y : Int) (w : World) (hf : FldB D w b) (hx0 : -9223372036854775808 <= x) (hx1 : x <= 9223372036854775807) (hy0 : -9223372036854775808 <= y) (hy1 : y <= 9223372036854775807) (r s : Nat) (hr : x % D.q = r) (hs : y % D.q = s) (hr1 : r < D.p ^ D.k) (hs1 : s < D.p ^ D.k) (h0 : s ≠ 0) :
 Calls Tryz.prog 230 #[.pointer (some ⟨b, 0, none⟩), .int .i64 x, .int .i64 y] w (RB w (.tuple #[.int .i64 (FFld.pmul D.p D.k D.m r D.k (FFld.ppow hD.pre.pk s (D.q - 2)) : Nat), .int .i64 0])) := by
 obtain ⟨h, T, xx, fs, fp, fw, ms, ml, hb, ho, _, _⟩ := hf.open
 obtain ⟨c0, _⟩ := six_cells hb
 obtain ⟨v, hv⟩ : ∃ v, FFld.ppow hD.pre.pk s (D.q - 2) = v := ⟨_, rfl⟩
 have hv1 : v < D.p ^ D.k := by rw [<- hv]; exact FFld.ppow_lt _ _ _
 have hP := Kept.mk (fun W (hW : Below w.heap.size w W) => ho.product W hW r v hr1 hv1)
 have hA := Kept.mk (fun W (hW : Below w.heap.size w W) => reduced_any x W (hf.below hW) hx0 hx1)
 have hB := Kept.mk (reduced_any y w hf hy0 hy1)
 have hI := Kept.mk (fun W (hW : Below w.heap.size w W) => inverse_any hD s W (hf.below hW) hs1 h0)
 rw [hr] at hA
 rw [hs] at hB
 rw [hv] at hI
 rw [hv]
 have hmp := ho.mp
 have hcp := ho.cp
 have es : ((s : Int) == 0) = false := by rw [beq_eq_false_iff_ne]; omega
 clear ho hb hf hx0 hx1 hy0 hy1 hr hs hr1 hs1 hv hv1
 go_enter Tryz.func230, Tryz.ntmps230
 go_wp2_with fail
 refine hB.out.mono ?_
 rintro e w2 ⟨rfl, rfl⟩
 go_wp2
 go_region_held3 (fun w' => w'.cell? ⟨b, 0, none⟩ = some (.iface T xx))
  (first | exact c0 | exact k0 | exact l0 | go_keep)
  ((first
    | ((with_reducible refine (hA.out _ ?_).mono ?_); (exact (by first | exact Below.refl _ _ | exact (Below.refl _ _).drew | exact HB2.out | exact HB2.out.drew)); rintro e w3 ⟨rfl, rfl⟩)
    | (go_at_call 152; (with_reducible refine (hI.out _ ?_).mono ?_); (exact (by first | exact Below.refl _ _ | exact (Below.refl _ _).drew)); rintro e w2 ⟨hb2, rfl⟩; have HB2 := Kept.mk (show Below w.heap.size w w2 from (by first | exact hb2 | exact (Below.refl _ _).drew.trans hb2)); have k0 := belowCell HB2.out c0; clear hb2)
    | ((with_reducible refine (hP.out _ ?_).mono ?_); (exact (by first | exact HB2.out | exact HB2.out.drew)); rintro e w4 ⟨hb4, rfl⟩; have HB4 := Kept.mk (bstep (show Below w.heap.size w _ from (by first | exact HB2.out | exact HB2.out.drew)) hb4); have l0 := belowCell HB4.out c0; clear hb4)))
 go_wp2
 go_ret2
 exact ⟨HB4.out, rfl⟩

def cjg {p k m : Nat} (h : FFld.PK p k m) (a : Nat) : Nat -> Nat
 | 0 => a
 | i + 1 => FFld.ppow h (cjg h a i) p
theorem cjg_lt {p k m : Nat} (h : FFld.PK p k m) (a : Nat) (ha : a < p ^ k) (i : Nat) : cjg h a i < p ^ k := by
 cases i with
 | zero => exact ha
 | succ i => exact FFld.ppow_lt _ _ _
def CjRet (D : FFld.FD) (h : FFld.PK D.p D.k D.m) (a : Nat) (w : World) (e : Ending) (w' : World) : Prop := Below w.heap.size w w' /\ ∃ (v : Value) (xs : List Nat), e = .returned v /\ Sl .i64 w' v (ints xs) /\ xs.length = D.k /\ ∀ j, j < D.k -> xs[j]?.getD 0 = cjg h a j
set_option maxRecDepth 20000 in
theorem conjugates_any {D : FFld.FD} {b : Nat} (hD : D.Ok) (a : Nat) (w : World) (hf : FldB D w b) (ha : a < D.p ^ D.k) :
 Calls Tryz.prog 157 #[.pointer (some ⟨b, 0, none⟩), .int .i64 a] w (CjRet D hD.pre.pk a w) := by
 obtain ⟨h, T, x, fs, fp, fw, ms, ml, hb, ho, _, _⟩ := hf.open
 obtain ⟨c0, _, c2, c3, _, _⟩ := six_cells hb
 have hbl' : b < w.heap.size := hf.lt
 have hp2 := hD.pre.prime.1
 have hpq := p_le_q hD
 have hq6 := hD.pre.small
 unfold FFld.FD.q at hq6
 have hk40 : D.k <= 40 := FFld.len_of_pow (Nat.pow_le_pow_left hp2 _) (show D.p ^ D.k <= 1099511627776 by omega)
 obtain ⟨k, hk⟩ : ∃ k, D.k = k := ⟨_, rfl⟩
 have hp7 : D.p <= 70000 := by omega
 have HP := Kept.mk (fun W (hW : Below w.heap.size w W) (c : Nat) (hc : c < D.p ^ D.k) => ho.power W hW c D.p hc (.inr (by omega)) hp7)
 have hmw := ho.mw
 have hcw := ho.cw
 have HL := Kept.mk (fun i => cjg_lt hD.pre.pk a ha i)
 rw [hk] at c3 hk40
 have HK := Kept.mk hk
 clear ho hb hf hpq hq6 ha hk
 go_enter Tryz.func157, Tryz.ntmps157
 go_wp2_with (at_make; refine wpList_make_zeros _ rfl _ _ 22 rfl 3 .i64 Tryz.underlying22 info_i64 _ _ k rfl rfl (by omega) (by omega) (by omega) ?_)
 intro w3 hrow hbel
 rw [FFld.ints_rep] at hrow
 have HQ3 := Kept.mk hrow.wv
 have HB3 := Kept.mk hbel
 clear hrow hbel
 go_wp2
 go_loopw [14, 1] (fun iv av wr => ∃ (i c : Nat) (xs : List Nat), i <= k /\ iv = .int .i64 i /\ av = .int .i64 c /\ Kept (cjg hD.pre.pk a i = c) /\ xs.length = k /\ Kept (Wv wr w.heap.size xs) /\ Kept (∀ j, j < i -> xs[j]?.getD 0 = cjg hD.pre.pk a j) /\ Kept (Below w.heap.size w wr)) (fun iv _ _ => k - (intOf iv).toNat)
 case atStart => exact ⟨0, a, List.replicate k 0, Nat.zero_le _, rfl, rfl, ⟨rfl⟩, by simp, HQ3, ⟨fun j h => by omega⟩, HB3⟩
 case round =>
  obtain ⟨i, c, xs, hik, rfl, rfl, hcj, hxs, hwv, hat, hbl⟩ := hrel
  by_cases hlt : i < k
  ·obtain ⟨v, hv⟩ : ∃ v, FFld.ppow hD.pre.pk c D.p = v := ⟨_, rfl⟩
   have hc : c < D.p ^ D.k := by rw [<- hcj.out]; exact HL.out i
   have HCN : Kept (cjg hD.pre.pk a (i + 1) = v) := ⟨by show FFld.ppow hD.pre.pk (cjg hD.pre.pk a i) D.p = v; rw [hcj.out, hv]⟩
   have hP := Kept.mk (fun W (hW : Below w.heap.size w W) => HP.out W hW c hc)
   rw [hv] at hP
   have hw5 := hwv.out.set (i := i) c
   have hb5 : Below w.heap.size w (wr.setCell ⟨w.heap.size, i, none⟩ (.int .i64 c)) := hbl.out.setCell (p := ⟨w.heap.size, i, none⟩) (Nat.le_refl _) _
   have f1 := (hb5.cell (p := ⟨b, 0, none⟩) hbl').trans c0
   have f2 := (hb5.cell (p := ⟨b, 2, none⟩) hbl').trans c2
   have fr := hwv.out.free i
   have fc := hwv.out.cell (i := i) (by omega)
   have hgl := hwv.out.lt
   have HW5 := Kept.mk hw5
   have HB5 := Kept.mk hb5
   have HXN : Kept (∀ j, j < i + 1 -> (xs.set i c)[j]?.getD 0 = cjg hD.pre.pk a j) := ⟨fun j hj => by
    by_cases e : j = i
    ·subst e
     rw [List.getElem?_set_self (by omega), Option.getD_some, hcj.out]
    ·rw [List.getElem?_set_ne (by omega)]
     exact hat.out j (by omega)⟩
   have hxl : (xs.set i c).length = k := by rw [List.length_set]; exact hxs
   clear hw5 hb5 hv hc
   go_wp2
   obtain ⟨W5, hW5⟩ : ∃ W, wr.setCell ⟨w.heap.size, i, none⟩ (.int .i64 c) = W := ⟨_, rfl⟩
   rw [hW5] at HW5 HB5 f1 f2 ⊢
   clear fr fc hW5
   go_region_held3 (fun w' => w'.cell? ⟨b, 0, none⟩ = some (.iface T x) /\ w'.cell? ⟨b, 2, none⟩ = some (.int .i64 D.p))
    (first | exact ⟨f1, f2⟩ | exact ⟨k0, k2⟩ | go_keep)
    ((first
      | ((with_reducible refine (hP.out _ ?_).mono ?_); (exact (by first | exact HB5.out | exact HB5.out.drew)); rintro e w6 ⟨hb6, rfl⟩; have HB6 := Kept.mk (bstep (show Below w.heap.size w _ from (by first | exact HB5.out | exact HB5.out.drew)) hb6); have HR6 := Kept.mk (show Below W5.heap.size W5 w6 from (by first | exact hb6 | exact (Below.refl _ _).drew.trans hb6)); have k0 := belowCell HB6.out c0; have k2 := belowCell HB6.out c2; clear hb6)))
   go_wp2
   go_roundw
   case rel => exact ⟨i + 1, v, xs.set i c, by omega, by go_num, rfl, HCN, hxl, ⟨HW5.out.below HR6.out⟩, HXN, HB6⟩
   case measure => simp [intOf] <;> omega
  ·obtain rfl : i = k := by omega
   have HS := Kept.mk (hwv.out.sl (n := i) (c := i) hxs.symm (Nat.le_refl _) (by unfold maxLen; omega))
   go_wp2
   go_ret
   exact ⟨hbl.out, _, xs, rfl, HS.out, by rw [HK.out]; exact hxs, fun j hj => hat.out j (by rw [HK.out] at hj; exact hj)⟩
def cjf {p k m : Nat} (h : FFld.PK p k m) (a : Nat) (f : Nat -> Nat -> Nat) (z : Nat) : Nat -> Nat
 | 0 => z
 | i + 1 => f (cjf h a f z i) (cjg h a i)
set_option maxRecDepth 20000 in
theorem trace_any {D : FFld.FD} {b : Nat} (hD : D.Ok) (y : Int) (w : World) (hf : FldB D w b) (hx0 : -9223372036854775808 <= y) (hx1 : y <= 9223372036854775807) (r : Nat) (hr : y % D.q = r) (hr1 : r < D.p ^ D.k) :
 Calls Tryz.prog 81 #[.pointer (some ⟨b, 0, none⟩), .int .i64 y] w (RB w (.int .i64 (cjf hD.pre.pk r (fun t c => FFld.padd D.p D.k t c) 0 D.k : Nat))) := by
 obtain ⟨h, T, x, fs, fp, fw, ms, ml, hb, ho, _, _⟩ := hf.open
 obtain ⟨c0, _⟩ := six_cells hb
 have hbl' : b < w.heap.size := hf.lt
 have hA := Kept.mk (reduced_any y w hf hx0 hx1)
 rw [hr] at hA
 have hC := Kept.mk (conjugates_any hD r w hf hr1)
 have HP := Kept.mk ho.sum
 have hms := ho.ms
 have hcs := ho.cs
 have hk40 : D.k <= 40 := FFld.len_of_pow (Nat.pow_le_pow_left hD.pre.prime.1 _) (show D.p ^ D.k <= 1099511627776 by have := hD.pre.small; unfold FFld.FD.q at this; omega)
 obtain ⟨k, hk⟩ : ∃ k, D.k = k := ⟨_, rfl⟩
 have HZ : Kept (∀ i, cjf hD.pre.pk r (fun t c => FFld.padd D.p D.k t c) 0 i < D.p ^ D.k) := ⟨fun i => by
  cases i with
  | zero => exact Nat.pow_pos hD.pre.pk.p0
  | succ i => exact FFld.padd_lt hD.pre.pk _ _⟩
 have HL := Kept.mk (fun i => cjg_lt hD.pre.pk r hr1 i)
 rw [hk] at hk40
 have HK := Kept.mk hk
 clear ho hb hf hx0 hx1 hr hr1 hk
 go_enter Tryz.func81, Tryz.ntmps81
 go_wp2_with fail
 refine hA.out.mono ?_
 rintro e w1 ⟨rfl, rfl⟩
 go_wp2_with fail
 refine hC.out.mono ?_
 rintro e w1 ⟨hb1, v, xs, rfl, hsl, hxl, hxs⟩
 obtain ⟨a1, c1, rfl, hc1, hm1⟩ := hsl.form
 replace hxl := hxl.trans HK.out
 replace hxs : ∀ j, j < k -> xs[j]?.getD 0 = cjg hD.pre.pk r j := fun j hj => hxs j (by rw [HK.out]; exact hj)
 rw [FFld.ints_len, hxl] at hc1 hsl ⊢
 have HC1 := Kept.mk (hsl.cells (Nat.le_refl _))
 have HX := Kept.mk hxs
 have HB1 := Kept.mk hb1
 have hs1 := hb1.size
 clear hsl hb1 hxs hA hC
 go_wp2
 go_loopw [16, 5] (fun iv tv wr => ∃ (i t : Nat), i <= k /\ iv = .int .i64 i /\ tv = .int .i64 t /\ Kept (cjf hD.pre.pk r (fun t c => FFld.padd D.p D.k t c) 0 i = t) /\ Kept (Below w1.heap.size w1 wr)) (fun iv _ _ => k - (intOf iv).toNat)
 case atStart => exact ⟨0, 0, Nat.zero_le _, rfl, rfl, ⟨rfl⟩, ⟨Below.refl _ _⟩⟩
 case round =>
  obtain ⟨i, t, hik, rfl, rfl, ht, hbx⟩ := hrel
  by_cases hlt : i < k
  ·obtain ⟨bb, o, rfl, hcell⟩ := HC1.out _ hbx.out i (by omega)
   obtain ⟨c, hc⟩ : ∃ c, cjg hD.pre.pk r i = c := ⟨_, rfl⟩
   have hxc := HX.out i hlt
   rw [hxc, hc] at hcell
   have hcl : c < D.p ^ D.k := by rw [<- hc]; exact HL.out i
   have htl : t < D.p ^ D.k := by rw [<- ht.out]; exact HZ.out i
   have hbw : Below w.heap.size w wr := HB1.out.trans (hbx.out.mono HB1.out.size)
   have f0 := (hbw.cell (p := ⟨b, 0, none⟩) hbl').trans c0
   have hP := Kept.mk (HP.out wr hbw t c htl hcl)
   have HN : Kept (cjf hD.pre.pk r (fun t c => FFld.padd D.p D.k t c) 0 (i + 1) = (fun t c => FFld.padd D.p D.k t c) t c) := ⟨by show (fun t c => FFld.padd D.p D.k t c) (cjf hD.pre.pk r (fun t c => FFld.padd D.p D.k t c) 0 i) (cjg hD.pre.pk r i) = _; rw [ht.out, hc]⟩
   clear hxc hc hcl htl hbw
   go_wp2_with fail
   refine hP.out.mono ?_
   rintro e w3 ⟨hb3, rfl⟩
   have HX3 := Kept.mk (hbx.out.trans (hb3.mono hbx.out.size))
   clear hb3
   go_wp2
   go_roundw
   case rel => exact ⟨i + 1, _, by omega, by go_num, rfl, HN, HX3⟩
   case measure => simp [intOf] <;> omega
  ·obtain rfl : i = k := by omega
   go_wp2
   go_ret
   exact ⟨HB1.out.trans (hbx.out.mono HB1.out.size), congrArg (fun n : Nat => Ending.returned (.int .i64 (n : Int))) (ht.out.symm.trans (congrArg _ HK.out.symm))⟩
end Go.Proofs.YtdnheaafcbihbaaGreat
namespace Go.Proofs.YtdnheaafcbihbaaGreat
open Go Go.RowKit Go.Deep
open FFld (ints)
namespace FFld
theorem prime_of {n : Nat} (h : isP n = true) : Prime n := isP_prime h
theorem fit_pow {p k : Nat} (hp : Prime p) (hk : 1 <= k) (hq : p ^ k <= 65536) : Fit ((p ^ k : Nat) : Int) := by
 obtain ⟨m, g, h⟩ := FD.exists p k hp hk hq
 exact ⟨⟨p, k, m, g⟩, h, rfl⟩
end FFld
end Go.Proofs.YtdnheaafcbihbaaGreat
namespace Go.Proofs.YtdnheaafcbihbaaGreat
open Go Go.RowKit Go.Deep
open FFld (ints)
abbrev awL (w : World) : World := (((w.alloc (.cells #[.int .i64 1, .int .i64 2] 3)).alloc (.cells #[.int .i64 2, .int .i64 4] 3)).alloc (.cells #[.slice (some ⟨w.heap.size, 0, none⟩) 2 2, .slice (some ⟨w.heap.size + 1, 0, none⟩) 2 2] 22)).alloc (.cells #[.int .i64 1, .int .i64 3] 3)
end Go.Proofs.YtdnheaafcbihbaaGreat
