/-
  Texts of the proof, merged by program: Ttp Neu Ren Lck Rwd Msg Lh3 Law Lpl Tpc Tpd.
-/
import Derived.Test.YtdnheaafcbihbaaGreatTq22
set_option linter.unusedSimpArgs false
set_option linter.unusedVariables false
set_option maxHeartbeats 16000000
namespace Go.Proofs.YtdnheaafcbihbaaGreat
open Go Go.RowKit Go.Deep
open FFld (ints)
namespace FFld
section
variable {α : Type} (F : Dom α)
theorem sm_rev : ∀ (n : Nat) (f : Nat -> α), F.sm f n = F.sm (fun i => f (n - 1 - i)) n
 | 0, f => rfl
 | n + 1, f => by
   rw [F.sm_shift f n, sm_rev n]
   show F.add (f 0) (F.sm (fun i => f (n - 1 - i + 1)) n) = F.add (F.sm (fun i => f (n + 1 - 1 - i)) n) (f (n + 1 - 1 - n))
   rw [show n + 1 - 1 - n = 0 by omega, F.add_comm (f 0)]
   congr 1
   exact F.sm_congr n fun i hi => by rw [show n - 1 - i + 1 = n + 1 - 1 - i by omega]
end
section
variable {D : FD} (hD : D.Ok)
def trS (y : El (D.p ^ D.k)) : El (D.p ^ D.k) := (FD.dom hD.nzd).sm (fun i => (FD.dom hD.nzd).pow y (D.p ^ i)) D.k
def trN (y : Nat) : Nat := cjf hD.pre.pk y (fun t c => padd D.p D.k t c) 0 D.k
theorem pow_pi (x y : El (D.p ^ D.k)) : ∀ i, (FD.dom hD.nzd).pow ((FD.dom hD.nzd).add x y) (D.p ^ i) = (FD.dom hD.nzd).add ((FD.dom hD.nzd).pow x (D.p ^ i)) ((FD.dom hD.nzd).pow y (D.p ^ i))
 | 0 => by rw [Nat.pow_zero, Dom.pow_one, Dom.pow_one, Dom.pow_one]
 | i + 1 => by rw [Nat.pow_succ, Dom.pow_mul, Dom.pow_mul, Dom.pow_mul, pow_pi x y i, (dom_chr hD).frob]
theorem pow_fix {b : El (D.p ^ D.k)} (hb : (FD.dom hD.nzd).pow b D.p = b) : ∀ i, (FD.dom hD.nzd).pow b (D.p ^ i) = b
 | 0 => by rw [Nat.pow_zero, Dom.pow_one]
 | i + 1 => by rw [Nat.pow_succ, Dom.pow_mul, pow_fix hb i, hb]
theorem trS_add (x y : El (D.p ^ D.k)) : trS hD ((FD.dom hD.nzd).add x y) = (FD.dom hD.nzd).add (trS hD x) (trS hD y) := by
 unfold trS
 rw [<- (FD.dom hD.nzd).sm_add]
 exact (FD.dom hD.nzd).sm_congr _ fun i _ => pow_pi hD x y i
theorem trS_mul {b : El (D.p ^ D.k)} (hb : (FD.dom hD.nzd).pow b D.p = b) (y : El (D.p ^ D.k)) : trS hD ((FD.dom hD.nzd).mul b y) = (FD.dom hD.nzd).mul b (trS hD y) := by
 unfold trS
 rw [<- (FD.dom hD.nzd).sm_mul]
 exact (FD.dom hD.nzd).sm_congr _ fun i _ => by rw [Dom.mul_pow, pow_fix hD hb]
theorem trN_E {y : Nat} (hy : y < D.p ^ D.k) : toE hD.pre.pk (trN hD y) = trS hD (toE hD.pre.pk y) := by
 unfold trN trS
 rw [trace_sm hD hy]
 exact (FD.dom hD.nzd).sm_congr _ fun i _ => cj_pow hD hy i
theorem trN_lt {y : Nat} (hy : y < D.p ^ D.k) : trN hD y < D.p := trace_small hD hy
def yS (D : FD) (a c : Nat) : Nat -> Nat
 | 0 => c
 | i + 1 => pmul D.p D.k D.m (yS D a c i) D.k a
theorem yS_lt {a c : Nat} (hk : PK D.p D.k D.m) (hc : c < D.p ^ D.k) : ∀ i, yS D a c i < D.p ^ D.k
 | 0 => hc
 | i + 1 => pmul_lt hk _ _ _
theorem yS_E {a c : Nat} (ha : a < D.p ^ D.k) (hc : c < D.p ^ D.k) : ∀ i, toE hD.pre.pk (yS D a c i) = (FD.dom hD.nzd).mul (toE hD.pre.pk c) ((FD.dom hD.nzd).pow (toE hD.pre.pk a) i)
 | 0 => by rw [Dom.pow_zero, Dom.mul_one]; rfl
 | i + 1 => by
   show toE hD.pre.pk (pmul D.p D.k D.m (yS D a c i) D.k a) = _
   rw [toE_mul hD (yS_lt hD.pre.pk hc i) ha, yS_E ha hc i, Dom.pow_succ, Dom.mul_assoc]
def sS (a c N : Nat) : List Nat := (List.range N).map fun i => trN hD (yS D a c i)
theorem sS_len (a c N : Nat) : (sS hD a c N).length = N := by simp [sS]
theorem sS_get (a c : Nat) {N i : Nat} (hi : i < N) : (sS hD a c N)[i]?.getD 0 = trN hD (yS D a c i) := by
 unfold sS
 rw [List.getElem?_map, List.getElem?_range hi]
 rfl
theorem sS_next (a c N : Nat) : sS hD a c (N + 1) = sS hD a c N ++ [trN hD (yS D a c N)] := by
 unfold sS
 rw [List.range_succ, List.map_append]
 rfl
theorem sS_lt {a c : Nat} (hc : c < D.p ^ D.k) (N : Nat) : ∀ s ∈ sS hD a c N, s < D.p := fun s hs => by
 obtain ⟨i, _, rfl⟩ := List.mem_map.1 hs
 exact trN_lt hD (yS_lt hD.pre.pk hc i)
def tT (c : Nat) (z : El (D.p ^ D.k)) : El (D.p ^ D.k) := trS hD ((FD.dom hD.nzd).mul (toE hD.pre.pk c) z)
theorem tT_add (c : Nat) (x y : El (D.p ^ D.k)) : tT hD c ((FD.dom hD.nzd).add x y) = (FD.dom hD.nzd).add (tT hD c x) (tT hD c y) := by
 unfold tT
 rw [(FD.dom hD.nzd).mul_add, trS_add]
theorem tT_mul (c : Nat) {b : El (D.p ^ D.k)} (hb : (FD.dom hD.nzd).pow b D.p = b) (y : El (D.p ^ D.k)) : tT hD c ((FD.dom hD.nzd).mul b y) = (FD.dom hD.nzd).mul b (tT hD c y) := by
 unfold tT
 rw [<- trS_mul hD hb, <- (FD.dom hD.nzd).mul_assoc, <- (FD.dom hD.nzd).mul_assoc, (FD.dom hD.nzd).mul_comm b]
theorem tT_zero (c : Nat) : tT hD c (FD.dom hD.nzd).zero = (FD.dom hD.nzd).zero := by
 have h := tT_add hD c (FD.dom hD.nzd).zero (FD.dom hD.nzd).zero
 rw [(FD.dom hD.nzd).add_zero] at h
 exact ((FD.dom hD.nzd).add_left_cancel (((FD.dom hD.nzd).add_zero _).trans h)).symm
theorem tT_sm (c : Nat) (f : Nat -> El (D.p ^ D.k)) : ∀ n, tT hD c ((FD.dom hD.nzd).sm f n) = (FD.dom hD.nzd).sm (fun i => tT hD c (f i)) n
 | 0 => tT_zero hD c
 | n + 1 => by
   show tT hD c ((FD.dom hD.nzd).add ((FD.dom hD.nzd).sm f n) (f n)) = (FD.dom hD.nzd).add ((FD.dom hD.nzd).sm (fun i => tT hD c (f i)) n) (tT hD c (f n))
   rw [tT_add, tT_sm c f n]
theorem sS_E {a c : Nat} (ha : a < D.p ^ D.k) (hc : c < D.p ^ D.k) {N i : Nat} (hi : i < N) : toE hD.pre.pk ((sS hD a c N)[i]?.getD 0) = tT hD c ((FD.dom hD.nzd).pow (toE hD.pre.pk a) i) := by
 rw [sS_get hD a c hi, trN_E hD (yS_lt hD.pre.pk hc i), yS_E hD ha hc]
 rfl
theorem fix_small {b : Nat} (hb : b < D.p) : (FD.dom hD.nzd).pow (toE hD.pre.pk b) D.p = toE hD.pre.pk b := small_frb hD hb
theorem small_get {D : FD} (hD : D.Ok) {l : List Nat} (h : ∀ a ∈ l, a < D.p) (i : Nat) : l[i]?.getD 0 < D.p := getD_lt (by have := hD.pre.pk.p2; omega) h i
theorem small_all {D : FD} (hD : D.Ok) {l : List Nat} (h : ∀ a ∈ l, a < D.p) : ∀ a ∈ l, a < D.p ^ D.k := fun a ha => small_lt hD.pre.pk (h a ha)
def rgV (ts : List Nat) (x : El (D.p ^ D.k)) : El (D.p ^ D.k) := (FD.dom hD.nzd).add ((FD.dom hD.nzd).pow x ts.length) ((FD.dom hD.nzd).sm (fun i => (FD.dom hD.nzd).mul (toE hD.pre.pk (ts[i]?.getD 0)) ((FD.dom hD.nzd).pow x (ts.length - 1 - i))) ts.length)
theorem rg_dif {a c : Nat} (ha : a < D.p ^ D.k) (hc : c < D.p ^ D.k) {ts : List Nat} (ht : ∀ a ∈ ts, a < D.p) {N i : Nat} (hi : i < N) (hl : ts.length <= i) :
 toE hD.pre.pk (difF D (1 :: ts) (sS hD a c N) i (ts.length + 1)) = tT hD c ((FD.dom hD.nzd).mul ((FD.dom hD.nzd).pow (toE hD.pre.pk a) (i - ts.length)) (rgV hD ts (toE hD.pre.pk a))) := by
 rw [dif_sum hD (small_all hD (sS_lt hD hc N)) (small_all hD ht) i ts.length hl, sS_E hD ha hc hi]
 unfold rgV
 rw [(FD.dom hD.nzd).mul_add, <- Dom.pow_add, show i - ts.length + ts.length = i by omega, tT_add, <- (FD.dom hD.nzd).sm_mul, tT_sm]
 congr 1
 refine (FD.dom hD.nzd).sm_congr _ fun j hj => ?_
 rw [sS_E hD ha hc (by omega)]
 have hb := fix_small hD (small_get hD ht j)
 generalize toE hD.pre.pk (ts[j]?.getD 0) = b at hb
 rw [(FD.dom hD.nzd).mul_comm _ b, <- tT_mul hD c hb]
 congr 1
 rw [show i - 1 - j = (i - ts.length) + (ts.length - 1 - j) by omega, Dom.pow_add]
 generalize (FD.dom hD.nzd).pow (toE hD.pre.pk a) (i - ts.length) = u
 generalize (FD.dom hD.nzd).pow (toE hD.pre.pk a) (ts.length - 1 - j) = v
 rw [<- (FD.dom hD.nzd).mul_assoc, <- (FD.dom hD.nzd).mul_assoc, (FD.dom hD.nzd).mul_comm b]
def tapL (a t : Nat) : List Nat := (List.range t).map fun i => (minF D hD.pre.pk a t)[t - 1 - i]?.getD 0
theorem tapL_len (a t : Nat) : (tapL hD a t).length = t := by simp [tapL]
theorem tapL_get (a : Nat) {t i : Nat} (hi : i < t) : (tapL hD a t)[i]?.getD 0 = (minF D hD.pre.pk a t)[t - 1 - i]?.getD 0 := by
 unfold tapL
 rw [List.getElem?_map, List.getElem?_range hi]
 rfl
theorem tapL_lt {a t : Nat} (ha : a < D.p ^ D.k) (ht : MinT hD.pre.pk a t) : ∀ x ∈ tapL hD a t, x < D.p := fun x hx => by
 obtain ⟨i, _, rfl⟩ := List.mem_map.1 hx
 exact small_get hD (minF_small hD ha ht) _
theorem minF_len {a : Nat} : ∀ t, (minF D hD.pre.pk a t).length = t + 1
 | 0 => rfl
 | t + 1 => by
   show (mulL D (minF D hD.pre.pk a t) [_, 1]).length = _
   rw [mulL_len2 _ _ _ _ (by rw [minF_len t]; omega), minF_len t]
theorem rg_tap {a t : Nat} (ha : a < D.p ^ D.k) (ht : MinT hD.pre.pk a t) (x : El (D.p ^ D.k)) : rgV hD (tapL hD a t) x = evE hD (minF D hD.pre.pk a t) x := by
 unfold rgV
 rw [tapL_len, evE_len, minF_len hD t]
 show _ = (FD.dom hD.nzd).add ((FD.dom hD.nzd).sm (fun i => (FD.dom hD.nzd).mul (cfE hD (minF D hD.pre.pk a t) i) ((FD.dom hD.nzd).pow x i)) t) ((FD.dom hD.nzd).mul (cfE hD (minF D hD.pre.pk a t) t) ((FD.dom hD.nzd).pow x t))
 have e : cfE hD (minF D hD.pre.pk a t) t = (FD.dom hD.nzd).one := by
  unfold cfE
  rw [minF_top hD ha, toE_one hD]
 rw [e, Dom.one_mul, (FD.dom hD.nzd).add_comm, sm_rev (FD.dom hD.nzd) t (fun i => (FD.dom hD.nzd).mul (cfE hD (minF D hD.pre.pk a t) i) ((FD.dom hD.nzd).pow x i))]
 congr 1
 exact (FD.dom hD.nzd).sm_congr _ fun i hi => by rw [tapL_get hD a hi]; rfl
theorem min_zero {a t : Nat} (ha : a < D.p ^ D.k) (ht : MinT hD.pre.pk a t) (i : Nat) : evE hD (minF D hD.pre.pk a t) (cj hD a i) = (FD.dom hD.nzd).zero := by
 unfold cj
 rw [<- horn_ev hD (minF_lt hD.pre.pk a t) (cjg_lt _ a ha i), min_root hD ha ht i, toE_zero hD]
theorem tap_makes {a c t : Nat} (ha : a < D.p ^ D.k) (hc : c < D.p ^ D.k) (ht : MinT hD.pre.pk a t) (N : Nat) : mkP D (tapL hD a t) (sS hD a c N) N = true := by
 unfold mkP
 rw [List.all_eq_true]
 intro i hi
 have hi' := List.mem_range.1 hi
 refine decide_eq_true ?_
 by_cases hl : i < (tapL hD a t).length
 ·exact .inl hl
 ·right
  refine (toE_null hD (difF_lt hD.pre.pk _ _ _ _)).1 ?_
  have h0 := min_zero hD ha ht 0
  rw [rg_dif hD ha hc (tapL_lt hD ha ht) hi' (by omega), rg_tap hD ha ht]
  have e : cj hD a 0 = toE hD.pre.pk a := rfl
  rw [e] at h0
  rw [h0, Dom.mul_zero, tT_zero]
theorem rgV_frb {ts : List Nat} (hs : ∀ a ∈ ts, a < D.p) (x : El (D.p ^ D.k)) : (FD.dom hD.nzd).pow (rgV hD ts x) D.p = rgV hD ts ((FD.dom hD.nzd).pow x D.p) := by
 have hsm : ∀ n, (FD.dom hD.nzd).pow ((FD.dom hD.nzd).sm (fun i => (FD.dom hD.nzd).mul (toE hD.pre.pk (ts[i]?.getD 0)) ((FD.dom hD.nzd).pow x (ts.length - 1 - i))) n) D.p = (FD.dom hD.nzd).sm (fun i => (FD.dom hD.nzd).mul (toE hD.pre.pk (ts[i]?.getD 0)) ((FD.dom hD.nzd).pow ((FD.dom hD.nzd).pow x D.p) (ts.length - 1 - i))) n := fun n => by
  induction n with
  | zero => exact Dom.zero_pow _ hD.pre.pk.p0
  | succ n ih =>
    show (FD.dom hD.nzd).pow ((FD.dom hD.nzd).add _ _) D.p = (FD.dom hD.nzd).add _ _
    rw [(dom_chr hD).frob, ih, Dom.mul_pow, fix_small hD (small_get hD hs n), <- Dom.pow_mul]
    show _ = (FD.dom hD.nzd).add _ ((FD.dom hD.nzd).mul (toE hD.pre.pk (ts[n]?.getD 0)) ((FD.dom hD.nzd).pow ((FD.dom hD.nzd).pow x D.p) (ts.length - 1 - n)))
    rw [<- Dom.pow_mul, Nat.mul_comm]
 unfold rgV
 rw [(dom_chr hD).frob, hsm, <- Dom.pow_mul, <- Dom.pow_mul, Nat.mul_comm]
theorem rg_zero {a c t N : Nat} (ha : a < D.p ^ D.k) (hc : c < D.p ^ D.k) (ht : MinT hD.pre.pk a t) {ts : List Nat} (hs : ∀ a ∈ ts, a < D.p) (hm : mkP D ts (sS hD a c N) N = true) (hN : ts.length + t <= N) (hne : ∃ i, i < N /\ (sS hD a c N)[i]?.getD 0 ≠ 0) : rgV hD ts (toE hD.pre.pk a) = (FD.dom hD.nzd).zero := by
 apply Classical.byContradiction
 intro hg
 have hk := hD.pre.pk
 have ht1 := ht.1
 -- the first ones are 0
 have h1 : ∀ j, j + ts.length < N -> tT hD c ((FD.dom hD.nzd).mul ((FD.dom hD.nzd).pow (toE hD.pre.pk a) j) (rgV hD ts (toE hD.pre.pk a))) = (FD.dom hD.nzd).zero := fun j hj => by
  unfold mkP at hm
  rw [List.all_eq_true] at hm
  rcases of_decide_eq_true (hm (j + ts.length) (List.mem_range.2 hj)) with h | h
  ·omega
  ·have h2 := rg_dif hD ha hc hs hj (by omega)
   rw [h, toE_zero hD, show j + ts.length - ts.length = j by omega] at h2
   exact h2.symm
 have hroot : (FD.dom hD.nzd).add ((FD.dom hD.nzd).pow (toE hD.pre.pk a) t) ((FD.dom hD.nzd).sm (fun i => (FD.dom hD.nzd).mul (toE hD.pre.pk ((tapL hD a t)[i]?.getD 0)) ((FD.dom hD.nzd).pow (toE hD.pre.pk a) (t - 1 - i))) t) = (FD.dom hD.nzd).zero := by
  have h := rg_tap hD ha ht (toE hD.pre.pk a)
  have h0 := min_zero hD ha ht 0
  have e : cj hD a 0 = toE hD.pre.pk a := rfl
  rw [e] at h0
  rw [h0] at h
  unfold rgV at h
  rw [tapL_len] at h
  exact h
 obtain ⟨X, hX⟩ : ∃ X, toE hD.pre.pk a = X := ⟨_, rfl⟩
 obtain ⟨G, hG⟩ : ∃ G, rgV hD ts X = G := ⟨_, rfl⟩
 rw [hX] at hroot h1 hg
 rw [hG] at h1 hg
 -- so all are
 have h2 : ∀ j, tT hD c ((FD.dom hD.nzd).mul ((FD.dom hD.nzd).pow X j) G) = (FD.dom hD.nzd).zero := fun j => by
  induction j using Nat.strongRecOn with
  | ind j ih =>
    rcases Nat.lt_or_ge j t with hj | hj
    ·exact h1 j (by omega)
    ·have e1 := congrArg (fun z => tT hD c ((FD.dom hD.nzd).mul ((FD.dom hD.nzd).mul ((FD.dom hD.nzd).pow X (j - t)) G) z)) hroot
     (try simp only at e1)
     rw [Dom.mul_zero, tT_zero, (FD.dom hD.nzd).mul_add, tT_add, <- (FD.dom hD.nzd).sm_mul, tT_sm] at e1
     have e2 : (FD.dom hD.nzd).sm (fun i => tT hD c ((FD.dom hD.nzd).mul ((FD.dom hD.nzd).mul ((FD.dom hD.nzd).pow X (j - t)) G) ((FD.dom hD.nzd).mul (toE hD.pre.pk ((tapL hD a t)[i]?.getD 0)) ((FD.dom hD.nzd).pow X (t - 1 - i))))) t = (FD.dom hD.nzd).zero := (FD.dom hD.nzd).sm_zero t fun i hi => by
      have hb := fix_small hD (small_get hD (tapL_lt hD ha ht) i)
      have h5 := ih (j - t + (t - 1 - i)) (by omega)
      rw [Dom.pow_add] at h5
      generalize toE hD.pre.pk ((tapL hD a t)[i]?.getD 0) = b at hb
      generalize (FD.dom hD.nzd).pow X (j - t) = u at h5
      generalize (FD.dom hD.nzd).pow X (t - 1 - i) = v at h5
      have e3 : (FD.dom hD.nzd).mul ((FD.dom hD.nzd).mul u G) ((FD.dom hD.nzd).mul b v) = (FD.dom hD.nzd).mul b ((FD.dom hD.nzd).mul ((FD.dom hD.nzd).mul u v) G) := by
       rw [<- (FD.dom hD.nzd).mul_assoc, (FD.dom hD.nzd).mul_comm _ b, (FD.dom hD.nzd).mul_assoc b, (FD.dom hD.nzd).mul_assoc u G v, (FD.dom hD.nzd).mul_comm G v, <- (FD.dom hD.nzd).mul_assoc u v G]
      rw [e3, tT_mul hD c hb, h5, Dom.mul_zero]
     rw [e2, (FD.dom hD.nzd).add_zero, (FD.dom hD.nzd).mul_assoc, (FD.dom hD.nzd).mul_comm G, <- (FD.dom hD.nzd).mul_assoc, <- Dom.pow_add, show j - t + t = j by omega] at e1
     exact e1
 have hGe : G = (FD.dom hD.nzd).add ((FD.dom hD.nzd).pow X ts.length) ((FD.dom hD.nzd).sm (fun i => (FD.dom hD.nzd).mul (toE hD.pre.pk (ts[i]?.getD 0)) ((FD.dom hD.nzd).pow X (ts.length - 1 - i))) ts.length) := hG.symm
 have h3 : ∀ e j, tT hD c ((FD.dom hD.nzd).mul ((FD.dom hD.nzd).pow X j) ((FD.dom hD.nzd).pow G (e + 1))) = (FD.dom hD.nzd).zero := fun e => by
  induction e with
  | zero => intro j; rw [Nat.zero_add, Dom.pow_one]; exact h2 j
  | succ e ih =>
    intro j
    rw [Dom.pow_succ]
    obtain ⟨P, hP⟩ : ∃ P, (FD.dom hD.nzd).pow G (e + 1) = P := ⟨_, rfl⟩
    rw [hP] at ih
    rw [hP, hGe, <- (FD.dom hD.nzd).mul_assoc, (FD.dom hD.nzd).mul_add, tT_add, <- (FD.dom hD.nzd).sm_mul, tT_sm]
    have e1 : (FD.dom hD.nzd).sm (fun i => tT hD c ((FD.dom hD.nzd).mul ((FD.dom hD.nzd).mul ((FD.dom hD.nzd).pow X j) P) ((FD.dom hD.nzd).mul (toE hD.pre.pk (ts[i]?.getD 0)) ((FD.dom hD.nzd).pow X (ts.length - 1 - i))))) ts.length = (FD.dom hD.nzd).zero := (FD.dom hD.nzd).sm_zero _ fun i hi => by
     have hb := fix_small hD (small_get hD hs i)
     have h5 := ih (j + (ts.length - 1 - i))
     rw [Dom.pow_add] at h5
     generalize toE hD.pre.pk (ts[i]?.getD 0) = b at hb
     generalize (FD.dom hD.nzd).pow X j = u at h5
     generalize (FD.dom hD.nzd).pow X (ts.length - 1 - i) = v at h5
     have e3 : (FD.dom hD.nzd).mul ((FD.dom hD.nzd).mul u P) ((FD.dom hD.nzd).mul b v) = (FD.dom hD.nzd).mul b ((FD.dom hD.nzd).mul ((FD.dom hD.nzd).mul u v) P) := by
      rw [<- (FD.dom hD.nzd).mul_assoc, (FD.dom hD.nzd).mul_comm _ b, (FD.dom hD.nzd).mul_assoc b, (FD.dom hD.nzd).mul_assoc u P v, (FD.dom hD.nzd).mul_comm P v, <- (FD.dom hD.nzd).mul_assoc u v P]
     rw [e3, tT_mul hD c hb, h5, Dom.mul_zero]
    rw [e1, (FD.dom hD.nzd).add_zero, (FD.dom hD.nzd).mul_assoc, (FD.dom hD.nzd).mul_comm P, <- (FD.dom hD.nzd).mul_assoc, <- Dom.pow_add]
    exact ih _
 -- but a power of it is 1
 have hG0 : G.1 ≠ 0 := fun e => hg (by
  have h5 := toE_self hD G
  rw [e, toE_zero hD] at h5
  exact h5.symm)
 have h6 := congrArg (toE hD.pre.pk) (hD.fermat G.2 hG0)
 rw [toE_pow hD G.2, toE_self hD G, toE_one hD] at h6
 have hq2 := hk.one_lt
 obtain ⟨i, hi, hsi⟩ := hne
 apply hsi
 have h7 := h3 (D.p ^ D.k - 2) i
 rw [show D.p ^ D.k - 2 + 1 = D.p ^ D.k - 1 by omega, h6, (FD.dom hD.nzd).mul_one] at h7
 have h8 := sS_E hD ha hc hi
 rw [hX, h7] at h8
 exact (toE_null hD (small_lt hk (small_get hD (sS_lt hD hc N) i))).1 h8
theorem rg_uniq {a t : Nat} (ha : a < D.p ^ D.k) (ht : MinT hD.pre.pk a t) {ts : List Nat} (hs : ∀ a ∈ ts, a < D.p) (hl : ts.length <= t) (hz : rgV hD ts (toE hD.pre.pk a) = (FD.dom hD.nzd).zero) : ts = tapL hD a t := by
 have hk := hD.pre.pk
 have hroots : ∀ i, rgV hD ts (cj hD a i) = (FD.dom hD.nzd).zero := fun i => by
  induction i with
  | zero => exact hz
  | succ i ih =>
    have h := rgV_frb hD hs (cj hD a i)
    rw [ih, Dom.zero_pow _ hk.p0] at h
    have e : (FD.dom hD.nzd).pow (cj hD a i) D.p = cj hD a (i + 1) := cj_next hD ha i
    rw [e] at h
    exact h.symm
 have hnd : ((List.range t).map (cj hD a)).Nodup := by
  refine List.pairwise_iff_getElem.2 fun i j hi hj hij e => ?_
  simp only [List.length_map, List.length_range] at hi hj
  simp only [List.getElem_map, List.getElem_range] at e
  exact cjg_ne hD ha ht hij hj (toE_inj hk (cjg_lt _ a ha i) (cjg_lt _ a ha j) e)
 -- the sum, by the powers
 have hval : ∀ x, rgV hD ts x = (FD.dom hD.nzd).add ((FD.dom hD.nzd).pow x ts.length) ((FD.dom hD.nzd).sm (fun i => (FD.dom hD.nzd).mul (toE hD.pre.pk (ts[ts.length - 1 - i]?.getD 0)) ((FD.dom hD.nzd).pow x i)) ts.length) := fun x => by
  unfold rgV
  rw [sm_rev (FD.dom hD.nzd) ts.length (fun i => (FD.dom hD.nzd).mul (toE hD.pre.pk (ts[i]?.getD 0)) ((FD.dom hD.nzd).pow x (ts.length - 1 - i)))]
  congr 1
  exact (FD.dom hD.nzd).sm_congr _ fun i hi => by rw [show ts.length - 1 - (ts.length - 1 - i) = i by omega]
 rcases Nat.lt_or_ge ts.length t with h | h
 ·exfalso
  have h1 := Dom.roots_zero (FD.dom hD.nzd) _ hnd ((List.range (ts.length + 1)).map fun i => if i < ts.length then toE hD.pre.pk (ts[ts.length - 1 - i]?.getD 0) else (FD.dom hD.nzd).one) (by simp; omega) (fun r hr => by
   obtain ⟨i, _, rfl⟩ := List.mem_map.1 hr
   rw [Dom.eval_range]
   have h2 := hroots i
   rw [hval] at h2
   show (FD.dom hD.nzd).add ((FD.dom hD.nzd).sm _ ts.length) ((FD.dom hD.nzd).mul (if ts.length < ts.length then toE hD.pre.pk (ts[ts.length - 1 - ts.length]?.getD 0) else (FD.dom hD.nzd).one) ((FD.dom hD.nzd).pow (cj hD a i) ts.length)) = _
   rw [if_neg (Nat.lt_irrefl _), Dom.one_mul, (FD.dom hD.nzd).add_comm, (FD.dom hD.nzd).sm_congr ts.length (g := fun j => (FD.dom hD.nzd).mul (toE hD.pre.pk (ts[ts.length - 1 - j]?.getD 0)) ((FD.dom hD.nzd).pow (cj hD a i) j)) fun j hj => by rw [if_pos hj]]
   exact h2) (FD.dom hD.nzd).one (by
    refine List.mem_map.2 ⟨ts.length, by simp, ?_⟩
    rw [if_neg (Nat.lt_irrefl _)])
  exact (FD.dom hD.nzd).one_ne h1
 ·have hlt : ts.length = t := by omega
  have h1 := Dom.roots_zero (FD.dom hD.nzd) _ hnd ((List.range t).map fun i => (FD.dom hD.nzd).add (toE hD.pre.pk (ts[t - 1 - i]?.getD 0)) ((FD.dom hD.nzd).neg (toE hD.pre.pk ((minF D hD.pre.pk a t)[i]?.getD 0)))) (by simp) (fun r hr => by
   obtain ⟨i, _, rfl⟩ := List.mem_map.1 hr
   rw [Dom.eval_range]
   have h2 := hroots i
   rw [hval, hlt] at h2
   have h3 := min_zero hD ha ht i
   rw [evE_len, minF_len hD t] at h3
   have h4 : (FD.dom hD.nzd).add ((FD.dom hD.nzd).pow (cj hD a i) t) ((FD.dom hD.nzd).sm (fun j => (FD.dom hD.nzd).mul (toE hD.pre.pk ((minF D hD.pre.pk a t)[j]?.getD 0)) ((FD.dom hD.nzd).pow (cj hD a i) j)) t) = (FD.dom hD.nzd).zero := by
    have e : cfE hD (minF D hD.pre.pk a t) t = (FD.dom hD.nzd).one := by
     unfold cfE
     rw [minF_top hD ha, toE_one hD]
    have h5 : (FD.dom hD.nzd).add ((FD.dom hD.nzd).sm (fun j => (FD.dom hD.nzd).mul (cfE hD (minF D hD.pre.pk a t) j) ((FD.dom hD.nzd).pow (cj hD a i) j)) t) ((FD.dom hD.nzd).mul (cfE hD (minF D hD.pre.pk a t) t) ((FD.dom hD.nzd).pow (cj hD a i) t)) = (FD.dom hD.nzd).zero := h3
    rw [e, Dom.one_mul, (FD.dom hD.nzd).add_comm] at h5
    exact h5
   have h6 := (FD.dom hD.nzd).add_left_cancel (h2.trans h4.symm)
   rw [(FD.dom hD.nzd).sm_congr t (g := fun j => (FD.dom hD.nzd).add ((FD.dom hD.nzd).mul (toE hD.pre.pk (ts[t - 1 - j]?.getD 0)) ((FD.dom hD.nzd).pow (cj hD a i) j)) ((FD.dom hD.nzd).mul ((FD.dom hD.nzd).neg (FD.dom hD.nzd).one) ((FD.dom hD.nzd).mul (toE hD.pre.pk ((minF D hD.pre.pk a t)[j]?.getD 0)) ((FD.dom hD.nzd).pow (cj hD a i) j)))) fun j hj => by rw [(FD.dom hD.nzd).add_mul, Dom.neg_mul, Dom.neg_mul, Dom.one_mul]]
   rw [(FD.dom hD.nzd).sm_add, (FD.dom hD.nzd).sm_mul, h6, Dom.neg_mul, Dom.one_mul, (FD.dom hD.nzd).add_neg])
  have h2 : ∀ i, i < t -> ts[t - 1 - i]?.getD 0 = (minF D hD.pre.pk a t)[i]?.getD 0 := fun i hi => by
   have h3 := h1 _ (List.mem_map.2 ⟨i, List.mem_range.2 hi, rfl⟩)
   exact toE_inj hk (small_lt hk (small_get hD hs _)) (small_lt hk (small_get hD (minF_small hD ha ht) _)) ((FD.dom hD.nzd).eq_of_sub h3)
  refine ext_getD (by rw [tapL_len, hlt]) fun i hi => ?_
  rw [hlt] at hi
  have h3 := h2 (t - 1 - i) (by omega)
  rw [show t - 1 - (t - 1 - i) = i by omega] at h3
  rw [tapL_get hD a hi, h3]
end
theorem dif_small {D D' : FD} (hD : D.Ok) (hD' : D'.Ok) (hp : D'.p = D.p) {c s : List Nat} (hc : ∀ a ∈ c, a < D.p) (hs : ∀ a ∈ s, a < D.p) (i : Nat) : ∀ j, difF D' c s i j = difF D c s i j /\ difF D c s i j < D.p
 | 0 => ⟨rfl, by have := hD.pre.pk.p2; show 0 < D.p; omega⟩
 | j + 1 => by
   obtain ⟨h1, h2⟩ := dif_small hD hD' hp hc hs i j
   have h3 := small_get hD hc j
   have h4 := small_get hD hs (i - j)
   have h5 := mul_small hD h3 h4
   have h6 := mul_small hD' (hp ▸ h3) (hp ▸ h4)
   rw [hp] at h6
   have h7 : ∀ x : Nat, x % D.p < D.p := fun x => Nat.mod_lt _ (by have := hD.pre.pk.p2; omega)
   have h8 := add_small hD h2 (h5 ▸ h7 _)
   have h9 := add_small hD' (hp ▸ h2) (hp ▸ (h5 ▸ h7 _ : pmul D.p D.k D.m (c[j]?.getD 0) D.k (s[i - j]?.getD 0) < D.p))
   rw [hp] at h9
   show padd D'.p D'.k (difF D' c s i j) (pmul D'.p D'.k D'.m (c[j]?.getD 0) D'.k (s[i - j]?.getD 0)) = padd D.p D.k (difF D c s i j) (pmul D.p D.k D.m (c[j]?.getD 0) D.k (s[i - j]?.getD 0)) /\ padd D.p D.k (difF D c s i j) (pmul D.p D.k D.m (c[j]?.getD 0) D.k (s[i - j]?.getD 0)) < D.p
   have e : pmul D'.p D'.k D'.m (c[j]?.getD 0) D'.k (s[i - j]?.getD 0) = pmul D.p D.k D.m (c[j]?.getD 0) D.k (s[i - j]?.getD 0) := by
    rw [h5, <- h6, hp]
   rw [h1, e, h8]
   refine ⟨?_, h7 _⟩
   rw [hp]
   exact h9
theorem mkP_small {D D' : FD} (hD : D.Ok) (hD' : D'.Ok) (hp : D'.p = D.p) {ts s : List Nat} (hc : ∀ a ∈ ts, a < D.p) (hs : ∀ a ∈ s, a < D.p) (n : Nat) : mkP D' ts s n = mkP D ts s n := by
 have h1 : ∀ a ∈ 1 :: ts, a < D.p := fun a ha => by
  rcases List.mem_cons.1 ha with rfl | h
  ·have := hD.pre.pk.p2; omega
  ·exact hc a h
 unfold mkP
 congr 1
 funext j
 rw [(dif_small hD hD' hp h1 hs j (ts.length + 1)).1]
theorem tr_short {D D' : FD} (hD : D.Ok) (hD' : D'.Ok) (hp : D'.p = D.p) (hk1 : D'.k = 1) {a c t N : Nat} (ha : a < D.p ^ D.k) (hc : c < D.p ^ D.k) (ht : MinT hD.pre.pk a t) (hN : 2 * t <= N) :
 mkP D' (tapL hD a t) (sS hD a c N) N = true /\ ((∀ i, i < N -> (sS hD a c N)[i]?.getD 0 = 0) -> bmT D' hD'.pre.pk (sS hD a c N) N = []) /\ ((∃ i, i < N /\ (sS hD a c N)[i]?.getD 0 ≠ 0) -> bmT D' hD'.pre.pk (sS hD a c N) N = tapL hD a t) := by
 have hq' : D'.p ^ D'.k = D.p := by rw [hk1, Nat.pow_one, hp]
 have hsl := sS_lt hD (a := a) hc N
 have hsq : ∀ x ∈ sS hD a c N, x < D'.p ^ D'.k := fun x hx => by rw [hq']; exact hsl x hx
 have htl := tapL_lt hD ha ht
 have h1 : mkP D' (tapL hD a t) (sS hD a c N) N = true := by
  rw [mkP_small hD hD' hp htl hsl]
  exact tap_makes hD ha hc ht N
 refine ⟨h1, fun hz => ?_, fun hne => ?_⟩
 ·have h2 : mkP D' [] (sS hD a c N) N = true := by
   unfold mkP
   rw [List.all_eq_true]
   intro i hi
   refine decide_eq_true (.inr ?_)
   exact (dif_first hD' [] (sS hD a c N) i hsq).trans (hz i (List.mem_range.1 hi))
  have h3 := bm_least hD' hsq (ts := []) (fun a ha => by cases ha) h2 N (Nat.le_refl _)
  exact List.eq_nil_of_length_eq_zero (by rw [bmT_len hD']; simpa using h3)
 ·have h3 := bm_least hD' hsq (ts := tapL hD a t) (fun x hx => by rw [hq']; exact htl x hx) h1 N (Nat.le_refl _)
  rw [tapL_len] at h3
  have h4 := bm_makes hD' hsq N
  have h5 : ∀ x ∈ bmT D' hD'.pre.pk (sS hD a c N) N, x < D.p := fun x hx => by have h := bmT_lt hD' _ _ x hx; rw [hq'] at h; exact h
  have h6 := bmT_len hD' (sS hD a c N) N
  rw [mkP_small hD hD' hp h5 hsl] at h4
  exact rg_uniq hD ha ht h5 (by omega) (rg_zero hD ha hc ht h5 h4 (by omega) hne)
end FFld
end Go.Proofs.YtdnheaafcbihbaaGreat
namespace Go.Proofs.YtdnheaafcbihbaaGreat
open Go Go.RowKit Go.Deep
open FFld (ints)
theorem two_len (a b c : List Int) : ∀ n, n <= ((List.range n).filter fun j : Nat => decide (a[j]?.getD 0 = c[j]?.getD 0) && decide (b[j]?.getD 0 = c[j]?.getD 0)).length + disF a c n + disF b c n
 | 0 => Nat.zero_le _
 | n + 1 => by
   have ih := two_len a b c n
   rw [List.range_succ, List.filter_append, List.filter_cons, List.filter_nil, disF, disF, List.length_append]
   by_cases h : a[n]?.getD 0 = c[n]?.getD 0
   ·by_cases h' : b[n]?.getD 0 = c[n]?.getD 0
    ·rw [if_pos (by rw [decide_eq_true h, decide_eq_true h']; rfl), if_pos h, if_pos h']
     simp only [List.length_cons, List.length_nil]
     omega
    ·rw [if_neg (by rw [decide_eq_false h']; simp), if_pos h, if_neg h']
     simp only [List.length_nil]
     omega
   ·rw [if_neg (by rw [decide_eq_false h]; simp), if_neg h]
    simp only [List.length_nil]
    split <;> omega
theorem nodup_map_on {α β : Type} (f : α -> β) : ∀ (L : List α), L.Nodup -> (∀ a ∈ L, ∀ b ∈ L, a ≠ b -> f a ≠ f b) -> (L.map f).Nodup
 | [], _, _ => List.nodup_nil
 | a :: L, hn, hf => by
   obtain ⟨h1, h2⟩ := List.nodup_cons.1 hn
   rw [List.map_cons, List.nodup_cons]
   refine ⟨fun hm => ?_, nodup_map_on f L h2 fun x hx y hy => hf x (List.mem_cons_of_mem _ hx) y (List.mem_cons_of_mem _ hy)⟩
   obtain ⟨b, hb, e⟩ := List.mem_map.1 hm
   exact hf a (List.mem_cons_self ..) b (List.mem_cons_of_mem _ hb) (fun hab => h1 (hab ▸ hb)) e.symm
theorem near_uniq {D : FFld.FD} (hD : D.Ok) {xs ys P P' : List Nat} {n k t : Nat} (lx : xs.length = n) (hx : ∀ a ∈ xs, a < D.p ^ D.k) (hd : ∀ i j, j < i -> i < n -> xs[i]?.getD 0 ≠ xs[j]?.getD 0) (hk : 2 * t + k <= n) (h : Near D xs ys k t P) (h' : Near D xs ys k t P') : P = P' := by
 have h1 := two_len (ints (FFld.valsF D P xs xs.length)) (ints (FFld.valsF D P' xs xs.length)) (ints ys) n
 have h2 := h.dis
 have h3 := h'.dis
 rw [lx] at h1 h2 h3
 obtain ⟨G, hG⟩ : ∃ G, ((List.range n).filter fun j : Nat => decide ((ints (FFld.valsF D P xs n))[j]?.getD 0 = (ints ys)[j]?.getD 0) && decide ((ints (FFld.valsF D P' xs n))[j]?.getD 0 = (ints ys)[j]?.getD 0)) = G := ⟨_, rfl⟩
 have hGm : ∀ j ∈ G, j < n /\ (ints (FFld.valsF D P xs n))[j]?.getD 0 = (ints ys)[j]?.getD 0 /\ (ints (FFld.valsF D P' xs n))[j]?.getD 0 = (ints ys)[j]?.getD 0 := fun j hj => by
  rw [<- hG] at hj
  obtain ⟨h4, h5⟩ := List.mem_filter.1 hj
  rw [Bool.and_eq_true] at h5
  exact ⟨List.mem_range.1 h4, of_decide_eq_true h5.1, of_decide_eq_true h5.2⟩
 have hGn : G.Nodup := by rw [<- hG]; exact List.Pairwise.filter _ List.nodup_range
 rw [hG] at h1
 have h6 := h.len
 have h7 := h'.len
 refine FFld.interp hD (n := G.length) h.lt h'.lt h.tz h'.tz (by omega) (by omega) (G.map (FFld.plE hD xs)) (nodup_map_on _ G hGn fun a ha b hb hab e => ?_) (by simp) fun r hr => ?_
 ·have ha' := (hGm a ha).1
  have hb' := (hGm b hb).1
  have e' := FFld.toE_inj hD.pre.pk (FFld.at_lt hD hx a) (FFld.at_lt hD hx b) e
  rcases Nat.lt_or_gt_of_ne hab with h8 | h8
  ·exact hd b a h8 hb' e'.symm
  ·exact hd a b h8 ha' e'
 ·obtain ⟨j, hj, rfl⟩ := List.mem_map.1 hr
  obtain ⟨h8, h9, h10⟩ := hGm j hj
  have e1 := vals_ev hD h.lt h.tz hx (j := j) (by rw [lx]; exact h8)
  have e2 := vals_ev hD h'.lt h'.tz hx (j := j) (by rw [lx]; exact h8)
  rw [<- e1, <- e2, lx]
  rw [FFld.ints_get, FFld.ints_get] at h9 h10
  rw [Int.ofNat.inj h9, Int.ofNat.inj h10]
theorem vals_map {D : FFld.FD} (P X : List Nat) : FFld.valsF D P X X.length = X.map fun x => FFld.hornF D (FFld.trm P) x (FFld.trm P).length := by
 refine List.ext_getElem (by rw [FFld.valsF_len, List.length_map]) fun j h1 h2 => ?_
 have h3 : j < X.length := by rw [List.length_map] at h2; exact h2
 have h4 := vals_get (D := D) P X h3
 rw [List.getElem?_eq_getElem h1, List.getElem?_eq_getElem h3] at h4
 rw [List.getElem_map]
 exact h4
theorem vals_kp {D : FFld.FD} (P : List Nat) (es : List Int) {xs : List Nat} {n : Nat} (lx : xs.length = n) : FFld.valsF D P (kpL es n xs) (kpL es n xs).length = kpL es n (FFld.valsF D P xs n) := by
 rw [vals_map]
 unfold kpL
 rw [List.map_map]
 refine List.map_congr_left fun j hj => ?_
 have h := vals_get (D := D) P xs (j := j) (by rw [lx]; exact kp_lt hj)
 rw [lx] at h
 exact h.symm
theorem vals_trm' {D : FFld.FD} (P xs : List Nat) (i : Nat) : FFld.valsF D (FFld.trm P) xs i = FFld.valsF D P xs i := by
 unfold FFld.valsF
 rw [FFld.trm_self (FFld.trm_tz P)]
theorem near_msg {D : FFld.FD} {xs ms v : List Nat} {es : List Int} {n k t : Nat} (lx : xs.length = n) (hm : ∀ a ∈ ms, a < D.p ^ D.k) (lm : ms.length = k) (hd : disF (ints (kpL es n (FFld.valsF D ms xs n))) (ints (kpL es n v)) (kpF es n).length <= t) : Near D (kpL es n xs) (kpL es n v) k t (FFld.trm ms) := by
 refine ⟨FFld.trm_lt hm, FFld.trm_tz _, ?_, ?_⟩
 ·have := FFld.trm_len_le ms
  omega
 ·rw [vals_trm', vals_kp ms es lx, kpL_len]
  exact hd
theorem disF_self (xs : List Int) : ∀ n, disF xs xs n = 0
 | 0 => rfl
 | n + 1 => by unfold disF; rw [if_pos rfl]; exact disF_self xs n
theorem kpL_congr {es : List Int} {n : Nat} {u v : List Nat} (h : ∀ j ∈ kpF es n, u[j]?.getD 0 = v[j]?.getD 0) : kpL es n u = kpL es n v := List.map_congr_left h
theorem kpF_mem {L : List Nat} {n j : Nat} : j ∈ kpF (ints L) n ↔ j < n /\ j ∉ L := by
 unfold kpF
 rw [List.mem_filter, List.mem_range, List.all_eq_true]
 refine and_congr Iff.rfl ⟨fun h hj => ?_, fun h x hx => ?_⟩
 ·have := h (j : Int) (List.mem_map.2 ⟨j, hj, rfl⟩)
  simp at this
 ·obtain ⟨a, ha, rfl⟩ := List.mem_map.1 hx
  exact decide_eq_true fun e => h (by have e' : a = j := Int.ofNat.inj e; exact e' ▸ ha)
theorem bel_lt {L : List Nat} {n : Nat} (h : ∀ a ∈ L, a < n) : belB (n : Int) (ints L) = true := by
 unfold belB
 rw [List.all_eq_true]
 intro x hx
 obtain ⟨a, ha, rfl⟩ := List.mem_map.1 hx
 have := h a ha
 exact decide_eq_true (by omega)



def wdE (D : FFld.FD) (n : Nat) (vs : List Int) : Nat := if vs.length ≠ n then 7 else if elsB D vs = false then 1 else 0
def wdL (D : FFld.FD) (h : FFld.PK D.p D.k D.m) (xs ws : List Nat) (n : Nat) : List Nat := FFld.lgO D h xs ws n n
section
variable {D : FFld.FD} (hD : D.Ok)
theorem wdL_len (xs ws : List Nat) (n : Nat) : (wdL D hD.pre.pk xs ws n).length <= n := FFld.lgO_len D hD.pre.pk xs ws n n (Nat.le_refl _)
theorem wdL_tz (xs ws : List Nat) (n : Nat) : FFld.Tz (wdL D hD.pre.pk xs ws n) := FFld.lgO_tz D hD.pre.pk xs ws n n
theorem wdL_lt (xs ws : List Nat) (n : Nat) : ∀ a ∈ wdL D hD.pre.pk xs ws n, a < D.p ^ D.k := FFld.lgO_lt hD.pre.pk xs ws n n
theorem wdL_vals {xs ms : List Nat} {n k : Nat} (hc : CodeV D xs n k) (hm : ∀ a ∈ ms, a < D.p ^ D.k) (lm : ms.length = k) : wdL D hD.pre.pk xs (FFld.valsF D ms xs n) n = FFld.trm ms := by
 have hd : ∀ a b, a < n -> b < n -> a ≠ b -> xs[a]?.getD 0 ≠ xs[b]?.getD 0 := fun a b ha hb hab => by
  rcases Nat.lt_or_gt_of_ne hab with h | h
  ·exact (hc.dif b a h hb).symm
  ·exact hc.dif a b h ha
 have hkn := hc.kn
 have hlx := hc.len
 have hvq : ∀ a ∈ FFld.valsF D ms xs n, a < D.p ^ D.k := fun a ha => by
  unfold FFld.valsF at ha
  obtain ⟨j, _, rfl⟩ := List.mem_map.1 ha
  split
  ·exact FFld.hornF_lt hD.pre.pk _ _ _
  ·exact Nat.pow_pos hD.pre.pk.p0
 refine FFld.interp hD (n := n) (wdL_lt hD _ _ _) (FFld.trm_lt hm) (wdL_tz hD _ _ _) (FFld.trm_tz _) (wdL_len hD _ _ _) (by have := FFld.trm_len_le ms; omega) ((List.range n).map (FFld.plE hD xs)) (nodup_map_on _ (List.range n) List.nodup_range fun a ha b hb hab e => ?_) (by simp) fun r hr => ?_
 ·exact hd a b (List.mem_range.1 ha) (List.mem_range.1 hb) hab (FFld.toE_inj hD.pre.pk (FFld.at_lt hD hc.lt a) (FFld.at_lt hD hc.lt b) e)
 ·obtain ⟨j, hj, rfl⟩ := List.mem_map.1 hr
  have hj' := List.mem_range.1 hj
  have e1 := FFld.lgO_ev hD hc.lt hvq hd n (Nat.le_refl _) j hj'
  rw [if_pos hj'] at e1
  have e2 := vals_ev hD (FFld.trm_lt hm) (FFld.trm_tz ms) hc.lt (j := j) (by rw [hlx]; exact hj')
  rw [vals_trm', hlx] at e2
  exact e1.trans e2
theorem trm_get' (l : List Nat) (i : Nat) : (FFld.trm l)[i]?.getD 0 = l[i]?.getD 0 := by
 have h : FFld.trm l = l.take (FFld.trm l).length := by
  unfold FFld.trm
  rw [List.length_take, Nat.min_eq_left (FFld.trmN_le l _)]
 rw [h, List.getElem?_take]
 split
 ·rfl
 ·rename_i hi
  rw [FFld.trm_len] at hi
  by_cases hl : i < l.length
  ·exact (FFld.trmN_zero l l.length i (by omega) hl).symm
  ·rw [List.getElem?_eq_none (by omega)]
theorem pad_trm {ms : List Nat} {k : Nat} (lm : ms.length = k) : FFld.padF (FFld.trm ms) k = ms := by
 have hl := FFld.padF_len (p := FFld.trm ms) (n := k) (by have := FFld.trm_len_le ms; omega)
 refine List.ext_getElem (by rw [hl, lm]) fun j h1 h2 => ?_
 have h := FFld.padF_get (FFld.trm ms) k j
 rw [trm_get', List.getElem?_eq_getElem h1, List.getElem?_eq_getElem h2] at h
 exact h
end
theorem dif_nodup {L : List Nat} (h : L.Nodup) : difB (ints L) L.length = true := by
 unfold difB
 rw [List.all_eq_true]
 intro i hi
 unfold difAt
 rw [List.all_eq_true]
 intro j hj
 rw [List.mem_range] at hi hj
 refine decide_eq_true fun e => ?_
 rw [FFld.ints_get, FFld.ints_get] at e
 exact nodup_get h hj hi (Int.ofNat.inj e)
structure TaAt (w : World) (o k : Int) (ao : Option Addr) (n cap g q : Nat) (pv : Value) (L : List Nat) (kk : Int) (W : World) : Prop where
 bel : Below w.heap.size w W
 b0 : W.heap[w.heap.size]? = some (rcdbox o ao n cap k)
 b1 : W.heap[w.heap.size + 1]? = some (rcdbox 0 none 0 0 0)
 bg : W.heap[g]? = some (.cells #[.int .i64 q, pv, .int .i64 kk] 24)
 mn : Mine 3 .i64 (g + 1) W pv (ints L)
 lg : w.heap.size + 1 < g
section
variable {w : World} {o k : Int} {ao : Option Addr} {n cap g q : Nat} {pv : Value} {L : List Nat} {kk : Int} {W W' : World}
end
def TaRet (most : Nat) (w : World) (e : Ending) (w' : World) : Prop := Below w.heap.size w w' /\ ∃ (D : FFld.FD) (va : Option Addr) (m vc k : Nat) (xs : List Nat), D.Ok /\ D.q <= 300 /\ CodeV D xs m k /\ (m <= most \/ m <= 2) /\ e = .returned (cdv D.q va m vc k) /\ Sl .i64 w' (.slice va m vc) (ints xs)
structure LwAt (w : World) (D : FFld.FD) (va : Option Addr) (m vc k : Nat) (xs : List Nat) (g7 g8 : Nat) (W : World) : Prop where
 bel : Below w.heap.size w W
 b7 : W.heap[g7]? = some (rcdbox D.q va m vc k)
 b8 : W.heap[g8]? = some (cdbox D.q va m vc k)
 sl : Sl .i64 W (.slice va m vc) (ints xs)
def RetP (w : World) (l : List Nat) (n : Nat) (e : Ending) (w' : World) : Prop := Below w.heap.size w w' /\ ∃ (va : Option Addr) (vc : Nat), e = .returned (.slice va n vc) /\ Mine 3 .i64 w.heap.size w' (.slice va n vc) (ints l)
theorem full_nodup {L : List Nat} {m c : Nat} (hn : L.Nodup) (hall : ∀ j, j < m -> j ∈ L) (hl : L.length = c) : m <= c := by
 have h : (List.range m).Nodup := List.nodup_range
 have hs : ∀ (A B : List Nat), A.Nodup -> (∀ x ∈ A, x ∈ B) -> A.length <= B.length := by
  intro A
  induction A with
  | nil => intro B _ _; exact Nat.zero_le _
  | cons a A ih =>
    intro B hA hB
    obtain ⟨h1, h2⟩ := List.nodup_cons.1 hA
    have hm := hB a (List.mem_cons_self ..)
    have h3 := ih (B.erase a) h2 fun x hx => (List.mem_erase_of_ne (fun (e : x = a) => h1 (e ▸ hx))).2 (hB x (List.mem_cons_of_mem _ hx))
    have h4 := List.length_erase_of_mem hm
    have h5 := List.length_pos_of_mem hm
    simp only [List.length_cons]
    omega
 have := hs (List.range m) L h fun x hx => hall x (List.mem_range.1 hx)
 rw [List.length_range, hl] at this
 exact this
def lftF (L ws : List Nat) (m i : Nat) : List Nat := (List.range m).map fun j => if j < i /\ j ∉ L then ws[j]?.getD 0 else 0
theorem lftF_len (L ws : List Nat) (m i : Nat) : (lftF L ws m i).length = m := by simp [lftF]
theorem lftF_zero (L ws : List Nat) (m : Nat) : lftF L ws m 0 = List.replicate m 0 := by
 unfold lftF
 refine List.ext_getElem (by simp) fun j h1 h2 => ?_
 simp
theorem lftF_get (L ws : List Nat) {m i j : Nat} (hj : j < m) : (lftF L ws m i)[j]?.getD 0 = if j < i /\ j ∉ L then ws[j]?.getD 0 else 0 := by
 unfold lftF
 rw [List.getElem?_map, List.getElem?_range hj]
 rfl
theorem lftF_in {L ws : List Nat} {m i : Nat} (hi : i ∈ L) : lftF L ws m (i + 1) = lftF L ws m i := by
 unfold lftF
 refine List.map_congr_left fun j _ => ?_
 by_cases e : j = i
 ·subst e
  rw [if_neg (fun h => h.2 hi), if_neg (fun h => h.2 hi)]
 ·by_cases h : j ∈ L
  ·rw [if_neg (fun h' => h'.2 h), if_neg (fun h' => h'.2 h)]
  ·by_cases h2 : j < i
   ·rw [if_pos ⟨by omega, h⟩, if_pos ⟨h2, h⟩]
   ·rw [if_neg (fun h' => by omega), if_neg (fun h' => h2 h'.1)]
theorem lftF_out {L ws : List Nat} {m i : Nat} (hi : i ∉ L) : (lftF L ws m i).set i (ws[i]?.getD 0) = lftF L ws m (i + 1) := by
 unfold lftF
 refine List.ext_getElem (by simp) fun j h1 h2 => ?_
 have hj : j < m := by simpa using h2
 rw [List.getElem_set]
 split
 ·rename_i e
  subst e
  simp [hi]
 ·rename_i e
  simp only [List.getElem_map, List.getElem_range]
  by_cases h : j ∈ L
  ·simp [h]
  ·by_cases h2 : j < i
   ·rw [if_pos ⟨h2, h⟩, if_pos ⟨by omega, h⟩]
   ·rw [if_neg (fun h' => h2 h'.1), if_neg (fun h' => by omega)]
theorem lftF_lt {q : Nat} (hq : 0 < q) {L ws : List Nat} (hw : ∀ a ∈ ws, a < q) (m i : Nat) : ∀ a ∈ lftF L ws m i, a < q := fun a ha => by
 obtain ⟨j, _, rfl⟩ := List.mem_map.1 ha
 split
 ·exact FFld.getD_lt hq hw j
 ·exact hq
theorem lftF_kp {L ws : List Nat} {m : Nat} : kpL (ints L) m (lftF L ws m m) = kpL (ints L) m ws := kpL_congr fun j hj => by
 obtain ⟨h1, h2⟩ := kpF_mem.1 hj
 rw [lftF_get L ws h1, if_pos ⟨h1, h2⟩]
def inL (L : List Nat) (n : Nat) : List Nat := (List.range n).filter fun j => decide (j ∈ L)
def outL (L : List Nat) (n : Nat) : List Nat := (List.range n).filter fun j => !decide (j ∈ L)
theorem inL_mem {L : List Nat} {n j : Nat} : j ∈ inL L n ↔ j < n /\ j ∈ L := by
 unfold inL
 rw [List.mem_filter, List.mem_range, decide_eq_true_iff]
theorem outL_mem {L : List Nat} {n j : Nat} : j ∈ outL L n ↔ j < n /\ j ∉ L := by
 unfold outL
 rw [List.mem_filter, List.mem_range]
 simp
theorem inL_in {L : List Nat} {i : Nat} (h : i ∈ L) : inL L (i + 1) = inL L i ++ [i] := by
 unfold inL
 rw [List.range_succ, List.filter_append]
 simp [h]
theorem inL_out {L : List Nat} {i : Nat} (h : i ∉ L) : inL L (i + 1) = inL L i := by
 unfold inL
 rw [List.range_succ, List.filter_append]
 simp [h]
theorem outL_in {L : List Nat} {i : Nat} (h : i ∈ L) : outL L (i + 1) = outL L i := by
 unfold outL
 rw [List.range_succ, List.filter_append]
 simp [h]
theorem outL_out {L : List Nat} {i : Nat} (h : i ∉ L) : outL L (i + 1) = outL L i ++ [i] := by
 unfold outL
 rw [List.range_succ, List.filter_append]
 simp [h]
theorem inL_nodup (L : List Nat) (n : Nat) : (inL L n).Nodup := List.nodup_range.sublist List.filter_sublist
theorem outL_nodup (L : List Nat) (n : Nat) : (outL L n).Nodup := List.nodup_range.sublist List.filter_sublist
theorem nodup_le : ∀ (A B : List Nat), A.Nodup -> (∀ x ∈ A, x ∈ B) -> A.length <= B.length := by
 intro A
 induction A with
 | nil => intro B _ _; exact Nat.zero_le _
 | cons a A ih =>
   intro B hA hB
   obtain ⟨h1, h2⟩ := List.nodup_cons.1 hA
   have hm := hB a (List.mem_cons_self ..)
   have h3 := ih (B.erase a) h2 fun x hx => (List.mem_erase_of_ne (fun (e : x = a) => h1 (e ▸ hx))).2 (hB x (List.mem_cons_of_mem _ hx))
   have h4 := List.length_erase_of_mem hm
   have h5 := List.length_pos_of_mem hm
   simp only [List.length_cons]
   omega
theorem inL_len {L : List Nat} {n : Nat} (hn : L.Nodup) (hl : ∀ a ∈ L, a < n) : (inL L n).length = L.length :=
 Nat.le_antisymm (nodup_le _ _ (inL_nodup L n) fun x hx => (inL_mem.1 hx).2) (nodup_le _ _ hn fun x hx => inL_mem.2 ⟨hl x hx, hx⟩)
def atL (xs S : List Nat) : List Nat := S.map fun j => xs[j]?.getD 0
theorem atL_len (xs S : List Nat) : (atL xs S).length = S.length := List.length_map ..
theorem atL_app (xs S : List Nat) (i : Nat) : atL xs (S ++ [i]) = atL xs S ++ [xs[i]?.getD 0] := by
 unfold atL
 rw [List.map_append]
 rfl
theorem atL_get (xs S : List Nat) {j : Nat} (hj : j < S.length) : (atL xs S)[j]?.getD 0 = xs[S[j]]?.getD 0 := by
 unfold atL
 rw [List.getElem?_map, List.getElem?_eq_getElem hj]
 rfl
theorem atL_codeV {D : FFld.FD} (hD : D.Ok) {xs S : List Nat} {n k kk : Nat} (hc : CodeV D xs n kk) (hn : S.Nodup) (hl : ∀ a ∈ S, a < n) (hk : S.length = k) (k1 : 1 <= k) : CodeV D (atL xs S) k k := by
 have hx := hc.len
 have h64 := hc.n64
 have hkn : S.length <= n := by
  have := nodup_le S (List.range n) hn fun x hx => List.mem_range.2 (hl x hx)
  rw [List.length_range] at this
  exact this
 have hdif : ∀ i j, j < i -> i < k -> (atL xs S)[i]?.getD 0 ≠ (atL xs S)[j]?.getD 0 := fun i j hj hi e => by
  rw [atL_get xs S (by omega), atL_get xs S (by omega)] at e
  have hi' := hl _ (List.getElem_mem (l := S) (n := i) (by omega))
  have hj' := hl _ (List.getElem_mem (l := S) (n := j) (by omega))
  have hne : S[i]'(by omega) ≠ S[j]'(by omega) := fun h => (List.pairwise_iff_getElem.1 hn) j i (by omega) (by omega) hj h.symm
  rcases Nat.lt_or_gt_of_ne hne with h | h
  ·exact hc.dif _ _ h hj' e.symm
  ·exact hc.dif _ _ h hi' e
 refine CodeV.of hD (by rw [atL_len, hk]) (by omega) k1 (Nat.le_refl _) (fun a ha => ?_) ?_
 ·obtain ⟨j, hj, rfl⟩ := List.mem_map.1 ha
  exact hc.lt _ (FFld.get_mem (by rw [hx]; exact hl j hj))
 ·have hnd : (atL xs S).Nodup := List.pairwise_iff_getElem.2 fun i j hi hj hij e => by
   rw [atL_len, hk] at hj
   refine hdif j i hij hj ?_
   rw [List.getElem?_eq_getElem (by rw [atL_len, hk]; omega), List.getElem?_eq_getElem (by rw [atL_len, hk]; omega), e]
  have h := dif_nodup hnd
  rw [atL_len, hk] at h
  exact h
theorem atL_vals {D : FFld.FD} {ms xs S : List Nat} {n k : Nat} (hx : xs.length = n) (hl : ∀ a ∈ S, a < n) (hk : S.length = k) : FFld.valsF D ms (atL xs S) k = atL (FFld.valsF D ms xs n) S := by
 subst hx
 have hk' : (atL xs S).length = k := by rw [atL_len, hk]
 subst hk'
 refine FFld.ext_getD (by rw [FFld.valsF_len, atL_len, atL_len]) fun j h1 => ?_
 rw [FFld.valsF_len] at h1
 have h2 : j < S.length := by rw [atL_len] at h1; exact h1
 rw [vals_get _ _ h1, atL_get xs S h2, atL_get _ S h2, vals_get _ _ (hl _ (List.getElem_mem (l := S) (n := j) h2))]
theorem atL_back {D : FFld.FD} (hD : D.Ok) {ms xs S : List Nat} {n k kk : Nat} (hc : CodeV D xs n kk) (hn : S.Nodup) (hl : ∀ a ∈ S, a < n) (hk : S.length = k) (k1 : 1 <= k) (hm : ∀ a ∈ ms, a < D.p ^ D.k) (lm : ms.length = k) (hA : ∀ a, a < k -> FFld.thA D (atL xs S) a ≠ 0) : FFld.trm (FFld.thR D hD.pre.pk (atL xs S) (atL (FFld.valsF D ms xs n) S) k k) = FFld.trm ms := by
 have hv := atL_codeV hD hc hn hl hk k1
 have h := wdL_vals hD hv hm lm
 rw [atL_vals hc.len hl hk] at h
 have hvq : ∀ a ∈ atL (FFld.valsF D ms xs n) S, a < D.p ^ D.k := fun a ha => by
  obtain ⟨j, _, rfl⟩ := List.mem_map.1 ha
  refine FFld.getD_lt (Nat.pow_pos hD.pre.pk.p0) (fun b hb => ?_) j
  unfold FFld.valsF at hb
  obtain ⟨i, _, rfl⟩ := List.mem_map.1 hb
  split
  ·exact FFld.hornF_lt hD.pre.pk _ _ _
  ·exact Nat.pow_pos hD.pre.pk.p0
 rw [FFld.newton_lagrange hD hv.lt hvq hv.len hA]
 exact h
def t8L : List Nat := [5, 7, 8, 9, 11, 13, 16, 31]
abbrev t8box : Obj := .cells #[.int .i64 5, .int .i64 7, .int .i64 8, .int .i64 9, .int .i64 11, .int .i64 13, .int .i64 16, .int .i64 31] 104
theorem t8_fit (t : Nat) (ht : t < 8) : FFld.Fit ((t8L[t]?.getD 0 : Nat) : Int) /\ 5 <= t8L[t]?.getD 0 /\ t8L[t]?.getD 0 <= 31 := by
 have h : ∀ p k : Nat, FFld.isP p = true -> 1 <= k -> 5 <= p ^ k -> p ^ k <= 31 -> FFld.Fit ((p ^ k : Nat) : Int) /\ 5 <= p ^ k /\ p ^ k <= 31 := fun p k hp hk h5 hq => ⟨FFld.fit_pow (FFld.prime_of hp) hk (by omega), h5, hq⟩
 have : t = 0 \/ t = 1 \/ t = 2 \/ t = 3 \/ t = 4 \/ t = 5 \/ t = 6 \/ t = 7 := by omega
 rcases this with rfl | rfl | rfl | rfl | rfl | rfl | rfl | rfl
 ·exact h 5 1 (by decide) (by decide) (by decide) (by decide)
 ·exact h 7 1 (by decide) (by decide) (by decide) (by decide)
 ·exact h 2 3 (by decide) (by decide) (by decide) (by decide)
 ·exact h 3 2 (by decide) (by decide) (by decide) (by decide)
 ·exact h 11 1 (by decide) (by decide) (by decide) (by decide)
 ·exact h 13 1 (by decide) (by decide) (by decide) (by decide)
 ·exact h 2 4 (by decide) (by decide) (by decide) (by decide)
 ·exact h 31 1 (by decide) (by decide) (by decide) (by decide)
theorem t8_cell {W : World} {g : Nat} (h : W.heap[g]? = some t8box) (t : Nat) (ht : t < 8) : W.cell? ⟨g, t, none⟩ = some (.int .i64 ((t8L[t]?.getD 0 : Nat) : Int)) := by
 rw [cell_of_row W g t _ _ (0, 0) h]
 have : t = 0 \/ t = 1 \/ t = 2 \/ t = 3 \/ t = 4 \/ t = 5 \/ t = 6 \/ t = 7 := by omega
 rcases this with rfl | rfl | rfl | rfl | rfl | rfl | rfl | rfl <;> rfl
def ptL (n : Nat) : List Nat := (List.range n).map (· + 1)
theorem ptL_len (n : Nat) : (ptL n).length = n := by simp [ptL]
theorem ptL_next (n : Nat) : ptL (n + 1) = ptL n ++ [n + 1] := by
 unfold ptL
 rw [List.range_succ, List.map_append]
 rfl
theorem ptL_codeV {D : FFld.FD} (hD : D.Ok) {n k : Nat} (hq : D.q = n + 1) (h31 : n <= 30) (k1 : 1 <= k) (kn : k <= n) : CodeV D (ptL n) n k := by
 have hq' : D.p ^ D.k = n + 1 := hq
 refine CodeV.of hD (ptL_len n) (by omega) k1 kn (fun a ha => ?_) ?_
 ·unfold ptL at ha
  obtain ⟨j, hj, rfl⟩ := List.mem_map.1 ha
  have := List.mem_range.1 hj
  omega
 ·have hnd : (ptL n).Nodup := by
   unfold ptL
   exact nodup_map_on _ (List.range n) List.nodup_range fun a ha b hb hab e => hab (Nat.succ.inj e)
  have h := dif_nodup hnd
  rw [ptL_len] at h
  exact h
theorem padF_next {l : List Nat} {j : Nat} (h : l.length <= j) : FFld.padF l (j + 1) = FFld.padF l j ++ [0] := by
 unfold FFld.padF
 rw [show j + 1 - l.length = (j - l.length) + 1 by omega, List.replicate_succ', List.append_assoc]
def Apart (u v : Value) : Prop := ∀ k, u.ownBlock = some k -> v.ownBlock = some k -> False
theorem Apart.symm {u v : Value} (h : Apart u v) : Apart v u := fun k a b => h k b a
theorem Apart.nil (v : Value) : Apart (.slice none 0 0) v := fun k h => by simp [Value.ownBlock] at h
theorem Apart.move {B : Nat} {w : World} {u u' v : Value} {L : List Int} (h : Apart u v) (hv : Mine 3 .i64 B w v L) (hn : u'.ownBlock = u.ownBlock \/ Frm (w.heap.size + 1) u') : Apart u' v := fun k a b => by
 rcases hn with e | hf
 ·exact h k (e ▸ a) b
 ·have h1 := hf k a
  have h2 := (hv.own k b).2
  omega
theorem Mine.stays {B : Nat} {w w5 : World} {u v : Value} {L : List Int} {o : Obj} (h : Mine 3 .i64 B w v L) (ha : Apart u v) (hg : (w.alloc o).grownBy w5 u.ownBlock) : Mine 3 .i64 B w5 v L := by
 refine (h.alloc o).kept hg ?_
 cases hv : v.ownBlock with
 | none => exact .inl rfl
 | some k => exact .inr fun e => ha k e.symm hv
structure In5 (wz : World) (gv : Nat) (vx vy ve : Value) (X Y E vs : List Nat) (wr : World) : Prop where
 gz : wz.heap.size = gv
 bel : Below wz.heap.size wz wr
 x : Mine 3 .i64 (gv + 1) wr vx (ints X)
 y : Mine 3 .i64 (gv + 1) wr vy (ints Y)
 e : Mine 3 .i64 (gv + 1) wr ve (ints E)
 wv : Wv wr gv vs
 xy : Apart vx vy
 xe : Apart vx ve
 ye : Apart vy ve
section
variable {wz wr w5 : World} {gv : Nat} {vx vy ve v' : Value} {X Y E vs L' : List Nat} {o : Obj}
theorem In5.frame (h : In5 wz gv vx vy ve X Y E vs wr) {u : Value} {L : List Int} (hu : Mine 3 .i64 (gv + 1) wr u L) (hg : (wr.alloc o).grownBy w5 u.ownBlock) : Below wz.heap.size wz w5 /\ Wv w5 gv vs := by
 have hgz := h.gz
 have hb := h.bel.alloc h.bel.size o
 refine ⟨hb.grown hg hb.size fun k hk => by have := (hu.own k hk).1; omega, ?_⟩
 have hal : Below wr.heap.size wr (wr.alloc o) := (Below.refl _ _).alloc (Nat.le_refl _) _
 have hw := h.wv.below hal
 cases hk : u.ownBlock with
 | none => rw [hk] at hg; exact ⟨_, (hg.block _ hw.lt (by simp)).trans hw.choose_spec.1, hw.choose_spec.2⟩
 | some k => rw [hk] at hg; exact hw.other hg (by have := (hu.own k hk).1; omega)
theorem In5.pushX (h : In5 wz gv vx vy ve X Y E vs wr) (hm : Mine 3 .i64 (gv + 1) w5 v' (ints L')) (hg : (wr.alloc o).grownBy w5 vx.ownBlock) (hn : v'.ownBlock = vx.ownBlock \/ Frm (wr.heap.size + 1) v') : In5 wz gv v' vy ve L' Y E vs w5 := by
 obtain ⟨h1, h2⟩ := h.frame h.x hg
 exact ⟨h.gz, h1, hm, h.y.stays h.xy hg, h.e.stays h.xe hg, h2, h.xy.move h.y hn, h.xe.move h.e hn, h.ye⟩
theorem In5.pushY (h : In5 wz gv vx vy ve X Y E vs wr) (hm : Mine 3 .i64 (gv + 1) w5 v' (ints L')) (hg : (wr.alloc o).grownBy w5 vy.ownBlock) (hn : v'.ownBlock = vy.ownBlock \/ Frm (wr.heap.size + 1) v') : In5 wz gv vx v' ve X L' E vs w5 := by
 obtain ⟨h1, h2⟩ := h.frame h.y hg
 exact ⟨h.gz, h1, h.x.stays h.xy.symm hg, hm, h.e.stays h.ye hg, h2, (h.xy.symm.move h.x hn).symm, h.xe, h.ye.move h.e hn⟩
theorem In5.pushE (h : In5 wz gv vx vy ve X Y E vs wr) (hm : Mine 3 .i64 (gv + 1) w5 v' (ints L')) (hg : (wr.alloc o).grownBy w5 ve.ownBlock) (hn : v'.ownBlock = ve.ownBlock \/ Frm (wr.heap.size + 1) v') : In5 wz gv vx vy v' X Y L' vs w5 := by
 obtain ⟨h1, h2⟩ := h.frame h.e hg
 exact ⟨h.gz, h1, h.x.stays h.xe.symm hg, h.y.stays h.ye.symm hg, hm, h2, h.xy, (h.xe.symm.move h.x hn).symm, (h.ye.symm.move h.y hn).symm⟩
theorem In5.put (h : In5 wz gv vx vy ve X Y E vs wr) (i a : Nat) : In5 wz gv vx vy ve X Y E (vs.set i a) (wr.setCell ⟨gv, i, none⟩ (.int .i64 (a : Nat))) :=
 ⟨h.gz, h.bel.setCell (p := ⟨gv, i, none⟩) (by rw [h.gz]; exact Nat.le_refl _) _, Mine.setOther h.x (by omega), Mine.setOther h.y (by omega), Mine.setOther h.e (by omega), h.wv.set a, h.xy, h.xe, h.ye⟩
end
end Go.Proofs.YtdnheaafcbihbaaGreat
