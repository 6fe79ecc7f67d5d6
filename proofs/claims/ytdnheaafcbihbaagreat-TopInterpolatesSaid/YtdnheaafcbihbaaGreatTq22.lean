/-
  Texts of the proof, merged by program: Orb Irp Nrm Cmk Bmc Prf Bml Rkp Rec Res Sol Rmk Lst.
-/
import Derived.Test.YtdnheaafcbihbaaGreatTq21
set_option linter.unusedSectionVars false
set_option linter.unusedSimpArgs false
set_option linter.unusedVariables false
set_option maxHeartbeats 16000000
namespace Go.Proofs.YtdnheaafcbihbaaGreat
namespace FFld
structure Hm {α β : Type} (F : Dom α) (G : Dom β) (φ : α -> β) : Prop where
 add : ∀ a b, φ (F.add a b) = G.add (φ a) (φ b)
 mul : ∀ a b, φ (F.mul a b) = G.mul (φ a) (φ b)
 zero : φ F.zero = G.zero
 one : φ F.one = G.one
namespace Hm
variable {α β : Type} {F : Dom α} {G : Dom β} {φ : α -> β} (h : Hm F G φ)
include h
theorem sm (f : Nat -> α) : ∀ n, φ (F.sm f n) = G.sm (fun i => φ (f i)) n
 | 0 => h.zero
 | n + 1 => by
   show φ (F.add (F.sm f n) (f n)) = G.add (G.sm (fun i => φ (f i)) n) (φ (f n))
   rw [h.add, Hm.sm f n]
theorem neg (a : α) : φ (F.neg a) = G.neg (φ a) := G.neg_unique (by rw [<- h.add, F.add_neg, h.zero])
def on (_ : Hm F G φ) (f : Nat -> α) : Nat -> β := fun i => φ (f i)
theorem on_mul (f g : Nat -> α) : h.on (F.ser.mul f g) = G.ser.mul (h.on f) (h.on g) := by
 funext n
 show φ (F.cv f g n) = G.cv (fun i => φ (f i)) (fun i => φ (g i)) n
 unfold Dom.cv
 rw [h.sm]
 exact G.sm_congr _ fun i _ => h.mul _ _
theorem on_add (f g : Nat -> α) : h.on (F.ser.add f g) = G.ser.add (h.on f) (h.on g) := funext fun n => h.add _ _
theorem on_mon1 (a : α) (k : Nat) : h.on (F.mon1 a k) = G.mon1 (φ a) k := by
 funext i
 show φ (if i = k then a else F.zero) = if i = k then φ a else G.zero
 split
 ·rfl
 ·exact h.zero
theorem on_one : h.on F.ser.one = G.ser.one := by
 have := h.on_mon1 F.one 0
 rw [h.one] at this
 exact this
end Hm
section
variable {α : Type} {F : Dom α}
def lin (F : Dom α) (r : α) : Nat -> α := F.ser.add (xx F) (F.mon1 (F.neg r) 0)
theorem lin_dg (r : α) : F.Dg (lin F r) 1 := by
 refine ⟨Dom.Sh.add F (F.mon1_sh F.one 1) (Dom.Sh.mono F (F.mon1_sh _ 0) (by omega)), ?_⟩
 show F.add (if 1 = 1 then F.one else F.zero) (if 1 = 0 then F.neg r else F.zero) ≠ F.zero
 rw [if_pos rfl, if_neg (by omega), F.add_zero]
 exact F.one_ne
theorem const_sh (a : α) : F.Sh (F.mon1 a 0) 1 := F.mon1_sh a 0
theorem const_pl (a : α) : F.Pl (F.mon1 a 0) := ⟨1, const_sh a⟩
theorem const_zero {r c : α} (h : F.Dv (lin F r) (F.mon1 c 0)) : c = F.zero := by
 have := congrFun (Dom.Dv.small F (lin_dg r) h (const_sh c)) 0
 simpa [Dom.mon1, Dom.ser] using this
theorem lin_x (r : α) : Eqv F (lin F r) (xx F) (F.mon1 r 0) := by
 show F.Dv (lin F r) (F.ser.add (xx F) (F.ser.neg (F.mon1 r 0)))
 have e : F.ser.neg (F.mon1 r 0) = F.mon1 (F.neg r) 0 := by
  funext i
  show F.neg (if i = 0 then r else F.zero) = if i = 0 then F.neg r else F.zero
  split
  ·rfl
  ·exact Dom.neg_zero _
 rw [e]
 exact Dom.Dv.self F _
def lins (F : Dom α) (c : Nat -> α) : Nat -> Nat -> α
 | 0 => F.ser.one
 | j + 1 => F.ser.mul (lins F c j) (lin F (c j))
theorem lins_dg (c : Nat -> α) : ∀ j, F.Dg (lins F c j) j
 | 0 => ⟨Dom.one_sh F, by show (if 0 = 0 then F.one else F.zero) ≠ F.zero; rw [if_pos rfl]; exact F.one_ne⟩
 | j + 1 => Dom.Dg.mul F (lins_dg c j) (lin_dg (c j))
theorem lins_dv (c : Nat -> α) {i : Nat} : ∀ j, i < j -> F.Dv (lin F (c i)) (lins F c j)
 | 0, h => by omega
 | j + 1, h => by
   by_cases e : i = j
   ·subst e
    exact ⟨_, Dom.Dg.pl F (lins_dg c i), rfl⟩
   ·have h1 := lins_dv c (i := i) j (by omega)
    show F.Dv _ (F.ser.mul (lins F c j) (lin F (c j)))
    rw [F.ser.mul_comm]
    exact Dom.Dv.mul F h1 (Dom.Dg.pl F (lin_dg (c j)))
theorem lins_front (c : Nat -> α) : ∀ j, lins F c (j + 1) = F.ser.mul (lin F (c 0)) (lins F (fun i => c (i + 1)) j)
 | 0 => by
   show F.ser.mul F.ser.one (lin F (c 0)) = F.ser.mul (lin F (c 0)) F.ser.one
   rw [F.ser.mul_comm]
 | j + 1 => by
   show F.ser.mul (lins F c (j + 1)) (lin F (c (j + 1))) = F.ser.mul (lin F (c 0)) (F.ser.mul (lins F (fun i => c (i + 1)) j) (lin F (c (j + 1))))
   rw [lins_front c j, F.ser.mul_assoc]
theorem lins_turn (c : Nat -> α) {t : Nat} (h : c t = c 0) : lins F (fun i => c (i + 1)) t = lins F c t := by
 have h1 := lins_front (F := F) c t
 have h2 : lins F c (t + 1) = F.ser.mul (lins F c t) (lin F (c t)) := rfl
 rw [h2, h, F.ser.mul_comm] at h1
 exact (F.ser.mul_left_cancel (Dom.Dg.ne F (lin_dg (c 0))) h1).symm
theorem Hm.on_lin {σ : α -> α} (h : Hm F F σ) (r : α) : h.on (lin F r) = lin F (σ r) := by
 unfold lin xx
 rw [h.on_add, h.on_mon1, h.on_mon1, h.one, h.neg]
theorem Hm.on_lins {σ : α -> α} (h : Hm F F σ) (c : Nat -> α) : ∀ j, h.on (lins F c j) = lins F (fun i => σ (c i)) j
 | 0 => h.on_one
 | j + 1 => by
   show h.on (F.ser.mul (lins F c j) (lin F (c j))) = F.ser.mul (lins F (fun i => σ (c i)) j) (lin F (σ (c j)))
   rw [h.on_mul, Hm.on_lins h c j, h.on_lin]
theorem orbit_fixed {σ : α -> α} (h : Hm F F σ) {c : Nat -> α} {t : Nat} (hc : ∀ i, σ (c i) = c (i + 1)) (ht : c t = c 0) : h.on (lins F c t) = lins F c t := by
 rw [h.on_lins]
 have : (fun i => σ (c i)) = fun i => c (i + 1) := funext hc
 rw [this]
 exact lins_turn c ht
end
end FFld
end Go.Proofs.YtdnheaafcbihbaaGreat
namespace Go.Proofs.YtdnheaafcbihbaaGreat
namespace FFld
section
variable {D : FD} (hD : D.Ok)
structure RemW (m : List Nat) (f : Nat -> El (D.p ^ D.k)) (o : List Nat) : Prop where
 lt : ∀ a ∈ o, a < D.p ^ D.k
 tz : Tz o
 len : o.length <= 1000
 eqv : Eqv (FD.dom hD.nzd) (serL hD m) f (serL hD o)
theorem serL_one : serL hD [1] = (FD.dom hD.nzd).ser.one := by
 funext i
 show toE hD.pre.pk (([1] : List Nat)[i]?.getD 0) = if i = 0 then (FD.dom hD.nzd).one else (FD.dom hD.nzd).zero
 match i with
 | 0 => exact toE_one hD
 | i + 1 => exact toE_zero hD
def NoC (l : List Nat) (d : Nat) : Prop := ∀ h e, (FD.dom hD.nzd).Dg h e -> (FD.dom hD.nzd).Dv h (serL hD l) -> Eqv (FD.dom hD.nzd) h ((FD.dom hD.nzd).ser.pow (xx (FD.dom hD.nzd)) ((D.p ^ D.k) ^ d)) (xx (FD.dom hD.nzd)) -> e = 0
def IrrP (l : List Nat) : Prop := 2 <= l.length /\ ∀ d, 1 <= d -> 2 * d <= l.length - 1 -> NoC hD l d
include hD in
include hD in
end
end FFld
end Go.Proofs.YtdnheaafcbihbaaGreat
namespace Go.Proofs.YtdnheaafcbihbaaGreat
namespace FFld
section
variable {α : Type} {F : Dom α}
theorem sm_turn (f : Nat -> α) : ∀ n, F.add (F.sm (fun i => f (i + 1)) n) (f 0) = F.add (F.sm f n) (f n)
 | 0 => rfl
 | n + 1 => by
   show F.add (F.add (F.sm (fun i => f (i + 1)) n) (f (n + 1))) (f 0) = F.add (F.add (F.sm f n) (f n)) (f (n + 1))
   rw [<- sm_turn f n, F.add_assoc, F.add_comm (f (n + 1)), <- F.add_assoc]
theorem sm_turned (f : Nat -> α) {n : Nat} (h : f n = f 0) : F.sm (fun i => f (i + 1)) n = F.sm f n := by
 have := sm_turn (F := F) f n
 rw [h, F.add_comm, F.add_comm (F.sm f n)] at this
 exact F.add_left_cancel this
def pr (F : Dom α) (f : Nat -> α) : Nat -> α
 | 0 => F.one
 | n + 1 => F.mul (pr F f n) (f n)
theorem lins_top (c : Nat -> α) : ∀ j, lins F c j j = F.one
 | 0 => by
   show (if 0 = 0 then F.one else F.zero) = F.one
   rw [if_pos rfl]
 | j + 1 => by
   show F.ser.mul (lins F c j) (lin F (c j)) (j + 1) = F.one
   rw [F.top_mul (lins_dg c j).1 (lin_dg (c j)).1, lins_top c j, F.one_mul]
   show F.add (if 1 = 1 then F.one else F.zero) (if 1 = 0 then F.neg (c j) else F.zero) = F.one
   rw [if_pos rfl, if_neg (by omega), F.add_zero]
end
section
variable {D : FD} (hD : D.Ok)
theorem toE_mk {a : Nat} (ha : a < D.p ^ D.k) : toE hD.pre.pk a = ⟨a, ha⟩ := dif_pos ha
theorem toE_self (x : El (D.p ^ D.k)) : toE hD.pre.pk x.1 = x := dif_pos x.2
theorem toE_pow {a : Nat} (ha : a < D.p ^ D.k) (n : Nat) : toE hD.pre.pk (ppow hD.pre.pk a n) = (FD.dom hD.nzd).pow (toE hD.pre.pk a) n := by
 apply Subtype.ext
 rw [toE_val _ (ppow_lt _ _ _), dom_pow hD.nzd, ppow_of _ _ _ ha, toE_mk hD ha]
def frb (x : El (D.p ^ D.k)) : El (D.p ^ D.k) := (FD.dom hD.nzd).pow x D.p
theorem frb_hm : Hm (FD.dom hD.nzd) (FD.dom hD.nzd) (frb hD) where
 add a b := (dom_chr hD).frob a b
 mul a b := Dom.mul_pow _ a b D.p
 zero := Dom.zero_pow _ hD.pre.pk.p0
 one := Dom.one_pow _ D.p
def cj (a : Nat) (i : Nat) : El (D.p ^ D.k) := toE hD.pre.pk (cjg hD.pre.pk a i)
theorem cj_next {a : Nat} (ha : a < D.p ^ D.k) (i : Nat) : frb hD (cj hD a i) = cj hD a (i + 1) := (toE_pow hD (cjg_lt _ a ha i) D.p).symm
theorem cj_pow {a : Nat} (ha : a < D.p ^ D.k) : ∀ i, cj hD a i = (FD.dom hD.nzd).pow (toE hD.pre.pk a) (D.p ^ i)
 | 0 => by rw [Nat.pow_zero, Dom.pow_one]; rfl
 | i + 1 => by rw [<- cj_next hD ha, cj_pow ha i, Nat.pow_succ, Dom.pow_mul]; rfl
theorem cj_k {a : Nat} (ha : a < D.p ^ D.k) : cj hD a D.k = cj hD a 0 := by
 rw [cj_pow hD ha]
 have := (dom_els hD).pow (toE hD.pre.pk a)
 rw [els_len hD] at this
 exact this
theorem cjg_k {a : Nat} (ha : a < D.p ^ D.k) : cjg hD.pre.pk a D.k = a := toE_inj hD.pre.pk (cjg_lt _ a ha _) ha (cj_k hD ha)
theorem cjg_t {a t : Nat} (ha : a < D.p ^ D.k) (ht : MinT hD.pre.pk a t) : cjg hD.pre.pk a t = a := by
 rcases Nat.lt_or_ge t D.k with h | h
 ·exact ht.2.2.2 h
 ·have : t = D.k := by have := ht.2.1; omega
  rw [this]
  exact cjg_k hD ha
theorem cjg_shift {a i j : Nat} (h : cjg hD.pre.pk a i = cjg hD.pre.pk a j) : ∀ d, cjg hD.pre.pk a (i + d) = cjg hD.pre.pk a (j + d)
 | 0 => h
 | d + 1 => by
   show ppow hD.pre.pk (cjg hD.pre.pk a (i + d)) D.p = ppow hD.pre.pk (cjg hD.pre.pk a (j + d)) D.p
   rw [cjg_shift h d]
theorem cjg_ne {a t : Nat} (ha : a < D.p ^ D.k) (ht : MinT hD.pre.pk a t) {i j : Nat} (hij : i < j) (hj : j < t) : cjg hD.pre.pk a i ≠ cjg hD.pre.pk a j := fun e => by
 have := cjg_shift hD e (t - j)
 rw [show j + (t - j) = t by omega, cjg_t hD ha ht] at this
 exact ht.2.2.1 _ (by omega) (by omega) this
theorem cjg_per {a t : Nat} (ha : a < D.p ^ D.k) (ht : MinT hD.pre.pk a t) (r : Nat) : ∀ n, cjg hD.pre.pk a (t * n + r) = cjg hD.pre.pk a r
 | 0 => by rw [Nat.mul_zero, Nat.zero_add]
 | n + 1 => by
   have h0 : cjg hD.pre.pk a t = cjg hD.pre.pk a 0 := cjg_t hD ha ht
   have := cjg_shift hD h0 (t * n + r)
   rw [Nat.zero_add, cjg_per ha ht r n] at this
   rw [Nat.mul_succ, <- this]
   congr 1
   omega
theorem small_frb {a : Nat} (ha : a < D.p) : frb hD (toE hD.pre.pk a) = toE hD.pre.pk a := by
 have hk := hD.pre.pk
 show (FD.dom hD.nzd).pow (toE hD.pre.pk a) D.p = _
 rw [<- toE_pow hD (small_lt hk ha), ppow_small hk a ha, fermat_nat hD.pre.prime hD.p6 a ha]
theorem frb_small {x : El (D.p ^ D.k)} (h : frb hD x = x) : x.1 < D.p := by
 have hk := hD.pre.pk
 have hp2 := hk.p2
 apply Classical.byContradiction
 intro hge
 have one : ∀ r : El (D.p ^ D.k), frb hD r = r -> r ≠ (FD.dom hD.nzd).zero -> (FD.dom hD.nzd).pow r (D.p - 1) = (FD.dom hD.nzd).one := fun r hr h0 => by
  have e : (FD.dom hD.nzd).pow r (D.p - 1 + 1) = r := by rw [Nat.sub_add_cancel (by omega)]; exact hr
  rw [Dom.pow_succ, Dom.mul_comm] at e
  exact Dom.mul_left_cancel _ h0 (by rw [e, Dom.mul_one])
 have hz : ∀ c, 1 <= c -> c < D.p -> toE hk c ≠ (FD.dom hD.nzd).zero := fun c h1 h2 e => by
  rw [<- toE_zero hD] at e
  have := toE_inj hk (small_lt hk h2) (Nat.pow_pos hk.p0) e
  omega
 let R : List (El (D.p ^ D.k)) := x :: (List.range (D.p - 1)).map (fun i => toE hk (i + 1))
 have hR : R.Nodup := by
  refine List.nodup_cons.2 ⟨fun hm => ?_, nodup_map_on List.nodup_range (fun i hi j hj e => ?_)⟩
  ·obtain ⟨i, hi, e⟩ := List.mem_map.1 hm
   have hi' := List.mem_range.1 hi
   have := congrArg Subtype.val e
   rw [toE_val _ (small_lt hk (by omega))] at this
   omega
  ·have hi' := List.mem_range.1 hi
   have hj' := List.mem_range.1 hj
   have := toE_inj hk (small_lt hk (by omega)) (small_lt hk (by omega)) e
   omega
 have hl := Dom.roots_pow (FD.dom hD.nzd) (n := D.p - 1) (by omega) R hR (fun r hr => by
  rcases List.mem_cons.1 hr with rfl | hr
  ·refine one _ h (fun e => ?_)
   rw [e] at hge
   have h0 : ((FD.dom hD.nzd).zero : El (D.p ^ D.k)).1 = 0 := (congrArg Subtype.val (toE_zero hD)).symm.trans (toE_val _ (Nat.pow_pos hk.p0))
   omega
  ·obtain ⟨i, hi, rfl⟩ := List.mem_map.1 hr
   have hi' := List.mem_range.1 hi
   exact one _ (small_frb hD (by omega)) (hz _ (by omega) (by omega)))
 have : R.length = D.p := by
  show (x :: _).length = _
  rw [List.length_cons, List.length_map, List.length_range]
  omega
 omega
theorem of_frb {a : Nat} (ha : a < D.p ^ D.k) (h : frb hD (toE hD.pre.pk a) = toE hD.pre.pk a) : a < D.p := by
 have := frb_small hD h
 rw [toE_val _ ha] at this
 exact this
include hD in
theorem add_small {a b : Nat} (ha : a < D.p) (hb : b < D.p) : padd D.p D.k a b = (a + b) % D.p := by
 have hk := hD.pre.pk
 apply toE_inj hk (padd_lt hk _ _) (small_lt hk (Nat.mod_lt _ hk.p0))
 have ea : ∀ {c : Nat}, c < D.p -> toE hk c = (FD.dom hD.nzd).nm c := fun {c} hc => by rw [<- nm_toE hD c, Nat.mod_eq_of_lt hc]
 rw [toE_add hD (small_lt hk ha) (small_lt hk hb), ea ha, ea hb, nm_toE hD, Dom.nm_add]
include hD in
theorem mul_small {a b : Nat} (ha : a < D.p) (hb : b < D.p) : pmul D.p D.k D.m a D.k b = a * b % D.p := by
 have hk := hD.pre.pk
 rw [pmul_small hk a b (small_lt hk ha) hb, pscl_small hk a b ha]
theorem trace_sm {a : Nat} (ha : a < D.p ^ D.k) : ∀ i, toE hD.pre.pk (cjf hD.pre.pk a (fun t c => padd D.p D.k t c) 0 i) = (FD.dom hD.nzd).sm (cj hD a) i
 | 0 => toE_zero hD
 | i + 1 => by
   have hk := hD.pre.pk
   have h1 : cjf hD.pre.pk a (fun t c => padd D.p D.k t c) 0 i < D.p ^ D.k := by
    cases i with
    | zero => exact Nat.pow_pos hk.p0
    | succ i => exact padd_lt hk _ _
   show toE hD.pre.pk (padd D.p D.k _ _) = (FD.dom hD.nzd).add _ _
   rw [toE_add hD h1 (cjg_lt _ a ha i), trace_sm ha i]
   rfl
theorem cjf_add_lt (a i : Nat) : cjf hD.pre.pk a (fun t c => padd D.p D.k t c) 0 i < D.p ^ D.k := by
 cases i with
 | zero => exact Nat.pow_pos hD.pre.pk.p0
 | succ i => exact padd_lt hD.pre.pk _ _
theorem trace_small {a : Nat} (ha : a < D.p ^ D.k) : cjf hD.pre.pk a (fun t c => padd D.p D.k t c) 0 D.k < D.p := by
 refine of_frb hD (cjf_add_lt hD a _) ?_
 rw [trace_sm hD ha, (frb_hm hD).sm]
 have e : (fun i => frb hD (cj hD a i)) = fun i => cj hD a (i + 1) := funext fun i => cj_next hD ha i
 rw [e]
 exact sm_turned _ (cj_k hD ha)
theorem serL_lin {c : Nat} (hc : c < D.p ^ D.k) : serL hD [pscl D.p D.k (D.p - 1) c, 1] = lin (FD.dom hD.nzd) (toE hD.pre.pk c) := by
 funext i
 show toE hD.pre.pk (([pscl D.p D.k (D.p - 1) c, 1] : List Nat)[i]?.getD 0) = (FD.dom hD.nzd).add (if i = 1 then (FD.dom hD.nzd).one else (FD.dom hD.nzd).zero) (if i = 0 then (FD.dom hD.nzd).neg (toE hD.pre.pk c) else (FD.dom hD.nzd).zero)
 match i with
 | 0 =>
   rw [if_neg (by omega), if_pos rfl, Dom.zero_add]
   exact toE_neg hD hc
 | 1 =>
   rw [if_pos rfl, if_neg (by omega), Dom.add_zero]
   exact toE_one hD
 | i + 2 =>
   rw [if_neg (by omega), if_neg (by omega), Dom.add_zero]
   exact toE_zero hD
theorem minF_ser {a : Nat} (ha : a < D.p ^ D.k) : ∀ i, serL hD (minF D hD.pre.pk a i) = lins (FD.dom hD.nzd) (cj hD a) i
 | 0 => serL_one hD
 | i + 1 => by
   show serL hD (mulL D (minF D hD.pre.pk a i) [pscl D.p D.k (D.p - 1) (cjg hD.pre.pk a i), 1]) = (FD.dom hD.nzd).ser.mul (lins (FD.dom hD.nzd) (cj hD a) i) (lin (FD.dom hD.nzd) (cj hD a i))
   rw [serL_mulL hD (minF_lt _ _ _) (two_lt hD.pre.pk (pscl_lt hD.pre.pk _ _)), serL_lin hD (cjg_lt _ a ha i), minF_ser ha i]
   rfl
theorem minF_top {a : Nat} (ha : a < D.p ^ D.k) (t : Nat) : (minF D hD.pre.pk a t)[t]?.getD 0 = 1 := by
 have hk := hD.pre.pk
 apply toE_inj hk (getD_lt (Nat.pow_pos hk.p0) (minF_lt hk a t) t) hk.one_lt
 have := congrFun (minF_ser hD ha t) t
 rw [lins_top] at this
 exact this.trans (toE_one hD).symm
theorem minF_small {a t : Nat} (ha : a < D.p ^ D.k) (ht : MinT hD.pre.pk a t) : ∀ x ∈ minF D hD.pre.pk a t, x < D.p := fun x hx => by
 obtain ⟨j, hj, e⟩ := List.mem_iff_getElem.1 hx
 have h1 := orbit_fixed (frb_hm hD) (c := cj hD a) (t := t) (fun i => cj_next hD ha i) (congrArg (toE hD.pre.pk) (cjg_t hD ha ht))
 rw [<- minF_ser hD ha] at h1
 have h2 := congrFun h1 j
 have h3 : serL hD (minF D hD.pre.pk a t) j = toE hD.pre.pk x := by
  show toE hD.pre.pk ((minF D hD.pre.pk a t)[j]?.getD 0) = _
  rw [List.getElem?_eq_getElem hj, e]
  rfl
 have h4 : frb hD (serL hD (minF D hD.pre.pk a t) j) = serL hD (minF D hD.pre.pk a t) j := h2
 rw [h3] at h4
 exact of_frb hD (minF_lt hD.pre.pk a t x hx) h4
theorem horn_eqv {l : List Nat} (hl : ∀ a ∈ l, a < D.p ^ D.k) {z : Nat} (hz : z < D.p ^ D.k) : ∀ i, i <= l.length -> Eqv (FD.dom hD.nzd) (lin (FD.dom hD.nzd) (toE hD.pre.pk z)) (serL hD (l.drop (l.length - i))) ((FD.dom hD.nzd).mon1 (toE hD.pre.pk (hornF D l z i)) 0)
 | 0, _ => by
   have e1 : serL hD (l.drop (l.length - 0)) = (FD.dom hD.nzd).ser.zero := serL_nil hD (by simp)
   have e2 : (FD.dom hD.nzd).mon1 (toE hD.pre.pk (hornF D l z 0)) 0 = (FD.dom hD.nzd).ser.zero := by
    show (FD.dom hD.nzd).mon1 (toE hD.pre.pk 0) 0 = _
    rw [toE_zero hD]
    exact emb_ser.zero
   rw [e1, e2]
   exact Eqv.refl _
 | i + 1, hi => by
   have hk := hD.pre.pk
   have h1 := horn_eqv hl hz i (by omega)
   have hc : l[l.length - 1 - i]?.getD 0 < D.p ^ D.k := getD_lt (Nat.pow_pos hk.p0) hl _
   have hdr : ∀ j, serL hD (l.drop (l.length - (i + 1))) (j + 1) = serL hD (l.drop (l.length - i)) j := fun j => by
    show toE hk ((l.drop (l.length - (i + 1)))[j + 1]?.getD 0) = toE hk ((l.drop (l.length - i))[j]?.getD 0)
    rw [List.getElem?_drop, List.getElem?_drop]
    congr 3
    omega
   have h0 : serL hD (l.drop (l.length - (i + 1))) 0 = toE hk (l[l.length - 1 - i]?.getD 0) := by
    show toE hk ((l.drop (l.length - (i + 1)))[0]?.getD 0) = _
    rw [List.getElem?_drop]
    congr 3
    omega
   have er : (FD.dom hD.nzd).mon1 (toE hk (hornF D l z (i + 1))) 0 = (FD.dom hD.nzd).ser.add ((FD.dom hD.nzd).mon1 (toE hk (l[l.length - 1 - i]?.getD 0)) 0) ((FD.dom hD.nzd).ser.mul ((FD.dom hD.nzd).mon1 (toE hk z) 0) ((FD.dom hD.nzd).mon1 (toE hk (hornF D l z i)) 0)) := by
    have e1 : toE hk (hornF D l z (i + 1)) = (FD.dom hD.nzd).add (toE hk (l[l.length - 1 - i]?.getD 0)) ((FD.dom hD.nzd).mul (toE hk z) (toE hk (hornF D l z i))) := by
     show toE hk (padd D.p D.k (pmul D.p D.k D.m (hornF D l z i) D.k z) (l[l.length - 1 - i]?.getD 0)) = _
     rw [toE_add hD (pmul_lt hk _ _ _) hc, toE_mul hD (hornF_lt hk l z i) hz, Dom.add_comm, Dom.mul_comm]
    rw [e1]
    exact (emb_ser.add _ _).trans (congrArg _ (emb_ser.mul _ _))
   have el : serL hD (l.drop (l.length - (i + 1))) = (FD.dom hD.nzd).ser.add ((FD.dom hD.nzd).mon1 (toE hk (l[l.length - 1 - i]?.getD 0)) 0) ((FD.dom hD.nzd).ser.mul (xx (FD.dom hD.nzd)) (serL hD (l.drop (l.length - i)))) := by
    have := split_x (F := FD.dom hD.nzd) (serL hD (l.drop (l.length - (i + 1))))
    rw [h0, funext hdr] at this
    exact this
   rw [el, er]
   exact Eqv.add (Eqv.refl _) (Eqv.mul (serL_pl hD _) (const_pl _) (lin_x _) h1)
theorem horn_root {l : List Nat} (hl : ∀ a ∈ l, a < D.p ^ D.k) {z : Nat} (hz : z < D.p ^ D.k) (h : (FD.dom hD.nzd).Dv (lin (FD.dom hD.nzd) (toE hD.pre.pk z)) (serL hD l)) : hornF D l z l.length = 0 := by
 have h1 := horn_eqv hD hl hz l.length (Nat.le_refl _)
 rw [Nat.sub_self, List.drop_zero] at h1
 have h2 := const_zero (Eqv.dv h1 (Dom.Dv.self _ _) h)
 rw [<- toE_zero hD] at h2
 exact toE_inj hD.pre.pk (hornF_lt hD.pre.pk _ _ _) (Nat.pow_pos hD.pre.pk.p0) h2
theorem min_root {a t : Nat} (ha : a < D.p ^ D.k) (ht : MinT hD.pre.pk a t) (i : Nat) : hornF D (minF D hD.pre.pk a t) (cjg hD.pre.pk a i) (minF D hD.pre.pk a t).length = 0 := by
 refine horn_root hD (minF_lt hD.pre.pk a t) (cjg_lt _ a ha i) ?_
 have h1 := ht.1
 have e := cjg_per hD ha ht (i % t) (i / t)
 rw [Nat.div_add_mod] at e
 rw [e, minF_ser hD ha]
 exact lins_dv (cj hD a) t (Nat.mod_lt _ (by omega))
end
end FFld
end Go.Proofs.YtdnheaafcbihbaaGreat
namespace Go.Proofs.YtdnheaafcbihbaaGreat
open Go Go.RowKit Go.Deep
open FFld (ints)
def mkP (D : FFld.FD) (ts ss : List Nat) (i : Nat) : Bool := (List.range i).all fun j => decide (j < ts.length \/ FFld.difF D (1 :: ts) ss j (ts.length + 1) = 0)
theorem mkP_next (D : FFld.FD) (ts ss : List Nat) (i : Nat) : mkP D ts ss (i + 1) = (mkP D ts ss i && decide (i < ts.length \/ FFld.difF D (1 :: ts) ss i (ts.length + 1) = 0)) := by
 unfold mkP
 rw [List.range_succ, List.all_append]
 simp
theorem mkP_start (D : FFld.FD) (ts ss : List Nat) {i : Nat} (h : i <= ts.length) : mkP D ts ss i = true := by
 unfold mkP
 rw [List.all_eq_true]
 intro j hj
 rw [List.mem_range] at hj
 exact decide_eq_true (.inl (by omega))
theorem mkP_no {D : FFld.FD} {ts ss : List Nat} {i n : Nat} (hi : i < n) (ht : ts.length <= i) (h : FFld.difF D (1 :: ts) ss i (ts.length + 1) ≠ 0) : mkP D ts ss n = false := by
 cases e : mkP D ts ss n with
 | false => rfl
 | true =>
   unfold mkP at e
   rw [List.all_eq_true] at e
   have := of_decide_eq_true (e i (List.mem_range.2 hi))
   rcases this with h1 | h1
   ·omega
   ·exact absurd h1 h
open Classical in
noncomputable def mkE (o : Int) (ts ss : List Int) : Nat := if FFld.Fit o then (if 200 < ss.length then 2 else if belB o ss = false then 1 else if ss.length < ts.length then 1 else if belB o ts = false then 1 else 0) else 20
set_option maxRecDepth 20000 in
theorem cmakes_ok {D : FFld.FD} (hD : D.Ok) (at_ as_ : Option Addr) (ct cs nt ns : Nat) (ts ss : List Nat) (w : World) (ht : Sl .i64 w (.slice at_ nt ct) (ints ts)) (hs : Sl .i64 w (.slice as_ ns cs) (ints ss)) (lt : ts.length = nt) (ls : ss.length = ns) (htq : ∀ a ∈ ts, a < D.p ^ D.k) (hsq : ∀ a ∈ ss, a < D.p ^ D.k) (hn : ns <= 200) (hle : nt <= ns) :
 Calls Tryz.prog 60 #[.int .i64 D.q, .slice at_ nt ct, .slice as_ ns cs] w (RB w (.tuple #[.bool (mkP D ts ss ns), .int .i64 0])) := by
 have hq6 : D.p ^ D.k <= 65536 := hD.pre.small
 have hq0 : D.q = D.p ^ D.k := rfl
 have hq1 := hD.pre.pk.one_lt
 have hse : seqE (D.q : Int) (ints ss) = 0 := by
  unfold seqE
  rw [if_pos ⟨D, hD, rfl⟩, if_neg (by rw [FFld.ints_len]; omega), if_neg (by rw [bel_ints hsq]; simp)]
 have hsc := ccheckSeq_any (D.q : Int) as_ cs (ints ss) w (by rw [FFld.ints_len, ls]; exact hs) (by omega) (by omega)
 rw [hse, FFld.ints_len, ls] at hsc
 have HSC : Kept (Calls Tryz.prog 125 #[.int .i64 D.q, .slice as_ ns cs] w (RB w (.int .i64 0))) := ⟨hsc⟩
 have HB1 : Kept (∀ W, Below w.heap.size w W -> Calls Tryz.prog 85 #[.int .i64 D.q, .slice at_ nt ct] W (fun e w' => W = w' /\ e = .returned (.bool true))) := ⟨fun W hW => by
  have h := careBelow_any (D.q : Int) _ (ints ts) W (ht.below hW)
  rw [bel_ints htq] at h
  exact h⟩
 have HNW := Kept.mk (fun W => fnew_any (D.q : Int) W (by omega) (by omega))
 have HDI : Kept (∀ W b ar cr i, FldB D W b -> Sl .i64 W (.slice ar (nt + 1) cr) (ints (1 :: ts)) -> Below w.heap.size w W -> nt <= i -> i < ns -> Calls Tryz.prog 126 #[.pointer (some ⟨b, 0, none⟩), .slice ar (nt + 1) cr, .slice as_ ns cs, .int .i64 i] W (RB W (.int .i64 (FFld.difF D (1 :: ts) ss i (nt + 1) : Nat)))) := ⟨fun W b ar cr i hf hr hW h1 h2 => by
  have h := cdifference_any hD ar as_ cr cs i (1 :: ts) ss W hf (by rw [List.length_cons, lt]; exact hr) (by rw [ls]; exact hs.below hW) (fun a ha => by
   rcases List.mem_cons.1 ha with rfl | ha
   ·exact hq1
   ·exact htq a ha) hsq (by rw [List.length_cons]; omega) (by omega) (by omega)
  rw [List.length_cons, lt, ls] at h
  exact h⟩
 have HT := Kept.mk ht
 have HLT := Kept.mk lt
 have HD := Kept.mk hD
 have g1 : decide ((ns : Int) < (nt : Int)) = false := decide_eq_false (by omega)
 obtain ⟨q, hq⟩ : ∃ q, D.q = q := ⟨_, rfl⟩
 rw [hq] at HSC HNW HB1 ⊢
 have HQ := Kept.mk hq
 clear ht hs lt ls htq hsq hse hsc hq hq0 hq1
 go_enter Tryz.func60, Tryz.ntmps60
 go_wp2_with fail
 (with_reducible refine HSC.out.mono ?_)
 rintro e w1 ⟨hb1, rfl⟩
 have HW1 := Kept.mk hb1
 clear hb1 HSC
 go_wp2_with fail
 (with_reducible refine (HB1.out _ HW1.out).mono ?_)
 rintro e w2 ⟨rfl, rfl⟩
 go_wp2_with fail
 (with_reducible refine (HNW.out _).mono ?_)
 rintro e w2 ⟨hb2, ⟨D', b, hq', hle', rfl, hf⟩ | ⟨hno, rfl⟩⟩
 ·obtain rfl : D' = D := FFld.FD.uniq hf.ok HD.out (by have := HQ.out; omega)
  have HW2 := Kept.mk (bstep HW1.out hb2)
  have hal : Below w2.heap.size w2 (w2.alloc (.cells #[.int .i64 1] 3)) := (Below.refl _ _).alloc (Nat.le_refl _) _
  have HM : Kept (Mine 3 .i64 w2.heap.size (w2.alloc (.cells #[.int .i64 1] 3)) (.slice (some ⟨w2.heap.size, 0, none⟩) 1 1) [(1 : Int)]) := ⟨crow_mine (Row.new (E := 3) (K := .i64) w2 [(1 : Int)]) rfl (by unfold maxLen; omega) (Nat.le_refl _)⟩
  have HF2 := Kept.mk hf
  have HTA := Kept.mk (HT.out.below (bstep HW2.out hal))
  have HBA := Kept.mk (show w2.heap.size <= (w2.alloc (.cells #[.int .i64 1] 3)).heap.size by simp)
  have H1 := Kept.mk (show (([1] : List Int).length + (ints ts).length) * 8 <= 140737488355328 by rw [FFld.ints_len, HLT.out]; simp; omega)
  have H2 := Kept.mk (show ([1] : List Int).length + (ints ts).length <= maxLen by rw [FFld.ints_len, HLT.out]; unfold maxLen; simp; omega)
  have HAL := Kept.mk hal
  clear hb2 hf hq' hle' hal HB1 HNW
  go_wp2_with (at_builtin; refine wpList_append_sl _ rfl _ _ 22 rfl 3 .i64 8 Tryz.underlying22 info_i64 w2.heap.size _ [(1 : Int)] rfl HM.out HBA.out _ _ rfl HTA.out H1.out H2.out ?_)
  intro v' w5 hm5 hg5
  obtain ⟨ar, cr, rfl, _, _⟩ := hm5.sl.form
  have hl5 : ((1 : Int) :: ints ts).length = nt + 1 := by rw [List.length_cons, FFld.ints_len, HLT.out]
  rw [hl5] at hm5 ⊢
  have hb5 : Below w2.heap.size w2 w5 := HAL.out.grown hg5 HBA.out (fun j hj => by simp [Value.ownBlock] at hj; omega)
  have HR5 : Kept (Sl .i64 w5 (.slice ar (nt + 1) cr) (ints (1 :: ts))) := ⟨hm5.sl⟩
  have HF5 := Kept.mk (HF2.out.below hb5)
  have HW5 := Kept.mk (bstep HW2.out hb5)
  clear hm5 hg5 hl5 hb5 HM HTA HBA H1 H2 HAL HF2 HW2
  go_wp2
  go_loopw [12] (fun iv wr => ∃ (i : Nat), nt <= i /\ i <= ns /\ iv = .int .i64 i /\ Kept (mkP D' ts ss i = true) /\ Kept (Below w5.heap.size w5 wr)) (fun iv _ => ns - (intOf iv).toNat)
  case atStart => exact ⟨nt, Nat.le_refl _, hle, rfl, ⟨mkP_start _ _ _ (by rw [HLT.out]; exact Nat.le_refl _)⟩, ⟨Below.refl _ _⟩⟩
  case round =>
   obtain ⟨i, hti, hin, rfl, hat, hbq⟩ := hrel
   by_cases hlt : i < ns
   ·obtain ⟨d, hd⟩ : ∃ d, FFld.difF D' (1 :: ts) ss i (nt + 1) = d := ⟨_, rfl⟩
    have HDC := Kept.mk (HDI.out wr b ar cr i (HF5.out.below hbq.out) (HR5.out.below hbq.out) (bstep HW5.out hbq.out) hti hlt)
    rw [hd] at HDC
    by_cases hd0 : d = 0
    ·have HN : Kept (mkP D' ts ss (i + 1) = true) := ⟨by rw [mkP_next, hat.out, HLT.out, hd, hd0]; simp⟩
     subst hd0
     clear hd
     go_wp2_with fail
     (with_reducible refine HDC.out.mono ?_)
     rintro e w6 ⟨hb6, rfl⟩
     have HB6 := Kept.mk (bstep hbq.out hb6)
     clear hb6
     go_wp2
     go_roundw
     case rel => exact ⟨i + 1, by omega, by omega, by go_num, HN, HB6⟩
     case measure => simp [intOf] <;> omega
    ·have HN : Kept (mkP D' ts ss ns = false) := ⟨mkP_no hlt (by rw [HLT.out]; exact hti) (by rw [HLT.out, hd]; exact hd0)⟩
     have e0 : ((d : Int) != 0) = true := by rw [bne_iff_ne]; omega
     have e1 : ((d : Int) == 0) = false := by rw [beq_eq_false_iff_ne]; omega
     clear hd hd0
     go_wp2_with fail
     (with_reducible refine HDC.out.mono ?_)
     rintro e w6 ⟨hb6, rfl⟩
     have HB6 := Kept.mk (bstep HW5.out (bstep hbq.out hb6))
     clear hb6
     go_wp2
     exact bodyPost_ret (v := .tuple #[.bool false, .int .i64 0]) (by simp [results, Tryz.results60, go_sem]) rfl ⟨HB6.out, by rw [HN.out]⟩
   ·obtain rfl : i = ns := by omega
    have HB6 := Kept.mk (bstep HW5.out hbq.out)
    go_wp2
    exact bodyPost_ret (v := .tuple #[.bool true, .int .i64 0]) (by simp [results, Tryz.results60, go_sem]) rfl ⟨HB6.out, by rw [hat.out]⟩
 ·exact absurd ⟨D, HD.out, by have := HQ.out; omega⟩ hno
end Go.Proofs.YtdnheaafcbihbaaGreat
namespace Go.Proofs.YtdnheaafcbihbaaGreat
namespace FFld
section
variable {D : FD} (hD : D.Ok)
include hD
theorem serL_padF (p : List Nat) (n : Nat) : serL hD (padF p n) = serL hD p := funext fun i => by
 unfold serL
 rw [padF_get]
theorem serL_plusF {p q : List Nat} {c s : Nat} (hp : ∀ a ∈ p, a < D.p ^ D.k) (hq : ∀ a ∈ q, a < D.p ^ D.k) (hc : c < D.p ^ D.k) : serL hD (plusF D p q c s) = (FD.dom hD.nzd).ser.add (serL hD p) ((FD.dom hD.nzd).ser.mul ((FD.dom hD.nzd).mon1 (toE hD.pre.pk c) s) (serL hD q)) := by
 unfold plusF
 rw [serL_trm, serL_addm hD (padF_lt (Nat.pow_pos hD.pre.pk.p0) hp _) hq hc (by rw [padF_len (by omega)]; omega), serL_padF]
theorem dif_sm {c s : List Nat} (hc : ∀ a ∈ c, a < D.p ^ D.k) (hs : ∀ a ∈ s, a < D.p ^ D.k) (i : Nat) : ∀ n, toE hD.pre.pk (difF D c s i n) = (FD.dom hD.nzd).sm (fun t => (FD.dom hD.nzd).mul (serL hD c t) (serL hD s (i - t))) n
 | 0 => toE_zero hD
 | n + 1 => by
   have h0 := Nat.pow_pos (n := D.k) hD.pre.pk.p0
   rw [difF, toE_add hD (difF_lt hD.pre.pk _ _ _ _) (pmul_lt hD.pre.pk _ _ _), dif_sm hc hs i n, toE_mul hD (getD_lt h0 hc _) (getD_lt h0 hs _)]
   rfl
theorem dif_ser {c s : List Nat} (hc : ∀ a ∈ c, a < D.p ^ D.k) (hs : ∀ a ∈ s, a < D.p ^ D.k) {i n : Nat} (hn : n <= i + 1) (hl : c.length <= n) : toE hD.pre.pk (difF D c s i n) = (FD.dom hD.nzd).ser.mul (serL hD c) (serL hD s) i := by
 rw [dif_sm hD hc hs]
 have h := (FD.dom hD.nzd).sm_ext (fun t => (FD.dom hD.nzd).mul (serL hD c t) (serL hD s (i - t))) n (fun j hj => by rw [serL_sh hD c j (by omega), Dom.zero_mul]) (i + 1 - n)
 rw [show n + (i + 1 - n) = i + 1 by omega] at h
 exact h.symm
theorem toE_null {a : Nat} (ha : a < D.p ^ D.k) : toE hD.pre.pk a = (FD.dom hD.nzd).zero ↔ a = 0 := by
 constructor
 ·intro h
  rw [<- toE_zero hD] at h
  exact toE_inj hD.pre.pk ha (Nat.pow_pos hD.pre.pk.p0) h
 ·rintro rfl
  exact toE_zero hD
structure BmTrue (s : List Nat) (i : Nat) (st : Bm) : Prop where
 a : ∀ j, st.len <= j -> j < i -> (FD.dom hD.nzd).ser.mul (serL hD st.reg) (serL hD s) j = (FD.dom hD.nzd).zero
 r0 : st.reg[0]?.getD 0 = 1
 b : ∀ r : Nat, st.since = r -> (∀ j, r + 1 <= j + st.len -> j < r -> (FD.dom hD.nzd).ser.mul (serL hD st.old) (serL hD s) j = (FD.dom hD.nzd).zero) /\ (FD.dom hD.nzd).ser.mul (serL hD st.old) (serL hD s) r = toE hD.pre.pk st.last
 c : st.since = -1 -> st.len = 0
theorem bm_d {s : List Nat} {i : Nat} {st : Bm} (hs : ∀ a ∈ s, a < D.p ^ D.k) (ho : BmOk D i st) : toE hD.pre.pk (bmD D s i st) = (FD.dom hD.nzd).ser.mul (serL hD st.reg) (serL hD s) i :=
 dif_ser hD ho.rq hs (by have := ho.rl; have := ho.li; omega) (Nat.le_refl _)
def bmC (D : FD) (h : PK D.p D.k D.m) (s : List Nat) (i : Nat) (st : Bm) : Nat := padd D.p D.k 0 (pscl D.p D.k (D.p - 1) (pmul D.p D.k D.m (bmD D s i st) D.k (ppow h st.last (D.q - 2))))
theorem bm_c {s : List Nat} {i : Nat} {st : Bm} (ho : BmOk D i st) : (FD.dom hD.nzd).add (toE hD.pre.pk (bmD D s i st)) ((FD.dom hD.nzd).mul (toE hD.pre.pk (bmC D hD.pre.pk s i st)) (toE hD.pre.pk st.last)) = (FD.dom hD.nzd).zero := by
 have hd : bmD D s i st < D.p ^ D.k := difF_lt hD.pre.pk _ _ _ _
 have h0 := Nat.pow_pos (n := D.k) hD.pre.pk.p0
 unfold bmC
 rw [toE_add hD h0 (pscl_lt hD.pre.pk _ _), toE_zero hD, Dom.zero_add, toE_neg hD (pmul_lt hD.pre.pk _ _ _), toE_mul hD hd (ppow_lt hD.pre.pk _ _)]
 have hi : (FD.dom hD.nzd).mul (toE hD.pre.pk (ppow hD.pre.pk st.last (D.q - 2))) (toE hD.pre.pk st.last) = (FD.dom hD.nzd).one := inv_ev hD (xs := []) (fun a ha => by cases ha) ho.ls ho.l0
 rw [Dom.mul_comm (FD.dom hD.nzd) ((FD.dom hD.nzd).neg _), Dom.mul_neg, Dom.mul_comm (FD.dom hD.nzd) (toE hD.pre.pk st.last), Dom.mul_assoc, hi, Dom.mul_one, Dom.add_neg]
theorem BmTrue.step {s : List Nat} {i : Nat} {st : Bm} (hs : ∀ a ∈ s, a < D.p ^ D.k) (ho : BmOk D i st) (ht : BmTrue hD s i st) : BmTrue hD s (i + 1) (bmStep D hD.pre.pk s i st) := by
 have hd := bm_d hD hs ho
 have h0 := Nat.pow_pos (n := D.k) hD.pre.pk.p0
 have h1 := ho.s0
 have h2 := ho.s1
 have h3 := ho.li
 unfold bmStep
 split
 ·rename_i hz
  refine ⟨fun j h4 h5 => ?_, ht.r0, ht.b, ht.c⟩
  by_cases e : j = i
  ·subst e
   rw [hz, toE_zero hD] at hd
   exact hd.symm
  ·exact ht.a j h4 (by omega)
 ·rename_i hz
  have hcl : bmC D hD.pre.pk s i st < D.p ^ D.k := padd_lt hD.pre.pk _ _
  have hR : serL hD (bmR D hD.pre.pk s i st) = (FD.dom hD.nzd).ser.add (serL hD st.reg) ((FD.dom hD.nzd).ser.mul ((FD.dom hD.nzd).mon1 (toE hD.pre.pk (bmC D hD.pre.pk s i st)) ((i : Int) - st.since).toNat) (serL hD st.old)) := serL_plusF hD ho.rq ho.oq hcl
  have hS : ∀ j, (FD.dom hD.nzd).ser.mul (serL hD (bmR D hD.pre.pk s i st)) (serL hD s) j = (FD.dom hD.nzd).add ((FD.dom hD.nzd).ser.mul (serL hD st.reg) (serL hD s) j) (if j < ((i : Int) - st.since).toNat then (FD.dom hD.nzd).zero else (FD.dom hD.nzd).mul (toE hD.pre.pk (bmC D hD.pre.pk s i st)) ((FD.dom hD.nzd).ser.mul (serL hD st.old) (serL hD s) (j - ((i : Int) - st.since).toNat))) := fun j => by
   rw [hR, Dom.add_mul, Dom.mul_assoc, <- mon_mul]
   rfl
  have hA : ∀ L', st.len <= L' -> i + 1 <= L' + st.len -> ∀ j, L' <= j -> j < i + 1 -> (FD.dom hD.nzd).ser.mul (serL hD (bmR D hD.pre.pk s i st)) (serL hD s) j = (FD.dom hD.nzd).zero := fun L' hL1 hL2 j hj1 hj2 => by
   rw [hS j]
   by_cases hr : st.since = -1
   ·have := ht.c hr
    omega
   ·obtain ⟨r, hr2⟩ : ∃ r : Nat, st.since = r := ⟨st.since.toNat, by omega⟩
    obtain ⟨hb1, hb2⟩ := ht.b r hr2
    by_cases e : j = i
    ·subst e
     rw [if_neg (by omega), show j - ((j : Int) - st.since).toNat = r by omega, hb2, <- hd]
     exact bm_c hD ho
    ·rw [ht.a j (by omega) (by omega), Dom.zero_add]
     by_cases hj : j < ((i : Int) - st.since).toNat
     ·rw [if_pos hj]
     ·rw [if_neg hj, hb1 _ (by omega) (by omega), Dom.mul_zero]
  have hR0 : (bmR D hD.pre.pk s i st)[0]?.getD 0 = 1 := by
   have e := congrFun hR 0
   have e2 : (FD.dom hD.nzd).ser.mul ((FD.dom hD.nzd).mon1 (toE hD.pre.pk (bmC D hD.pre.pk s i st)) ((i : Int) - st.since).toNat) (serL hD st.old) 0 = (FD.dom hD.nzd).zero := by rw [mon_mul, if_pos (by omega)]
   have e3 : toE hD.pre.pk ((bmR D hD.pre.pk s i st)[0]?.getD 0) = (FD.dom hD.nzd).add (toE hD.pre.pk (st.reg[0]?.getD 0)) ((FD.dom hD.nzd).ser.mul ((FD.dom hD.nzd).mon1 (toE hD.pre.pk (bmC D hD.pre.pk s i st)) ((i : Int) - st.since).toNat) (serL hD st.old) 0) := e
   rw [e2, Dom.add_zero, ht.r0] at e3
   exact toE_inj hD.pre.pk (getD_lt h0 (plusF_lt hD.pre.pk ho.rq) _) hD.pre.pk.one_lt e3
  split
  ·rename_i h7
   refine ⟨hA _ (by simp only []; omega) (by simp only []; omega), hR0, fun r hr => ?_, fun h => ?_⟩
   ·have hr' : (i : Int) = r := hr
    obtain rfl : i = r := by omega
    refine ⟨fun j h8 h9 => ht.a j ?_ h9, hd.symm⟩
    simp only [] at h8
    omega
   ·have h' : (i : Int) = -1 := h
    omega
  ·rename_i h7
   exact ⟨hA _ (Nat.le_refl _) (by simp only []; omega), hR0, ht.b, ht.c⟩
theorem bm_true {s : List Nat} (hs : ∀ a ∈ s, a < D.p ^ D.k) : ∀ i, BmTrue hD s i (bmF D hD.pre.pk s i)
 | 0 => ⟨fun j _ h => by omega, rfl, (fun r h => by have h' : (-1 : Int) = r := h; omega), fun _ => rfl⟩
 | i + 1 => (bm_true hs i).step hD hs (bm_ok hD.pre.pk s i)
end
theorem bm_next {D : FD} (h : PK D.p D.k D.m) (s : List Nat) (i : Nat) : ((bmF D h s (i + 1)).len = (bmF D h s i).len) \/ (2 * (bmF D h s i).len <= i /\ (bmF D h s (i + 1)).len = i + 1 - (bmF D h s i).len /\ bmD D s i (bmF D h s i) ≠ 0) := by
 rw [bmF]
 unfold bmStep
 split
 ·exact .inl rfl
 ·split
  ·rename_i h1 h2
   exact .inr ⟨h2, rfl, h1⟩
  ·exact .inl rfl
end FFld
end Go.Proofs.YtdnheaafcbihbaaGreat
namespace Go.Proofs.YtdnheaafcbihbaaGreat
open Go Go.RowKit Go.Deep
open FFld (ints)
def bmT (D : FFld.FD) (h : FFld.PK D.p D.k D.m) (s : List Nat) (n : Nat) : List Nat := (FFld.padF (FFld.bmF D h s n).reg ((FFld.bmF D h s n).len + 1)).drop 1
section
variable {D : FFld.FD} (hD : D.Ok)
theorem bmT_len (s : List Nat) (n : Nat) : (bmT D hD.pre.pk s n).length = (FFld.bmF D hD.pre.pk s n).len := by
 unfold bmT
 rw [List.length_drop, FFld.padF_len (FFld.bm_ok hD.pre.pk s n).rl]
 omega
theorem bmT_lt (s : List Nat) (n : Nat) : ∀ a ∈ bmT D hD.pre.pk s n, a < D.p ^ D.k := fun a ha =>
 FFld.padF_lt (Nat.pow_pos hD.pre.pk.p0) (FFld.bm_ok hD.pre.pk s n).rq _ a (List.mem_of_mem_drop ha)
theorem bmT_cons {s : List Nat} (hs : ∀ a ∈ s, a < D.p ^ D.k) (n : Nat) : 1 :: bmT D hD.pre.pk s n = FFld.padF (FFld.bmF D hD.pre.pk s n).reg ((FFld.bmF D hD.pre.pk s n).len + 1) := by
 have h0 := (FFld.bm_true hD hs n).r0
 have hl := FFld.padF_len (FFld.bm_ok hD.pre.pk s n).rl
 have hg := FFld.padF_get (FFld.bmF D hD.pre.pk s n).reg ((FFld.bmF D hD.pre.pk s n).len + 1) 0
 rw [h0] at hg
 unfold bmT
 cases hP : FFld.padF (FFld.bmF D hD.pre.pk s n).reg ((FFld.bmF D hD.pre.pk s n).len + 1) with
 | nil => rw [hP] at hl; simp at hl
 | cons a l =>
   rw [hP] at hg
   simp only [List.getElem?_cons_zero, Option.getD_some] at hg
   subst hg
   rfl
theorem bmT_dif {s : List Nat} (hs : ∀ a ∈ s, a < D.p ^ D.k) (n j : Nat) (hj : (FFld.bmF D hD.pre.pk s n).len <= j) : FFld.toE hD.pre.pk (FFld.difF D (1 :: bmT D hD.pre.pk s n) s j ((bmT D hD.pre.pk s n).length + 1)) = (FFld.FD.dom hD.nzd).ser.mul (FFld.serL hD (FFld.bmF D hD.pre.pk s n).reg) (FFld.serL hD s) j := by
 rw [bmT_cons hD hs, bmT_len hD, FFld.dif_ser hD (FFld.padF_lt (Nat.pow_pos hD.pre.pk.p0) (FFld.bm_ok hD.pre.pk s n).rq _) hs (by omega) (Nat.le_of_eq (FFld.padF_len (FFld.bm_ok hD.pre.pk s n).rl)), FFld.serL_padF]
theorem bm_makes {s : List Nat} (hs : ∀ a ∈ s, a < D.p ^ D.k) (n : Nat) : mkP D (bmT D hD.pre.pk s n) s n = true := by
 unfold mkP
 rw [List.all_eq_true]
 intro j hj
 have hj' := List.mem_range.1 hj
 refine decide_eq_true ?_
 by_cases h : j < (bmT D hD.pre.pk s n).length
 ·exact .inl h
 ·right
  rw [bmT_len hD] at h
  have h1 := bmT_dif hD hs n j (by omega)
  rw [(FFld.bm_true hD hs n).a j (by omega) hj'] at h1
  exact (FFld.toE_null hD (FFld.difF_lt hD.pre.pk _ _ _ _)).1 h1
end
section
variable {D : FFld.FD} (hD : D.Ok)
theorem cons_lt {ts : List Nat} (ht : ∀ a ∈ ts, a < D.p ^ D.k) (hk : FFld.PK D.p D.k D.m) : ∀ a ∈ (1 :: ts), a < D.p ^ D.k := fun a ha => by
 rcases List.mem_cons.1 ha with rfl | h
 ·exact hk.one_lt
 ·exact ht a h
include hD in
theorem mk_ser {s ts : List Nat} {n : Nat} (hs : ∀ a ∈ s, a < D.p ^ D.k) (ht : ∀ a ∈ ts, a < D.p ^ D.k) (hm : mkP D ts s n = true) (j : Nat) (h1 : ts.length <= j) (h2 : j < n) : (FFld.FD.dom hD.nzd).ser.mul (FFld.serL hD (1 :: ts)) (FFld.serL hD s) j = (FFld.FD.dom hD.nzd).zero := by
 unfold mkP at hm
 rw [List.all_eq_true] at hm
 have h := of_decide_eq_true (hm j (List.mem_range.2 h2))
 rcases h with h | h
 ·omega
 ·rw [<- FFld.dif_ser hD (cons_lt ht hD.pre.pk) hs (n := ts.length + 1) (by omega) (by simp), h, FFld.toE_zero hD]
include hD in
theorem massey {f g S : Nat -> FFld.El (D.p ^ D.k)} {L L' i : Nat} (hf : (FFld.FD.dom hD.nzd).Sh f (L + 1)) (hg : (FFld.FD.dom hD.nzd).Sh g (L' + 1)) (g0 : g 0 = (FFld.FD.dom hD.nzd).one) (hfz : ∀ j, L <= j -> j < i -> (FFld.FD.dom hD.nzd).ser.mul f S j = (FFld.FD.dom hD.nzd).zero) (hgz : ∀ j, L' <= j -> j <= i -> (FFld.FD.dom hD.nzd).ser.mul g S j = (FFld.FD.dom hD.nzd).zero) (hl : L + L' <= i) : (FFld.FD.dom hD.nzd).ser.mul f S i = (FFld.FD.dom hD.nzd).zero := by
 have e1 : (FFld.FD.dom hD.nzd).ser.mul g ((FFld.FD.dom hD.nzd).ser.mul f S) i = (FFld.FD.dom hD.nzd).ser.mul f S i := by
  have h : (FFld.FD.dom hD.nzd).ser.mul g ((FFld.FD.dom hD.nzd).ser.mul f S) i = (FFld.FD.dom hD.nzd).sm (fun t => (FFld.FD.dom hD.nzd).mul (g t) ((FFld.FD.dom hD.nzd).ser.mul f S (i - t))) (i + 1) := rfl
  rw [h, (FFld.FD.dom hD.nzd).sm_one (j := 0) _ (by omega) fun t ht hne => ?_]
  ·rw [g0, Nat.sub_zero, FFld.Dom.one_mul]
  ·by_cases hL : t < L' + 1
   ·rw [hfz (i - t) (by omega) (by omega), FFld.Dom.mul_zero]
   ·rw [hg t (by omega), FFld.Dom.zero_mul]
 have e2 : (FFld.FD.dom hD.nzd).ser.mul f ((FFld.FD.dom hD.nzd).ser.mul g S) i = (FFld.FD.dom hD.nzd).zero := by
  have h : (FFld.FD.dom hD.nzd).ser.mul f ((FFld.FD.dom hD.nzd).ser.mul g S) i = (FFld.FD.dom hD.nzd).sm (fun t => (FFld.FD.dom hD.nzd).mul (f t) ((FFld.FD.dom hD.nzd).ser.mul g S (i - t))) (i + 1) := rfl
  have hz : ∀ t, t < i + 1 -> (FFld.FD.dom hD.nzd).mul (f t) ((FFld.FD.dom hD.nzd).ser.mul g S (i - t)) = (FFld.FD.dom hD.nzd).zero := fun t ht => by
   by_cases hL : t < L + 1
   ·rw [hgz (i - t) (by omega) (by omega), FFld.Dom.mul_zero]
   ·rw [hf t (by omega), FFld.Dom.zero_mul]
  rw [h, (FFld.FD.dom hD.nzd).sm_one (j := 0) _ (by omega) fun t ht _ => hz t ht]
  exact hz 0 (by omega)
 rw [<- e1, <- FFld.Dom.mul_assoc, FFld.Dom.mul_comm (FFld.FD.dom hD.nzd).ser g f, FFld.Dom.mul_assoc]
 exact e2
theorem bm_least {s ts : List Nat} {n : Nat} (hs : ∀ a ∈ s, a < D.p ^ D.k) (ht : ∀ a ∈ ts, a < D.p ^ D.k) (hm : mkP D ts s n = true) : ∀ i, i <= n -> (FFld.bmF D hD.pre.pk s i).len <= ts.length
 | 0, _ => Nat.zero_le _
 | i + 1, hi => by
   have ih := bm_least hs ht hm i (by omega)
   rcases FFld.bm_next hD.pre.pk s i with h | ⟨h1, h2, h3⟩
   ·rw [h]; exact ih
   ·rw [h2]
    apply Classical.byContradiction
    intro hc
    have hok := FFld.bm_ok hD.pre.pk s i
    have htr := FFld.bm_true hD hs i
    have hrl := hok.rl
    have hz := massey hD (f := FFld.serL hD (FFld.bmF D hD.pre.pk s i).reg) (g := FFld.serL hD (1 :: ts)) (S := FFld.serL hD s) (L := (FFld.bmF D hD.pre.pk s i).len) (L' := ts.length) (i := i)
     (FFld.Dom.Sh.mono _ (FFld.serL_sh hD _) hrl) (FFld.Dom.Sh.mono _ (FFld.serL_sh hD (1 :: ts)) (by simp)) (by show FFld.toE hD.pre.pk ((1 :: ts)[0]?.getD 0) = _; exact FFld.toE_one hD) htr.a (fun j h4 h5 => mk_ser hD hs ht hm j h4 (by omega)) (by omega)
    rw [<- FFld.bm_d hD hs hok] at hz
    exact h3 ((FFld.toE_null hD (FFld.difF_lt hD.pre.pk _ _ _ _)).1 hz)
end
end Go.Proofs.YtdnheaafcbihbaaGreat
namespace Go.Proofs.YtdnheaafcbihbaaGreat
namespace FFld
section
variable {D : FD} (hD : D.Ok)
def RS {D : FD} (hD : D.Ok) (W N : Nat) (A : List (List Nat)) (v : Nat -> El (D.p ^ D.k)) : Prop := ∃ i, i < N /\ ∀ c, c < W -> v c = toE hD.pre.pk (cellAt A i c)
def Into {D : FD} (hD : D.Ok) (W N : Nat) (A B : List (List Nat)) : Prop := ∀ v, RS hD W N A v -> Dom.Spn (FD.dom hD.nzd) W (RS hD W N B) v
variable {hD} {W N : Nat} {A B C : List (List Nat)}
end
structure Rcf (N : Nat) (s : ESt) : Prop where
 up : ∀ i, i < s.cols.length -> ∀ k, k < N -> k ≠ i -> cellAt s.A k (s.cols[i]?.getD 0) = 0
 mono : ∀ i j, i < j -> j < s.cols.length -> s.cols[i]?.getD 0 < s.cols[j]?.getD 0
end FFld
end Go.Proofs.YtdnheaafcbihbaaGreat
namespace Go.Proofs.YtdnheaafcbihbaaGreat
open Go Go.RowKit Go.Deep
open FFld (ints)
namespace FFld
end FFld
def RecRet (s : FFld.ESt) (w : World) (e : Ending) (w' : World) : Prop := Below w.heap.size w w' /\ ∃ ao cap, e = .returned (.slice ao s.cols.length cap) /\ s.cols.length <= cap /\ cap <= maxLen /\ Sls w' ao ((s.A.take s.cols.length).map ints)
end Go.Proofs.YtdnheaafcbihbaaGreat
namespace Go.Proofs.YtdnheaafcbihbaaGreat
open Go Go.RowKit Go.Deep
open FFld (ints)
def wideR (rows : List (List Nat)) (bl : List Nat) (i : Nat) : List Nat := FFld.rowAt rows i ++ [bl[i]?.getD 0]
def wideM (rows : List (List Nat)) (bl : List Nat) (n : Nat) : List (List Nat) := (List.range n).map (wideR rows bl)
def solW (s : FFld.ESt) (wd : Nat) : Nat -> List Nat
 | 0 => List.replicate wd 0
 | i + 1 => (solW s wd i).set (s.cols[i]?.getD 0) (FFld.cellAt s.A i wd)
def RsRet (s : FFld.ESt) (wd : Nat) (w : World) (e : Ending) (w' : World) : Prop := Below w.heap.size w w' /\
 ((∃ i, i < s.cols.length /\ s.cols[i]?.getD 0 = wd /\ e = .returned (.tuple #[.slice none 0 0, .bool false])) \/
  ((∀ i, i < s.cols.length -> s.cols[i]?.getD 0 < wd) /\ ∃ vx, e = .returned (.tuple #[vx, .bool true]) /\ Sl .i64 w' vx (ints (solW s wd s.cols.length))))
def RsOwn (s : FFld.ESt) (wd : Nat) (w : World) (e : Ending) (w' : World) : Prop := Below w.heap.size w w' /\
 ((∃ i, i < s.cols.length /\ s.cols[i]?.getD 0 = wd /\ e = .returned (.tuple #[.slice none 0 0, .bool false])) \/
  ((∀ i, i < s.cols.length -> s.cols[i]?.getD 0 < wd) /\ ∃ g, e = .returned (.tuple #[.slice (some ⟨g, 0, none⟩) wd wd, .bool true]) /\ Sl .i64 w' (.slice (some ⟨g, 0, none⟩) wd wd) (ints (solW s wd s.cols.length))))
end Go.Proofs.YtdnheaafcbihbaaGreat
namespace Go.Proofs.YtdnheaafcbihbaaGreat
namespace FFld
section
variable {α : Type} (F : Dom α)
def lf (W : Nat) (y v : Nat -> α) : α := F.sm (fun c => F.mul (v c) (y c)) W
end
section
variable {D : FD} (hD : D.Ok) {M R : List (List Nat)} {wd n N : Nat}
include hD
section
variable {s : ESt} (h : ∀ i, i < s.cols.length -> s.cols[i]?.getD 0 < wd) (hm : ∀ i j, i < j -> j < s.cols.length -> s.cols[i]?.getD 0 < s.cols[j]?.getD 0)
omit hD in
include h hm
omit hD in
end
omit hD in
end
end FFld
end Go.Proofs.YtdnheaafcbihbaaGreat
namespace Go.Proofs.YtdnheaafcbihbaaGreat
open Go Go.RowKit Go.Deep
open FFld (ints)
theorem dif_first {D : FFld.FD} (hD : D.Ok) (ts ss : List Nat) (i : Nat) (hs : ∀ a ∈ ss, a < D.p ^ D.k) : FFld.difF D (1 :: ts) ss i 1 = ss[i]?.getD 0 := by
 have hk := hD.pre.pk
 have hi : ss[i]?.getD 0 < D.p ^ D.k := FFld.getD_lt (Nat.pow_pos hk.p0) hs i
 show FFld.padd D.p D.k 0 (FFld.pmul D.p D.k D.m 1 D.k (ss[i]?.getD 0)) = ss[i]?.getD 0
 apply FFld.toE_inj hk (FFld.padd_lt hk _ _) hi
 rw [FFld.toE_add hD (Nat.pow_pos hk.p0) (FFld.pmul_lt hk _ _ _), FFld.toE_zero hD, FFld.Dom.zero_add, FFld.toE_mul hD hk.one_lt hi]
 show (FFld.FD.dom hD.nzd).mul (FFld.toE hk 1) _ = _
 rw [FFld.toE_one hD, (FFld.FD.dom hD.nzd).one_mul]
theorem dif_next (D : FFld.FD) (ts ss : List Nat) (i k : Nat) (h : k + 1 <= i) : FFld.difF D (1 :: ts) ss i (k + 1 + 1) = FFld.padd D.p D.k (FFld.difF D (1 :: ts) ss i (k + 1)) (FFld.pmul D.p D.k D.m (ts[k]?.getD 0) D.k (ss[i - 1 - k]?.getD 0)) := by
 show FFld.padd D.p D.k (FFld.difF D (1 :: ts) ss i (k + 1)) (FFld.pmul D.p D.k D.m ((1 :: ts)[k + 1]?.getD 0) D.k (ss[i - (k + 1)]?.getD 0)) = _
 rw [List.getElem?_cons_succ, show i - (k + 1) = i - 1 - k by omega]
def lsRow (s : List Nat) (l i : Nat) : List Nat := (List.range l).map fun k => s[i - 1 - k]?.getD 0
def lsM (s : List Nat) (l n : Nat) : List (List Nat) := (List.range (n - l)).map fun j => lsRow s l (l + j)
def lsB (D : FFld.FD) (s : List Nat) (l n : Nat) : List Nat := (List.range (n - l)).map fun j => FFld.pscl D.p D.k (D.p - 1) (s[l + j]?.getD 0)
section
variable {D : FFld.FD} (hD : D.Ok) {s : List Nat} {l n : Nat} (hs : ∀ a ∈ s, a < D.p ^ D.k)
include hs
omit hs in
omit hs in
omit hs in
omit hs in
include hD
theorem dif_sum {ts : List Nat} (ht : ∀ a ∈ ts, a < D.p ^ D.k) (i : Nat) : ∀ k, k <= i -> FFld.toE hD.pre.pk (FFld.difF D (1 :: ts) s i (k + 1)) = (FFld.FD.dom hD.nzd).add (FFld.toE hD.pre.pk (s[i]?.getD 0)) ((FFld.FD.dom hD.nzd).sm (fun c => (FFld.FD.dom hD.nzd).mul (FFld.toE hD.pre.pk (s[i - 1 - c]?.getD 0)) (FFld.toE hD.pre.pk (ts[c]?.getD 0))) k)
 | 0, _ => by
   rw [dif_first hD ts s i hs]
   exact ((FFld.FD.dom hD.nzd).add_zero _).symm
 | k + 1, hk => by
   have h0 := Nat.pow_pos (n := D.k) hD.pre.pk.p0
   rw [dif_next D ts s i k hk, FFld.toE_add hD (FFld.difF_lt hD.pre.pk _ _ _ _) (FFld.pmul_lt hD.pre.pk _ _ _), dif_sum ht i k (by omega), FFld.toE_mul hD (FFld.getD_lt h0 ht _) (FFld.getD_lt h0 hs _), FFld.Dom.add_assoc, FFld.Dom.mul_comm (FFld.FD.dom hD.nzd) (FFld.toE hD.pre.pk (ts[k]?.getD 0))]
   rfl
end
end Go.Proofs.YtdnheaafcbihbaaGreat
