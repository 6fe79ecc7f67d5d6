/-
  Texts of the proof, merged by program: Ft Fu Fw Ma Dg Sl Row Mine Bas Rdg Rti Rre Rad Rmm Rpo Rin0 Rge.
-/
import Derived.Test.YtdnheaafcbihbaaGreatTq2
import Derived.WalkKit
import Derived.WalkSpells
import Derived.WalkLawsBesides
import Derived.Lib.Hide
import Derived.Test.YtdnheaafcbihbaaGreatProg
import Derived.Deep.LoopGhost
import Derived.Deep.DeepCutAuto
import Derived.Deep.DeepMust
import Derived.Deep.DeepFit
import Derived.Deep.RegionHeld3
import Derived.Deep.RegionWith
import Derived.Deep.QuietTactic
import Derived.BigQuiet
import Derived.Deep.Upon
set_option linter.unusedSectionVars false
set_option linter.unusedSimpArgs false
set_option linter.unusedVariables false
set_option maxHeartbeats 16000000
namespace Go.Proofs.YtdnheaafcbihbaaGreat
namespace FFld
section
variable {p k m : Nat} (h : PK p k m)
include h
theorem ppow_zero (a : Nat) (ha : a < p ^ k) : ppow h a 0 = 1 := by rw [ppow_of h a 0 ha]; rfl
theorem ppow_succ (a n : Nat) (ha : a < p ^ k) : ppow h a (n + 1) = pmul p k m (ppow h a n) k a := by
 rw [ppow_of h a _ ha, ppow_of h a _ ha]
 rfl
theorem ppow_add (a i j : Nat) (ha : a < p ^ k) : pmul p k m (ppow h a i) k (ppow h a j) = ppow h a (i + j) := by
 rw [ppow_of h a _ ha, ppow_of h a _ ha, ppow_of h a _ ha, (rng h).pow_add]
 rfl
theorem ppow_mul (a i n : Nat) (ha : a < p ^ k) : ppow h (ppow h a i) n = ppow h a (i * n) := by
 rw [ppow_of h a (i * n) ha, (rng h).pow_mul, ppow_of h (ppow h a i) n (ppow_lt h a i)]
 congr 2
 exact Subtype.ext (ppow_of h a i ha)
end
theorem FD.Ok.g_ne {D : FD} (h : D.Ok) : (⟨D.g, h.gq⟩ : El (D.p ^ D.k)) ≠ (FD.dom h.nzd).zero := fun e => by
 have : D.g = 0 := congrArg Subtype.val e
 have := h.g1
 omega
theorem FD.Ok.cycle {D : FD} (h : D.Ok) : ppow h.pre.pk D.g (D.p ^ D.k - 1) = 1 := by
 rw [ppow_of _ _ _ h.gq, <- dom_pow h.nzd, (h.ord _).2 (Nat.dvd_refl _)]
 rfl
theorem FD.Ok.pow_mod {D : FD} (h : D.Ok) (n : Nat) : ppow h.pre.pk D.g (n % (D.p ^ D.k - 1)) = ppow h.pre.pk D.g n := by
 have hc := h.cycle
 rw [ppow_of _ _ _ h.gq] at hc
 conv => rhs; rw [ppow_of _ _ _ h.gq, <- Nat.mod_add_div n (D.p ^ D.k - 1), (rng h.pre.pk).pow_add, (rng h.pre.pk).pow_mul, (Subtype.ext hc : (rng h.pre.pk).pow ⟨D.g, h.gq⟩ (D.p ^ D.k - 1) = (rng h.pre.pk).one), (rng h.pre.pk).one_pow, (rng h.pre.pk).mul_one]
 rw [ppow_of _ _ _ h.gq]
theorem FD.Ok.log {D : FD} (h : D.Ok) (a : Nat) (ha : a < D.p ^ D.k) (h0 : a ≠ 0) : ∃ n, n < D.p ^ D.k - 1 /\ ppow h.pre.pk D.g n = a := by
 have hall := nzl_all h.nzd
 have hlen := nzl_len (D.p ^ D.k)
 obtain ⟨n, hn, e⟩ := (FD.dom h.nzd).exists_log hall h.g_ne (by rw [hlen]; exact h.ord) (a := ⟨a, ha⟩) (fun e => h0 (congrArg Subtype.val e))
 rw [hlen] at hn
 refine ⟨n, hn, ?_⟩
 rw [ppow_of _ _ _ h.gq, <- dom_pow h.nzd, e]
theorem FD.Ok.pow_ne {D : FD} (h : D.Ok) (n : Nat) : ppow h.pre.pk D.g n ≠ 0 := by
 rw [ppow_of _ _ _ h.gq, <- dom_pow h.nzd]
 intro e
 exact (FD.dom h.nzd).pow_ne h.g_ne n (Subtype.ext e)
theorem FD.Ok.pow_inj {D : FD} (h : D.Ok) {i j : Nat} (hi : i < D.p ^ D.k - 1) (hj : j < D.p ^ D.k - 1) (e : ppow h.pre.pk D.g i = ppow h.pre.pk D.g j) : i = j := by
 rw [ppow_of _ _ _ h.gq, ppow_of _ _ _ h.gq, <- dom_pow h.nzd, <- dom_pow h.nzd] at e
 exact (FD.dom h.nzd).pow_inj h.g_ne h.ord hi hj (Subtype.ext e)
structure TabOk (D : FD) (h : D.Ok) (P L : List Nat) : Prop where
 pl : P.length = D.p ^ D.k - 1
 pw : ∀ i, i < D.p ^ D.k - 1 -> P[i]?.getD 0 = ppow h.pre.pk D.g i
 ll : L.length = D.p ^ D.k
 lg : ∀ a, a < D.p ^ D.k -> a ≠ 0 -> L[a]?.getD 0 < D.p ^ D.k - 1 /\ ppow h.pre.pk D.g (L[a]?.getD 0) = a
theorem TabOk.product {D : FD} {h : D.Ok} {P L : List Nat} (t : TabOk D h P L) (a b : Nat) (ha : a < D.p ^ D.k) (hb : b < D.p ^ D.k) (a0 : a ≠ 0) (b0 : b ≠ 0) : ppow h.pre.pk D.g (L[a]?.getD 0 + L[b]?.getD 0) = pmul D.p D.k D.m a D.k b := by
 rw [<- ppow_add h.pre.pk _ _ _ h.gq, (t.lg a ha a0).2, (t.lg b hb b0).2]
theorem TabOk.power {D : FD} {h : D.Ok} {P L : List Nat} (t : TabOk D h P L) (a n : Nat) (ha : a < D.p ^ D.k) (a0 : a ≠ 0) : ppow h.pre.pk D.g (L[a]?.getD 0 * n) = ppow h.pre.pk a n := by
 rw [<- ppow_mul h.pre.pk _ _ _ h.gq, (t.lg a ha a0).2]
theorem padd_one {p k m : Nat} (h : PK p k m) (t : Nat) (ht : t < p ^ k) : padd p k t 1 = if t % p = p - 1 then t + 1 - p else t + 1 := by
 have hp := h.p2
 have hk := h.k1
 have hdiv := Nat.div_add_mod t p
 have hml := Nat.mod_lt t h.p0
 have hlt : (if t % p = p - 1 then t + 1 - p else t + 1) < p ^ k := by
  split
  ·omega
  ·rcases Nat.lt_or_ge (t + 1) (p ^ k) with hl | hl
   ·exact hl
   ·exfalso
    have e : t + 1 = p ^ k := by omega
    obtain ⟨n, rfl⟩ : ∃ n, k = n + 1 := ⟨k - 1, by omega⟩
    have hm : (t + 1) % p = 0 := by rw [e, Nat.pow_succ, Nat.mul_mod_left]
    rename_i hne
    have : (t + 1) % p = t % p + 1 := by
     conv => lhs; rw [<- hdiv, Nat.add_assoc, Nat.mul_add_mod]
     exact Nat.mod_eq_of_lt (by omega)
    omega
 refine dig_ext h.p0 k _ _ (padd_lt h _ _) hlt fun i hi => ?_
 rw [dig_padd h _ _ _ hi]
 cases i with
 | zero =>
   rw [dig_zero, dig_zero, dig_zero, Nat.mod_eq_of_lt (show 1 < p by omega)]
   split
   ·rename_i e
    rw [e, show p - 1 + 1 = p from by omega, Nat.mod_self]
    have e1 : t + 1 - p = p * (t / p) := by omega
    rw [e1, Nat.mul_mod_right]
   ·rename_i e
    rw [Nat.mod_eq_of_lt (show t % p + 1 < p by omega)]
    conv => rhs; rw [<- hdiv, Nat.add_assoc, Nat.mul_add_mod]
    exact (Nat.mod_eq_of_lt (by omega)).symm
 | succ i =>
   rw [dig_succ p 1, Nat.div_eq_of_lt (show 1 < p by omega), dig_of_zero, Nat.add_zero, dig_mod, dig_succ, dig_succ]
   congr 1
   split
   ·have e1 : t + 1 - p = p * (t / p) := by omega
    rw [e1, Nat.mul_div_cancel_left _ h.p0]
   ·rename_i e
    conv => rhs; rw [<- hdiv, Nat.add_assoc, Nat.mul_add_div h.p0, Nat.div_eq_of_lt (show t % p + 1 < p by omega), Nat.add_zero]
theorem padd_comm' (p k a b : Nat) : padd p k a b = padd p k b a := ofd_congr k fun i _ => by rw [Nat.add_comm]
theorem TabOk.sum {D : FD} {h : D.Ok} {P L : List Nat} (t : TabOk D h P L) (a b : Nat) (ha : a < D.p ^ D.k) (hb : b < D.p ^ D.k) (a0 : a ≠ 0) (b0 : b ≠ 0) :
 ∃ r, ppow h.pre.pk D.g (L[b]?.getD 0 + (D.p ^ D.k - 1) - L[a]?.getD 0) = r /\ r < D.p ^ D.k /\ r ≠ 0 /\ pmul D.p D.k D.m a D.k (padd D.p D.k r 1) = padd D.p D.k a b := by
 have hpk := h.pre.pk
 obtain ⟨ha1, ha2⟩ := t.lg a ha a0
 obtain ⟨hb1, hb2⟩ := t.lg b hb b0
 refine ⟨_, rfl, ppow_lt _ _ _, h.pow_ne _, ?_⟩
 generalize L[a]?.getD 0 = la at *
 generalize L[b]?.getD 0 = lb at *
 have hr : pmul D.p D.k D.m a D.k (ppow hpk D.g (lb + (D.p ^ D.k - 1) - la)) = b := by
  rw [show pmul D.p D.k D.m a D.k (ppow hpk D.g (lb + (D.p ^ D.k - 1) - la)) = pmul D.p D.k D.m (ppow hpk D.g la) D.k (ppow hpk D.g (lb + (D.p ^ D.k - 1) - la)) from by rw [ha2]]
  rw [ppow_add hpk _ _ _ h.gq, <- h.pow_mod, show la + (lb + (D.p ^ D.k - 1) - la) = lb + (D.p ^ D.k - 1) from by omega, Nat.add_mod_right, h.pow_mod, hb2]
 rw [pmul_comm hpk a _ ha (padd_lt hpk _ _), pmul_add hpk, pmul_comm hpk _ a (ppow_lt hpk _ _) ha, hr, pmul_one hpk _ (Nat.le_refl _) a ha, padd_comm']
end FFld
end Go.Proofs.YtdnheaafcbihbaaGreat
namespace Go.Proofs.YtdnheaafcbihbaaGreat
namespace FFld
structure TfAt (D : FD) (h : D.Ok) (P L : List Nat) (n a : Nat) : Prop where
 pl : P.length = D.p ^ D.k - 1
 pw : ∀ i, i < n -> P[i]?.getD 0 = ppow h.pre.pk D.g i
 ll : L.length = D.p ^ D.k
 lg : ∀ i, i < n -> L[ppow h.pre.pk D.g i]?.getD 0 = i
 cur : a = ppow h.pre.pk D.g n
 le : n <= D.p ^ D.k - 1
theorem TfAt.start {D : FD} (h : D.Ok) : TfAt D h (List.replicate (D.p ^ D.k - 1) 0) (List.replicate (D.p ^ D.k) 0) 0 1 :=
 ⟨by simp, fun i hi => by omega, by simp, fun i hi => by omega, (ppow_zero h.pre.pk _ h.gq).symm, by omega⟩
theorem TfAt.next {D : FD} {h : D.Ok} {P L : List Nat} {n a : Nat} (t : TfAt D h P L n a) (hn : n < D.p ^ D.k - 1) : TfAt D h (P.set n a) (L.set a n) (n + 1) (pmul D.p D.k D.m a D.k D.g) := by
 have ha : a < D.p ^ D.k := by rw [t.cur]; exact ppow_lt _ _ _
 refine ⟨by rw [List.length_set]; exact t.pl, fun i hi => ?_, by rw [List.length_set]; exact t.ll, fun i hi => ?_, ?_, by omega⟩
 ·by_cases e : i = n
  ·subst e
   rw [List.getElem?_set_self (by rw [t.pl]; exact hn), Option.getD_some]
   exact t.cur
  ·rw [List.getElem?_set_ne (by omega)]
   exact t.pw i (by omega)
 ·by_cases e : i = n
  ·subst e
   rw [<- t.cur, List.getElem?_set_self (by rw [t.ll]; exact ha), Option.getD_some]
  ·have hne : a ≠ ppow h.pre.pk D.g i := fun e2 => by
    rw [t.cur] at e2
    exact e (h.pow_inj (by omega) hn e2.symm)
   rw [List.getElem?_set_ne hne]
   exact t.lg i (by omega)
 ·rw [ppow_succ h.pre.pk _ _ h.gq, <- t.cur]
theorem TfAt.done {D : FD} {h : D.Ok} {P L : List Nat} {a : Nat} (t : TfAt D h P L (D.p ^ D.k - 1) a) : TabOk D h P L :=
 ⟨t.pl, t.pw, t.ll, fun x hx h0 => by
  obtain ⟨n, hn, e⟩ := h.log x hx h0
  have := t.lg n hn
  rw [e] at this
  rw [this]
  exact ⟨hn, e⟩⟩
theorem TfAt.cur_lt {D : FD} {h : D.Ok} {P L : List Nat} {n a : Nat} (t : TfAt D h P L n a) : a < D.p ^ D.k := by rw [t.cur]; exact ppow_lt _ _ _
end FFld
end Go.Proofs.YtdnheaafcbihbaaGreat
namespace Go.Proofs.YtdnheaafcbihbaaGreat
namespace FFld
def addmF (D : FD) (xs : List Nat) (s : Nat) (q : List Nat) (c : Nat) : Nat -> List Nat
 | 0 => xs
 | j + 1 => (addmF D xs s q c j).set (s + j) (padd D.p D.k ((addmF D xs s q c j)[s + j]?.getD 0) (pmul D.p D.k D.m (q[j]?.getD 0) D.k c))
def addm (D : FD) (xs : List Nat) (s : Nat) (q : List Nat) (c : Nat) : List Nat := addmF D xs s q c q.length
theorem addmF_len (D : FD) (xs : List Nat) (s : Nat) (q : List Nat) (c j : Nat) : (addmF D xs s q c j).length = xs.length := by
 induction j with
 | zero => rfl
 | succ j ih => simp only [addmF, List.length_set, ih]
theorem addm_len (D : FD) (xs : List Nat) (s : Nat) (q : List Nat) (c : Nat) : (addm D xs s q c).length = xs.length := addmF_len D xs s q c _
theorem addmF_lt {D : FD} (hk : PK D.p D.k D.m) {xs : List Nat} (s : Nat) (q : List Nat) (c j : Nat) (hx : ∀ a ∈ xs, a < D.p ^ D.k) : ∀ a ∈ addmF D xs s q c j, a < D.p ^ D.k := by
 induction j with
 | zero => exact hx
 | succ j ih => exact mem_set ih (padd_lt hk _ _)
theorem addmF_old (D : FD) (xs : List Nat) (s : Nat) (q : List Nat) (c j i : Nat) (h : i < s \/ s + j <= i) : (addmF D xs s q c j)[i]?.getD 0 = xs[i]?.getD 0 := by
 induction j with
 | zero => rfl
 | succ j ih =>
   simp only [addmF]
   rw [List.getElem?_set_ne (by omega)]
   exact ih (by omega)
theorem addmF_zero {D : FD} (hk : PK D.p D.k D.m) {xs : List Nat} (s : Nat) (q : List Nat) (j : Nat) (hx : ∀ a ∈ xs, a < D.p ^ D.k) (hs : s + j <= xs.length) : addmF D xs s q 0 j = xs := by
 induction j with
 | zero => rfl
 | succ j ih =>
   simp only [addmF]
   rw [ih (by omega), pmul_zero_right hk, padd_zero hk _ (getD_lt (Nat.pow_pos hk.p0) hx _)]
   apply List.ext_getElem?
   intro i
   by_cases e : s + j = i
   ·subst e
    rw [List.getElem?_set_self (by omega), List.getElem?_eq_getElem (by omega)]
    rfl
   ·rw [List.getElem?_set_ne e]
def divF (D : FD) (q : List Nat) (inv n : Nat) (p : List Nat) : Nat -> List Nat
 | 0 => p
 | t + 1 => addm D (divF D q inv n p t) (n - 1 - t) q (pscl D.p D.k (D.p - 1) (pmul D.p D.k D.m ((divF D q inv n p t)[n - 1 - t + (q.length - 1)]?.getD 0) D.k inv))
def divQ (D : FD) (q : List Nat) (inv n : Nat) (p : List Nat) (t : Nat) : Nat := pmul D.p D.k D.m ((divF D q inv n p t)[n - 1 - t + (q.length - 1)]?.getD 0) D.k inv
theorem divF_len (D : FD) (q : List Nat) (inv n : Nat) (p : List Nat) (t : Nat) : (divF D q inv n p t).length = p.length := by
 induction t with
 | zero => rfl
 | succ t ih => simp only [divF]; rw [addm_len, ih]
theorem divF_lt {D : FD} (hk : PK D.p D.k D.m) (q : List Nat) (inv n : Nat) {p : List Nat} (t : Nat) (hp : ∀ a ∈ p, a < D.p ^ D.k) : ∀ a ∈ divF D q inv n p t, a < D.p ^ D.k := by
 induction t with
 | zero => exact hp
 | succ t ih => exact addmF_lt hk _ _ _ _ ih
end FFld
end Go.Proofs.YtdnheaafcbihbaaGreat
namespace Go.Proofs.YtdnheaafcbihbaaGreat
namespace FFld
def exch {α : Type} (d : α) (A : List α) (i j : Nat) : List α := (A.set i (A[j]?.getD d)).set j (A[i]?.getD d)
def rowMul (D : FD) (l : List Nat) (c : Nat) : List Nat := l.map fun a => pmul D.p D.k D.m a D.k c
theorem rowMul_len (D : FD) (l : List Nat) (c : Nat) : (rowMul D l c).length = l.length := by simp [rowMul]
theorem rowMul_get (D : FD) (l : List Nat) (c i : Nat) (hi : i < l.length) : (rowMul D l c)[i]?.getD 0 = pmul D.p D.k D.m (l[i]?.getD 0) D.k c := by simp [rowMul, hi]
def rowMulF (D : FD) (l : List Nat) (c : Nat) : Nat -> List Nat
 | 0 => l
 | j + 1 => (rowMulF D l c j).set j (pmul D.p D.k D.m ((rowMulF D l c j)[j]?.getD 0) D.k c)
def negF (D : FD) (t : Nat) : Nat := pscl D.p D.k (D.p - 1) t
def rowAt (A : List (List Nat)) (i : Nat) : List Nat := A[i]?.getD []
def cellAt (A : List (List Nat)) (i c : Nat) : Nat := (rowAt A i)[c]?.getD 0
def mulAt (D : FD) (A : List (List Nat)) (i c : Nat) : List (List Nat) := A.set i (rowMul D (rowAt A i) c)
def subAt (D : FD) (A : List (List Nat)) (i j t : Nat) : List (List Nat) := A.set i (addm D (rowAt A i) 0 (rowAt A j) (negF D t))
def subsF (D : FD) (top c : Nat) (s : List (List Nat) × List (List Nat)) : Nat -> List (List Nat) × List (List Nat)
 | 0 => s
 | i + 1 => if i = top then subsF D top c s i else (subAt D (subsF D top c s i).1 i top (cellAt (subsF D top c s i).1 i c), subAt D (subsF D top c s i).2 i top (cellAt (subsF D top c s i).1 i c))
def piv (A : List (List Nat)) (c : Nat) : Nat -> Nat -> Nat
 | 0, r => r
 | f + 1, r => if cellAt A r c = 0 then piv A c f (r + 1) else r
structure ESt where
 A : List (List Nat)
 R : List (List Nat)
 cols : List Nat
def stepF (D : FD) (h : PK D.p D.k D.m) (c : Nat) (s : ESt) : ESt :=
 let top := s.cols.length
 let row := piv s.A c (s.A.length - top) top
 if row = s.A.length then s else
  let A1 := exch [] s.A top row
  let R1 := exch [] s.R top row
  let inv := ppow h (cellAt A1 top c) (D.q - 2)
  let t := subsF D top c (mulAt D A1 top inv, mulAt D R1 top inv) s.A.length
  ⟨t.1, t.2, s.cols ++ [c]⟩
def elimF (D : FD) (h : PK D.p D.k D.m) (s : ESt) : Nat -> ESt
 | 0 => s
 | c + 1 => stepF D h c (elimF D h s c)
def Wfm (D : FD) (n : Nat) (A : List (List Nat)) : Prop := ∀ r ∈ A, r.length = n /\ ∀ a ∈ r, a < D.p ^ D.k
structure EOk (D : FD) (n m N : Nat) (s : ESt) : Prop where
 la : s.A.length = N
 lr : s.R.length = N
 wa : Wfm D n s.A
 wr : Wfm D m s.R
 cl : s.cols.length <= N
end FFld
end Go.Proofs.YtdnheaafcbihbaaGreat
namespace Go.Proofs.YtdnheaafcbihbaaGreat.Dg
def val (B : Int) : List Int -> Int
 | [] => 0
 | x :: xs => x + B * val B xs
def Wf (B : Int) (xs : List Int) : Prop := ∀ x ∈ xs, 0 <= x /\ x < B
def Nz (xs : List Int) : Prop := ∀ h : xs ≠ [], xs.getLast h ≠ 0
theorem Wf.nil (B : Int) : Wf B [] := fun _ h => by cases h
theorem Wf.cons {B x : Int} {xs : List Int} (h : Wf B (x :: xs)) : 0 <= x /\ x < B /\ Wf B xs :=
 ⟨(h x (by simp)).1, (h x (by simp)).2, fun y hy => h y (by simp [hy])⟩
theorem Wf.mk {B x : Int} {xs : List Int} (h0 : 0 <= x) (h1 : x < B) (h : Wf B xs) : Wf B (x :: xs) := by
 intro y hy
 rcases List.mem_cons.1 hy with rfl | hy
 ·exact ⟨h0, h1⟩
 ·exact h y hy
theorem Wf.append {B : Int} {xs ys : List Int} (h : Wf B xs) (k : Wf B ys) : Wf B (xs ++ ys) := by
 intro y hy
 rcases List.mem_append.1 hy with hy | hy
 ·exact h y hy
 ·exact k y hy
theorem Wf.take {B : Int} {xs : List Int} (h : Wf B xs) (n : Nat) : Wf B (xs.take n) := fun y hy => h y (List.mem_of_mem_take hy)
theorem Wf.drop {B : Int} {xs : List Int} (h : Wf B xs) (n : Nat) : Wf B (xs.drop n) := fun y hy => h y (List.mem_of_mem_drop hy)
theorem Wf.one {B x : Int} (h0 : 0 <= x) (h1 : x < B) : Wf B [x] := Wf.mk h0 h1 (Wf.nil B)
theorem Wf.zeros {B : Int} (hB : 0 < B) (n : Nat) : Wf B (List.replicate n 0) := by
 intro y hy
 have := List.eq_of_mem_replicate hy
 omega
theorem Wf.get {B : Int} {xs : List Int} (h : Wf B xs) (i : Nat) (hi : i < xs.length) : 0 <= xs[i] /\ xs[i] < B := h _ (List.getElem_mem hi)
theorem Wf.getD {B : Int} {xs : List Int} (hB : 0 < B) (h : Wf B xs) (i : Nat) : 0 <= xs[i]?.getD 0 /\ xs[i]?.getD 0 < B := by
 by_cases hi : i < xs.length
 ·simpa [hi] using h.get i hi
 ·simp [hi, hB]
theorem Wf.set {B x : Int} {xs : List Int} (h : Wf B xs) (i : Nat) (h0 : 0 <= x) (h1 : x < B) : Wf B (xs.set i x) := by
 intro y hy
 rcases List.mem_or_eq_of_mem_set hy with hy | rfl
 ·exact h y hy
 ·exact ⟨h0, h1⟩
theorem val_cons (B x : Int) (xs : List Int) : val B (x :: xs) = x + B * val B xs := rfl
theorem val_one (B x : Int) : val B [x] = x := by simp [val]
theorem val_append (B : Int) (xs ys : List Int) : val B (xs ++ ys) = val B xs + B ^ xs.length * val B ys := by
 induction xs with
 | nil => simp [val]
 | cons x xs ih =>
   simp only [List.cons_append, val, ih, List.length_cons, Int.pow_succ, Int.mul_add, Int.mul_assoc, Int.add_assoc, Int.mul_left_comm B]
theorem val_zeros (B : Int) (n : Nat) : val B (List.replicate n 0) = 0 := by
 induction n with
 | zero => rfl
 | succ n ih => simp [List.replicate_succ, val, ih]
theorem val_snoc_zeros (B : Int) (xs : List Int) (n : Nat) : val B (xs ++ List.replicate n 0) = val B xs := by simp [val_append, val_zeros]
theorem pow_pos {B : Int} (hB : 0 < B) (n : Nat) : 0 < B ^ n := by
 induction n with
 | zero => simp
 | succ n ih => rw [Int.pow_succ]; exact Int.mul_pos ih hB
theorem val_nonneg {B : Int} (hB : 0 < B) {xs : List Int} (h : Wf B xs) : 0 <= val B xs := by
 induction xs with
 | nil => simp [val]
 | cons x xs ih =>
   obtain ⟨h0, _, hw⟩ := h.cons
   have := Int.mul_nonneg (show 0 <= B by omega) (ih hw)
   simp only [val]
   omega
theorem val_lt {B : Int} (hB : 0 < B) {xs : List Int} (h : Wf B xs) : val B xs < B ^ xs.length := by
 induction xs with
 | nil => simp [val]
 | cons x xs ih =>
   obtain ⟨_, h1, hw⟩ := h.cons
   have k := ih hw
   have k2 : B * (val B xs + 1) <= B * B ^ xs.length := Int.mul_le_mul_of_nonneg_left (by omega) (by omega)
   simp only [val, List.length_cons, Int.pow_succ, Int.mul_comm _ B]
   rw [Int.mul_add] at k2
   omega
theorem pow_mono {B : Int} (hB : 0 < B) {m n : Nat} (h : m <= n) : B ^ m <= B ^ n := by
 obtain ⟨k, rfl⟩ := Nat.exists_eq_add_of_le h
 rw [Int.pow_add]
 have h1 := pow_pos hB m
 have h2 := pow_pos hB k
 have := Int.mul_le_mul_of_nonneg_left (show 1 <= B ^ k by omega) (show 0 <= B ^ m by omega)
 omega
theorem val_ge {B : Int} (hB : 0 < B) {xs : List Int} (h : Wf B xs) (hn : Nz xs) (hne : xs ≠ []) : B ^ (xs.length - 1) <= val B xs := by
 have e := List.dropLast_concat_getLast hne
 have hl : 0 <= xs.getLast hne := (h _ (List.getLast_mem hne)).1
 have hz := hn hne
 have hw : Wf B xs.dropLast := fun y hy => h y (List.dropLast_subset _ hy)
 have h0 := val_nonneg hB hw
 rw [<- e, val_append, val_one]
 have hp := pow_pos hB xs.dropLast.length
 have := Int.mul_le_mul_of_nonneg_left (show 1 <= xs.getLast hne by omega) (show 0 <= B ^ xs.dropLast.length by omega)
 simp only [List.length_dropLast, List.length_append, List.length_singleton] at *
 have el : xs.length - 1 + 1 - 1 = xs.length - 1 := by omega
 rw [el]
 omega
theorem Nz.nil : Nz [] := fun h => absurd rfl h
theorem val_zero_iff {B : Int} (hB : 0 < B) {xs : List Int} (h : Wf B xs) (hn : Nz xs) : val B xs = 0 ↔ xs = [] := by
 constructor
 ·intro hv
  apply Classical.byContradiction
  intro hne
  have := val_ge hB h hn hne
  have := pow_pos hB (xs.length - 1)
  omega
 ·rintro rfl; rfl
theorem val_pos {B : Int} (hB : 0 < B) {xs : List Int} (h : Wf B xs) (hn : Nz xs) (hne : xs ≠ []) : 0 < val B xs := by
 have := val_ge hB h hn hne
 have := pow_pos hB (xs.length - 1)
 omega
theorem len_le_of_val_lt {B : Int} (hB : 1 < B) {xs : List Int} (h : Wf B xs) (hn : Nz xs) {n : Nat} (hv : val B xs < B ^ n) : xs.length <= n := by
 apply Classical.byContradiction
 intro hc
 have hne : xs ≠ [] := by rintro rfl; simp at hc
 have h1 := val_ge (by omega) h hn hne
 have h2 : B ^ n <= B ^ (xs.length - 1) := pow_mono (by omega) (by omega)
 omega
theorem val_lt_of_len {B : Int} (hB : 1 < B) {xs ys : List Int} (hx : Wf B xs) (hy : Wf B ys) (ny : Nz ys) (h : xs.length < ys.length) : val B xs < val B ys := by
 have hne : ys ≠ [] := by rintro rfl; simp at h
 have h1 := val_ge (by omega) hy ny hne
 have h2 := val_lt (show 0 < B by omega) hx
 have h3 : B ^ xs.length <= B ^ (ys.length - 1) := pow_mono (by omega) (by omega)
 omega
theorem take_succ (xs : List Int) (i : Nat) (hi : i < xs.length) : xs.take (i + 1) = xs.take i ++ [xs[i]] := by
 rw [List.take_succ_eq_append_getElem hi]
theorem val_take_succ (B : Int) (xs : List Int) (i : Nat) (hi : i < xs.length) : val B (xs.take (i + 1)) = val B (xs.take i) + B ^ i * xs[i] := by
 rw [take_succ xs i hi, val_append, val_one]
 simp [Nat.min_eq_left (Nat.le_of_lt hi)]
theorem val_take_succD (B : Int) (xs : List Int) (i : Nat) : val B (xs.take (i + 1)) = val B (xs.take i) + B ^ i * xs[i]?.getD 0 := by
 by_cases hi : i < xs.length
 ·rw [val_take_succ B xs i hi]; simp [hi]
 ·rw [List.take_of_length_le (by omega), List.take_of_length_le (by omega)]; simp [hi]
theorem take_set_succ (zs : List Int) (k : Nat) (s : Int) (hk : k < zs.length) : (zs.set k s).take (k + 1) = zs.take k ++ [s] := by
 rw [List.take_succ_eq_append_getElem (by simpa using hk)]
 simp only [List.take_set, List.getElem_set_self]
 rw [List.set_eq_of_length_le (by simp; omega)]
theorem set_last (zs : List Int) (k : Nat) (s : Int) (hk : zs.length = k + 1) : zs.set k s = zs.take k ++ [s] := by
 rw [<- take_set_succ zs k s (by omega), List.take_of_length_le (by simp; omega)]
theorem val_split (B : Int) (xs : List Int) (i : Nat) (h : i <= xs.length) : val B xs = val B (xs.take i) + B ^ i * val B (xs.drop i) := by
 conv => lhs; rw [<- List.take_append_drop i xs, val_append]
 simp [Nat.min_eq_left h]
theorem val_lt_at {B : Int} (hB : 0 < B) {xs ys : List Int} (hx : Wf B xs) (hy : Wf B ys) (hl : xs.length = ys.length) {k : Nat} (hk : k < xs.length)
 (hd : xs.drop (k + 1) = ys.drop (k + 1)) (h : xs[k]?.getD 0 < ys[k]?.getD 0) : val B xs < val B ys := by
 rw [val_split B xs (k + 1) (by omega), val_split B ys (k + 1) (by omega), hd, val_take_succD, val_take_succD]
 have h1 := val_lt hB (hx.take k)
 have h2 := val_nonneg hB (hy.take k)
 have hp := pow_pos hB k
 have hlen : (xs.take k).length = k := by simp; omega
 rw [hlen] at h1
 have := Int.mul_le_mul_of_nonneg_left (show xs[k]?.getD 0 + 1 <= ys[k]?.getD 0 from h) (Int.le_of_lt hp)
 rw [Int.mul_add] at this
 omega
theorem drop_eq_at {xs ys : List Int} (hl : xs.length = ys.length) {k : Nat} (hd : xs.drop (k + 1) = ys.drop (k + 1)) (h : xs[k]?.getD 0 = ys[k]?.getD 0) : xs.drop k = ys.drop k := by
 by_cases hk : k < xs.length
 ·have hk' : k < ys.length := by omega
  rw [List.drop_eq_getElem_cons hk, List.drop_eq_getElem_cons hk', hd]
  simp [hk, hk'] at h
  rw [h]
 ·rw [List.drop_of_length_le (by omega), List.drop_of_length_le (by omega)]
def sg (x y : Int) : Int := if x < y then -1 else if y < x then 1 else 0
theorem sg_lt {x y : Int} (h : x < y) : sg x y = -1 := by simp [sg, h]
theorem sg_gt {x y : Int} (h : y < x) : sg x y = 1 := by unfold sg; rw [if_neg (by omega), if_pos h]
theorem sg_eq (x : Int) : sg x x = 0 := by simp [sg]
def cut : List Int -> List Int
 | [] => []
 | x :: xs => if x = 0 /\ cut xs = [] then [] else x :: cut xs
theorem val_cut (B : Int) (xs : List Int) : val B (cut xs) = val B xs := by
 induction xs with
 | nil => rfl
 | cons x xs ih =>
   unfold cut
   split
   ·rename_i h; simp only [val]; rw [<- ih, h.2, h.1]; simp [val]
   ·simp only [val, ih]
theorem Wf.cut {B : Int} {xs : List Int} (h : Wf B xs) : Wf B (Dg.cut xs) := by
 induction xs with
 | nil => exact h
 | cons x xs ih =>
   obtain ⟨h0, h1, hw⟩ := h.cons
   unfold Dg.cut
   split
   ·exact Wf.nil B
   ·exact Wf.mk h0 h1 (ih hw)
theorem nz_cut (xs : List Int) : Nz (cut xs) := by
 induction xs with
 | nil => exact Nz.nil
 | cons x xs ih =>
   unfold cut
   split
   ·exact Nz.nil
   ·rename_i h
    intro hne
    by_cases hc : cut xs = []
    ·simp only [hc, List.getLast_singleton]
     exact fun hx => h ⟨hx, hc⟩
    ·rw [List.getLast_cons hc]; exact ih hc
theorem cut_len (xs : List Int) : (cut xs).length <= xs.length := by
 induction xs with
 | nil => simp [cut]
 | cons x xs ih => unfold cut; split <;> simp; omega
theorem cut_eq (xs : List Int) (n : Nat) (hz : ∀ i, n <= i -> xs[i]?.getD 0 = 0) (hn : n = 0 \/ xs[n - 1]?.getD 0 ≠ 0) : cut xs = xs.take n := by
 induction xs generalizing n with
 | nil => simp [cut]
 | cons x xs ih =>
   cases n with
   | zero =>
     have hx : x = 0 := by simpa using hz 0 (by omega)
     have := ih 0 (fun i _ => by simpa using hz (i + 1) (by omega)) (Or.inl rfl)
     simp [cut, hx, this]
   | succ n =>
     have h1 := ih n (fun i hi => by simpa using hz (i + 1) (by omega)) (by
      rcases Nat.eq_zero_or_pos n with h | h
      ·exact Or.inl h
      ·right
       rcases hn with hn | hn
       ·omega
       ·obtain ⟨m, rfl⟩ : ∃ m, n = m + 1 := ⟨n - 1, by omega⟩
        simpa using hn)
     unfold cut
     rw [h1]
     split
     ·rename_i h
      exfalso
      obtain ⟨hx, ht⟩ := h
      rcases hn with hn | hn
      ·omega
      ·rcases Nat.eq_zero_or_pos n with h0 | h0
       ·subst h0; simp at hn; exact hn hx
       ·obtain ⟨m, rfl⟩ : ∃ m, n = m + 1 := ⟨n - 1, by omega⟩
        have : xs = [] := by
         cases xs with
         | nil => rfl
         | cons => simp at ht
        subst this
        simp at hn
     ·simp
theorem val_of_zeros {B : Int} {xs : List Int} (h : ∀ i : Nat, xs[i]?.getD 0 = 0) : val B xs = 0 := by
 induction xs with
 | nil => rfl
 | cons x xs ih =>
   have h0 : x = 0 := by simpa using h 0
   rw [val, ih (fun i => by simpa using h (i + 1)), h0]
   simp
theorem val_set_zeros {B c : Int} {xs : List Int} (h : ∀ i : Nat, xs[i]?.getD 0 = 0) (hl : 0 < xs.length) : val B (xs.set 0 c) = c := by
 cases xs with
 | nil => simp at hl
 | cons x xs =>
   have := val_of_zeros (B := B) (xs := xs) (fun i => by simpa using h (i + 1))
   simp [val, this]
theorem three (T : List Int) (k n : Nat) : T.take k ++ (T.drop k).take n ++ T.drop (k + n) = T := by
 rw [List.append_assoc, <- List.drop_drop, List.take_append_drop, List.take_append_drop]
theorem mul_bound {x y B : Int} (hx : 0 <= x) (hx1 : x < B) (hy : 0 <= y) (hy1 : y < B) : x * y <= (B - 1) * (B - 1) :=
 Int.mul_le_mul (by omega) (by omega) hy (by omega)
theorem mid_get (P M S : List Int) (k : Nat) (hk : k < M.length) : (P ++ M ++ S)[P.length + k]?.getD 0 = M[k]?.getD 0 := by
 rw [List.append_assoc, List.getElem?_append_right (by omega)]
 simp [List.getElem?_append_left hk]
theorem mid_set (P M S : List Int) (k : Nat) (x : Int) (hk : k < M.length) : (P ++ M ++ S).set (P.length + k) x = P ++ M.set k x ++ S := by
 rw [List.append_assoc, List.set_append_right _ _ (by omega)]
 simp [List.set_append_left _ _ hk]
theorem step_mul {P A D r c f x m h l s k B : Int} (hv : r + c * P = A + f * D) (hm : x * f + c = h * B + l) (ha : m + l = s + B * k) :
 (r + P * s) + (h + k) * (P * B) = (A + P * m) + f * (D + P * x) := by
 have e1 : P * (m + (x * f + c)) = P * (s + B * k + h * B) := by rw [hm]; congr 1; omega
 simp only [Int.mul_add, Int.add_mul, Int.mul_comm, Int.mul_left_comm, Int.mul_assoc] at *
 omega
theorem step_sum {P A D r c x y s c' B : Int} (h : r + c * P = A + D) (k : x + y + c = s + B * c') : (r + P * s) + c' * (P * B) = (A + P * x) + (D + P * y) := by
 have e1 : P * (x + y + c) = P * (s + B * c') := by rw [k]
 simp only [Int.mul_add, Int.mul_comm, Int.mul_left_comm] at *
 omega
theorem step_dif {P A D r c x y s c' B : Int} (h : r - c * P = A - D) (k : x - y - c = s - B * c') : (r + P * s) - c' * (P * B) = (A + P * x) - (D + P * y) := by
 have e1 : P * (x - y - c) = P * (s - B * c') := by rw [k]
 simp only [Int.mul_sub, Int.mul_comm, Int.mul_left_comm] at *
 omega
end Go.Proofs.YtdnheaafcbihbaaGreat.Dg
namespace Go.Proofs.YtdnheaafcbihbaaGreat
open Go Go.RowKit
def Sl (K : IntKind) (w : World) (v : Value) (xs : List Int) : Prop :=
 ∃ ao cap, v = .slice ao xs.length cap /\ xs.length <= cap /\ cap <= maxLen /\
   ∀ i, i < xs.length -> ∃ b o, ao = some ⟨b, o, none⟩ /\ b < w.heap.size /\ w.cell? ⟨b, o + i, none⟩ = some (.int K (xs[i]?.getD 0))
theorem Sl.below {K : IntKind} {w w' : World} {v : Value} {xs : List Int} (h : Sl K w v xs) (hb : Below w.heap.size w w') : Sl K w' v xs := by
 obtain ⟨ao, cap, rfl, hc, hm, hx⟩ := h
 refine ⟨ao, cap, rfl, hc, hm, fun i hi => ?_⟩
 obtain ⟨b, o, e, hl, hcell⟩ := hx i hi
 exact ⟨b, o, e, Nat.lt_of_lt_of_le hl hb.size, (hb.cell (p := ⟨b, o + i, none⟩) hl).trans hcell⟩
theorem Sl.nil (K : IntKind) (w : World) : Sl K w (.slice none 0 0) [] :=
 ⟨none, 0, rfl, Nat.le_refl _, Nat.zero_le _, fun i hi => absurd hi (Nat.not_lt_zero _)⟩
def RetSl (K : IntKind) (w : World) (xs : List Int) (e : Ending) (w' : World) : Prop := Below w.heap.size w w' /\ ∃ v', e = .returned v' /\ Sl K w' v' xs /\ ∀ k, v'.ownBlock = some k -> w.heap.size <= k
def Frm (B : Nat) (v : Value) : Prop := ∀ k, v.ownBlock = some k -> B <= k
theorem Frm.nil (B : Nat) : Frm B (.slice none 0 0) := fun k h => by simp [Value.ownBlock] at h
theorem Frm.mk {B b o n c : Nat} (h : B <= b) : Frm B (.slice (some ⟨b, o, none⟩) n c) := fun k hk => by simp [Value.ownBlock] at hk; omega
theorem Frm.of {B : Nat} {v v' : Value} (h : Frm B v) (hv : ∀ k, v'.ownBlock = some k -> v.ownBlock = some k) : Frm B v' := fun k hk => h k (hv k hk)
theorem Frm.mono {B B' : Nat} {v : Value} (h : Frm B v) (hB : B' <= B) : Frm B' v := fun k hk => Nat.le_trans hB (h k hk)
def RetSame (K : IntKind) (w : World) (v : Value) (xs : List Int) (e : Ending) (w' : World) : Prop := w = w' /\ ∃ v', e = .returned v' /\ Sl K w v' xs /\ ∀ k, v'.ownBlock = some k -> v.ownBlock = some k
def Row (E : TypeId) (K : IntKind) (w : World) (g : Nat) (xs : List Int) : Prop := w.heap[g]? = some (.cells (xs.map (Value.int K)).toArray E (0, 0))
section
variable {E : TypeId} {K : IntKind} {w w' : World} {g : Nat} {xs : List Int}
theorem Row.lt (h : Row E K w g xs) : g < w.heap.size := (Array.getElem?_eq_some_iff.1 h).1
theorem Row.cell (h : Row E K w g xs) {i : Nat} (hi : i < xs.length) : w.cell? ⟨g, i, none⟩ = some (.int K (xs[i]?.getD 0)) := by
 rw [cell_of_row w g i _ E (0, 0) h]; simp [hi]
theorem Row.free (h : Row E K w g xs) (i : Nat) : w.frozen? ⟨g, i, none⟩ = false := frozen_of_row w g i _ E h
theorem Row.set (h : Row E K w g xs) (i : Nat) (x : Int) : Row E K (w.setCell ⟨g, i, none⟩ (.int K x)) g (xs.set i x) := by
 have := heap_setCell_same w g i _ E (.int K x) h
 unfold Row
 rw [this]
 congr 1
 apply congrArg (fun a => Obj.cells a E (0, 0))
 simp [List.map_set]
theorem Row.keep (h : Row E K w g xs) (he : w'.heap[g]? = w.heap[g]?) : Row E K w' g xs := he.trans h
theorem Row.below (h : Row E K w g xs) (hb : Below w.heap.size w w') : Row E K w' g xs := (hb.block g h.lt).trans h
theorem Row.drew (h : Row E K w g xs) : Row E K w.drew g xs := h
theorem Row.alloc (h : Row E K w g xs) (o : Obj) : Row E K (w.alloc o) g xs := (heap_alloc_old w o h.lt).trans h
theorem Row.setOther (h : Row E K w g xs) {a : Addr} (v : Value) (hne : a.block ≠ g) : Row E K (w.setCell a v) g xs := (heap_setCell_other w a g v (fun e => hne e.symm)).trans h
def live : Value -> Option Nat
 | .slice (some a) n _ => if n = 0 then none else some a.block
 | _ => none
theorem live_own {v : Value} {k : Nat} (h : live v = some k) : v.ownBlock = some k := by
 unfold live at h
 split at h
 ·split at h
  ·cases h
  ·exact h
 ·cases h
theorem Sl.kept {v : Value} {row : Option Nat} (h : Sl K w v xs) (hg : w.grownBy w' row) (hne : ∀ k, live v = some k -> row ≠ some k) : Sl K w' v xs := by
 obtain ⟨ao, cap, rfl, hc, hm, hx⟩ := h
 refine ⟨ao, cap, rfl, hc, hm, fun i hi => ?_⟩
 obtain ⟨b, o, rfl, hl, hcell⟩ := hx i hi
 exact ⟨b, o, rfl, Nat.lt_of_lt_of_le hl hg.size, hg.cell hcell (fun e => hne b (by simp only [live]; rw [if_neg (by omega)]) e.symm)⟩
theorem Row.new (w : World) (xs : List Int) : Row E K (w.alloc (.cells (xs.map (Value.int K)).toArray E)) w.heap.size xs := heap_alloc_new w _
theorem Row.sl (h : Row E K w g xs) {o n cap : Nat} (hn : o + n <= xs.length) (hc : n <= cap) (hm : cap <= maxLen) : Sl K w (.slice (some ⟨g, o, none⟩) n cap) ((xs.drop o).take n) := by
 have e : ((xs.drop o).take n).length = n := by simp; omega
 refine ⟨_, cap, by rw [e], by rw [e]; exact hc, hm, fun i hi => ?_⟩
 have hi' : i < n := by rw [e] at hi; exact hi
 refine ⟨g, o, rfl, h.lt, ?_⟩
 rw [h.cell (by omega), List.getElem?_take, if_pos hi', List.getElem?_drop]
theorem Row.slAll (h : Row E K w g xs) {n cap : Nat} (hn : n = xs.length) (hc : n <= cap) (hm : cap <= maxLen) : Sl K w (.slice (some ⟨g, 0, none⟩) n cap) xs := by
 have := h.sl (o := 0) (n := n) (cap := cap) (by omega) hc hm
 simpa [hn] using this
end
theorem wpList_make_zeros {P : Program} (w : World) {ops : Array Oper} {rest : List Oper} {o : Oper} {a : Act} {Q : Exit -> Act -> World -> Prop}
 (hg : o.guard = none) (l c : Operand) (t : TypeId) (hop : o.op = Op.makeSlice t l c)
 (e : TypeId) (K : IntKind) (h1 : P.underlying t = some (.slice e)) (h2 : (P.info? e).map (fun i => (i.zero, i.size, i.bytes)) = some (some (.int K 0), 1, 8))
 (L C : Int) (n : Nat) (hl : a.eval l = .int .i64 L) (hc : a.eval c = .int .i64 C) (hL : L = (n : Int)) (hC : C = (n : Int)) (b2 : 8 * n <= 281474976710656)
 (hK : ∀ w', Row e K w' w.heap.size (List.replicate n 0) -> Below w.heap.size w w' -> wpList P ops Q rest (a.put o.dst (.slice (some ⟨w.heap.size, 0, none⟩) n n)) w') :
 wpList P ops Q (o :: rest) a w := by
 refine wpList_plain hg fun K' hK' => ?_
 obtain ⟨i, hi, hz, hs, hb⟩ := info_parts h2
 have hrun := run_make (P := P) w t e i (.int K 0) h1 hi hz .i64 .i64 n n (by omega) (Int.le_refl _) (by rw [hb]; omega) (by omega)
 subst hL
 subst hC
 unfold Oper.wp
 simp only [execOp, hop, hl, hc]
 simp [hrun, Result.andThen]
 refine hK' _ _ ?_
 refine hK _ ?_ ((Below.refl _ _).alloc (Nat.le_refl _) _)
 have hm : madeCells (Value.cells (.int K 0)) (n * i.size) = ((List.replicate n (0 : Int)).map (Value.int K)).toArray := by
  rw [hs, Nat.mul_one]
  apply Array.toList_inj.1
  rw [show Value.cells (.int K 0) = #[.int K 0] from rfl, toList_madeCells_one]
  simp
 rw [hm]
 exact Row.new w _
def Mine (E : TypeId) (K : IntKind) (B : Nat) (w : World) (v : Value) (xs : List Int) : Prop :=
 (v = .slice none 0 0 /\ xs = []) \/
   ∃ g cap cur, v = .slice (some ⟨g, 0, none⟩) xs.length cap /\ B <= g /\ w.heap[g]? = some (.cells cur E (0, 0)) /\ xs.length <= cap /\ cap <= cur.size /\ cap <= maxLen /\ cur.toList.take xs.length = xs.map (Value.int K)
section
variable {E : TypeId} {K : IntKind} {B : Nat} {w w' : World} {v : Value} {xs : List Int}
theorem Mine.nil (E : TypeId) (K : IntKind) (B : Nat) (w : World) : Mine E K B w (.slice none 0 0) [] := .inl ⟨rfl, rfl⟩
theorem Mine.sl (h : Mine E K B w v xs) : Sl K w v xs := by
 rcases h with ⟨rfl, rfl⟩ | ⟨g, cap, cur, rfl, hB, hg, hn, hc, hm, ht⟩
 ·exact Sl.nil _ _
 ·refine ⟨_, cap, rfl, hn, hm, fun i hi => ⟨g, 0, rfl, (Array.getElem?_eq_some_iff.1 hg).1, ?_⟩⟩
  rw [Nat.zero_add, cell_of_row w g i cur E (0, 0) hg]
  have : (cur.toList.take xs.length)[i]? = cur[i]? := by rw [List.getElem?_take, if_pos hi]; simp
  rw [<- this, ht]
  simp [hi]
theorem Mine.own (h : Mine E K B w v xs) : ∀ k, v.ownBlock = some k -> B <= k /\ k < w.heap.size := by
 intro k hk
 rcases h with ⟨rfl, rfl⟩ | ⟨g, cap, cur, rfl, hB, hg, hn, hc, hm, ht⟩
 ·simp [Value.ownBlock] at hk
 ·simp [Value.ownBlock] at hk
  subst hk
  exact ⟨hB, (Array.getElem?_eq_some_iff.1 hg).1⟩
theorem Mine.kept {row : Option Nat} (h : Mine E K B w v xs) (hg : w.grownBy w' row) (hne : v.ownBlock = none \/ v.ownBlock ≠ row) : Mine E K B w' v xs := by
 rcases h with h | ⟨g, cap, cur, rfl, hB, hgg, rest⟩
 ·exact .inl h
 ·refine .inr ⟨g, cap, cur, rfl, hB, ?_, rest⟩
  rw [hg.block g (Array.getElem?_eq_some_iff.1 hgg).1 (by simpa [Value.ownBlock] using hne)]
  exact hgg
theorem Mine.below (h : Mine E K B w v xs) (hb : Below w.heap.size w w') : Mine E K B w' v xs :=
 h.kept (row := none) ⟨hb.os, hb.tape, hb.output, hb.size, fun i hi _ => hb.block i hi⟩ (by cases hv : v.ownBlock <;> simp)
theorem Mine.alloc (h : Mine E K B w v xs) (o : Obj) : Mine E K B (w.alloc o) v xs := h.kept (World.grownBy_alloc w o none) (by cases hv : v.ownBlock <;> simp)
theorem Mine.lower {B' : Nat} (h : Mine E K B w v xs) (hB : B' <= B) : Mine E K B' w v xs := by
 rcases h with h | ⟨g, cap, cur, rfl, hb, rest⟩
 ·exact .inl h
 ·exact .inr ⟨g, cap, cur, rfl, by omega, rest⟩
theorem Mine.at (h : Mine E K B w v xs) {i : Nat} (hi : i < xs.length) : ∃ g cap, v = .slice (some ⟨g, 0, none⟩) xs.length cap /\ B <= g /\ g < w.heap.size /\ xs.length <= cap /\ cap <= maxLen /\ w.cell? ⟨g, i, none⟩ = some (.int K (xs[i]?.getD 0)) /\ w.frozen? ⟨g, i, none⟩ = false /\
 (∀ x, Mine E K B (w.setCell ⟨g, i, none⟩ (.int K x)) v (xs.set i x)) := by
 rcases h with ⟨rfl, rfl⟩ | ⟨g, cap, cur, rfl, hB, hg, hn, hc, hm, ht⟩
 ·simp at hi
 ·have hcell : w.cell? ⟨g, i, none⟩ = some (.int K (xs[i]?.getD 0)) := by
   rw [cell_of_row w g i cur E (0, 0) hg]
   have : (cur.toList.take xs.length)[i]? = cur[i]? := by rw [List.getElem?_take, if_pos hi]; simp
   rw [<- this, ht]
   simp [hi]
  refine ⟨g, cap, rfl, hB, (Array.getElem?_eq_some_iff.1 hg).1, hn, hm, hcell, frozen_of_row w g i cur E hg, fun x => .inr ⟨g, cap, cur.setIfInBounds i (.int K x), by simp, hB, heap_setCell_same w g i cur E _ hg, by simpa using hn, by simpa using hc, hm, ?_⟩⟩
  rw [Array.toList_setIfInBounds, List.length_set, List.take_set, ht, List.map_set]
theorem Mine.of_owns {n : Nat} (h : w.ownsRow B E 1 v n (xs.map (Value.int K))) : Mine E K B w v xs := by
 have hl : xs.length = n := by simpa using h.1
 rcases h.2 with ⟨rfl, h0⟩ | ⟨g, cap, cur, rfl, hg, hh, hn, hm, hc, ht⟩
 ·have : xs = [] := by cases xs with | nil => rfl | cons => simp at hl; omega
  exact .inl ⟨rfl, this⟩
 ·exact .inr ⟨g, cap, cur, by rw [hl], hg, hh, by omega, by omega, hm, by rw [hl]; simpa using ht⟩
end
theorem run_append_mine {P : Program} (w : World) (t ty E : TypeId) (K : IntKind) (bytes : Nat) (ht : P.underlying t = some (.slice E))
 (hinfo : (P.info? E).map (fun i => (i.zero, i.size, i.bytes)) = some (some (.int K 0), 1, bytes)) (B : Nat) (v : Value) (xs : List Int) (hM : Mine E K B w v xs) (hB : B <= w.heap.size)
 (a : Addr) (c : Nat) (news : List Int) (hnews : ∀ j u, (news.map (Value.int K))[j]? = some u -> w.cell? (a.add j) = some u)
 (hb : (xs.length + news.length) * bytes <= 140737488355328) (hm : xs.length + news.length <= maxLen) :
 ∃ v' w', (Builtin.append_ #[t, t] ty #[v, .slice (some a) news.length c]).run P w = .ok v' w' /\ Mine E K B w' v' (xs ++ news) /\ w.grownBy w' v.ownBlock /\ (v'.ownBlock = v.ownBlock \/ Frm w.heap.size v') := by
 obtain ⟨i, hi, hz, hs, hby⟩ := info_parts hinfo
 have hone : ∀ u ∈ news.map (Value.int K), u.oneCell' = true := by
  intro u hu
  obtain ⟨a, _, rfl⟩ := List.mem_map.1 hu
  rfl
 have hl : (news.map (Value.int K)).length = news.length * 1 := by simp
 rcases hM with ⟨rfl, rfl⟩ | ⟨g, cap, cur, rfl, hBg, hg, hn, hc, hcm, htk⟩
 ·obtain ⟨v', w', hr, h2, h3, _⟩ := run_append_own (P := P) w w.heap.size t ty E i (.int K 0) 1 bytes ht hi hz hs hby rfl (by decide) (.slice none 0 0) 0 [] (World.ownsRow_nil w w.heap.size E 1) a news.length c (news.map (Value.int K)) hl hnews hone (by simpa using hm) (by simpa using hb) (Nat.le_refl _)
  exact ⟨v', w', hr, (Mine.of_owns (n := 0 + news.length) (by simpa using h2)).lower hB, h3, .inr (fun k hk => (h2.lt k hk).1)⟩
 ·by_cases hroom : xs.length + news.length <= cap
  ·have hfit : xs.length * i.size + (news.map (Value.int K)).length <= cur.size := by rw [hs]; simp; omega
   have hr := run_append_room (P := P) w t ty E i ht hi g xs.length cap cur hg a news.length c (news.map (Value.int K)) (by rw [hs]; exact hl) hnews hone hroom hfit
   rw [hs, Nat.mul_one] at hr
   refine ⟨_, _, hr, .inr ⟨g, cap, _, by simp, hBg, setRow_heap w g cur _ E _ hg, by simpa using hroom, ?_, hcm, ?_⟩, ⟨rfl, rfl, rfl, by simp, fun k _ hk => setRow_other w g k _ (fun e => hk (by simp [Value.ownBlock, e]))⟩, .inl rfl⟩
   ·simp only [List.size_toArray, List.length_append, List.length_take, List.length_drop, Array.length_toList, List.length_map]
    omega
   ·rw [htk, List.length_append, List.map_append]
    have : (xs.map (Value.int K) ++ news.map (Value.int K)).length = xs.length + news.length := by simp
    rw [<- this]
    exact List.take_left
  ·have holds : ∀ j u, (xs.map (Value.int K))[j]? = some u -> w.cell? ((⟨g, 0, none⟩ : Addr).add j) = some u := by
    intro j u hu
    have e : (⟨g, 0, none⟩ : Addr).add j = ⟨g, j, none⟩ := by unfold Addr.add; split <;> simp_all
    rw [e, cell_of_row w g j cur E (0, 0) hg]
    have hj : j < xs.length := by
     apply Classical.byContradiction
     intro hc'
     simp [hc'] at hu
    rw [<- htk, List.getElem?_take, if_pos hj] at hu
    simpa using hu
   obtain ⟨v', w', hr, h2, h3⟩ := run_append_arg_grows (P := P) w t ty E i (.int K 0) 1 bytes ht hi hz hs hby rfl (by decide) ⟨g, 0, none⟩ xs.length cap (xs.map (Value.int K)) (by simp) holds a news.length c (news.map (Value.int K)) hl hnews (by omega) hm hb
   refine ⟨v', w', hr, ?_, ⟨h3.os, h3.tape, h3.output, h3.size, fun k hk _ => h3.block k hk (by simp)⟩, .inr (fun k hk => (h2.lt k hk).1)⟩
   exact (Mine.of_owns (n := xs.length + news.length) (by simpa using h2)).lower hB
theorem wpList_append_mine {P : Program} (w : World) {ops : Array Oper} {rest : List Oper} {o : Oper} {a : Act} {Q : Exit -> Act -> World -> Prop} (hgd : o.guard = none) (s x : Operand) (t : TypeId)
 (ho : o.op = .call { callee := .builtin .append, args := #[s, x], argTypes := #[t, t] }) (E : TypeId) (K : IntKind) (bytes : Nat) (ht : P.underlying t = some (.slice E))
 (hinfo : (P.info? E).map (fun i => (i.zero, i.size, i.bytes)) = some (some (.int K 0), 1, bytes)) (B : Nat) (v : Value) (xs : List Int) (hs : a.eval s = v) (hM : Mine E K B w v xs) (hB : B <= w.heap.size)
 (ad : Addr) (m c : Nat) (news : List Int) (hx : a.eval x = .slice (some ad) m c) (hl : news.length = m) (hnews : ∀ j u, (news.map (Value.int K))[j]? = some u -> w.cell? (ad.add j) = some u)
 (hb : (xs.length + news.length) * bytes <= 140737488355328) (hm : xs.length + news.length <= maxLen)
 (h : ∀ v' w', Mine E K B w' v' (xs ++ news) -> w.grownBy w' v.ownBlock -> (v'.ownBlock = v.ownBlock \/ Frm w.heap.size v') -> wpList P ops Q rest (a.put o.dst v') w') : wpList P ops Q (o :: rest) a w := by
 refine wpList_plain hgd fun K' hK => ?_
 subst hl
 obtain ⟨v', w', hrun, r1, r2, r3⟩ := run_append_mine (P := P) w t o.type E K bytes ht hinfo B v xs hM hB ad c news hnews hb hm
 unfold Oper.wp
 simp [execOp, ho, resolve, invoke, builtin, hs, hx, hrun, Result.andThen]
 exact hK _ _ (h v' w' r1 r2 r3)
theorem new_one {K : IntKind} {w : World} {b o : Nat} {x : Int} (h : w.cell? ⟨b, o, none⟩ = some (.int K x)) : ∀ j u, ([x].map (Value.int K))[j]? = some u -> w.cell? ((⟨b, o, none⟩ : Addr).add j) = some u := by
 intro j u hu
 cases j with
 | zero => simp at hu; subst hu; rw [<- h]; congr 1
 | succ j => simp at hu
structure Kept (p : Prop) : Prop where
 out : p
theorem growRefl (w : World) (r : Option Nat) : w.grownBy w r := ⟨rfl, rfl, rfl, Nat.le_refl _, fun _ _ _ => rfl⟩
theorem growTrans {a b c : World} {r : Option Nat} (h : a.grownBy b r) (k : b.grownBy c r) : a.grownBy c r :=
 ⟨k.os.trans h.os, k.tape.trans h.tape, k.output.trans h.output, Nat.le_trans h.size k.size, fun i hi hne => (k.block i (Nat.lt_of_lt_of_le hi h.size) hne).trans (h.block i hi hne)⟩
theorem growSet {w w' : World} {g : Nat} (h : w.grownBy w' (some g)) (i : Nat) (v : Value) : w.grownBy (w'.setCell ⟨g, i, none⟩ v) (some g) :=
 growTrans h ⟨rfl, rfl, rfl, by simp [World.setCell], fun k _ hk => heap_setCell_other w' ⟨g, i, none⟩ k v (fun e => hk (by rw [e]))⟩
theorem growBelow {w w' : World} {r : Option Nat} (h : Below w.heap.size w w') : w.grownBy w' r := ⟨h.os, h.tape, h.output, h.size, fun i hi _ => h.block i hi⟩
theorem belowGrow {w0 w w' : World} {g : Nat} (h : w.grownBy w' (some g)) (hb : Below w0.heap.size w0 w) (hg : w0.heap.size <= g) : Below w0.heap.size w0 w' :=
 hb.grown h hb.size (fun k hk => by cases hk; exact hg)
theorem belowCell {w w' : World} {b o : Nat} {v : Value} (h : Below w.heap.size w w') (hc : w.cell? ⟨b, o, none⟩ = some v) : w'.cell? ⟨b, o, none⟩ = some v :=
 (h.cell (p := ⟨b, o, none⟩) (World.block_lt_of_cell? w _ hc)).trans hc
theorem belowDrew (w : World) : Below w.heap.size w w.drew := ⟨rfl, rfl, rfl, Nat.le_refl _, fun _ _ => rfl⟩
theorem heap_last (W : World) (o : Obj) (n : Nat) (h : W.heap.size = n) : (W.alloc o).heap[n]? = some o := by subst h; exact heap_alloc_new W o
theorem two_cells {w : World} {g : Nat} {a b : Value} {T : TypeId} (h : w.heap[g]? = some (.cells #[a, b] T (0, 0))) :
 w.cell? ⟨g, 0, none⟩ = some a /\ w.cell? ⟨g, 1, none⟩ = some b /\ w.frozen? ⟨g, 0, none⟩ = false /\ w.frozen? ⟨g, 1, none⟩ = false :=
 ⟨by rw [cell_of_row w g 0 _ T (0, 0) h]; rfl, by rw [cell_of_row w g 1 _ T (0, 0) h]; rfl, frozen_of_row w g 0 _ T h, frozen_of_row w g 1 _ T h⟩
theorem two_set {w : World} {g : Nat} {a b : Value} {T : TypeId} (h : w.heap[g]? = some (.cells #[a, b] T (0, 0))) (u v : Value) :
 ((w.setCell ⟨g, 0, none⟩ u).setCell ⟨g, 1, none⟩ v).heap[g]? = some (.cells #[u, v] T (0, 0)) := by
 have h1 := heap_setCell_same w g 0 #[a, b] T u h
 have h2 := heap_setCell_same _ g 1 _ T v h1
 simpa using h2
theorem three_cells {w : World} {g : Nat} {a b c : Value} {T : TypeId} (h : w.heap[g]? = some (.cells #[a, b, c] T (0, 0))) :
 w.cell? ⟨g, 0, none⟩ = some a /\ w.cell? ⟨g, 1, none⟩ = some b /\ w.cell? ⟨g, 2, none⟩ = some c /\ w.frozen? ⟨g, 0, none⟩ = false /\ w.frozen? ⟨g, 1, none⟩ = false /\ w.frozen? ⟨g, 2, none⟩ = false :=
 ⟨by rw [cell_of_row w g 0 _ T (0, 0) h]; rfl, by rw [cell_of_row w g 1 _ T (0, 0) h]; rfl, by rw [cell_of_row w g 2 _ T (0, 0) h]; rfl, frozen_of_row w g 0 _ T h, frozen_of_row w g 1 _ T h, frozen_of_row w g 2 _ T h⟩
def Bxs (w0 : World) (os : List Obj) (W : World) : Prop := Below w0.heap.size w0 W /\ w0.heap.size + os.length <= W.heap.size /\ ∀ i o, os[i]? = some o -> W.heap[w0.heap.size + i]? = some o
theorem Bxs.start (w : World) : Bxs w [] w := ⟨Below.refl _ _, by simp, fun i o h => by simp at h⟩
theorem Bxs.alloc {w0 W : World} {os : List Obj} (h : Bxs w0 os W) (hs : W.heap.size = w0.heap.size + os.length) (o : Obj) : Bxs w0 (os ++ [o]) (W.alloc o) := by
 refine ⟨h.1.alloc h.1.size _, by simp; omega, fun i o' hi => ?_⟩
 by_cases hl : i < os.length
 ·rw [List.getElem?_append_left hl] at hi
  exact (heap_alloc_old _ _ (by omega)).trans (h.2.2 i o' hi)
 ·rw [List.getElem?_append_right (by omega)] at hi
  have : i - os.length = 0 := by
   apply Classical.byContradiction
   intro hc
   rw [List.getElem?_eq_none (by simp; omega)] at hi
   cases hi
  rw [this] at hi
  simp only [List.getElem?_cons_zero, Option.some.injEq] at hi
  subst hi
  have e : w0.heap.size + i = W.heap.size := by omega
  rw [e]
  exact heap_alloc_new W _
theorem Bxs.below {w0 W W' : World} {os : List Obj} (h : Bxs w0 os W) (hb : Below W.heap.size W W') : Bxs w0 os W' :=
 ⟨h.1.trans (hb.mono h.1.size), Nat.le_trans h.2.1 hb.size, fun i o hi => (hb.block _ (Array.getElem?_eq_some_iff.1 (h.2.2 i o hi)).1).trans (h.2.2 i o hi)⟩
theorem Bxs.drew {w0 W : World} {os : List Obj} (h : Bxs w0 os W) : Bxs w0 os W.drew := h.below (belowDrew W)
theorem Bxs.b0 {w0 W : World} {o : Obj} {os : List Obj} (h : Bxs w0 (o :: os) W) : W.heap[w0.heap.size]? = some o := h.2.2 0 o rfl
theorem Bxs.b1 {w0 W : World} {o o1 : Obj} {os : List Obj} (h : Bxs w0 (o :: o1 :: os) W) : W.heap[w0.heap.size + 1]? = some o1 := h.2.2 1 o1 rfl
theorem info_i64 : (Tryz.prog.info? 3).map (fun i => (i.zero, i.size, i.bytes)) = some (some (.int .i64 0), 1, 8) := by kernel_rfl
def RB (w : World) (v : Value) (e : Ending) (w' : World) : Prop := Below w.heap.size w w' /\ e = .returned v
def RQ (w : World) (v : Value) (e : Ending) (w' : World) : Prop := e = .returned v /\ ∃ m, w' = w.drewN m
theorem RQ.rb {w w' : World} {v : Value} {e : Ending} (h : RQ w v e w') : RB w v e w' := by
 obtain ⟨rfl, m, rfl⟩ := h
 exact ⟨below_drewN (Below.refl _ _) m, rfl⟩
def sliceLen : Value -> Nat | .slice _ k _ => k | _ => 0
theorem w64 {n : Int} (h0 : 0 <= n) (h1 : n <= 4611686018427387904) : wrap64 n = n := by unfold wrap64; omega
theorem wi {n : Int} (h0 : 0 <= n) (h1 : n <= 4611686018427387904) : IntKind.i64.wrap n = n := by rw [IntKind.wrap_i64]; omega
theorem wmul {a b c : Nat} (h : a * b = c) (hc : c <= 1152921504606846976) : wrap64 ((a : Int) * b) = c := by rw [<- Int.natCast_mul, h]; exact w64 (by omega) (by omega)
theorem wimul {a b c : Nat} (h : a * b = c) (hc : c <= 1152921504606846976) : IntKind.i64.wrap ((a : Int) * b) = c := by rw [<- Int.natCast_mul, h]; exact wi (by omega) (by omega)
theorem nmul_le {a b A B : Nat} (h1 : a <= A) (h2 : b <= B) : a * b <= A * B := Nat.mul_le_mul h1 h2
end Go.Proofs.YtdnheaafcbihbaaGreat
namespace Go.Proofs.YtdnheaafcbihbaaGreat
open Go Go.RowKit
open FFld (ints)
def DigRet (p n : Nat) (w : World) (e : Ending) (w' : World) : Prop := Below w.heap.size w w' /\ ∃ v l, e = .returned v /\ Mine 3 .i64 w.heap.size w' v (ints l) /\ FFld.Digs p n l
def Cells (B : Nat) (ao : Option Addr) (l : List Nat) (w : World) : Prop := ∀ w', Below B w w' -> ∀ i, i < l.length -> ∃ b o, ao = some ⟨b, o, none⟩ /\ w'.cell? ⟨b, o + i, none⟩ = some (.int .i64 ((l[i]?.getD 0 : Nat) : Int))
theorem Sl.cells {w : World} {ao : Option Addr} {k cap B : Nat} {l : List Nat} (h : Sl .i64 w (.slice ao k cap) (ints l)) (hB : w.heap.size <= B) : Cells B ao l w := by
 obtain ⟨ao', cap', e, hc, hm, hx⟩ := h
 simp only [Value.slice.injEq] at e
 obtain ⟨rfl, e2, rfl⟩ := e
 intro w' hb i hi
 obtain ⟨b, o, e, hl, hcell⟩ := hx i (by rw [FFld.ints_len]; exact hi)
 rw [FFld.ints_get] at hcell
 exact ⟨b, o, e, (hb.cell (p := ⟨b, o + i, none⟩) (Nat.lt_of_lt_of_le hl hB)).trans hcell⟩
theorem Sl.form {w : World} {v : Value} {xs : List Int} (h : Sl .i64 w v xs) : ∃ ao cap, v = .slice ao xs.length cap /\ xs.length <= cap /\ cap <= maxLen := by
 obtain ⟨ao', cap', e, hc, hm, hx⟩ := h
 exact ⟨ao', cap', e, hc, hm⟩
def RN (w : World) (P : Nat -> Prop) (e : Ending) (w' : World) : Prop := Below w.heap.size w w' /\ ∃ c : Nat, e = .returned (.int .i64 c) /\ P c
def Yc (B : Nat) (ao : Option Addr) (l : List Nat) (w : World) : Prop := ∀ i, i < l.length -> ∃ b o, ao = some ⟨b, o, none⟩ /\ B <= b /\ b < w.heap.size /\ w.cell? ⟨b, o + i, none⟩ = some (.int .i64 ((l[i]?.getD 0 : Nat) : Int))
abbrev rfv (q p k m : Nat) : Value := .agg #[.int .i64 q, .int .i64 p, .int .i64 k, .int .i64 m]
structure MdOk (p k m : Nat) : Prop where
 one : k = 1 -> m = p
 more : 2 <= k -> p ^ k <= m /\ m < 2 * p ^ k
abbrev rbox (q p k m : Nat) : Obj := .cells #[.int .i64 q, .int .i64 p, .int .i64 k, .int .i64 m] 47

def GrAt (D : FFld.FD) (h : FFld.PK D.p D.k D.m) (a r : Nat) (ok : Bool) : Prop := if ok then ∀ i, 2 <= i -> i < r -> FFld.GTest D h a i else ∃ i, 2 <= i /\ i < D.p ^ D.k /\ ¬ FFld.GTest D h a i
end Go.Proofs.YtdnheaafcbihbaaGreat
