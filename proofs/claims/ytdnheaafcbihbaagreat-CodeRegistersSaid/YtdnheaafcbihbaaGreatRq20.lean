/-
  Texts of the proof, merged by program: Eva Thp Slk Pel Lgp Smu Gdv.
-/
import Derived.Test.YtdnheaafcbihbaaGreatRq19
set_option linter.unusedSectionVars false
set_option linter.unusedSimpArgs false
set_option linter.unusedVariables false
set_option maxHeartbeats 16000000
namespace Go.Proofs.YtdnheaafcbihbaaGreat
namespace FFld
namespace Dom
variable {α : Type} (F : Dom α)
theorem eval_snoc (c x : α) : ∀ (l : List α), F.eval (l ++ [c]) x = F.add (F.eval l x) (F.mul c (F.pow x l.length))
 | [] => by
   simp only [List.nil_append, eval, List.length_nil, pow_zero, F.mul_zero, F.add_zero, F.zero_add, F.mul_one]
 | a :: l => by
   simp only [List.cons_append, eval, List.length_cons]
   rw [eval_snoc c x l, F.mul_add, <- F.add_assoc, pow_succ, <- F.mul_assoc c, F.mul_comm x (F.mul c _)]
theorem eval_range (f : Nat -> α) (x : α) : ∀ (n : Nat), F.eval ((List.range n).map f) x = F.sm (fun i => F.mul (f i) (F.pow x i)) n
 | 0 => rfl
 | n + 1 => by
   rw [List.range_succ, List.map_append, List.map_cons, List.map_nil, eval_snoc, eval_range f x n, List.length_map, List.length_range]
   rfl
theorem syn_zero (r : α) : ∀ (l : List α), F.eval l r = F.zero -> (∀ c ∈ F.syn l r, c = F.zero) -> ∀ c ∈ l, c = F.zero
 | [], _, _, c, hc => absurd hc List.not_mem_nil
 | [a], h, _, c, hc => by
   rw [List.mem_singleton.1 hc]
   simp only [eval, F.mul_zero, F.add_zero] at h
   exact h
 | a :: b :: t, h, hs, c, hc => by
   have h1 : F.eval (b :: t) r = F.zero := hs _ (by simp only [syn]; exact List.mem_cons_self)
   have h2 := syn_zero r (b :: t) h1 fun d hd => hs d (by simp only [syn]; exact List.mem_cons_of_mem _ hd)
   rcases List.mem_cons.1 hc with rfl | hc
   ·have e : F.eval (c :: b :: t) r = F.add c (F.mul r (F.eval (b :: t) r)) := rfl
    rw [e, h1, F.mul_zero, F.add_zero] at h
    exact h
   ·exact h2 c hc
theorem roots_zero (R : List α) (hR : R.Nodup) : ∀ (l : List α), l.length <= R.length -> (∀ r ∈ R, F.eval l r = F.zero) -> ∀ c ∈ l, c = F.zero := by
 induction R with
 | nil => intro l h _ c hc; rw [List.eq_nil_of_length_eq_zero (Nat.le_zero.1 h)] at hc; exact absurd hc List.not_mem_nil
 | cons r R ih =>
   intro l h hr
   obtain ⟨hn, hR'⟩ := List.nodup_cons.1 hR
   have h0 := hr r List.mem_cons_self
   refine F.syn_zero r l h0 (ih hR' _ (by rw [syn_len]; simp only [List.length_cons] at h; omega) fun q hq => ?_)
   have hq0 := hr q (List.mem_cons_of_mem _ hq)
   have e := F.eval_syn l r q
   rw [h0, hq0, F.zero_add, F.zero_add] at e
   have e2 : F.mul (F.add q (F.neg r)) (F.eval (F.syn l r) q) = F.zero := by
    rw [F.add_mul, <- e, F.mul_comm (F.neg r), F.mul_neg, F.mul_comm _ r, F.add_neg]
   rcases F.nzd _ _ e2 with e3 | e3
   ·exact absurd (F.eq_of_sub e3 ▸ hq) hn
   ·exact e3
end Dom
section
variable {D : FD} (hD : D.Ok)
def evE (l : List Nat) (x : El (D.p ^ D.k)) : El (D.p ^ D.k) := (FD.dom hD.nzd).eval (l.map (toE hD.pre.pk)) x
def cfE (l : List Nat) (i : Nat) : El (D.p ^ D.k) := toE hD.pre.pk (l[i]?.getD 0)
theorem map_cf (l : List Nat) : l.map (toE hD.pre.pk) = (List.range l.length).map (cfE hD l) := by
 apply List.ext_getElem?
 intro i
 rw [List.getElem?_map, List.getElem?_map]
 by_cases h : i < l.length
 ·rw [List.getElem?_range h, List.getElem?_eq_getElem h]
  unfold cfE
  simp [List.getElem?_eq_getElem h]
 ·rw [List.getElem?_eq_none (by omega), List.getElem?_eq_none (by simp; omega)]
  rfl
theorem evE_len (l : List Nat) (x : El (D.p ^ D.k)) : evE hD l x = (FD.dom hD.nzd).sm (fun i => (FD.dom hD.nzd).mul (cfE hD l i) ((FD.dom hD.nzd).pow x i)) l.length := by
 unfold evE
 rw [map_cf, Dom.eval_range]
theorem sm_more {α : Type} (F : Dom α) (f : Nat -> α) (n : Nat) (hz : ∀ i, n <= i -> f i = F.zero) : ∀ d, F.sm f (n + d) = F.sm f n
 | 0 => rfl
 | d + 1 => by
   show F.add (F.sm f (n + d)) (f (n + d)) = _
   rw [sm_more F f n hz d, hz _ (by omega), F.add_zero]
theorem cfE_big {l : List Nat} {i : Nat} (h : l.length <= i) : cfE hD l i = (FD.dom hD.nzd).zero := by
 unfold cfE
 rw [List.getElem?_eq_none h]
 exact toE_zero hD
theorem evE_sum (l : List Nat) (x : El (D.p ^ D.k)) {n : Nat} (hn : l.length <= n) : evE hD l x = (FD.dom hD.nzd).sm (fun i => (FD.dom hD.nzd).mul (cfE hD l i) ((FD.dom hD.nzd).pow x i)) n := by
 obtain ⟨d, rfl⟩ : ∃ d, n = l.length + d := ⟨n - l.length, by omega⟩
 rw [evE_len, sm_more _ _ _ fun i hi => by rw [cfE_big hD hi, Dom.zero_mul]]
theorem evE_congr {l m : List Nat} (h : ∀ i : Nat, l[i]?.getD 0 = m[i]?.getD 0) (x : El (D.p ^ D.k)) : evE hD l x = evE hD m x := by
 rw [evE_sum hD l x (n := max l.length m.length) (by omega), evE_sum hD m x (n := max l.length m.length) (by omega)]
 exact Dom.sm_congr _ _ fun i _ => by unfold cfE; rw [h i]
theorem tz_ext {l m : List Nat} (hl : Tz l) (hm : Tz m) (h : ∀ i : Nat, l[i]?.getD 0 = m[i]?.getD 0) : l = m := by
 have key : ∀ {a b : List Nat}, Tz a -> (∀ i : Nat, a[i]?.getD 0 = b[i]?.getD 0) -> a.length <= b.length := fun {a b} ha hab => by
  rcases ha with h0 | h0
  ·omega
  ·apply Classical.byContradiction
   intro hc
   apply h0
   rw [hab, List.getElem?_eq_none (by omega)]
   rfl
 have e : l.length = m.length := Nat.le_antisymm (key hl h) (key hm fun i => (h i).symm)
 exact ext_getD e fun i _ => h i
theorem interp {l m : List Nat} {n : Nat} (hlq : ∀ a ∈ l, a < D.p ^ D.k) (hmq : ∀ a ∈ m, a < D.p ^ D.k) (hl : Tz l) (hm : Tz m) (ln : l.length <= n) (mn : m.length <= n) (R : List (El (D.p ^ D.k))) (hR : R.Nodup) (hn : R.length = n) (h : ∀ r ∈ R, evE hD l r = evE hD m r) : l = m := by
 have hz := Dom.roots_zero (FD.dom hD.nzd) R hR ((List.range n).map fun i => (FD.dom hD.nzd).add (cfE hD l i) ((FD.dom hD.nzd).neg (cfE hD m i))) (by simp [hn]) fun r hr => by
  rw [Dom.eval_range]
  have e1 : (FD.dom hD.nzd).sm (fun i => (FD.dom hD.nzd).mul ((FD.dom hD.nzd).add (cfE hD l i) ((FD.dom hD.nzd).neg (cfE hD m i))) ((FD.dom hD.nzd).pow r i)) n = (FD.dom hD.nzd).add (evE hD l r) (evE hD m r |> fun v => (FD.dom hD.nzd).mul ((FD.dom hD.nzd).neg (FD.dom hD.nzd).one) v) := by
   rw [evE_sum hD l r ln, evE_sum hD m r mn]
   dsimp only
   rw [<- Dom.sm_mul, <- Dom.sm_add]
   exact Dom.sm_congr _ _ fun i _ => by rw [Dom.add_mul, Dom.neg_mul, Dom.neg_mul, Dom.one_mul]
  rw [e1, h r hr]
  dsimp only
  rw [Dom.neg_mul, Dom.one_mul, Dom.add_neg]
 refine tz_ext hl hm fun i => ?_
 by_cases hi : i < n
 ·have h1 := hz _ (List.mem_map.2 ⟨i, List.mem_range.2 hi, rfl⟩)
  have h2 := Dom.eq_of_sub _ h1
  unfold cfE at h2
  have hk := hD.pre.pk
  have h3 := congrArg Subtype.val h2
  rw [toE_val hk (getD_lt (Nat.pow_pos hk.p0) hlq i), toE_val hk (getD_lt (Nat.pow_pos hk.p0) hmq i)] at h3
  exact h3
 ·rw [List.getElem?_eq_none (by omega), List.getElem?_eq_none (by omega)]
theorem evE_horn (pl : List Nat) (hp : ∀ a ∈ pl, a < D.p ^ D.k) {x : Nat} (hx : x < D.p ^ D.k) : ∀ i, i <= pl.length -> toE hD.pre.pk (hornF D pl x i) = evE hD (pl.drop (pl.length - i)) (toE hD.pre.pk x)
 | 0, _ => by
   rw [Nat.sub_zero, List.drop_length]
   exact toE_zero hD
 | i + 1, hi => by
   have hk := hD.pre.pk
   have e : pl.drop (pl.length - (i + 1)) = pl[pl.length - 1 - i]?.getD 0 :: pl.drop (pl.length - i) := by
    rw [show pl.length - (i + 1) = pl.length - 1 - i by omega, List.drop_eq_getElem_cons (by omega), List.getElem?_eq_getElem (by omega), show pl.length - 1 - i + 1 = pl.length - i by omega]
    rfl
   rw [e]
   simp only [hornF]
   rw [toE_add hD (pmul_lt hk _ _ _) (getD_lt (Nat.pow_pos hk.p0) hp _), toE_mul hD (hornF_lt hk _ _ _) hx, evE_horn pl hp hx i (by omega)]
   show _ = (FD.dom hD.nzd).add (toE hk (pl[pl.length - 1 - i]?.getD 0)) ((FD.dom hD.nzd).mul (toE hk x) (evE hD (pl.drop (pl.length - i)) (toE hk x)))
   rw [Dom.add_comm, Dom.mul_comm]
theorem horn_ev {pl : List Nat} (hp : ∀ a ∈ pl, a < D.p ^ D.k) {x : Nat} (hx : x < D.p ^ D.k) : toE hD.pre.pk (hornF D pl x pl.length) = evE hD pl (toE hD.pre.pk x) := by
 rw [evE_horn hD pl hp hx _ (Nat.le_refl _), Nat.sub_self, List.drop_zero]
theorem evE_trm (l : List Nat) (x : El (D.p ^ D.k)) : evE hD (trm l) x = evE hD l x := by
 refine evE_congr hD (fun i => ?_) x
 unfold trm
 by_cases h : i < trmN l l.length
 ·exact take_getD h
 ·by_cases h2 : i < l.length
  ·rw [List.getElem?_eq_none (by rw [List.length_take]; omega), trmN_zero l l.length i (by omega) h2]
   rfl
  ·rw [List.getElem?_eq_none (by rw [List.length_take]; omega), List.getElem?_eq_none (by omega)]
theorem evE_set (l : List Nat) (hl : ∀ a ∈ l, a < D.p ^ D.k) {j d : Nat} (hj : j < l.length) (hd : d < D.p ^ D.k) (x : El (D.p ^ D.k)) : evE hD (l.set j (padd D.p D.k (l[j]?.getD 0) d)) x = (FD.dom hD.nzd).add (evE hD l x) ((FD.dom hD.nzd).mul (toE hD.pre.pk d) ((FD.dom hD.nzd).pow x j)) := by
 have hk := hD.pre.pk
 rw [evE_sum hD (l.set j _) x (n := l.length) (by rw [List.length_set]; exact Nat.le_refl _), evE_len]
 have e : (FD.dom hD.nzd).mul (toE hk d) ((FD.dom hD.nzd).pow x j) = (FD.dom hD.nzd).sm (fun i => if i = j then (FD.dom hD.nzd).mul (toE hk d) ((FD.dom hD.nzd).pow x i) else (FD.dom hD.nzd).zero) l.length := by
  rw [Dom.sm_one _ (j := j) _ hj fun i _ hne => if_neg hne, if_pos rfl]
 rw [e, <- Dom.sm_add]
 exact Dom.sm_congr _ _ fun i hi => by
  unfold cfE
  rw [set_get]
  by_cases h : i = j
  ·subst h
   rw [if_pos ⟨rfl, hj⟩, if_pos rfl, toE_add hD (getD_lt (Nat.pow_pos hk.p0) hl i) hd, Dom.add_mul]
  ·rw [if_neg (fun q => h q.1.symm), if_neg h, Dom.add_zero]
theorem evE_take (l : List Nat) {j : Nat} (hj : j < l.length) (x : El (D.p ^ D.k)) : evE hD (l.take (j + 1)) x = (FD.dom hD.nzd).add (evE hD (l.take j) x) ((FD.dom hD.nzd).mul (cfE hD l j) ((FD.dom hD.nzd).pow x j)) := by
 have e : l.take (j + 1) = l.take j ++ [l[j]?.getD 0] := by
  rw [List.take_add_one, List.getElem?_eq_getElem hj]
  rfl
 unfold evE
 rw [e, List.map_append, List.map_cons, List.map_nil, Dom.eval_snoc, List.length_map, List.length_take, Nat.min_eq_left (by omega)]
 rfl
theorem evE_addm (xs : List Nat) (s : Nat) (q : List Nat) {c : Nat} (hx : ∀ a ∈ xs, a < D.p ^ D.k) (hq : ∀ a ∈ q, a < D.p ^ D.k) (hc : c < D.p ^ D.k) (hs : s + q.length <= xs.length) (x : El (D.p ^ D.k)) :
 evE hD (addm D xs s q c) x = (FD.dom hD.nzd).add (evE hD xs x) ((FD.dom hD.nzd).mul (toE hD.pre.pk c) ((FD.dom hD.nzd).mul ((FD.dom hD.nzd).pow x s) (evE hD q x))) := by
 have hk := hD.pre.pk
 have key : ∀ j, j <= q.length -> evE hD (addmF D xs s q c j) x = (FD.dom hD.nzd).add (evE hD xs x) ((FD.dom hD.nzd).mul (toE hk c) ((FD.dom hD.nzd).mul ((FD.dom hD.nzd).pow x s) (evE hD (q.take j) x))) := fun j => by
  induction j with
  | zero =>
    intro _
    have e0 : evE hD (q.take 0) x = (FD.dom hD.nzd).zero := rfl
    rw [e0, Dom.mul_zero, Dom.mul_zero, Dom.add_zero]
    rfl
  | succ j ih =>
    intro hj
    have hqj : q[j]?.getD 0 < D.p ^ D.k := getD_lt (Nat.pow_pos hk.p0) hq j
    simp only [addmF]
    rw [evE_set hD _ (addmF_lt hk s q c j hx) (by rw [addmF_len]; omega) (pmul_lt hk _ _ _), ih (by omega), evE_take hD q (by omega), toE_mul hD hqj hc, Dom.add_assoc]
    congr 1
    rw [Dom.mul_add, Dom.mul_add]
    congr 1
    unfold cfE
    rw [Dom.pow_add]
    generalize toE hk (q[j]?.getD 0) = a
    generalize toE hk c = b
    generalize (FD.dom hD.nzd).pow x s = u
    generalize (FD.dom hD.nzd).pow x j = v
    rw [Dom.mul_comm _ a b, Dom.mul_assoc, <- Dom.mul_assoc _ a u v, Dom.mul_comm _ a u, Dom.mul_assoc]
 have := key q.length (Nat.le_refl _)
 rw [List.take_of_length_le (Nat.le_refl _)] at this
 exact this
theorem evE_zeros (n : Nat) (x : El (D.p ^ D.k)) : evE hD (List.replicate n 0) x = (FD.dom hD.nzd).zero := by
 rw [evE_len]
 exact Dom.sm_zero _ _ fun i hi => by
  unfold cfE
  rw [List.length_replicate] at hi
  rw [List.getElem?_replicate_of_lt hi]
  show (FD.dom hD.nzd).mul (toE hD.pre.pk 0) _ = _
  rw [toE_zero hD, Dom.zero_mul]
theorem evE_mulL {pl ql : List Nat} (hp : ∀ a ∈ pl, a < D.p ^ D.k) (hq : ∀ a ∈ ql, a < D.p ^ D.k) (x : El (D.p ^ D.k)) : evE hD (mulL D pl ql) x = (FD.dom hD.nzd).mul (evE hD pl x) (evE hD ql x) := by
 have hk := hD.pre.pk
 unfold mulL
 split
 ·rename_i h
  rcases h with h | h
  ·rw [List.eq_nil_of_length_eq_zero h]
   exact (Dom.zero_mul _ _).symm
  ·rw [List.eq_nil_of_length_eq_zero h]
   exact (Dom.mul_zero _ _).symm
 ·rename_i h
  have key : ∀ i, i <= pl.length -> evE hD (mulF D pl ql i) x = (FD.dom hD.nzd).mul (evE hD (pl.take i) x) (evE hD ql x) := fun i => by
   induction i with
   | zero =>
     intro _
     show evE hD (List.replicate _ 0) x = _
     rw [evE_zeros]
     exact (Dom.zero_mul _ _).symm
   | succ i ih =>
     intro hi
     have hpi : pl[i]?.getD 0 < D.p ^ D.k := getD_lt (Nat.pow_pos hk.p0) hp i
     show evE hD (addm D (mulF D pl ql i) i ql (pl[i]?.getD 0)) x = _
     rw [evE_addm hD _ _ _ (mulF_lt hk _ _ _) hq hpi (by rw [mulF_len]; omega), ih (by omega), evE_take hD pl (by omega), Dom.add_mul]
     congr 1
     unfold cfE
     rw [Dom.mul_assoc]
  have := key pl.length (Nat.le_refl _)
  rw [List.take_of_length_le (Nat.le_refl _)] at this
  exact this
theorem evE_lin {a : Nat} (ha : a < D.p ^ D.k) (x : El (D.p ^ D.k)) : evE hD [pscl D.p D.k (D.p - 1) a, 1] x = (FD.dom hD.nzd).add x ((FD.dom hD.nzd).neg (toE hD.pre.pk a)) := by
 show (FD.dom hD.nzd).add (toE hD.pre.pk (pscl D.p D.k (D.p - 1) a)) ((FD.dom hD.nzd).mul x ((FD.dom hD.nzd).add (toE hD.pre.pk 1) ((FD.dom hD.nzd).mul x (FD.dom hD.nzd).zero))) = _
 rw [toE_neg hD ha, toE_one hD, Dom.mul_zero, Dom.add_zero, Dom.mul_one, Dom.add_comm]
end
end FFld
end Go.Proofs.YtdnheaafcbihbaaGreat
namespace Go.Proofs.YtdnheaafcbihbaaGreat
namespace FFld
def thV (D : FD) (xs : List Nat) : Nat -> List Nat
 | 0 => [1]
 | i + 1 => mulL D (thV D xs i) [pscl D.p D.k (D.p - 1) (xs[i]?.getD 0), 1]
def thA (D : FD) (xs : List Nat) (i : Nat) : Nat := hornF D (thV D xs i) (xs[i]?.getD 0) (thV D xs i).length
def misF (D : FD) (R : List Nat) (x y : Nat) : Nat := padd D.p D.k y (pscl D.p D.k (D.p - 1) (hornF D R x R.length))
def thR (D : FD) (h : PK D.p D.k D.m) (xs ys : List Nat) (n : Nat) : Nat -> List Nat
 | 0 => List.replicate n 0
 | i + 1 => addm D (thR D h xs ys n i) 0 (thV D xs i) (pmul D.p D.k D.m (misF D (thR D h xs ys n i) (xs[i]?.getD 0) (ys[i]?.getD 0)) D.k (ppow h (thA D xs i) (D.q - 2)))
theorem thV_len (D : FD) (xs : List Nat) : ∀ i, (thV D xs i).length = i + 1
 | 0 => rfl
 | i + 1 => by
   simp only [thV]
   unfold mulL
   rw [if_neg (by rw [thV_len D xs i]; simp), mulF_len, thV_len D xs i]
   simp
theorem thV_lt {D : FD} (h : PK D.p D.k D.m) (xs : List Nat) (i : Nat) : ∀ a ∈ thV D xs i, a < D.p ^ D.k := by
 cases i with
 | zero => intro a ha; rw [List.mem_singleton.1 ha]; exact h.one_lt
 | succ i => exact mulL_lt h _ _
theorem thR_len (D : FD) (h : PK D.p D.k D.m) (xs ys : List Nat) (n : Nat) : ∀ i, (thR D h xs ys n i).length = n
 | 0 => by simp [thR]
 | i + 1 => by
   simp only [thR]
   rw [addm_len, thR_len D h xs ys n i]
theorem thR_lt {D : FD} (h : PK D.p D.k D.m) (xs ys : List Nat) (n : Nat) : ∀ i, ∀ a ∈ thR D h xs ys n i, a < D.p ^ D.k
 | 0 => fun a ha => by rw [List.eq_of_mem_replicate ha]; exact Nat.pow_pos h.p0
 | i + 1 => by
   simp only [thR]
   exact addmF_lt h _ _ _ _ (thR_lt h xs ys n i)
theorem misF_lt {D : FD} (h : PK D.p D.k D.m) (R : List Nat) (x y : Nat) : misF D R x y < D.p ^ D.k := padd_lt h _ _
theorem lin_lt {D : FD} (h : PK D.p D.k D.m) (a : Nat) : ∀ c ∈ [pscl D.p D.k (D.p - 1) a, 1], c < D.p ^ D.k := fun c hc => by
 rcases List.mem_cons.1 hc with rfl | hc
 ·exact pscl_lt h _ _
 ·rw [List.mem_singleton.1 hc]; exact h.one_lt
section
variable {D : FD} (hD : D.Ok) {xs ys : List Nat} (hx : ∀ a ∈ xs, a < D.p ^ D.k) (hy : ∀ a ∈ ys, a < D.p ^ D.k)
def plE {D : FD} (hD : D.Ok) (xs : List Nat) (i : Nat) : El (D.p ^ D.k) := toE hD.pre.pk (xs[i]?.getD 0)
theorem toE_inj {D : FD} (h : PK D.p D.k D.m) {a b : Nat} (ha : a < D.p ^ D.k) (hb : b < D.p ^ D.k) (e : toE h a = toE h b) : a = b := by
 have := congrArg Subtype.val e
 rw [toE_val h ha, toE_val h hb] at this
 exact this
include hD hx
theorem at_lt (i : Nat) : xs[i]?.getD 0 < D.p ^ D.k := getD_lt (Nat.pow_pos hD.pre.pk.p0) hx i
theorem thV_ev (i : Nat) (x : El (D.p ^ D.k)) : evE hD (thV D xs (i + 1)) x = (FD.dom hD.nzd).mul (evE hD (thV D xs i) x) ((FD.dom hD.nzd).add x ((FD.dom hD.nzd).neg (plE hD xs i))) := by
 simp only [thV]
 rw [evE_mulL hD (thV_lt hD.pre.pk xs i) (lin_lt hD.pre.pk _), evE_lin hD (at_lt hD hx i)]
 rfl
theorem thV_zero : ∀ (i j : Nat), j < i -> evE hD (thV D xs i) (plE hD xs j) = (FD.dom hD.nzd).zero
 | 0, _, h => by omega
 | i + 1, j, h => by
   rw [thV_ev hD hx]
   by_cases e : j = i
   ·subst e
    rw [Dom.add_neg, Dom.mul_zero]
   ·rw [thV_zero i j (by omega), Dom.zero_mul]
theorem thV_one (x : El (D.p ^ D.k)) : evE hD (thV D xs 0) x = (FD.dom hD.nzd).one := by
 show (FD.dom hD.nzd).add (toE hD.pre.pk 1) ((FD.dom hD.nzd).mul x (FD.dom hD.nzd).zero) = _
 rw [Dom.mul_zero, Dom.add_zero, toE_one hD]
theorem thV_ne (x : El (D.p ^ D.k)) : ∀ (i : Nat), (∀ j, j < i -> x ≠ plE hD xs j) -> evE hD (thV D xs i) x ≠ (FD.dom hD.nzd).zero
 | 0, _ => by
   rw [thV_one hD hx]
   exact (FD.dom hD.nzd).one_ne
 | i + 1, h => by
   rw [thV_ev hD hx]
   exact Dom.mul_ne _ (thV_ne x i fun j hj => h j (by omega)) fun e => h i (by omega) (Dom.eq_of_sub _ e)
theorem thA_ev (i : Nat) : toE hD.pre.pk (thA D xs i) = evE hD (thV D xs i) (plE hD xs i) := horn_ev hD (thV_lt hD.pre.pk xs i) (at_lt hD hx i)
theorem thA_lt (i : Nat) : thA D xs i < D.p ^ D.k := hornF_lt hD.pre.pk _ _ _
theorem thA_dup {i : Nat} (h : thA D xs i = 0) : ∃ j, j < i /\ xs[i]?.getD 0 = xs[j]?.getD 0 := by
 apply Classical.byContradiction
 intro hc
 refine thV_ne hD hx (plE hD xs i) i (fun j hj e => hc ⟨j, hj, toE_inj hD.pre.pk (at_lt hD hx i) (at_lt hD hx j) e⟩) ?_
 rw [<- thA_ev hD hx, h, toE_zero hD]
include hy
theorem thR_ev {n : Nat} : ∀ (i : Nat), i <= n -> (∀ a, a < i -> thA D xs a ≠ 0) -> ∀ j, j < i -> evE hD (thR D hD.pre.pk xs ys n i) (plE hD xs j) = plE hD ys j
 | 0, _, _, j, hj => by omega
 | i + 1, hi, hA, j, hj => by
   have hk := hD.pre.pk
   have hc : pmul D.p D.k D.m (misF D (thR D hk xs ys n i) (xs[i]?.getD 0) (ys[i]?.getD 0)) D.k (ppow hk (thA D xs i) (D.q - 2)) < D.p ^ D.k := pmul_lt hk _ _ _
   simp only [thR]
   rw [evE_addm hD _ _ _ (thR_lt hk xs ys n i) (thV_lt hk xs i) hc (by rw [thV_len, thR_len]; omega), Dom.pow_zero, Dom.one_mul]
   by_cases e : j = i
   ·subst e
    have hAi := hA j (by omega)
    rw [<- thA_ev hD hx, <- toE_mul hD hc (thA_lt hD hx j)]
    have e1 : pmul D.p D.k D.m (pmul D.p D.k D.m (misF D (thR D hk xs ys n j) (xs[j]?.getD 0) (ys[j]?.getD 0)) D.k (ppow hk (thA D xs j) (D.q - 2))) D.k (thA D xs j) = misF D (thR D hk xs ys n j) (xs[j]?.getD 0) (ys[j]?.getD 0) := by
     rw [mul_swap hk (misF_lt hk _ _ _) (thA_lt hD hx j) (ppow_lt hk _ _), hD.div_mul (misF_lt hk _ _ _) (thA_lt hD hx j) hAi]
    rw [e1]
    unfold misF
    rw [toE_add hD (at_lt hD hy j) (pscl_lt hk _ _), toE_neg hD (hornF_lt hk _ _ _), horn_ev hD (thR_lt hk xs ys n j) (at_lt hD hx j)]
    show (FD.dom hD.nzd).add (evE hD (thR D hk xs ys n j) (plE hD xs j)) ((FD.dom hD.nzd).add (plE hD ys j) ((FD.dom hD.nzd).neg (evE hD (thR D hk xs ys n j) (plE hD xs j)))) = _
    generalize evE hD (thR D hk xs ys n j) (plE hD xs j) = u
    rw [Dom.add_comm _ (plE hD ys j), <- Dom.add_assoc, Dom.add_neg, Dom.zero_add]
   ·rw [thV_zero hD hx i j (by omega), Dom.mul_zero, Dom.add_zero]
    exact thR_ev i (by omega) (fun a ha => hA a (by omega)) j (by omega)
end
end FFld
end Go.Proofs.YtdnheaafcbihbaaGreat
namespace Go.Proofs.YtdnheaafcbihbaaGreat
namespace FFld
theorem mon_mul {α : Type} (F : Dom α) (a : α) (s : Nat) (g : Nat -> α) (n : Nat) : F.ser.mul (F.mon1 a s) g n = if n < s then F.zero else F.mul a (g (n - s)) := by
 show F.cv (F.mon1 a s) g n = _
 unfold Dom.cv Dom.mon1
 by_cases h : n < s
 ·rw [if_pos h]
  exact F.sm_zero _ fun i hi => by rw [if_neg (by omega), F.zero_mul]
 ·rw [if_neg h, F.sm_one (j := s) _ (by omega) fun i _ hne => by rw [if_neg hne, F.zero_mul], if_pos rfl]
section
variable {D : FD} (hD : D.Ok)
def serL (l : List Nat) : Nat -> El (D.p ^ D.k) := fun i => toE hD.pre.pk (l[i]?.getD 0)
theorem serL_sh (l : List Nat) : (FD.dom hD.nzd).Sh (serL hD l) l.length := fun i hi => by
 show toE hD.pre.pk (l[i]?.getD 0) = _
 rw [List.getElem?_eq_none hi]
 exact toE_zero hD
theorem serL_pl (l : List Nat) : (FD.dom hD.nzd).Pl (serL hD l) := ⟨_, serL_sh hD l⟩
theorem serL_dg {l : List Nat} (hl : ∀ a ∈ l, a < D.p ^ D.k) (h0 : l.length ≠ 0) (ht : Tz l) : (FD.dom hD.nzd).Dg (serL hD l) (l.length - 1) := by
 have hp := Nat.pow_pos (n := D.k) hD.pre.pk.p0
 exact ⟨fun i hi => serL_sh hD l i (by omega), fun e => ht.top h0 (toE_inj hD.pre.pk (getD_lt hp hl _) hp (Eq.trans e (toE_zero hD).symm))⟩
theorem serL_nil {l : List Nat} (h : l.length = 0) : serL hD l = (FD.dom hD.nzd).ser.zero := funext fun i => serL_sh hD l i (by omega)
theorem serL_addm {xs q : List Nat} {c s : Nat} (hx : ∀ a ∈ xs, a < D.p ^ D.k) (hq : ∀ a ∈ q, a < D.p ^ D.k) (hc : c < D.p ^ D.k) (hl : s + q.length <= xs.length) : serL hD (addm D xs s q c) = (FD.dom hD.nzd).ser.add (serL hD xs) ((FD.dom hD.nzd).ser.mul ((FD.dom hD.nzd).mon1 (toE hD.pre.pk c) s) (serL hD q)) := by
 have hp := Nat.pow_pos (n := D.k) hD.pre.pk.p0
 have hk := hD.pre.pk
 funext n
 show toE hD.pre.pk ((addm D xs s q c)[n]?.getD 0) = (FD.dom hD.nzd).add (toE hD.pre.pk (xs[n]?.getD 0)) ((FD.dom hD.nzd).ser.mul ((FD.dom hD.nzd).mon1 (toE hD.pre.pk c) s) (serL hD q) n)
 rw [mon_mul]
 by_cases h1 : n < s
 ·rw [if_pos h1, (FD.dom hD.nzd).add_zero]
  unfold addm
  rw [addmF_old _ _ _ _ _ _ _ (.inl h1)]
 ·rw [if_neg h1]
  obtain ⟨i, rfl⟩ : ∃ i, n = s + i := ⟨n - s, by omega⟩
  rw [Nat.add_sub_cancel_left]
  by_cases h2 : i < q.length
  ·rw [addm_at D xs s q c h2 hl, toE_add hD (getD_lt hp hx _) (pmul_lt hk _ _ _), toE_mul hD (getD_lt hp hq _) hc, (FD.dom hD.nzd).mul_comm]
   rfl
  ·have e : serL hD q i = (FD.dom hD.nzd).zero := serL_sh hD q i (by omega)
   rw [e, (FD.dom hD.nzd).mul_zero, (FD.dom hD.nzd).add_zero]
   unfold addm
   rw [addmF_old _ _ _ _ _ _ _ (.inr (by omega))]
theorem serL_divF {ql pl : List Nat} {inv n : Nat} (hq : ∀ a ∈ ql, a < D.p ^ D.k) (hp : ∀ a ∈ pl, a < D.p ^ D.k) (hn : n + ql.length = pl.length + 1) (h1 : 1 <= ql.length) : ∀ t, t <= n -> Eqv (FD.dom hD.nzd) (serL hD ql) (serL hD pl) (serL hD (divF D ql inv n pl t))
 | 0, _ => Eqv.refl _
 | t + 1, ht => by
   have hk := hD.pre.pk
   refine Eqv.trans (serL_divF (inv := inv) hq hp hn h1 t (by omega)) ?_
   apply Eqv.symm
   have e : divF D ql inv n pl (t + 1) = addm D (divF D ql inv n pl t) (n - 1 - t) ql (pscl D.p D.k (D.p - 1) (divQ D ql inv n pl t)) := rfl
   rw [e, serL_addm hD (divF_lt hk _ _ _ _ hp) hq (pscl_lt hk _ _) (by rw [divF_len]; omega)]
   refine ⟨(FD.dom hD.nzd).mon1 (toE hD.pre.pk (pscl D.p D.k (D.p - 1) (divQ D ql inv n pl t))) (n - 1 - t), ⟨_, (FD.dom hD.nzd).mon1_sh _ _⟩, ?_⟩
   rw [(FD.dom hD.nzd).ser.add_comm (serL hD (divF D ql inv n pl t)), (FD.dom hD.nzd).ser.add_assoc, (FD.dom hD.nzd).ser.add_neg, (FD.dom hD.nzd).ser.add_zero]
theorem serL_trm (l : List Nat) : serL hD (trm l) = serL hD l := by
 funext i
 show toE hD.pre.pk ((trm l)[i]?.getD 0) = toE hD.pre.pk (l[i]?.getD 0)
 congr 1
 by_cases h : i < trmN l l.length
 ·unfold trm
  rw [take_getD h]
 ·rw [List.getElem?_eq_none (by rw [trm_len]; omega)]
  by_cases h2 : i < l.length
  ·rw [trmN_zero l l.length i (by omega) h2]
   rfl
  ·rw [List.getElem?_eq_none (by omega)]
theorem rst_eqv {ql pl : List Nat} (inv : Nat) (hq : ∀ a ∈ ql, a < D.p ^ D.k) (hp : ∀ a ∈ pl, a < D.p ^ D.k) (h1 : 1 <= ql.length) : Eqv (FD.dom hD.nzd) (serL hD ql) (serL hD pl) (serL hD (rstF D ql inv pl)) := by
 unfold rstF
 split
 ·exact Eqv.refl _
 ·rw [serL_trm]
  exact serL_divF hD hq hp (by omega) h1 _ (Nat.le_refl _)
end
end FFld
end Go.Proofs.YtdnheaafcbihbaaGreat
namespace Go.Proofs.YtdnheaafcbihbaaGreat
namespace FFld
section
variable {D : FD} (hD : D.Ok)
include hD
end
def derF (D : FD) (l : List Nat) : List Nat := (List.range (l.length - 1)).map fun i => pmul D.p D.k D.m (l[i + 1]?.getD 0) D.k ((i + 1) % D.p)
section
variable {D : FD} (hD : D.Ok)
end
end FFld
end Go.Proofs.YtdnheaafcbihbaaGreat
namespace Go.Proofs.YtdnheaafcbihbaaGreat
namespace FFld
def sumL (D : FD) (p q : List Nat) : List Nat := (List.range (max p.length q.length)).map fun i => padd D.p D.k (p[i]?.getD 0) (q[i]?.getD 0)
theorem sumL_len (D : FD) (p q : List Nat) : (sumL D p q).length = max p.length q.length := by simp [sumL]
theorem sumL_lt {D : FD} (h : PK D.p D.k D.m) (p q : List Nat) : ∀ a ∈ sumL D p q, a < D.p ^ D.k := fun a ha => by
 obtain ⟨i, _, rfl⟩ := List.mem_map.1 ha
 exact padd_lt h _ _
def lgL (D : FD) (h : PK D.p D.k D.m) (xs : List Nat) (y i : Nat) : Nat -> List Nat
 | 0 => [y]
 | k + 1 => if k = i then lgL D h xs y i k else trm (rowMul D (mulL D (lgL D h xs y i k) [pscl D.p D.k (D.p - 1) (xs[k]?.getD 0), 1]) (ppow h (padd D.p D.k (xs[i]?.getD 0) (pscl D.p D.k (D.p - 1) (xs[k]?.getD 0))) (D.q - 2)))
def lgO (D : FD) (h : PK D.p D.k D.m) (xs ys : List Nat) (n : Nat) : Nat -> List Nat
 | 0 => []
 | i + 1 => trm (sumL D (lgO D h xs ys n i) (trm (lgL D h xs (ys[i]?.getD 0) i n)))
theorem trm_len_le (l : List Nat) : (trm l).length <= l.length := by
 rw [trm_len]
 exact trmN_le l _
section
variable {D : FD} (hD : D.Ok) {xs ys : List Nat} (hx : ∀ a ∈ xs, a < D.p ^ D.k) (hy : ∀ a ∈ ys, a < D.p ^ D.k)
include hD
theorem sumL_ev {p q : List Nat} (hp : ∀ a ∈ p, a < D.p ^ D.k) (hq : ∀ a ∈ q, a < D.p ^ D.k) (x : El (D.p ^ D.k)) : evE hD (sumL D p q) x = (FD.dom hD.nzd).add (evE hD p x) (evE hD q x) := by
 have hk := hD.pre.pk
 rw [evE_sum hD (sumL D p q) x (n := max p.length q.length) (by rw [sumL_len]; exact Nat.le_refl _), evE_sum hD p x (n := max p.length q.length) (by omega), evE_sum hD q x (n := max p.length q.length) (by omega), <- Dom.sm_add]
 exact Dom.sm_congr _ _ fun i hi => by
  have e : (sumL D p q)[i]?.getD 0 = padd D.p D.k (p[i]?.getD 0) (q[i]?.getD 0) := range_get _ hi
  unfold cfE
  rw [e, toE_add hD (getD_lt (Nat.pow_pos hk.p0) hp i) (getD_lt (Nat.pow_pos hk.p0) hq i), Dom.add_mul]
include hx
theorem inv_ev {c : Nat} (hc : c < D.p ^ D.k) (h0 : c ≠ 0) : (FD.dom hD.nzd).mul (toE hD.pre.pk (ppow hD.pre.pk c (D.q - 2))) (toE hD.pre.pk c) = (FD.dom hD.nzd).one := by
 have hk := hD.pre.pk
 have h := hD.div_mul (a := 1) (b := c) hk.one_lt hc h0
 rw [pmul_comm hk _ _ hk.one_lt hc, pmul_by_one hk _ hc] at h
 rw [<- toE_mul hD (ppow_lt hk _ _) hc, pmul_comm hk _ _ (ppow_lt hk _ _) hc, h, toE_one hD]
include hy
end
end FFld
end Go.Proofs.YtdnheaafcbihbaaGreat
namespace Go.Proofs.YtdnheaafcbihbaaGreat
namespace FFld
section
variable {D : FD} (hD : D.Ok)
theorem serL_zeros (n : Nat) : serL hD (List.replicate n 0) = (FD.dom hD.nzd).ser.zero := by
 funext i
 show toE hD.pre.pk ((List.replicate n 0)[i]?.getD 0) = (FD.dom hD.nzd).zero
 by_cases h : i < n
 ·rw [List.getElem?_replicate_of_lt h]
  exact toE_zero hD
 ·rw [List.getElem?_eq_none (by rw [List.length_replicate]; omega)]
  exact toE_zero hD
def cutS {α : Type} (F : Dom α) (f : Nat -> α) (i : Nat) : Nat -> α := fun n => if n < i then f n else F.zero
theorem cutS_zero {α : Type} (F : Dom α) (f : Nat -> α) : cutS F f 0 = F.ser.zero := funext fun n => if_neg (Nat.not_lt_zero n)
theorem cutS_succ {α : Type} (F : Dom α) (f : Nat -> α) (i : Nat) : cutS F f (i + 1) = F.ser.add (cutS F f i) (F.mon1 (f i) i) := by
 funext n
 show (if n < i + 1 then f n else F.zero) = F.add (if n < i then f n else F.zero) (if n = i then f i else F.zero)
 rcases Nat.lt_trichotomy n i with h | h | h
 ·rw [if_pos (by omega), if_pos h, if_neg (by omega), F.add_zero]
 ·rw [if_pos (by omega), if_neg (by omega), if_pos h, F.zero_add, h]
 ·rw [if_neg (by omega), if_neg (by omega), if_neg (by omega), F.add_zero]
theorem cutS_all {α : Type} {F : Dom α} {f : Nat -> α} {i : Nat} (h : F.Sh f i) : cutS F f i = f := by
 funext n
 show (if n < i then f n else F.zero) = f n
 by_cases e : n < i
 ·rw [if_pos e]
 ·rw [if_neg e, h n (by omega)]
theorem serL_mulL {pl ql : List Nat} (hp : ∀ a ∈ pl, a < D.p ^ D.k) (hq : ∀ a ∈ ql, a < D.p ^ D.k) : serL hD (mulL D pl ql) = (FD.dom hD.nzd).ser.mul (serL hD pl) (serL hD ql) := by
 have hk := hD.pre.pk
 unfold mulL
 split
 ·rename_i h
  rw [serL_nil hD (l := []) rfl]
  rcases h with h | h
  ·rw [serL_nil hD h, Dom.zero_mul]
  ·rw [serL_nil hD h, Dom.mul_zero]
 ·rename_i h
  have key : ∀ i, i <= pl.length -> serL hD (mulF D pl ql i) = (FD.dom hD.nzd).ser.mul (cutS (FD.dom hD.nzd) (serL hD pl) i) (serL hD ql) := fun i => by
   induction i with
   | zero =>
     intro _
     show serL hD (List.replicate _ 0) = _
     rw [serL_zeros, cutS_zero, Dom.zero_mul]
   | succ i ih =>
     intro hi
     have hpi : pl[i]?.getD 0 < D.p ^ D.k := getD_lt (Nat.pow_pos hk.p0) hp i
     show serL hD (addm D (mulF D pl ql i) i ql (pl[i]?.getD 0)) = _
     rw [serL_addm hD (mulF_lt hk _ _ _) hq hpi (by rw [mulF_len]; omega), ih (by omega), cutS_succ, Dom.add_mul]
     rfl
  rw [key _ (Nat.le_refl _), cutS_all (serL_sh hD pl)]
theorem serL_sumL {p q : List Nat} (hp : ∀ a ∈ p, a < D.p ^ D.k) (hq : ∀ a ∈ q, a < D.p ^ D.k) : serL hD (sumL D p q) = (FD.dom hD.nzd).ser.add (serL hD p) (serL hD q) := by
 have hp0 := Nat.pow_pos (n := D.k) hD.pre.pk.p0
 funext i
 show toE hD.pre.pk ((sumL D p q)[i]?.getD 0) = (FD.dom hD.nzd).add (toE hD.pre.pk (p[i]?.getD 0)) (toE hD.pre.pk (q[i]?.getD 0))
 by_cases h : i < max p.length q.length
 ·have e : (sumL D p q)[i]?.getD 0 = padd D.p D.k (p[i]?.getD 0) (q[i]?.getD 0) := range_get _ h
  rw [e, toE_add hD (getD_lt hp0 hp _) (getD_lt hp0 hq _)]
 ·rw [List.getElem?_eq_none (by rw [sumL_len]; omega), List.getElem?_eq_none (by omega), List.getElem?_eq_none (by omega)]
  show toE hD.pre.pk 0 = (FD.dom hD.nzd).add (toE hD.pre.pk 0) (toE hD.pre.pk 0)
  rw [toE_zero hD, Dom.add_zero]
theorem tz_of_dg {l : List Nat} {n : Nat} (h : (FD.dom hD.nzd).Dg (serL hD l) n) (hl : l.length = n + 1) : Tz l := by
 right
 intro e
 apply h.2
 show toE hD.pre.pk (l[n]?.getD 0) = _
 rw [show n = l.length - 1 by omega, e]
 exact toE_zero hD
include hD in
theorem mulL_tz {pl ql : List Nat} (hp : ∀ a ∈ pl, a < D.p ^ D.k) (hq : ∀ a ∈ ql, a < D.p ^ D.k) (tp : Tz pl) (tq : Tz ql) : Tz (mulL D pl ql) := by
 by_cases h : pl.length = 0 \/ ql.length = 0
 ·left
  unfold mulL
  rw [if_pos h]
  rfl
 ·have h1 : pl.length ≠ 0 := fun e => h (.inl e)
  have h2 : ql.length ≠ 0 := fun e => h (.inr e)
  have hd := Dom.Dg.mul _ (serL_dg hD hp h1 tp) (serL_dg hD hq h2 tq)
  rw [<- serL_mulL hD hp hq] at hd
  refine tz_of_dg hD hd ?_
  unfold mulL
  rw [if_neg h, mulF_len]
  omega
structure RemIs (m : List Nat) (f : Nat -> El (D.p ^ D.k)) (o : List Nat) : Prop where
 lt : ∀ a ∈ o, a < D.p ^ D.k
 tz : Tz o
 len : o.length + 1 <= m.length
 eqv : Eqv (FD.dom hD.nzd) (serL hD m) f (serL hD o)
variable {m : List Nat} (hm : ∀ a ∈ m, a < D.p ^ D.k) (h1 : 1 <= m.length) (ht : m[m.length - 1]?.getD 0 ≠ 0)
include hm h1 ht
theorem RemIs.of {f : Nat -> El (D.p ^ D.k)} {l : List Nat} (hl : ∀ a ∈ l, a < D.p ^ D.k) (tl : Tz l) (he : Eqv (FD.dom hD.nzd) (serL hD m) f (serL hD l)) : RemIs hD m f (rstF D m (invT D hD.pre.pk m) l) :=
 ⟨rstF_lt hD.pre.pk _ _ hl, rstF_tz D _ _ tl, rst_short hD hm hl h1 ht, Eqv.trans he (rst_eqv hD _ hm hl h1)⟩
theorem RemIs.uniq {f : Nat -> El (D.p ^ D.k)} {o o' : List Nat} (h : RemIs hD m f o) (h' : RemIs hD m f o') : o = o' := by
 have hp0 := Nat.pow_pos (n := D.k) hD.pre.pk.p0
 have hd := serL_dg hD hm (by omega) (.inr ht)
 have e : serL hD o = serL hD o' := Eqv.eq hd (Dom.Sh.mono _ (serL_sh hD o) (by have := h.len; omega)) (Dom.Sh.mono _ (serL_sh hD o') (by have := h'.len; omega)) (Eqv.trans h.eqv.symm h'.eqv)
 have ei : ∀ i, o[i]?.getD 0 = o'[i]?.getD 0 := fun i => toE_inj hD.pre.pk (getD_lt hp0 h.lt i) (getD_lt hp0 h'.lt i) (congrFun e i)
 have key : ∀ {a b : List Nat}, (∀ i, a[i]?.getD 0 = b[i]?.getD 0) -> Tz a -> a.length <= b.length := fun {a b} hi ha => by
  rcases ha with h0 | h0
  ·omega
  ·apply Classical.byContradiction
   intro hc
   rw [hi, List.getElem?_eq_none (by omega)] at h0
   exact h0 rfl
 have el : o.length = o'.length := Nat.le_antisymm (key ei h.tz) (key (fun i => (ei i).symm) h'.tz)
 exact ext_getD el fun i _ => ei i
end
end FFld
end Go.Proofs.YtdnheaafcbihbaaGreat
namespace Go.Proofs.YtdnheaafcbihbaaGreat
namespace FFld
theorem Dom.tidy {α : Type} (F : Dom α) (a x y : α) : F.add (F.add a (F.neg x)) (F.add y x) = F.add a y := by
 rw [F.add_assoc, F.add_comm y x, <- F.add_assoc (F.neg x) x y, F.add_comm (F.neg x) x, F.add_neg, F.zero_add]
section
variable {D : FD} (hD : D.Ok)
def qS (ql : List Nat) (inv n : Nat) (pl : List Nat) (t : Nat) : Nat -> El (D.p ^ D.k) := fun i => if n - t <= i /\ i < n then toE hD.pre.pk (divQ D ql inv n pl (n - 1 - i)) else (FD.dom hD.nzd).zero
theorem divQ_lt (hk : PK D.p D.k D.m) (ql : List Nat) (inv n : Nat) (pl : List Nat) (t : Nat) : divQ D ql inv n pl t < D.p ^ D.k := pmul_lt hk _ _ _
theorem divF_ser {ql pl : List Nat} {inv n : Nat} (hq : ∀ a ∈ ql, a < D.p ^ D.k) (hp : ∀ a ∈ pl, a < D.p ^ D.k) (hn : n + ql.length = pl.length + 1) (h1 : 1 <= ql.length) : ∀ t, t <= n -> serL hD pl = (FD.dom hD.nzd).ser.add (serL hD (divF D ql inv n pl t)) ((FD.dom hD.nzd).ser.mul (qS hD ql inv n pl t) (serL hD ql))
 | 0, _ => by
   have e : qS hD ql inv n pl 0 = (FD.dom hD.nzd).ser.zero := funext fun i => if_neg (by omega)
   rw [e, (FD.dom hD.nzd).ser.zero_mul, (FD.dom hD.nzd).ser.add_zero]
   rfl
 | t + 1, ht => by
   have hk := hD.pre.pk
   refine (divF_ser (inv := inv) hq hp hn h1 t (by omega)).trans ?_
   have e : divF D ql inv n pl (t + 1) = addm D (divF D ql inv n pl t) (n - 1 - t) ql (pscl D.p D.k (D.p - 1) (divQ D ql inv n pl t)) := rfl
   have e2 : qS hD ql inv n pl (t + 1) = (FD.dom hD.nzd).ser.add (qS hD ql inv n pl t) ((FD.dom hD.nzd).mon1 (toE hk (divQ D ql inv n pl t)) (n - 1 - t)) := funext fun i => by
    show qS hD ql inv n pl (t + 1) i = (FD.dom hD.nzd).add (qS hD ql inv n pl t i) ((FD.dom hD.nzd).mon1 (toE hk (divQ D ql inv n pl t)) (n - 1 - t) i)
    unfold qS Dom.mon1
    by_cases h : i = n - 1 - t
    ·rw [if_pos (by omega), if_neg (by omega), if_pos h, Dom.zero_add, h, show n - 1 - (n - 1 - t) = t by omega]
    ·by_cases h2 : n - t <= i /\ i < n
     ·rw [if_pos (by omega), if_pos h2, if_neg h, Dom.add_zero]
     ·rw [if_neg (by omega), if_neg h2, if_neg h, Dom.add_zero]
   have e3 : (FD.dom hD.nzd).mon1 (toE hk (pscl D.p D.k (D.p - 1) (divQ D ql inv n pl t))) (n - 1 - t) = (FD.dom hD.nzd).ser.neg ((FD.dom hD.nzd).mon1 (toE hk (divQ D ql inv n pl t)) (n - 1 - t)) := funext fun i => by
    show (if i = n - 1 - t then toE hk (pscl D.p D.k (D.p - 1) (divQ D ql inv n pl t)) else (FD.dom hD.nzd).zero) = (FD.dom hD.nzd).neg (if i = n - 1 - t then toE hk (divQ D ql inv n pl t) else (FD.dom hD.nzd).zero)
    by_cases h : i = n - 1 - t
    ·rw [if_pos h, if_pos h, toE_neg hD (divQ_lt hk _ _ _ _ _)]
    ·rw [if_neg h, if_neg h, Dom.neg_zero]
   rw [e, serL_addm hD (divF_lt hk _ _ _ _ hp) hq (pscl_lt hk _ _) (by rw [divF_len]; omega), e2, e3, Dom.add_mul, Dom.neg_mul, Dom.tidy]
theorem quo_ser {ql pl : List Nat} (inv : Nat) (h : ¬ pl.length < ql.length) : qS hD ql inv (pl.length + 1 - ql.length) pl (pl.length + 1 - ql.length) = serL hD (quoF D ql inv pl) := funext fun i => by
 unfold quoF
 rw [if_neg h]
 show qS _ _ _ _ _ _ i = toE hD.pre.pk _
 unfold qS
 by_cases hi : i < pl.length + 1 - ql.length
 ·rw [if_pos (by omega), range_get _ hi]
 ·rw [if_neg (by omega), List.getElem?_eq_none (by simp; omega)]
  exact (toE_zero hD).symm
theorem div_ser {ql pl : List Nat} (inv : Nat) (hq : ∀ a ∈ ql, a < D.p ^ D.k) (hp : ∀ a ∈ pl, a < D.p ^ D.k) (h1 : 1 <= ql.length) : serL hD pl = (FD.dom hD.nzd).ser.add (serL hD (rstF D ql inv pl)) ((FD.dom hD.nzd).ser.mul (serL hD (quoF D ql inv pl)) (serL hD ql)) := by
 by_cases h : pl.length < ql.length
 ·have e1 : rstF D ql inv pl = pl := by unfold rstF; rw [if_pos h]
  have e2 : quoF D ql inv pl = [] := by unfold quoF; rw [if_pos h]
  rw [e1, e2, serL_nil hD (l := []) rfl, (FD.dom hD.nzd).ser.zero_mul, (FD.dom hD.nzd).ser.add_zero]
 ·have e1 : rstF D ql inv pl = trm (divF D ql inv (pl.length + 1 - ql.length) pl (pl.length + 1 - ql.length)) := by unfold rstF; rw [if_neg h]
  rw [e1, serL_trm, <- quo_ser hD inv h]
  exact divF_ser hD hq hp (by omega) h1 _ (Nat.le_refl _)
theorem quoF_lt (hk : PK D.p D.k D.m) (ql : List Nat) (inv : Nat) (pl : List Nat) : ∀ a ∈ quoF D ql inv pl, a < D.p ^ D.k := fun a ha => by
 unfold quoF at ha
 split at ha
 ·cases ha
 ·obtain ⟨i, _, rfl⟩ := List.mem_map.1 ha
  exact divQ_lt hk _ _ _ _ _
theorem ser_get {l m : List Nat} (hl : ∀ a ∈ l, a < D.p ^ D.k) (hm : ∀ a ∈ m, a < D.p ^ D.k) (h : serL hD l = serL hD m) (i : Nat) : l[i]?.getD 0 = m[i]?.getD 0 :=
 toE_inj hD.pre.pk (getD_lt (Nat.pow_pos hD.pre.pk.p0) hl i) (getD_lt (Nat.pow_pos hD.pre.pk.p0) hm i) (congrFun h i)
theorem div_ev {ql pl : List Nat} (inv : Nat) (hq : ∀ a ∈ ql, a < D.p ^ D.k) (hp : ∀ a ∈ pl, a < D.p ^ D.k) (h1 : 1 <= ql.length) (x : El (D.p ^ D.k)) : evE hD pl x = (FD.dom hD.nzd).add (evE hD (rstF D ql inv pl) x) ((FD.dom hD.nzd).mul (evE hD (quoF D ql inv pl) x) (evE hD ql x)) := by
 have hk := hD.pre.pk
 have hr := rstF_lt hk ql inv hp
 have hu := quoF_lt hk ql inv pl
 have e : serL hD pl = serL hD (sumL D (rstF D ql inv pl) (mulL D (quoF D ql inv pl) ql)) := by
  rw [serL_sumL hD hr (mulL_lt hk _ _), serL_mulL hD hu hq]
  exact div_ser hD inv hq hp h1
 rw [evE_congr hD (ser_get hD hp (sumL_lt hk _ _) e) x, sumL_ev hD hr (mulL_lt hk _ _), evE_mulL hD hu hq]
theorem quo_len_is {ql pl : List Nat} (inv : Nat) (h : ¬ pl.length < ql.length) : (quoF D ql inv pl).length = pl.length + 1 - ql.length := by
 unfold quoF
 rw [if_neg h]
 simp
theorem quo_tz {ql pl : List Nat} (hq : ∀ a ∈ ql, a < D.p ^ D.k) (hp : ∀ a ∈ pl, a < D.p ^ D.k) (h1 : 1 <= ql.length) (h0 : ql[ql.length - 1]?.getD 0 ≠ 0) (tp : Tz pl) : Tz (quoF D ql (invT D hD.pre.pk ql) pl) := by
 have hk := hD.pre.pk
 by_cases h : pl.length < ql.length
 ·left
  unfold quoF
  rw [if_pos h]
  rfl
 ·right
  have hl := quo_len_is (D := D) (ql := ql) (pl := pl) (invT D hk ql) h
  rw [hl]
  unfold quoF
  rw [if_neg h, range_get _ (by omega), show pl.length + 1 - ql.length - 1 - (pl.length + 1 - ql.length - 1) = 0 by omega]
  intro e
  have e' : pmul D.p D.k D.m (pl[pl.length + 1 - ql.length - 1 - 0 + (ql.length - 1)]?.getD 0) D.k (invT D hk ql) = 0 := e
  rw [show pl.length + 1 - ql.length - 1 - 0 + (ql.length - 1) = pl.length - 1 by omega] at e'
  have ha := getD_lt (Nat.pow_pos hk.p0) hp (pl.length - 1)
  have hb := getD_lt (Nat.pow_pos hk.p0) hq (ql.length - 1)
  have hi : invT D hk ql < D.p ^ D.k := ppow_lt hk _ _
  have e2 := toE_mul hD ha hi
  rw [e', toE_zero hD] at e2
  rcases (FD.dom hD.nzd).nzd _ _ e2.symm with e3 | e3
  ·rcases tp with h2 | h2
   ·omega
   ·exact h2 (toE_inj hk ha (Nat.pow_pos hk.p0) (e3.trans (toE_zero hD).symm))
  ·have e4 := inv_ev hD (xs := []) (by simp) hb h0
   have e5 : toE hD.pre.pk (ppow hD.pre.pk (ql[ql.length - 1]?.getD 0) (D.q - 2)) = (FD.dom hD.nzd).zero := e3
   rw [e5, Dom.zero_mul] at e4
   exact (FD.dom hD.nzd).one_ne e4.symm
theorem mulL_len_is {pl ql : List Nat} (h1 : pl.length ≠ 0) (h2 : ql.length ≠ 0) : (mulL D pl ql).length = pl.length + ql.length - 1 := by
 unfold mulL
 rw [if_neg (by omega), mulF_len]
include hD in
theorem mulL_one {pl : List Nat} (hp : ∀ a ∈ pl, a < D.p ^ D.k) (tp : Tz pl) : mulL D [1] pl = pl := by
 have hk := hD.pre.pk
 have h1 : ∀ a ∈ [1], a < D.p ^ D.k := fun a ha => by rw [List.mem_singleton.1 ha]; exact hk.one_lt
 have t1 : Tz [1] := .inr (by decide)
 refine tz_ext (mulL_tz hD h1 hp t1 tp) tp (ser_get hD (mulL_lt hk _ _) hp ?_)
 rw [serL_mulL hD h1 hp]
 have e : serL hD [1] = (FD.dom hD.nzd).ser.one := funext fun i => by
  show toE hk ([1][i]?.getD 0) = if i = 0 then (FD.dom hD.nzd).one else (FD.dom hD.nzd).zero
  rcases i with _ | i
  ·exact toE_one hD
  ·exact toE_zero hD
 rw [e, Dom.one_mul]
def padF (p : List Nat) (n : Nat) : List Nat := p ++ List.replicate (n - p.length) 0
theorem padF_len {p : List Nat} {n : Nat} (h : p.length <= n) : (padF p n).length = n := by simp [padF]; omega
theorem padF_get (p : List Nat) (n i : Nat) : (padF p n)[i]?.getD 0 = p[i]?.getD 0 := by
 unfold padF
 by_cases h : i < p.length
 ·rw [List.getElem?_append_left h]
 ·rw [List.getElem?_append_right (by omega), List.getElem?_eq_none (l := p) (by omega), List.getElem?_replicate]
  split <;> rfl
theorem padF_lt {q : Nat} (hq : 0 < q) {p : List Nat} (h : ∀ a ∈ p, a < q) (n : Nat) : ∀ a ∈ padF p n, a < q := fun a ha => by
 rcases List.mem_append.1 ha with h1 | h1
 ·exact h a h1
 ·rw [(List.mem_replicate.1 h1).2]; exact hq
def plusF (D : FD) (p q : List Nat) (c s : Nat) : List Nat := trm (addm D (padF p (max p.length (s + q.length))) s q c)
theorem plusF_lt (hk : PK D.p D.k D.m) {p q : List Nat} {c s : Nat} (hp : ∀ a ∈ p, a < D.p ^ D.k) : ∀ a ∈ plusF D p q c s, a < D.p ^ D.k := by
 unfold plusF
 exact trm_lt (addmF_lt hk _ _ _ _ (padF_lt (Nat.pow_pos hk.p0) hp _))
theorem plusF_tz (p q : List Nat) (c s : Nat) : Tz (plusF D p q c s) := trm_tz _
theorem plusF_ev {p q : List Nat} {c s : Nat} (hp : ∀ a ∈ p, a < D.p ^ D.k) (hq : ∀ a ∈ q, a < D.p ^ D.k) (hc : c < D.p ^ D.k) (x : El (D.p ^ D.k)) : evE hD (plusF D p q c s) x = (FD.dom hD.nzd).add (evE hD p x) ((FD.dom hD.nzd).mul (toE hD.pre.pk c) ((FD.dom hD.nzd).mul ((FD.dom hD.nzd).pow x s) (evE hD q x))) := by
 unfold plusF
 rw [evE_trm, evE_addm hD _ s q (padF_lt (Nat.pow_pos hD.pre.pk.p0) hp _) hq hc (by rw [padF_len (by omega)]; omega), evE_congr hD (padF_get p _) x]
include hD in
theorem plusF_len {p q : List Nat} {c : Nat} (hq : ∀ a ∈ q, a < D.p ^ D.k) (tq : Tz q) (hc : c < D.p ^ D.k) (c0 : c ≠ 0) (hl : p.length < q.length) : (plusF D p q c 0).length = q.length := by
 have hk := hD.pre.pk
 have hm : max p.length (0 + q.length) = q.length := by omega
 unfold plusF
 rw [hm]
 have hL : (addm D (padF p q.length) 0 q c).length = q.length := by rw [addm_len, padF_len (by omega)]
 have ht := addm_top (D := D) (padF p q.length) 0 q c (by omega) (by rw [padF_len (by omega)]; omega)
 rw [padF_get, List.getElem?_eq_none (l := p) (by omega)] at ht
 rw [trm_self, hL]
 right
 rw [hL]
 intro e
 rw [Nat.zero_add] at ht
 rw [e] at ht
 have hqt := getD_lt (Nat.pow_pos hk.p0) hq (q.length - 1)
 have e1 : toE hk 0 = (FD.dom hD.nzd).add (toE hk 0) (toE hk (pmul D.p D.k D.m (q[q.length - 1]?.getD 0) D.k c)) := by
  rw [<- toE_add hD (Nat.pow_pos hk.p0) (pmul_lt hk _ _ _)]
  exact congrArg (toE hk) ht
 rw [toE_zero hD, Dom.zero_add, toE_mul hD hqt hc] at e1
 rcases (FD.dom hD.nzd).nzd _ _ e1.symm with e3 | e3
 ·rcases tq with h2 | h2
  ·omega
  ·exact h2 (toE_inj hk hqt (Nat.pow_pos hk.p0) (e3.trans (toE_zero hD).symm))
 ·exact c0 (toE_inj hk hc (Nat.pow_pos hk.p0) (e3.trans (toE_zero hD).symm))
end
end FFld
end Go.Proofs.YtdnheaafcbihbaaGreat
