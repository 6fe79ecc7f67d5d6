/-
  Texts of the proof, merged by program: Cck Psr Pdv Pfr Pder Pchr Pbe Trm Chk Hor Plq Rtd Rdv Scl Cmp1.
-/
import Derived.Test.YtdnheaafcbihbaaGreatRq18
set_option linter.unusedSectionVars false
set_option linter.unusedSimpArgs false
set_option linter.unusedVariables false
set_option maxHeartbeats 16000000
namespace Go.Proofs.YtdnheaafcbihbaaGreat
open Go Go.RowKit Go.Deep
open FFld (ints)
def OrdRet (o : Int) (w : World) (e : Ending) (w' : World) : Prop := Below w.heap.size w w' /\ ((FFld.Fit o /\ e = .returned (.int .i64 0)) \/ (¬ FFld.Fit o /\ e = .returned (.int .i64 20)))
set_option maxRecDepth 20000 in
theorem ccheckOrder_any (o : Int) (w : World) (o0 : -9223372036854775808 <= o) (o1 : o <= 9223372036854775807) :
 Calls Tryz.prog 84 #[.int .i64 o] w (OrdRet o w) := by
 have HF := Kept.mk (firrs_any o 1 w o0 o1 (by omega) (by omega))
 go_enter Tryz.func84, Tryz.ntmps84
 go_wp2_with fail
 refine HF.out.mono ?_
 rintro e w1 ⟨hb1, ⟨hnf, rfl⟩ | ⟨hf, hdr, rfl⟩ | ⟨hf, q, n, hq, hq6, hn, hn1, hn4, s1, a1, k1, c1, rfl, hI1⟩⟩
 ·have HN := Kept.mk hnf
  have HB := Kept.mk (bstep hb1 ((Below.refl w1.heap.size w1).alloc (Nat.le_refl _) (.cells #[.bool false, .slice none 0 0] 98)))
  clear hb1 hnf
  go_wp2
  go_ret
  exact ⟨HB.out, .inr ⟨HN.out, rfl⟩⟩
 ·omega
 ·have HN := Kept.mk hf
  have HB := Kept.mk (bstep hb1 ((Below.refl w1.heap.size w1).alloc (Nat.le_refl _) (.cells #[.bool s1, .slice a1 k1 c1] 98)))
  clear hb1 hf hI1 hq hn
  go_wp2
  go_ret
  exact ⟨HB.out, .inl ⟨HN.out, rfl⟩⟩
open Classical in
noncomputable def chkE (o : Int) (xs : List Int) (k : Int) : Nat := if FFld.Fit o then (if 64 < xs.length then 2 else if k < 1 \/ (xs.length : Int) < k \/ belB o xs = false \/ difB xs xs.length = false then 1 else 0) else 20
abbrev cdbox (o : Int) (ao : Option Addr) (n cap : Nat) (k : Int) : Obj := .cells #[.int .i64 o, .slice ao n cap, .int .i64 k] 27
abbrev cdv (o : Int) (ao : Option Addr) (n cap : Nat) (k : Int) : Value := .agg #[.int .i64 o, .slice ao n cap, .int .i64 k]
set_option maxRecDepth 20000 in
theorem ccheck_any (o k : Int) (ao : Option Addr) (cap : Nat) (xs : List Int) (w : World) (h : Sl .i64 w (.slice ao xs.length cap) xs) (o0 : -9223372036854775808 <= o) (o1 : o <= 9223372036854775807) (k0 : -9223372036854775808 <= k) (k1 : k <= 9223372036854775807) :
 Calls Tryz.prog 21 #[cdv o ao xs.length cap k] w (RB w (.int .i64 (chkE o xs k : Nat))) := by
 have HX0 : Kept (Bxs w [cdbox o ao xs.length cap k] (w.alloc (cdbox o ao xs.length cap k))) := ⟨(Bxs.start w).alloc (by simp) _⟩
 have HO := Kept.mk (fun W => ccheckOrder_any o W o0 o1)
 have HS := Kept.mk h
 have hm : xs.length <= 9223372036854775807 := by
  obtain ⟨_, _, e, h1, h2, _⟩ := h
  unfold maxLen at h2
  omega
 have HC0 : Kept (¬ FFld.Fit o -> chkE o xs k = 20) := ⟨fun hn => by unfold chkE; rw [if_neg hn]⟩
 have HC1 : Kept (FFld.Fit o -> 64 < xs.length -> chkE o xs k = 2) := ⟨fun hn h1 => by unfold chkE; rw [if_pos hn, if_pos h1]⟩
 have HC2 : Kept (FFld.Fit o -> ¬ 64 < xs.length -> (k < 1 \/ (xs.length : Int) < k \/ belB o xs = false \/ difB xs xs.length = false) -> chkE o xs k = 1) := ⟨fun hn h1 h2 => by unfold chkE; rw [if_pos hn, if_neg h1, if_pos h2]⟩
 have HC3 : Kept (FFld.Fit o -> ¬ 64 < xs.length -> ¬ (k < 1 \/ (xs.length : Int) < k \/ belB o xs = false \/ difB xs xs.length = false) -> chkE o xs k = 0) := ⟨fun hn h1 h2 => by unfold chkE; rw [if_pos hn, if_neg h1, if_neg h2]⟩
 obtain ⟨r, hr⟩ : ∃ r, chkE o xs k = r := ⟨_, rfl⟩
 rw [hr] at HC0 HC1 HC2 HC3 ⊢
 obtain ⟨n, hn⟩ : ∃ n, xs.length = n := ⟨_, rfl⟩
 have HN := Kept.mk hn
 rw [hn] at HX0 HS HC1 HC2 HC3 hm ⊢
 clear h hr hn
 go_enter Tryz.func21, Tryz.ntmps21
 obtain ⟨c0, c1, c2, _⟩ := three_cells HX0.out.b0
 go_wp2_with fail
 refine (HO.out _).mono ?_
 rintro e w1 ⟨hb1, ⟨hf, rfl⟩ | ⟨hf, rfl⟩⟩
 ·have HX1 := Kept.mk (HX0.out.below hb1)
  replace HC1 := Kept.mk (HC1.out hf)
  replace HC2 := Kept.mk (HC2.out hf)
  replace HC3 := Kept.mk (HC3.out hf)
  have HS1 := Kept.mk (HS.out.below HX1.out.1)
  clear hb1 hf c0 c1 c2 HC0 HO
  obtain ⟨c0, c1, c2, _⟩ := three_cells HX1.out.b0
  by_cases h64 : 64 < n
  ·have d1 : decide ((64 : Int) < n) = true := decide_eq_true (by omega)
   obtain rfl := HC1.out h64
   go_wp2
   go_ret
   exact ⟨HX1.out.1, rfl⟩
  ·have d1 : decide ((64 : Int) < n) = false := decide_eq_false (by omega)
   by_cases hk1 : k < 1
   ·have d2 : decide (k < 1) = true := decide_eq_true hk1
    obtain rfl := HC2.out h64 (.inl hk1)
    go_wp2
    go_ret
    exact ⟨HX1.out.1, rfl⟩
   ·have d2 : decide (k < 1) = false := decide_eq_false hk1
    by_cases hk2 : (n : Int) < k
    ·have d3 : decide ((n : Int) < k) = true := decide_eq_true hk2
     obtain rfl := HC2.out h64 (.inr (.inl hk2))
     go_wp2
     go_ret
     exact ⟨HX1.out.1, rfl⟩
    ·have d3 : decide ((n : Int) < k) = false := decide_eq_false hk2
     have HA := Kept.mk (careBelow_any o _ xs w1 HS1.out)
     have HD := Kept.mk (careDifferent_any _ xs w1 HS1.out)
     rw [HN.out] at HD
     obtain ⟨t, ht⟩ : ∃ t, belB o xs = t := ⟨_, rfl⟩
     obtain ⟨u, hu⟩ : ∃ u, difB xs n = u := ⟨_, rfl⟩
     rw [ht] at HA HC2 HC3
     rw [hu] at HD HC2 HC3
     clear ht hu
     go_wp2_with fail
     refine HA.out.mono ?_
     rintro e w2 ⟨rfl, rfl⟩
     cases t with
     | false =>
       obtain rfl := HC2.out h64 (.inr (.inr (.inl rfl)))
       go_wp2
       go_ret
       exact ⟨HX1.out.1, rfl⟩
     | true =>
       go_wp2_with fail
       refine HD.out.mono ?_
       rintro e w2 ⟨rfl, rfl⟩
       cases u with
       | false =>
         obtain rfl := HC2.out h64 (.inr (.inr (.inr rfl)))
         go_wp2
         go_ret
         exact ⟨HX1.out.1, rfl⟩
       | true =>
         obtain rfl := HC3.out h64 (by rintro (h | h | h | h) <;> first | omega | cases h)
         go_wp2
         go_ret
         exact ⟨HX1.out.1, rfl⟩
 ·have HX1 := Kept.mk (HX0.out.below hb1)
  obtain rfl := HC0.out hf
  clear hb1 hf c0 c1 c2
  obtain ⟨c0, c1, c2, _⟩ := three_cells HX1.out.b0
  go_wp2
  go_ret
  exact ⟨HX1.out.1, rfl⟩
end Go.Proofs.YtdnheaafcbihbaaGreat
namespace Go.Proofs.YtdnheaafcbihbaaGreat
namespace FFld
namespace Dom
variable {α : Type} (F : Dom α)
theorem sm_mulr (a : α) (f : Nat -> α) (n : Nat) : F.sm (fun i => F.mul (f i) a) n = F.mul (F.sm f n) a := by
 rw [F.mul_comm (F.sm f n), <- F.sm_mul]
 exact F.sm_congr n fun i _ => F.mul_comm _ _
theorem sm_ext (f : Nat -> α) (n : Nat) (hz : ∀ i, n <= i -> f i = F.zero) : ∀ d, F.sm f (n + d) = F.sm f n
 | 0 => rfl
 | d + 1 => by
   show F.add (F.sm f (n + d)) (f (n + d)) = _
   rw [sm_ext f n hz d, hz _ (by omega), F.add_zero]
def cv (f g : Nat -> α) (n : Nat) : α := F.sm (fun i => F.mul (f i) (g (n - i))) (n + 1)
theorem cv_sq (f g : Nat -> α) {n N : Nat} (h : n < N) : F.cv f g n = F.sm (fun i => F.sm (fun j => if i + j = n then F.mul (f i) (g j) else F.zero) N) N := by
 have e : ∀ i, F.sm (fun j => if i + j = n then F.mul (f i) (g j) else F.zero) N = if i <= n then F.mul (f i) (g (n - i)) else F.zero := fun i => by
  by_cases hi : i <= n
  ·rw [if_pos hi, F.sm_one (j := n - i) N (by omega) fun j _ hne => if_neg (by omega), if_pos (by omega)]
  ·rw [if_neg hi]
   exact F.sm_zero N fun j _ => if_neg (by omega)
 rw [F.sm_congr N fun i _ => e i]
 obtain ⟨d, rfl⟩ : ∃ d, N = n + 1 + d := ⟨N - (n + 1), by omega⟩
 rw [F.sm_ext _ (n + 1) (fun i hi => if_neg (by omega)) d]
 exact F.sm_congr _ fun i hi => (if_pos (by omega)).symm
theorem cv_comm (f g : Nat -> α) : F.cv f g = F.cv g f := by
 funext n
 rw [F.cv_sq f g (Nat.lt_succ_self n), F.cv_sq g f (Nat.lt_succ_self n), F.sm_comm]
 exact F.sm_congr _ fun i _ => F.sm_congr _ fun j _ => by rw [Nat.add_comm, F.mul_comm]
theorem cv3 (f g h : Nat -> α) (n : Nat) : F.cv (F.cv f g) h n = F.sm (fun i => F.sm (fun j => F.sm (fun k => if i + j + k = n then F.mul (F.mul (f i) (g j)) (h k) else F.zero) (n + 1)) (n + 1)) (n + 1) := by
 have s1 : F.cv (F.cv f g) h n = F.sm (fun m => F.sm (fun k => F.sm (fun i => F.sm (fun j => if m + k = n /\ i + j = m then F.mul (F.mul (f i) (g j)) (h k) else F.zero) (n + 1)) (n + 1)) (n + 1)) (n + 1) := by
  rw [F.cv_sq _ h (Nat.lt_succ_self n)]
  refine F.sm_congr _ fun m hm => F.sm_congr _ fun k _ => ?_
  by_cases e : m + k = n
  ·rw [if_pos e, F.cv_sq f g (N := n + 1) (by omega), <- F.sm_mulr]
   refine F.sm_congr _ fun i _ => ?_
   rw [<- F.sm_mulr]
   refine F.sm_congr _ fun j _ => ?_
   by_cases e2 : i + j = m
   ·rw [if_pos e2, if_pos ⟨e, e2⟩]
   ·rw [if_neg e2, if_neg (fun q => e2 q.2), F.zero_mul]
  ·rw [if_neg e]
   exact (F.sm_zero _ fun i _ => F.sm_zero _ fun j _ => if_neg (fun q => e q.1)).symm
 have s2 : ∀ k i j, F.sm (fun m => if m + k = n /\ i + j = m then F.mul (F.mul (f i) (g j)) (h k) else F.zero) (n + 1) = if i + j + k = n then F.mul (F.mul (f i) (g j)) (h k) else F.zero := fun k i j => by
  by_cases e : i + j + k = n
  ·rw [if_pos e, F.sm_one (j := i + j) _ (by omega) fun m _ hne => if_neg (fun q => hne q.2.symm), if_pos ⟨e, rfl⟩]
  ·rw [if_neg e]
   exact F.sm_zero _ fun m _ => if_neg (fun q => e (by omega))
 rw [s1, F.sm_comm]
 have s3 : ∀ k, F.sm (fun m => F.sm (fun i => F.sm (fun j => if m + k = n /\ i + j = m then F.mul (F.mul (f i) (g j)) (h k) else F.zero) (n + 1)) (n + 1)) (n + 1) = F.sm (fun i => F.sm (fun j => if i + j + k = n then F.mul (F.mul (f i) (g j)) (h k) else F.zero) (n + 1)) (n + 1) := fun k => by
  rw [F.sm_comm]
  refine F.sm_congr _ fun i _ => ?_
  rw [F.sm_comm]
  exact F.sm_congr _ fun j _ => s2 k i j
 rw [F.sm_congr _ fun k _ => s3 k, F.sm_comm]
 refine F.sm_congr _ fun i _ => ?_
 exact F.sm_comm _ _ _
theorem cv_assoc (f g h : Nat -> α) : F.cv (F.cv f g) h = F.cv f (F.cv g h) := by
 rw [F.cv_comm f (F.cv g h)]
 funext n
 rw [cv3, cv3]
 -- the sum over i, j, k against that over j, k, i
 have e1 : F.sm (fun i => F.sm (fun j => F.sm (fun k => if i + j + k = n then F.mul (F.mul (g i) (h j)) (f k) else F.zero) (n + 1)) (n + 1)) (n + 1) = F.sm (fun k => F.sm (fun i => F.sm (fun j => if i + j + k = n then F.mul (F.mul (g i) (h j)) (f k) else F.zero) (n + 1)) (n + 1)) (n + 1) := by
  exact (F.sm_congr _ fun i _ => F.sm_comm _ _ _).trans (F.sm_comm _ _ _)
 rw [e1]
 refine F.sm_congr _ fun i _ => F.sm_congr _ fun j _ => F.sm_congr _ fun k _ => ?_
 by_cases e : i + j + k = n
 ·rw [if_pos e, if_pos (by omega), F.mul_assoc, F.mul_comm (f i)]
 ·rw [if_neg e, if_neg (by omega)]
theorem cv_add (f g h : Nat -> α) : F.cv f (fun i => F.add (g i) (h i)) = fun i => F.add (F.cv f g i) (F.cv f h i) := by
 funext n
 unfold cv
 rw [<- F.sm_add]
 exact F.sm_congr _ fun i _ => F.mul_add _ _ _
def one1 : Nat -> α := fun i => if i = 0 then F.one else F.zero
theorem cv_one (f : Nat -> α) : F.cv f F.one1 = f := by
 rw [cv_comm]
 funext n
 unfold cv
 rw [F.sm_one (j := 0) _ (Nat.succ_pos n) fun i _ hne => by unfold one1; rw [if_neg hne, F.zero_mul]]
 unfold one1
 rw [if_pos rfl, F.one_mul, Nat.sub_zero]
theorem low_exists {f : Nat -> α} (h : f ≠ fun _ => F.zero) : ∃ i, f i ≠ F.zero /\ ∀ j, j < i -> f j = F.zero := by
 have hex : ∃ n, f n ≠ F.zero := by
  apply Classical.byContradiction
  intro hc
  exact h (funext fun n => Classical.byContradiction fun hn => hc ⟨n, hn⟩)
 obtain ⟨n, hn⟩ := hex
 obtain ⟨m, hm, hl⟩ := exists_least (P := fun n => f n ≠ F.zero) n hn
 exact ⟨m, hm, fun j hj => Classical.byContradiction fun h => hl j hj h⟩
def ser : Dom (Nat -> α) where
 add f g := fun i => F.add (f i) (g i)
 mul f g := F.cv f g
 zero := fun _ => F.zero
 one := F.one1
 neg f := fun i => F.neg (f i)
 add_assoc f g h := funext fun i => F.add_assoc _ _ _
 add_comm f g := funext fun i => F.add_comm _ _
 add_zero f := funext fun i => F.add_zero _
 add_neg f := funext fun i => F.add_neg _
 mul_assoc f g h := F.cv_assoc f g h
 mul_comm f g := F.cv_comm f g
 mul_one f := F.cv_one f
 mul_add f g h := F.cv_add f g h
 nzd f g h := by
  apply Classical.byContradiction
  intro hc
  obtain ⟨i, hi, hil⟩ := F.low_exists (f := f) fun e => hc (.inl e)
  obtain ⟨j, hj, hjl⟩ := F.low_exists (f := g) fun e => hc (.inr e)
  have e := congrFun h (i + j)
  have e2 : F.cv f g (i + j) = F.mul (f i) (g j) := by
   unfold cv
   rw [F.sm_one (j := i) _ (by omega) fun k hk hne => by
    rcases Nat.lt_or_gt_of_ne hne with h1 | h1
    ·rw [hil k h1, F.zero_mul]
    ·rw [hjl (i + j - k) (by omega), F.mul_zero], show i + j - i = j by omega]
  have e3 : F.cv f g (i + j) = F.zero := e
  rw [e2] at e3
  rcases F.nzd _ _ e3 with h1 | h1
  ·exact hi h1
  ·exact hj h1
 one_ne h := by
  have := congrFun h 0
  unfold one1 at this
  rw [if_pos rfl] at this
  exact F.one_ne this
def Sh (f : Nat -> α) (n : Nat) : Prop := ∀ i, n <= i -> f i = F.zero
theorem Sh.mono {f : Nat -> α} {m n : Nat} (h : F.Sh f m) (hm : m <= n) : F.Sh f n := fun i hi => h i (by omega)
theorem Sh.add {f g : Nat -> α} {n : Nat} (hf : F.Sh f n) (hg : F.Sh g n) : F.Sh (F.ser.add f g) n := fun i hi => by
 show F.add (f i) (g i) = _
 rw [hf i hi, hg i hi, F.add_zero]
theorem neg_zero : F.neg F.zero = F.zero := by
 have := F.add_neg F.zero
 rw [F.zero_add] at this
 exact this
theorem Sh.neg {f : Nat -> α} {n : Nat} (hf : F.Sh f n) : F.Sh (F.ser.neg f) n := fun i hi => by
 show F.neg (f i) = _
 rw [hf i hi, F.neg_zero]
theorem Sh.mul {f g : Nat -> α} {m n : Nat} (hf : F.Sh f m) (hg : F.Sh g n) : F.Sh (F.ser.mul f g) (m + n) := fun i hi => by
 show F.cv f g i = _
 unfold cv
 refine F.sm_zero _ fun j hj => ?_
 by_cases h : m <= j
 ·rw [hf j h, F.zero_mul]
 ·rw [hg (i - j) (by omega), F.mul_zero]
theorem Sh.mul1 {f g : Nat -> α} {m n : Nat} (hf : F.Sh f (m + 1)) (hg : F.Sh g (n + 1)) : F.Sh (F.ser.mul f g) (m + n + 1) := fun i hi => by
 show F.cv f g i = _
 unfold cv
 refine F.sm_zero _ fun j hj => ?_
 by_cases h : m + 1 <= j
 ·rw [hf j h, F.zero_mul]
 ·rw [hg (i - j) (by omega), F.mul_zero]
theorem top_mul {f g : Nat -> α} {m n : Nat} (hf : F.Sh f (m + 1)) (hg : F.Sh g (n + 1)) : F.ser.mul f g (m + n) = F.mul (f m) (g n) := by
 show F.cv f g (m + n) = _
 unfold cv
 rw [F.sm_one (j := m) _ (by omega) fun k hk hne => by
  rcases Nat.lt_or_gt_of_ne hne with h1 | h1
  ·rw [hg (m + n - k) (by omega), F.mul_zero]
  ·rw [hf k h1, F.zero_mul], show m + n - m = n by omega]
def mon1 (a : α) (k : Nat) : Nat -> α := fun i => if i = k then a else F.zero
theorem mon1_sh (a : α) (k : Nat) : F.Sh (F.mon1 a k) (k + 1) := fun i hi => if_neg (by omega)
def Dg (f : Nat -> α) (n : Nat) : Prop := F.Sh f (n + 1) /\ f n ≠ F.zero
theorem Dg.mul {f g : Nat -> α} {m n : Nat} (hf : F.Dg f m) (hg : F.Dg g n) : F.Dg (F.ser.mul f g) (m + n) := by
 refine ⟨?_, ?_⟩
 ·intro i hi
  show F.cv f g i = _
  unfold cv
  refine F.sm_zero _ fun j hj => ?_
  by_cases h : m + 1 <= j
  ·rw [hf.1 j h, F.zero_mul]
  ·rw [hg.1 (i - j) (by omega), F.mul_zero]
 ·rw [F.top_mul hf.1 hg.1]
  exact F.mul_ne hf.2 hg.2
theorem Dg.ne {f : Nat -> α} {n : Nat} (h : F.Dg f n) : f ≠ F.ser.zero := fun e => h.2 (congrFun e n)
theorem Dg.uniq {f : Nat -> α} {m n : Nat} (h : F.Dg f m) (k : F.Dg f n) : m = n := by
 rcases Nat.lt_trichotomy m n with h1 | h1 | h1
 ·exact absurd (h.1 n h1) k.2
 ·exact h1
 ·exact absurd (k.1 m h1) h.2
theorem dg_exists {f : Nat -> α} : ∀ {n : Nat}, F.Sh f n -> f ≠ F.ser.zero -> ∃ d, d < n /\ F.Dg f d
 | 0, h, hne => absurd (funext fun i => h i (Nat.zero_le i)) hne
 | n + 1, h, hne => by
   by_cases e : f n = F.zero
   ·obtain ⟨d, hd, hg⟩ := dg_exists (n := n) (fun i hi => by
     by_cases e2 : i = n
     ·rw [e2]; exact e
     ·exact h i (by omega)) hne
    exact ⟨d, by omega, hg⟩
   ·exact ⟨n, Nat.lt_succ_self n, h, e⟩
theorem divide {g : Nat -> α} {d : Nat} {u : α} (hg : F.Sh g (d + 1)) (hu : F.mul u (g d) = F.one) : ∀ (n : Nat) (f : Nat -> α), F.Sh f n -> ∃ s r, F.Sh s n /\ F.Sh r d /\ f = F.ser.add (F.ser.mul s g) r
 | 0, f, hf => ⟨F.ser.zero, F.ser.zero, fun _ _ => rfl, fun _ _ => rfl, by rw [F.ser.zero_mul, F.ser.add_zero]; exact funext fun i => hf i (Nat.zero_le i)⟩
 | n + 1, f, hf => by
   by_cases hn : n < d
   ·exact ⟨F.ser.zero, f, fun _ _ => rfl, fun i hi => hf i (by omega), by rw [F.ser.zero_mul, F.ser.zero_add]⟩
   ·obtain ⟨k, rfl⟩ : ∃ k, n = k + d := ⟨n - d, by omega⟩
    have hm := F.mon1_sh (F.mul (f (k + d)) u) k
    have hlow : F.Sh (F.ser.add f (F.ser.neg (F.ser.mul (F.mon1 (F.mul (f (k + d)) u) k) g))) (k + d) := fun i hi => by
     by_cases e : i = k + d
     ·subst e
      show F.add (f (k + d)) (F.neg (F.ser.mul (F.mon1 (F.mul (f (k + d)) u) k) g (k + d))) = _
      rw [F.top_mul hm hg]
      unfold mon1
      rw [if_pos rfl, F.mul_assoc, hu, F.mul_one, F.add_neg]
     ·show F.add (f i) (F.neg (F.ser.mul (F.mon1 (F.mul (f (k + d)) u) k) g i)) = _
      rw [hf i (by omega), (Sh.mul1 F hm hg) i (by omega), F.neg_zero, F.add_zero]
    obtain ⟨s, r, hs, hr, e⟩ := divide hg hu (k + d) _ hlow
    refine ⟨F.ser.add s (F.mon1 (F.mul (f (k + d)) u) k), r, Sh.add F (Sh.mono F hs (by omega)) (Sh.mono F hm (by omega)), hr, ?_⟩
    rw [F.ser.add_mul, F.ser.add_assoc, F.ser.add_comm _ r, <- F.ser.add_assoc, <- e, F.ser.add_assoc, F.ser.add_comm (F.ser.neg _), F.ser.add_neg, F.ser.add_zero]
end Dom
end FFld
end Go.Proofs.YtdnheaafcbihbaaGreat
namespace Go.Proofs.YtdnheaafcbihbaaGreat
namespace FFld
namespace Dom
variable {α : Type} (F : Dom α)
def Inv (F : Dom α) : Prop := ∀ a, a ≠ F.zero -> ∃ u, F.mul u a = F.one
def Pl (F : Dom α) (f : Nat -> α) : Prop := ∃ n, F.Sh f n
theorem Pl.add {f g : Nat -> α} (hf : F.Pl f) (hg : F.Pl g) : F.Pl (F.ser.add f g) := by
 obtain ⟨m, hm⟩ := hf
 obtain ⟨n, hn⟩ := hg
 exact ⟨max m n, Sh.add F (Sh.mono F hm (by omega)) (Sh.mono F hn (by omega))⟩
theorem Pl.neg {f : Nat -> α} (hf : F.Pl f) : F.Pl (F.ser.neg f) := by
 obtain ⟨m, hm⟩ := hf
 exact ⟨m, Sh.neg F hm⟩
theorem Pl.mul {f g : Nat -> α} (hf : F.Pl f) (hg : F.Pl g) : F.Pl (F.ser.mul f g) := by
 obtain ⟨m, hm⟩ := hf
 obtain ⟨n, hn⟩ := hg
 exact ⟨m + n, Sh.mul F hm hn⟩
theorem Pl.zero : F.Pl F.ser.zero := ⟨0, fun _ _ => rfl⟩
theorem one_sh : F.Sh F.ser.one 1 := fun i hi => by
 show F.one1 i = _
 unfold one1
 rw [if_neg (by omega)]
theorem Pl.one : F.Pl F.ser.one := ⟨1, F.one_sh⟩
def Dv (F : Dom α) (g f : Nat -> α) : Prop := ∃ s, F.Pl s /\ f = F.ser.mul s g
theorem Dv.zero (g : Nat -> α) : F.Dv g F.ser.zero := ⟨F.ser.zero, Pl.zero F, (F.ser.zero_mul g).symm⟩
theorem Dv.add {g a b : Nat -> α} (ha : F.Dv g a) (hb : F.Dv g b) : F.Dv g (F.ser.add a b) := by
 obtain ⟨s, hs, rfl⟩ := ha
 obtain ⟨t, ht, rfl⟩ := hb
 exact ⟨F.ser.add s t, Pl.add F hs ht, (F.ser.add_mul _ _ _).symm⟩
theorem Dv.mul {g a b : Nat -> α} (ha : F.Dv g a) (hb : F.Pl b) : F.Dv g (F.ser.mul b a) := by
 obtain ⟨s, hs, rfl⟩ := ha
 exact ⟨F.ser.mul b s, Pl.mul F hb hs, (F.ser.mul_assoc _ _ _).symm⟩
theorem Dv.neg {g a : Nat -> α} (ha : F.Dv g a) : F.Dv g (F.ser.neg a) := by
 obtain ⟨s, hs, rfl⟩ := ha
 refine ⟨F.ser.neg s, Pl.neg F hs, ?_⟩
 rw [F.ser.mul_comm (F.ser.neg s), F.ser.mul_neg, F.ser.mul_comm]
theorem Dv.trans {a b c : Nat -> α} (h1 : F.Dv a b) (h2 : F.Dv b c) : F.Dv a c := by
 obtain ⟨s, hs, rfl⟩ := h2
 exact Dv.mul F h1 hs
theorem Dv.small {g a : Nat -> α} {d : Nat} (hg : F.Dg g d) (h : F.Dv g a) (ha : F.Sh a d) : a = F.ser.zero := by
 obtain ⟨s, ⟨n, hs⟩, rfl⟩ := h
 apply Classical.byContradiction
 intro hne
 have hs0 : s ≠ F.ser.zero := fun e => hne (by rw [e, F.ser.zero_mul])
 obtain ⟨m, _, hm⟩ := F.dg_exists hs hs0
 have hd := Dg.mul F hm hg
 exact hd.2 (ha (m + d) (by omega))
theorem Dv.eq {g a b : Nat -> α} {d : Nat} (hg : F.Dg g d) (ha : F.Sh a d) (hb : F.Sh b d) (h : F.Dv g (F.ser.add a (F.ser.neg b))) : a = b :=
 F.ser.eq_of_sub (Dv.small F hg h (Sh.add F ha (Sh.neg F hb)))
theorem divide_pl (hI : F.Inv) {g f : Nat -> α} {d : Nat} (hg : F.Dg g d) (hf : F.Pl f) : ∃ s r, F.Pl s /\ F.Sh r d /\ f = F.ser.add (F.ser.mul s g) r := by
 obtain ⟨n, hn⟩ := hf
 obtain ⟨u, hu⟩ := hI _ hg.2
 obtain ⟨s, r, h1, h2, h3⟩ := F.divide hg.1 hu n f hn
 exact ⟨s, r, ⟨n, h1⟩, h2, h3⟩
structure Ird (F : Dom α) (g : Nat -> α) (d : Nat) : Prop where
 dg : F.Dg g d
 pos : 1 <= d
 only : ∀ h e, F.Dg h e -> F.Dv h g -> e = 0 \/ e = d
theorem Dg.pl {f : Nat -> α} {n : Nat} (h : F.Dg f n) : F.Pl f := ⟨n + 1, h.1⟩
theorem const_inv (hI : F.Inv) {h : Nat -> α} (hd : F.Dg h 0) : ∃ w, F.Pl w /\ F.ser.mul w h = F.ser.one := by
 obtain ⟨u, hu⟩ := hI _ hd.2
 refine ⟨F.mon1 u 0, ⟨1, F.mon1_sh u 0⟩, ?_⟩
 funext n
 show F.cv (F.mon1 u 0) h n = F.one1 n
 unfold cv
 rw [F.sm_one (j := 0) _ (Nat.succ_pos n) fun i _ hne => by unfold mon1; rw [if_neg hne, F.zero_mul]]
 unfold mon1 one1
 rw [if_pos rfl, Nat.sub_zero]
 by_cases e : n = 0
 ·rw [if_pos e, e, hu]
 ·rw [if_neg e, hd.1 n (by omega), F.mul_zero]
theorem bezout (hI : F.Inv) {g f : Nat -> α} {d : Nat} (hg : F.Ird g d) (hf : F.Pl f) (hn : ¬ F.Dv g f) : ∃ u v, F.Pl u /\ F.Pl v /\ F.ser.add (F.ser.mul u f) (F.ser.mul v g) = F.ser.one := by
 have hgp := Dg.pl F hg.dg
 obtain ⟨e, ⟨u, v, hu, hv, he⟩, hl⟩ := exists_least (P := fun e => ∃ u v, F.Pl u /\ F.Pl v /\ F.Dg (F.ser.add (F.ser.mul u f) (F.ser.mul v g)) e) d ⟨F.ser.zero, F.ser.one, Pl.zero F, Pl.one F, by rw [F.ser.zero_mul, F.ser.zero_add, F.ser.one_mul]; exact hg.dg⟩
 obtain ⟨h, hh⟩ : ∃ h, F.ser.add (F.ser.mul u f) (F.ser.mul v g) = h := ⟨_, rfl⟩
 rw [hh] at he
 have key : ∀ u' v', F.Pl u' -> F.Pl v' -> F.Dv h (F.ser.add (F.ser.mul u' f) (F.ser.mul v' g)) := fun u' v' hu' hv' => by
  obtain ⟨s, r, hs, hr, e1⟩ := F.divide_pl hI he (Pl.add F (Pl.mul F hu' hf) (Pl.mul F hv' hgp))
  by_cases hr0 : r = F.ser.zero
  ·exact ⟨s, hs, by rw [e1, hr0, F.ser.add_zero]⟩
  ·exfalso
   obtain ⟨e', he', hde⟩ := F.dg_exists hr hr0
   refine hl e' he' ⟨F.ser.add u' (F.ser.neg (F.ser.mul s u)), F.ser.add v' (F.ser.neg (F.ser.mul s v)), Pl.add F hu' (Pl.neg F (Pl.mul F hs hu)), Pl.add F hv' (Pl.neg F (Pl.mul F hs hv)), ?_⟩
   have e2 : F.ser.add (F.ser.mul (F.ser.add u' (F.ser.neg (F.ser.mul s u))) f) (F.ser.mul (F.ser.add v' (F.ser.neg (F.ser.mul s v))) g) = r := by
    have n1 : ∀ a b, F.ser.mul (F.ser.neg a) b = F.ser.neg (F.ser.mul a b) := fun a b => by rw [F.ser.mul_comm, F.ser.mul_neg, F.ser.mul_comm]
    have n2 : ∀ a b, F.ser.add (F.ser.neg a) (F.ser.neg b) = F.ser.neg (F.ser.add a b) := fun a b => by
     refine F.ser.neg_unique ?_
     rw [F.ser.add4, F.ser.add_neg, F.ser.add_neg, F.ser.add_zero]
    rw [F.ser.add_mul, F.ser.add_mul, n1, n1, F.ser.add4, n2, F.ser.mul_assoc, F.ser.mul_assoc, <- F.ser.mul_add, hh, e1, F.ser.add_comm _ r, F.ser.add_assoc, F.ser.add_neg, F.ser.add_zero]
   rw [e2]
   exact hde
 have h1 : F.Dv h f := by
  have := key F.ser.one F.ser.zero (Pl.one F) (Pl.zero F)
  rw [F.ser.one_mul, F.ser.zero_mul, F.ser.add_zero] at this
  exact this
 have h2 : F.Dv h g := by
  have := key F.ser.zero F.ser.one (Pl.zero F) (Pl.one F)
  rw [F.ser.one_mul, F.ser.zero_mul, F.ser.zero_add] at this
  exact this
 rcases hg.only h e he h2 with e0 | e0
 ·subst e0
  obtain ⟨w, hw, ew⟩ := F.const_inv hI he
  exact ⟨F.ser.mul w u, F.ser.mul w v, Pl.mul F hw hu, Pl.mul F hw hv, by rw [F.ser.mul_assoc, F.ser.mul_assoc, <- F.ser.mul_add, hh, ew]⟩
 ·exfalso
  subst e0
  apply hn
  refine Dv.trans F ?_ h1
  obtain ⟨s, ⟨n, hs⟩, es⟩ := h2
  have hs0 : s ≠ F.ser.zero := fun e2 => Dg.ne F hg.dg (by rw [es, e2, F.ser.zero_mul])
  obtain ⟨m, _, hm⟩ := F.dg_exists hs hs0
  have hd := Dg.mul F hm he
  rw [<- es] at hd
  have hm0 : m = 0 := by
   have := Dg.uniq F hd hg.dg
   omega
  subst hm0
  obtain ⟨w, hw, ew⟩ := F.const_inv hI hm
  exact ⟨w, hw, by rw [es, <- F.ser.mul_assoc, ew, F.ser.one_mul]⟩
theorem prime_dv (hI : F.Inv) {g a b : Nat -> α} {d : Nat} (hg : F.Ird g d) (ha : F.Pl a) (hb : F.Pl b) (h : F.Dv g (F.ser.mul a b)) : F.Dv g a \/ F.Dv g b := by
 by_cases hga : F.Dv g a
 ·exact .inl hga
 ·right
  obtain ⟨u, v, hu, hv, e⟩ := F.bezout hI hg ha hga
  have e2 : b = F.ser.add (F.ser.mul u (F.ser.mul a b)) (F.ser.mul (F.ser.mul v b) g) := by
   have := congrArg (fun z => F.ser.mul z b) e
   rw [F.ser.one_mul, F.ser.add_mul] at this
   refine this.symm.trans ?_
   rw [F.ser.mul_assoc u a b, F.ser.mul_assoc v g b, F.ser.mul_assoc v b g, F.ser.mul_comm g b]
  rw [e2]
  exact Dv.add F (Dv.mul F h hu) ⟨F.ser.mul v b, Pl.mul F hv hb, rfl⟩
end Dom
section
variable {α : Type} {F : Dom α} (hI : F.Inv) {g : Nat -> α} {d : Nat}
abbrev Res (F : Dom α) (d : Nat) : Type := {r : Nat -> α // F.Sh r d}
theorem rem_exists (hI : F.Inv) (hg : F.Dg g d) (f : Nat -> α) (hf : F.Pl f) : ∃ r : Res F d, F.Dv g (F.ser.add f (F.ser.neg r.1)) := by
 obtain ⟨s, r, hs, hr, e⟩ := F.divide_pl hI hg hf
 exact ⟨⟨r, hr⟩, s, hs, by rw [e, F.ser.add_assoc, F.ser.add_neg, F.ser.add_zero]⟩
noncomputable def rem (hI : F.Inv) (hg : F.Dg g d) (f : Nat -> α) (hf : F.Pl f) : Res F d := Classical.choose (rem_exists hI hg f hf)
theorem rem_spec (hI : F.Inv) (hg : F.Dg g d) (f : Nat -> α) (hf : F.Pl f) : F.Dv g (F.ser.add f (F.ser.neg (rem hI hg f hf).1)) := Classical.choose_spec (rem_exists hI hg f hf)
def Eqv (F : Dom α) (g a b : Nat -> α) : Prop := F.Dv g (F.ser.add a (F.ser.neg b))
theorem Eqv.refl (a : Nat -> α) : Eqv F g a a := by
 unfold Eqv
 rw [F.ser.add_neg]
 exact Dom.Dv.zero F g
theorem Eqv.symm {a b : Nat -> α} (h : Eqv F g a b) : Eqv F g b a := by
 have := Dom.Dv.neg F h
 have e : F.ser.neg (F.ser.add a (F.ser.neg b)) = F.ser.add b (F.ser.neg a) := by
  symm
  refine F.ser.neg_unique ?_
  rw [F.ser.add_comm b, F.ser.add4, F.ser.add_neg, F.ser.add_comm (F.ser.neg b), F.ser.add_neg, F.ser.add_zero]
 rw [e] at this
 exact this
theorem Eqv.trans {a b c : Nat -> α} (h : Eqv F g a b) (k : Eqv F g b c) : Eqv F g a c := by
 have := Dom.Dv.add F h k
 have e : F.ser.add (F.ser.add a (F.ser.neg b)) (F.ser.add b (F.ser.neg c)) = F.ser.add a (F.ser.neg c) := by
  rw [F.ser.add_assoc, <- F.ser.add_assoc (F.ser.neg b), F.ser.add_comm (F.ser.neg b), F.ser.add_neg, F.ser.zero_add]
 rw [e] at this
 exact this
theorem Eqv.add {a b a' b' : Nat -> α} (h : Eqv F g a a') (k : Eqv F g b b') : Eqv F g (F.ser.add a b) (F.ser.add a' b') := by
 have := Dom.Dv.add F h k
 have n2 : ∀ a b, F.ser.add (F.ser.neg a) (F.ser.neg b) = F.ser.neg (F.ser.add a b) := fun a b => by
  refine F.ser.neg_unique ?_
  rw [F.ser.add4, F.ser.add_neg, F.ser.add_neg, F.ser.add_zero]
 rw [F.ser.add4, n2] at this
 exact this
theorem Eqv.mul {a b a' b' : Nat -> α} (ha : F.Pl b) (hb : F.Pl a') (h : Eqv F g a a') (k : Eqv F g b b') : Eqv F g (F.ser.mul a b) (F.ser.mul a' b') := by
 refine Eqv.trans (b := F.ser.mul a' b) ?_ ?_
 ·have := Dom.Dv.mul F h ha
  rw [F.ser.mul_add, F.ser.mul_neg, F.ser.mul_comm b, F.ser.mul_comm b] at this
  exact this
 ·have := Dom.Dv.mul F k hb
  rw [F.ser.mul_add, F.ser.mul_neg] at this
  exact this
theorem Eqv.eq {a b : Nat -> α} (hg : F.Dg g d) (ha : F.Sh a d) (hb : F.Sh b d) (h : Eqv F g a b) : a = b := Dom.Dv.eq F hg ha hb h
theorem rem_eqv (hI : F.Inv) (hg : F.Dg g d) (f : Nat -> α) (hf : F.Pl f) : Eqv F g f (rem hI hg f hf).1 := rem_spec hI hg f hf
theorem res_pl (r : Res F d) : F.Pl r.1 := ⟨d, r.2⟩
theorem res_sh (r : Res F d) : F.Sh r.1 d := r.2
noncomputable def quo (hI : F.Inv) (hg : F.Ird g d) : Dom (Res F d) where
 add a b := ⟨F.ser.add a.1 b.1, Dom.Sh.add F a.2 b.2⟩
 mul a b := rem hI hg.dg (F.ser.mul a.1 b.1) (Dom.Pl.mul F (res_pl a) (res_pl b))
 zero := ⟨F.ser.zero, fun _ _ => rfl⟩
 one := ⟨F.ser.one, Dom.Sh.mono F F.one_sh hg.pos⟩
 neg a := ⟨F.ser.neg a.1, Dom.Sh.neg F a.2⟩
 add_assoc a b c := Subtype.ext (F.ser.add_assoc _ _ _)
 add_comm a b := Subtype.ext (F.ser.add_comm _ _)
 add_zero a := Subtype.ext (F.ser.add_zero _)
 add_neg a := Subtype.ext (F.ser.add_neg _)
 mul_assoc a b c := Subtype.ext (by
  refine Eqv.eq hg.dg (res_sh _) (res_sh _) ?_
  refine Eqv.trans (rem_eqv hI hg.dg _ _).symm ?_
  refine Eqv.trans ?_ (rem_eqv hI hg.dg _ _)
  refine Eqv.trans (Eqv.mul (res_pl c) (Dom.Pl.mul F (res_pl a) (res_pl b)) (rem_eqv hI hg.dg _ _).symm (Eqv.refl c.1)) ?_
  rw [F.ser.mul_assoc]
  exact Eqv.mul (Dom.Pl.mul F (res_pl b) (res_pl c)) (res_pl a) (Eqv.refl a.1) (rem_eqv hI hg.dg _ _))
 mul_comm a b := Subtype.ext (by
  refine Eqv.eq hg.dg (res_sh _) (res_sh _) ?_
  refine Eqv.trans (rem_eqv hI hg.dg _ _).symm ?_
  refine Eqv.trans ?_ (rem_eqv hI hg.dg _ _)
  rw [F.ser.mul_comm]
  exact Eqv.refl _)
 mul_one a := Subtype.ext (by
  refine Eqv.eq hg.dg (res_sh _) a.2 ?_
  refine Eqv.trans (rem_eqv hI hg.dg _ _).symm ?_
  show Eqv F g (F.ser.mul a.1 F.ser.one) a.1
  rw [F.ser.mul_one]
  exact Eqv.refl _)
 mul_add a b c := Subtype.ext (by
  refine Eqv.eq hg.dg (res_sh _) (res_sh _) ?_
  refine Eqv.trans (rem_eqv hI hg.dg _ _).symm ?_
  show Eqv F g (F.ser.mul a.1 (F.ser.add b.1 c.1)) _
  rw [F.ser.mul_add]
  exact Eqv.add (rem_eqv hI hg.dg _ _) (rem_eqv hI hg.dg _ _))
 nzd a b h := by
  have e : (rem hI hg.dg (F.ser.mul a.1 b.1) (Dom.Pl.mul F (res_pl a) (res_pl b))).1 = F.ser.zero := congrArg Subtype.val h
  have h1 := rem_spec hI hg.dg (F.ser.mul a.1 b.1) (Dom.Pl.mul F (res_pl a) (res_pl b))
  rw [e] at h1
  have e2 : F.ser.neg F.ser.zero = F.ser.zero := F.ser.neg_zero
  rw [e2, F.ser.add_zero] at h1
  rcases F.prime_dv hI hg (res_pl a) (res_pl b) h1 with h2 | h2
  ·exact .inl (Subtype.ext (Dom.Dv.small F hg.dg h2 a.2))
  ·exact .inr (Subtype.ext (Dom.Dv.small F hg.dg h2 b.2))
 one_ne h := F.ser.one_ne (congrArg Subtype.val h)
def consR (F : Dom α) {d : Nat} (a : α) (r : Res F d) : Res F (d + 1) := ⟨fun i => if i = 0 then a else r.1 (i - 1), fun i hi => by
 show (if i = 0 then a else r.1 (i - 1)) = _
 rw [if_neg (by omega)]
 exact r.2 _ (by omega)⟩
def vecs (F : Dom α) (E : List α) : (d : Nat) -> List (Res F d)
 | 0 => [⟨fun _ => F.zero, fun _ _ => rfl⟩]
 | d + 1 => E.flatMap fun a => (vecs F E d).map (consR F a)
end
end FFld
end Go.Proofs.YtdnheaafcbihbaaGreat
namespace Go.Proofs.YtdnheaafcbihbaaGreat
namespace FFld
structure Emb {α β : Type} (F : Dom α) (G : Dom β) (φ : α -> β) : Prop where
 add : ∀ a b, φ (F.add a b) = G.add (φ a) (φ b)
 mul : ∀ a b, φ (F.mul a b) = G.mul (φ a) (φ b)
 zero : φ F.zero = G.zero
 one : φ F.one = G.one
 inj : ∀ a b, φ a = φ b -> a = b
structure Els {α : Type} (F : Dom α) (E : List α) : Prop where
 nodup : E.Nodup
 mem : ∀ a, a ∈ E
 pow : ∀ a, F.pow a E.length = a
section
variable {α : Type} {F : Dom α} {E : List α} {g : Nat -> α} {d n : Nat}
def xx (F : Dom α) : Nat -> α := F.mon1 F.one 1
end
end FFld
end Go.Proofs.YtdnheaafcbihbaaGreat
namespace Go.Proofs.YtdnheaafcbihbaaGreat
namespace FFld
namespace Dom
variable {α : Type} (F : Dom α)
def nm (F : Dom α) : Nat -> α
 | 0 => F.zero
 | n + 1 => F.add (nm F n) F.one
def der (F : Dom α) (f : Nat -> α) : Nat -> α := fun i => F.mul (F.nm (i + 1)) (f (i + 1))
end Dom
end FFld
end Go.Proofs.YtdnheaafcbihbaaGreat
namespace Go.Proofs.YtdnheaafcbihbaaGreat
namespace FFld
structure Chr {α : Type} (F : Dom α) (p : Nat) : Prop where
 prime : Prime p
 small : p <= 65536
 zero : F.nm p = F.zero
section
variable {α : Type} {F : Dom α} {p : Nat}
end
end FFld
end Go.Proofs.YtdnheaafcbihbaaGreat
namespace Go.Proofs.YtdnheaafcbihbaaGreat
namespace FFld
section
variable {α : Type} {F : Dom α} {E : List α} {p n : Nat} {f : Nat -> α}
end
end FFld
end Go.Proofs.YtdnheaafcbihbaaGreat
namespace Go.Proofs.YtdnheaafcbihbaaGreat
open Go Go.RowKit Go.Deep
open FFld (ints)
theorem ints_take (l : List Nat) (n : Nat) : ints (l.take n) = (ints l).take n := by
 unfold FFld.ints
 rw [List.map_take]
def polF (D : FFld.FD) (xs : List Int) (most : Nat) : List Nat := FFld.trm ((xs.take most).map (redN D))
def zlast (xs : List Int) : Bool := decide (0 < xs.length) && decide (xs[xs.length - 1]?.getD 0 = 0)
def cErr (D : FFld.FD) (xs : List Int) : Nat := if 200 < xs.length then 2 else if elsB D xs = true /\ zlast xs = false then 0 else 1
set_option maxRecDepth 20000 in
theorem fcheck_any {D : FFld.FD} {b : Nat} (v : Value) (xs : List Int) (w : World) (hf : FldB D w b) (h : Sl .i64 w v xs) :
 Calls Tryz.prog 169 #[.pointer (some ⟨b, 0, none⟩), v] w (fun e w' => w = w' /\ e = .returned (.int .i64 (cErr D xs : Nat))) := by
 have HA := Kept.mk (areElements_any (D := D) (b := b) v xs w hf h)
 obtain ⟨ao, cap, hv, hcap, hmax, hc⟩ := h
 subst hv
 obtain ⟨n, hN⟩ : ∃ n, xs.length = n := ⟨_, rfl⟩
 have HC := Kept.mk hc
 have hE : cErr D xs = if 200 < n then 2 else if elsB D xs = true /\ zlast xs = false then 0 else 1 := by unfold cErr; rw [hN]
 have hZ : zlast xs = (decide (0 < n) && decide (xs[n - 1]?.getD 0 = 0)) := by unfold zlast; rw [hN]
 rw [hN] at hcap HA ⊢
 have HN := Kept.mk hN
 unfold maxLen at hmax
 clear hc hN
 by_cases h200 : 200 < n
 ·rw [if_pos h200] at hE
  have e1 : decide ((n : Int) > 200) = true := by simp; omega
  rw [hE]
  clear hE hZ HA
  go_enter Tryz.func169, Tryz.ntmps169
  go_wp2
  go_ret
  exact ⟨rfl, rfl⟩
 ·rw [if_neg h200] at hE
  have e1 : decide ((n : Int) > 200) = false := by simp; omega
  obtain ⟨t, ht⟩ : ∃ t, elsB D xs = t := ⟨_, rfl⟩
  rw [ht] at hE HA
  clear ht
  cases t with
  | false =>
    rw [if_neg (by simp)] at hE
    rw [hE]
    clear hE hZ
    go_enter Tryz.func169, Tryz.ntmps169
    go_wp2_with fail
    refine HA.out.mono ?_
    rintro e w2 ⟨rfl, rfl⟩
    go_wp2
    go_ret
    exact ⟨rfl, rfl⟩
  | true =>
    by_cases hn0 : n = 0
    ·subst hn0
     have hz : zlast xs = false := by rw [hZ]; rfl
     rw [hz, if_pos (by simp)] at hE
     have e2 : decide (((0 : Nat) : Int) > 0) = false := rfl
     rw [hE]
     clear hE hZ hz
     go_enter Tryz.func169, Tryz.ntmps169
     go_wp2_with fail
     refine HA.out.mono ?_
     rintro e w2 ⟨rfl, rfl⟩
     go_wp2
     go_ret
     exact ⟨rfl, rfl⟩
    ·obtain ⟨b1, o1, rfl, hb1, hcell⟩ := HC.out (n - 1) (by rw [HN.out]; omega)
     obtain ⟨m, rfl⟩ : ∃ m, n = m + 1 := ⟨n - 1, by omega⟩
     simp only [Nat.add_sub_cancel] at hcell hZ
     obtain ⟨x, hx⟩ : ∃ x, xs[m]?.getD 0 = x := ⟨_, rfl⟩
     rw [hx] at hcell hZ
     have e2 : decide (((m + 1 : Nat) : Int) > 0) = true := by rw [decide_eq_true_eq]; omega
     by_cases hx0 : x = 0
     ·have hz : zlast xs = true := by rw [hZ, hx0]; simp
      rw [hz, if_neg (by simp)] at hE
      have e3 : (x == 0) = true := by rw [hx0]; rfl
      rw [hE]
      clear hE hZ hz hx
      go_enter Tryz.func169, Tryz.ntmps169
      go_wp2_with fail
      refine HA.out.mono ?_
      rintro e w2 ⟨rfl, rfl⟩
      go_wp2
      go_ret
      exact ⟨rfl, rfl⟩
     ·have hz : zlast xs = false := by rw [hZ]; simp [hx0]
      rw [hz, if_pos (by simp)] at hE
      have e3 : (x == 0) = false := by rw [beq_eq_false_iff_ne]; exact hx0
      rw [hE]
      clear hE hZ hz hx hx0
      go_enter Tryz.func169, Tryz.ntmps169
      go_wp2_with fail
      refine HA.out.mono ?_
      rintro e w2 ⟨rfl, rfl⟩
      go_wp2
      go_ret
      exact ⟨rfl, rfl⟩
end Go.Proofs.YtdnheaafcbihbaaGreat
namespace Go.Proofs.YtdnheaafcbihbaaGreat
open Go Go.RowKit Go.Deep
open FFld (ints)
namespace FFld
def hornF (D : FD) (pl : List Nat) (x : Nat) : Nat -> Nat
 | 0 => 0
 | i + 1 => padd D.p D.k (pmul D.p D.k D.m (hornF D pl x i) D.k x) (pl[pl.length - 1 - i]?.getD 0)
theorem hornF_lt {D : FD} (h : PK D.p D.k D.m) (pl : List Nat) (x i : Nat) : hornF D pl x i < D.p ^ D.k := by
 cases i with
 | zero => exact Nat.pow_pos h.p0
 | succ i => exact padd_lt h _ _
end FFld
theorem ArV.nilA {D : FFld.FD} {h : D.Ok} {w : World} {T : TypeId} {x : Value} (hv : ArV D h w (.iface T x)) : ∀ W, (nilAhead 378 T x "dauber/field.sum").run Tryz.prog W = .ok (some false) W := by
 rcases hv with ⟨_, e⟩ | ⟨_, gP, gL, q1, q, P, L, e, _⟩
 ·simp only [Value.iface.injEq] at e
  obtain ⟨rfl, rfl⟩ := e
  intro W
  kernel_rfl
 ·simp only [Value.iface.injEq] at e
  obtain ⟨rfl, rfl⟩ := e
  intro W
  kernel_rfl
theorem FldB.open2 {D : FFld.FD} {w : World} {b : Nat} (hf : FldB D w b) : ∃ (h : D.Ok) (T : TypeId) (x : Value) (fs fp fw : FuncId) (ms : Value), w.heap[b]? = some (.cells #[.iface T x, .int .i64 D.q, .int .i64 D.p, .int .i64 D.k, .int .i64 D.g, ms] 179 (0, 0)) /\ ArOps D h w T x fs fp fw /\ ∀ W, (nilAhead 378 T x "dauber/field.sum").run Tryz.prog W = .ok (some false) W := by
 obtain ⟨h, ar, ms, ml, h1, h2, h3, h4⟩ := hf
 obtain ⟨T, x, fs, fp, fw, rfl, ho⟩ := h2.ops
 exact ⟨h, T, x, fs, fp, fw, ms, h1, ho, h2.nilA⟩
set_option maxRecDepth 20000 in
theorem gvalue_any {D : FFld.FD} {T : TypeId} {xv : Value} {fs fp fw : FuncId} (hD : D.Ok) (v : Value) (pl : List Nat) (x : Nat) (w0 w : World) (ho : ArOps D hD w0 T xv fs fp fw) (hna : ∀ W, (nilAhead 378 T xv "dauber/field.sum").run Tryz.prog W = .ok (some false) W) (hw : Below w0.heap.size w0 w) (hp : Sl .i64 w v (ints pl)) (hpq : ∀ a ∈ pl, a < D.p ^ D.k) (hx : x < D.p ^ D.k) (hpl : pl.length <= 100000) :
 Calls Tryz.prog 149 #[.iface T xv, v, .int .i64 x] w (RB w (.int .i64 (FFld.hornF D pl x pl.length : Nat))) := by
 obtain ⟨ap, cp, hvp, hcp, hmp⟩ := hp.form
 subst hvp
 have HPS := Kept.mk hp
 have HPQ := Kept.mk hpq
 have HPr := Kept.mk ho.product
 have HSu := Kept.mk ho.sum
 have hms := ho.ms
 have hcs := ho.cs
 have hmp' := ho.mp
 have hcp' := ho.cp
 obtain ⟨n, hn⟩ : ∃ n, pl.length = n := ⟨_, rfl⟩
 rw [FFld.ints_len, hn] at hcp HPS ⊢
 rw [hn] at hpl
 have HN := Kept.mk hn
 have HXQ := Kept.mk hx
 have HW := Kept.mk hw
 clear hp hpq hn hx ho hw
 go_enter Tryz.func149, Tryz.ntmps149
 go_wp2
 go_loopw [7, 8] (fun rv iv wr => ∃ (i r : Nat), i <= n /\ iv = .int .i64 ((n : Int) - 1 - i) /\ rv = .int .i64 r /\ Kept (FFld.hornF D pl x i = r) /\ Kept (Below w.heap.size w wr)) (fun _ iv _ => (intOf iv + 1).toNat)
 case atStart => exact ⟨0, 0, Nat.zero_le _, by go_num, rfl, ⟨rfl⟩, ⟨Below.refl _ _⟩⟩
 case round =>
  obtain ⟨i, r, hin, rfl, rfl, hr, hbx⟩ := hrel
  by_cases hlt : i < n
  ·obtain ⟨j, hj⟩ : ∃ j, n - 1 - i = j := ⟨_, rfl⟩
   have hj1 : (n : Int) - 1 - i = j := by omega
   rw [hj1]
   obtain ⟨bp, op, rfl, hbp, c0⟩ := (HPS.out.below hbx.out).news_at j (by rw [FFld.ints_len, HN.out]; omega)
   obtain ⟨c, hc⟩ : ∃ c, pl[j]?.getD 0 = c := ⟨_, rfl⟩
   rw [FFld.ints_get, hc] at c0
   have hcq : c < D.p ^ D.k := by rw [<- hc]; exact FFld.getD_lt (Nat.pow_pos hD.pre.pk.p0) HPQ.out j
   have hrq : r < D.p ^ D.k := by rw [<- hr.out]; exact FFld.hornF_lt hD.pre.pk pl x i
   obtain ⟨z, hz⟩ : ∃ z, FFld.pmul D.p D.k D.m r D.k x = z := ⟨_, rfl⟩
   have hzq : z < D.p ^ D.k := by rw [<- hz]; exact FFld.pmul_lt hD.pre.pk _ _ _
   obtain ⟨s, hs⟩ : ∃ s, FFld.padd D.p D.k z c = s := ⟨_, rfl⟩
   have HV : Kept (FFld.hornF D pl x (i + 1) = s) := ⟨by simp only [FFld.hornF]; rw [hr.out, hz, HN.out, hj, hc, hs]⟩
   have hB0 := bstep HW.out hbx.out
   have hM := Kept.mk (fun W (hW : Below wr.heap.size wr W) => HPr.out W (bstep hB0 hW) r x hrq HXQ.out)
   rw [hz] at hM
   have hA := Kept.mk (fun W (hW : Below wr.heap.size wr W) => HSu.out W (bstep hB0 hW) z c hzq hcq)
   rw [hs] at hA
   clear hz hs hzq hcq hrq hc hB0
   have hjn : j < n := by omega
   clear hj
   go_wp2
   go_region_held3 (fun w' => w'.cell? ⟨bp, op + j, none⟩ = some (.int .i64 c))
    (first | exact c0 | exact k0 | exact l0 | go_keep)
    ((first
      | ((with_reducible refine (hM.out _ (by repeat (first | (with_reducible exact Below.refl _ _) | (with_reducible exact HB2.out) | (with_reducible exact HB3.out) | (with_reducible refine Below.drew ?_)))).mono ?_); rintro e w2 ⟨hb2, rfl⟩; have HB2 : Kept (Below wr.heap.size wr w2) := ⟨bstep (by repeat (first | (with_reducible exact Below.refl _ _) | (with_reducible exact HB2.out) | (with_reducible exact HB3.out) | (with_reducible refine Below.drew ?_))) hb2⟩; have k0 := belowCell HB2.out c0; clear hb2)
      | ((with_reducible refine (hA.out _ (by repeat (first | (with_reducible exact Below.refl _ _) | (with_reducible exact HB2.out) | (with_reducible exact HB3.out) | (with_reducible refine Below.drew ?_)))).mono ?_); rintro e w3 ⟨hb3, rfl⟩; have HB3 : Kept (Below wr.heap.size wr w3) := ⟨bstep (by repeat (first | (with_reducible exact Below.refl _ _) | (with_reducible exact HB2.out) | (with_reducible exact HB3.out) | (with_reducible refine Below.drew ?_))) hb3⟩; have l0 := belowCell HB3.out c0; clear hb3)))
   all_goals (have HX9 := Kept.mk (bstep hbx.out HB3.out); go_wp2; go_roundw; (case rel => exact ⟨i + 1, s, by omega, by go_num, rfl, HV, HX9⟩); (case measure => simp [intOf] <;> omega))
  ·obtain rfl : i = n := by omega
   have hj1 : (i : Int) - 1 - i = -1 := by omega
   rw [hj1]
   go_wp2
   go_ret
   exact ⟨hbx.out, by rw [hr.out]; rfl⟩
set_option maxRecDepth 20000 in
theorem fvalue_any {D : FFld.FD} {b : Nat} (v : Value) (pl : List Nat) (y : Int) (x : Nat) (w : World) (hf : FldB D w b) (hp : Sl .i64 w v (ints pl)) (hc : cErr D (ints pl) = 0) (hpq : ∀ a ∈ pl, a < D.p ^ D.k) (hy0 : -9223372036854775808 <= y) (hy1 : y <= 9223372036854775807) (hr : y % D.q = x) (hx : x < D.p ^ D.k) (hpl : pl.length <= 100000) :
 Calls Tryz.prog 161 #[.pointer (some ⟨b, 0, none⟩), v, .int .i64 y] w (RB w (.tuple #[.int .i64 (FFld.hornF D pl x pl.length : Nat), .int .i64 0])) := by
 obtain ⟨h, T, xv, fs, fp, fw, ms, hb, ho, hna⟩ := hf.open2
 obtain ⟨c0, _⟩ := six_cells hb
 have hC := Kept.mk (fcheck_any v (ints pl) w hf hp)
 rw [hc] at hC
 obtain ⟨ap, cp, hvp, hcp, hmp⟩ := hp.form
 subst hvp
 rw [FFld.ints_len] at hcp hp hC ⊢
 have HP := Kept.mk hp
 have HR := Kept.mk (fun W (hW : Below w.heap.size w W) => reduced_any y W (hf.below hW) hy0 hy1)
 rw [hr] at HR
 have HG := Kept.mk (fun W (hW : Below w.heap.size w W) => gvalue_any h (.slice ap pl.length cp) pl x w W ho hna hW (hp.below hW) hpq hx hpl)
 have hbl : b < w.heap.size := hf.lt
 clear hp hpq hx ho hb hc hr
 go_enter Tryz.func161, Tryz.ntmps161
 go_wp2_with fail
 refine hC.out.mono ?_
 rintro e w1 ⟨rfl, rfl⟩
 go_wp2
 go_region_held3 (fun w' => w'.cell? ⟨b, 0, none⟩ = some (.iface T xv))
  (first | exact c0 | exact k0 | exact l0 | go_keep)
  ((first
    | (go_at_call 158; (with_reducible refine (HR.out _ (by repeat (first | (with_reducible exact Below.refl _ _) | (with_reducible exact HB2.out) | (with_reducible exact HB3.out) | (with_reducible refine Below.drew ?_)))).mono ?_); rintro e w2 ⟨rfl, rfl⟩; have k0 := c0)
    | (go_at_call 149; (with_reducible refine (HG.out _ (by repeat (first | (with_reducible exact Below.refl _ _) | (with_reducible exact HB2.out) | (with_reducible exact HB3.out) | (with_reducible refine Below.drew ?_)))).mono ?_); rintro e w3 ⟨hb3, rfl⟩; have HB3 : Kept (Below w.heap.size w w3) := ⟨bstep (by repeat (first | (with_reducible exact Below.refl _ _) | (with_reducible exact HB2.out) | (with_reducible exact HB3.out) | (with_reducible refine Below.drew ?_))) hb3⟩; have l0 := belowCell HB3.out c0; clear hb3)))
 go_wp2
 go_ret2
 exact ⟨HB3.out, rfl⟩
end Go.Proofs.YtdnheaafcbihbaaGreat
namespace Go.Proofs.YtdnheaafcbihbaaGreat
namespace FFld
def outF (D : FD) (ql : List Nat) (inv n : Nat) (pl : List Nat) (t : Nat) : List Nat := (List.range n).map fun i => if n - t <= i then divQ D ql inv n pl (n - 1 - i) else 0
theorem range_get {n i : Nat} (f : Nat -> Nat) (hi : i < n) : ((List.range n).map f)[i]?.getD 0 = f i := by
 rw [List.getElem?_map, List.getElem?_range hi]
 rfl
theorem set_get (l : List Nat) (i j v : Nat) : (l.set i v)[j]?.getD 0 = if i = j /\ j < l.length then v else l[j]?.getD 0 := by
 rw [List.getElem?_set]
 by_cases e : i = j
 ·subst e
  by_cases h : i < l.length
  ·rw [if_pos rfl, if_pos h, if_pos ⟨rfl, h⟩]; rfl
  ·rw [if_pos rfl, if_neg h, if_neg (fun q => h q.2), List.getElem?_eq_none (by omega)]
 ·rw [if_neg e, if_neg (fun q => e q.1)]
theorem rstF_done {D : FD} {ql : List Nat} {inv n : Nat} {pl : List Nat} {l : Nat} (hn : n + ql.length = pl.length + 1) (hq : 1 <= ql.length) (h1 : 1 <= n) (hl : l <= pl.length) (hz : ∀ j, l <= j -> (divF D ql inv n pl n)[j]?.getD 0 = 0) (ht : l = 0 \/ (divF D ql inv n pl n)[l - 1]?.getD 0 ≠ 0) : (divF D ql inv n pl n).take l = rstF D ql inv pl := by
 have e : pl.length + 1 - ql.length = n := by omega
 unfold rstF
 rw [if_neg (by omega), e, trm_is (by rw [divF_len]; exact hl) hz ht]
theorem deRet_eq {D : FD} {ql pl qs rs : List Nat} {inv : Nat} (hq1 : 1 <= ql.length) (h : if pl.length < ql.length then qs = [] /\ rs = pl
 else qs.length = pl.length + 1 - ql.length /\ (∀ t, t < qs.length -> qs[qs.length - 1 - t]?.getD 0 = divQ D ql inv qs.length pl t) /\
  ∃ n, n <= pl.length /\ rs = (divF D ql inv qs.length pl qs.length).take n /\ (∀ i, n <= i -> (divF D ql inv qs.length pl qs.length)[i]?.getD 0 = 0) /\ (n = 0 \/ (divF D ql inv qs.length pl qs.length)[n - 1]?.getD 0 ≠ 0)) : qs = quoF D ql inv pl /\ rs = rstF D ql inv pl := by
 by_cases hlt : pl.length < ql.length
 ·rw [if_pos hlt] at h
  unfold quoF rstF
  rw [if_pos hlt, if_pos hlt]
  exact h
 ·rw [if_neg hlt] at h
  obtain ⟨h1, h2, n, h3, h4, h5, h6⟩ := h
  constructor
  ·unfold quoF
   rw [if_neg hlt, <- h1]
   refine ext_getD (by simp) fun i hi => ?_
   rw [range_get _ hi]
   have := h2 (qs.length - 1 - i) (by omega)
   rw [show qs.length - 1 - (qs.length - 1 - i) = i by omega] at this
   exact this
  ·rw [h4]
   exact rstF_done (by omega) hq1 (by omega) h3 h5 h6
end FFld
end Go.Proofs.YtdnheaafcbihbaaGreat
namespace Go.Proofs.YtdnheaafcbihbaaGreat
open Go Go.RowKit Go.Deep
namespace FFld
def mulF (D : FD) (pl ql : List Nat) : Nat -> List Nat
 | 0 => List.replicate (pl.length + ql.length - 1) 0
 | i + 1 => addm D (mulF D pl ql i) i ql (pl[i]?.getD 0)
def mulL (D : FD) (pl ql : List Nat) : List Nat := if pl.length = 0 \/ ql.length = 0 then [] else mulF D pl ql pl.length
theorem mulF_len (D : FD) (pl ql : List Nat) (i : Nat) : (mulF D pl ql i).length = pl.length + ql.length - 1 := by
 induction i with
 | zero => simp [mulF]
 | succ i ih => simp only [mulF]; rw [addm_len, ih]
theorem mulF_lt {D : FD} (hk : PK D.p D.k D.m) (pl ql : List Nat) (i : Nat) : ∀ a ∈ mulF D pl ql i, a < D.p ^ D.k := by
 induction i with
 | zero =>
   intro a ha
   rw [(List.mem_replicate.1 ha).2]
   exact Nat.pow_pos hk.p0
 | succ i ih => exact addmF_lt hk _ _ _ _ ih
theorem mulL_lt {D : FD} (hk : PK D.p D.k D.m) (pl ql : List Nat) : ∀ a ∈ mulL D pl ql, a < D.p ^ D.k := by
 unfold mulL
 by_cases h : pl.length = 0 \/ ql.length = 0
 ·rw [if_pos h]; intro a ha; cases ha
 ·rw [if_neg h]; exact mulF_lt hk pl ql _
end FFld
open FFld (ints)
set_option maxRecDepth 20000 in
theorem multiply_any {D : FFld.FD} {b : Nat} (hD : D.Ok) (vp vq : Value) (pl ql : List Nat) (w : World) (hf : FldB D w b) (hp : Sl .i64 w vp (ints pl)) (hq : Sl .i64 w vq (ints ql)) (hpq : ∀ a ∈ pl, a < D.p ^ D.k) (hqq : ∀ a ∈ ql, a < D.p ^ D.k) (hpl : pl.length <= 100000) (hqll : ql.length <= 100000) :
 Calls Tryz.prog 153 #[.pointer (some ⟨b, 0, none⟩), vp, vq] w (fun e w' => Below w.heap.size w w' /\ ∃ v, e = .returned v /\ Sl .i64 w' v (ints (FFld.mulL D pl ql))) := by
 obtain ⟨ap, cp, rfl, hcp, hmp⟩ := hp.form
 obtain ⟨aq, cq, rfl, hcq, hmq⟩ := hq.form
 rw [FFld.ints_len] at hcp hcq
 have HPS := Kept.mk hp
 have HQS := Kept.mk hq
 have HF := Kept.mk hf
 have HPQ := Kept.mk hpq
 have HQQ := Kept.mk hqq
 clear hp hq hf hpq hqq
 rw [FFld.ints_len, FFld.ints_len] at *
 by_cases h0 : pl.length = 0 \/ ql.length = 0
 ·have hL : FFld.mulL D pl ql = [] := by unfold FFld.mulL; rw [if_pos h0]
  have HS : Kept (Sl .i64 w (.slice none 0 0) (ints [])) := ⟨(Mine.nil 3 .i64 0 w).sl⟩
  rw [hL]
  by_cases h1 : pl.length = 0
  ·have e1 : ((pl.length : Int) == 0) = true := by rw [h1]; rfl
   go_enter Tryz.func153, Tryz.ntmps153
   go_wp2
   go_ret
   exact ⟨Below.refl _ _, _, rfl, HS.out⟩
  ·have h2 : ql.length = 0 := by omega
   have e1 : ((pl.length : Int) == 0) = false := by rw [beq_eq_false_iff_ne]; omega
   have e2 : ((ql.length : Int) == 0) = true := by rw [h2]; rfl
   go_enter Tryz.func153, Tryz.ntmps153
   go_wp2
   go_ret
   exact ⟨Below.refl _ _, _, rfl, HS.out⟩
 ·have hL : FFld.mulL D pl ql = FFld.mulF D pl ql pl.length := by unfold FFld.mulL; rw [if_neg h0]
  rw [hL]
  have e1 : ((pl.length : Int) == 0) = false := by rw [beq_eq_false_iff_ne]; omega
  have e2 : ((ql.length : Int) == 0) = false := by rw [beq_eq_false_iff_ne]; omega
  obtain ⟨n, hn⟩ : ∃ n, pl.length + ql.length - 1 = n := ⟨_, rfl⟩
  have en : (pl.length : Int) + ql.length - 1 = n := by omega
  have HN : Kept (∀ i, (FFld.mulF D pl ql i).length = n) := ⟨fun i => by rw [FFld.mulF_len, hn]⟩
  have hlen : pl.length + ql.length = n + 1 := by omega
  have hn6 : n <= 200000 := by omega
  have HZ : Kept (FFld.mulF D pl ql 0 = List.replicate n 0) := ⟨by simp only [FFld.mulF]; rw [hn]⟩
  obtain ⟨np, hnp⟩ : ∃ np, pl.length = np := ⟨_, rfl⟩
  obtain ⟨nq, hnq⟩ : ∃ nq, ql.length = nq := ⟨_, rfl⟩
  have HNP := Kept.mk hnp
  have HNQ := Kept.mk hnq
  have HCP := Kept.mk (HPS.out.cells (Nat.le_refl _))
  rw [hnp] at hcp hpl e1 en hlen h0 ⊢
  rw [hnq] at hcq hqll e2 en hlen h0
  rw [hnq]
  clear hL hn hnp hnq
  go_enter Tryz.func153, Tryz.ntmps153
  go_wp2_with (at_make; refine wpList_make_zeros _ rfl _ _ 22 rfl 3 .i64 Tryz.underlying22 info_i64 _ _ n rfl rfl (by omega) (by omega) (by omega) ?_)
  intro w3 hrow hbel
  rw [FFld.ints_rep] at hrow
  have HW3 := Kept.mk hrow.wv
  have HB3 := Kept.mk hbel
  clear hrow hbel
  go_wp2
  go_loopw [27] (fun iv wr => ∃ i : Nat, i <= np /\ iv = .int .i64 i /\ Kept (Wv wr w.heap.size (FFld.mulF D pl ql i)) /\ Kept (Below w.heap.size w wr)) (fun iv _ => np - (intOf iv).toNat)
  case atStart => exact ⟨0, Nat.zero_le _, rfl, ⟨by rw [HZ.out]; exact HW3.out⟩, HB3⟩
  case round =>
   obtain ⟨i, hi, rfl, hwv, hbl⟩ := hrel
   by_cases hlt : i < np
   ·obtain ⟨bp, op, rfl, hcell⟩ := HCP.out _ hbl.out i (by rw [HNP.out]; exact hlt)
    obtain ⟨c, hc⟩ : ∃ c, pl[i]?.getD 0 = c := ⟨_, rfl⟩
    have hcq2 : c < D.p ^ D.k := by rw [<- hc]; exact FFld.getD_lt (Nat.pow_pos hD.pre.pk.p0) HPQ.out i
    rw [hc] at hcell
    obtain ⟨R, hR⟩ : ∃ R, FFld.mulF D pl ql i = R := ⟨_, rfl⟩
    have hRl : R.length = n := by rw [<- hR]; exact HN.out i
    have HRQ : Kept (∀ a ∈ R, a < D.p ^ D.k) := ⟨by rw [<- hR]; exact FFld.mulF_lt hD.pre.pk pl ql i⟩
    have HNX : Kept (FFld.mulF D pl ql (i + 1) = FFld.addm D R i ql c) := ⟨by simp only [FFld.mulF]; rw [hR, hc]⟩
    rw [hR] at hwv
    have hAm := Kept.mk (fun (n' cc : Nat) (hn' : ql.length <= n') => addMultiple_any (s := i) (n := n') (cc := cc) (cap := cq) w wr HF.out hbl.out (Nat.le_refl _) R hwv.out HRQ.out ql (HQS.out.qc hbl.out (Nat.le_refl _)) HQQ.out (by rw [hRl, HNQ.out]; omega) hn' c hcq2 (by rw [HNQ.out]; omega))
    rw [HNQ.out] at hAm
    have hs1 : (i : Int) <= (n : Int) := by omega
    have hs2 : i <= n := by omega
    have hs3 : (0 : Int) <= (i : Int) := by omega
    have hs6 : ((i : Int) < 0) = False := by simp
    clear hc hR hcq2
    go_wp2_with fail
    refine (hAm.out _ _ (by omega)).mono ?_
    rintro e w7 ⟨rfl, hg7, hw7⟩
    have HW7 := Kept.mk hw7
    have HB7 := Kept.mk (belowGrow hg7 hbl.out (Nat.le_refl _))
    clear hg7 hw7 hAm
    go_wp2
    go_roundw
    case rel => exact ⟨i + 1, by omega, by go_num, ⟨by rw [HNX.out]; exact HW7.out⟩, HB7⟩
    case measure => simp [intOf] <;> omega
   ·obtain rfl : i = np := by omega
    have HS := Kept.mk (hwv.out.sl (n := n) (c := n) (HN.out i).symm (Nat.le_refl _) (by unfold maxLen; omega))
    go_wp2
    go_ret
    exact ⟨hbl.out, _, rfl, HS.out⟩
end Go.Proofs.YtdnheaafcbihbaaGreat
namespace Go.Proofs.YtdnheaafcbihbaaGreat
open Go Go.RowKit Go.Deep
open FFld (ints)
def RdRet (D : FFld.FD) (ql : List Nat) (inv : Nat) (pl : List Nat) (w : World) (e : Ending) (w' : World) : Prop := Below w.heap.size w w' /\ ∃ (vq vr : Value), e = .returned (.tuple #[vq, vr]) /\ Sl .i64 w' vq (ints (FFld.quoF D ql inv pl)) /\ Sl .i64 w' vr (ints (FFld.rstF D ql inv pl))
end Go.Proofs.YtdnheaafcbihbaaGreat
namespace Go.Proofs.YtdnheaafcbihbaaGreat
namespace FFld
def invT (D : FD) (h : PK D.p D.k D.m) (l : List Nat) : Nat := ppow h (l[l.length - 1]?.getD 0) (D.q - 2)
theorem div_zeros {D : FD} (hD : D.Ok) {ql pl : List Nat} {n : Nat} (hq : ∀ a ∈ ql, a < D.p ^ D.k) (hp : ∀ a ∈ pl, a < D.p ^ D.k) (hn : n + ql.length = pl.length + 1) (h1 : 1 <= ql.length) (h0 : ql[ql.length - 1]?.getD 0 ≠ 0) :
 ∀ t, t <= n -> ∀ j, n - t + (ql.length - 1) <= j -> (divF D ql (invT D hD.pre.pk ql) n pl t)[j]?.getD 0 = 0
 | 0, _, j, hj => by
   show pl[j]?.getD 0 = 0
   rw [List.getElem?_eq_none (by omega)]
   rfl
 | t + 1, ht, j, hj => div_top hD hq hp hn h1 h0 rfl (t := t) (by omega) (fun j' hj' => div_zeros hD hq hp hn h1 h0 t (by omega) j' (by omega)) j (by omega)
theorem rst_short {D : FD} (hD : D.Ok) {ql pl : List Nat} (hq : ∀ a ∈ ql, a < D.p ^ D.k) (hp : ∀ a ∈ pl, a < D.p ^ D.k) (h1 : 1 <= ql.length) (h0 : ql[ql.length - 1]?.getD 0 ≠ 0) : (rstF D ql (invT D hD.pre.pk ql) pl).length + 1 <= ql.length := by
 unfold rstF
 split
 ·omega
 ·rename_i hlt
  have hz := div_zeros hD hq hp (n := pl.length + 1 - ql.length) (by omega) h1 h0 (pl.length + 1 - ql.length) (Nat.le_refl _)
  rw [trm_len, divF_len]
  generalize divF D ql (invT D hD.pre.pk ql) (pl.length + 1 - ql.length) pl (pl.length + 1 - ql.length) = X at *
  apply Classical.byContradiction
  intro hc
  rcases trmN_top X pl.length with h | h
  ·omega
  ·exact h (hz _ (by omega))
def cmnS (D : FD) (h : PK D.p D.k D.m) (pl ql : List Nat) : Nat -> List Nat × List Nat
 | 0 => (pl, ql)
 | i + 1 => ((cmnS D h pl ql i).2, rstF D (cmnS D h pl ql i).2 (invT D h (cmnS D h pl ql i).2) (cmnS D h pl ql i).1)
structure CmOk (D : FD) (N : Nat) (s : List Nat × List Nat) : Prop where
 p1 : ∀ a ∈ s.1, a < D.p ^ D.k
 p2 : ∀ a ∈ s.2, a < D.p ^ D.k
 t1 : Tz s.1
 t2 : Tz s.2
 l1 : s.1.length <= N
 l2 : s.2.length <= N
theorem Tz.top {l : List Nat} (h : Tz l) (h0 : l.length ≠ 0) : l[l.length - 1]?.getD 0 ≠ 0 := h.resolve_left h0
def monF (D : FD) (h : PK D.p D.k D.m) (l : List Nat) : List Nat := if l.length = 0 then [] else rowMul D l (invT D h l)
def CmnIs (D : FD) (h : PK D.p D.k D.m) (pl ql out : List Nat) : Prop := ∃ i, (∀ j, j < i -> (cmnS D h pl ql j).2.length ≠ 0) /\ (cmnS D h pl ql i).2.length = 0 /\ out = monF D h (cmnS D h pl ql i).1
end FFld
end Go.Proofs.YtdnheaafcbihbaaGreat
