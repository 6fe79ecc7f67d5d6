/-
  Texts of the proof, merged by program: Plp Plq Trm.
-/
import Derived.Test.YtfhhnfpapgfnmaaZ16
import Derived.Test.YtfhhnfpapgfnmaaZRea
import Derived.Test.YtfhhnfpapgfnmaaZSvb
import Derived.Test.YtfhhnfpapgfnmaaZ19
import Derived.Test.YtfhhnfpapgfnmaaZChk
import Derived.Test.YtfhhnfpapgfnmaaZLca
set_option linter.unusedVariables false
set_option linter.unusedSimpArgs false
namespace Go.Proofs.Ytfhhnfpapgfnmaa
namespace FFld
/-- How long a list is without the zeros at its end, of its first n elements. -/
def trmN (l : List Nat) : Nat → Nat
  | 0 => 0
  | n + 1 => if l[n]?.getD 0 = 0 then trmN l n else n + 1
def trm (l : List Nat) : List Nat := l.take (trmN l l.length)
theorem trmN_le (l : List Nat) : ∀ n, trmN l n ≤ n
  | 0 => Nat.le_refl _
  | n + 1 => by
    simp only [trmN]
    split
    · have := trmN_le l n
      omega
    · omega
theorem trmN_is {l : List Nat} {n : Nat} (hz : ∀ i, n ≤ i → l[i]?.getD 0 = 0) (ht : n = 0 ∨ l[n - 1]?.getD 0 ≠ 0) : ∀ d, trmN l (n + d) = n
  | 0 => by
    rcases ht with rfl | ht
    · rfl
    · cases n with
      | zero => rfl
      | succ m =>
        simp only [Nat.add_zero, trmN]
        rw [if_neg (by simpa using ht)]
  | d + 1 => by
    rw [← Nat.add_assoc]
    simp only [trmN]
    rw [if_pos (hz _ (by omega))]
    exact trmN_is hz ht d
theorem trm_is {l : List Nat} {n : Nat} (hn : n ≤ l.length) (hz : ∀ i, n ≤ i → l[i]?.getD 0 = 0) (ht : n = 0 ∨ l[n - 1]?.getD 0 ≠ 0) : trm l = l.take n := by
  unfold trm
  obtain ⟨d, hd⟩ : ∃ d, l.length = n + d := ⟨l.length - n, by omega⟩
  rw [hd, trmN_is hz ht d]
theorem trmN_top (l : List Nat) : ∀ n, trmN l n = 0 ∨ l[trmN l n - 1]?.getD 0 ≠ 0
  | 0 => .inl rfl
  | n + 1 => by
    simp only [trmN]
    split
    · exact trmN_top l n
    · rename_i h
      exact .inr (by simpa using h)
theorem trmN_zero (l : List Nat) : ∀ n i, trmN l n ≤ i → i < n → l[i]?.getD 0 = 0
  | 0, i, _, h => by omega
  | n + 1, i, h1, h2 => by
    simp only [trmN] at h1
    split at h1
    · rename_i e
      by_cases e2 : i = n
      · rw [e2]; exact e
      · exact trmN_zero l n i h1 (by omega)
    · omega
/-- A polynomial: no zero at its end. -/
def Tz (l : List Nat) : Prop := l.length = 0 ∨ l[l.length - 1]?.getD 0 ≠ 0
theorem trm_len (l : List Nat) : (trm l).length = trmN l l.length := by
  unfold trm
  rw [List.length_take]
  have := trmN_le l l.length
  omega
theorem trm_tz (l : List Nat) : Tz (trm l) := by
  unfold Tz
  rw [trm_len]
  rcases trmN_top l l.length with h | h
  · exact .inl h
  · by_cases h0 : trmN l l.length = 0
    · exact .inl h0
    · right
      unfold trm
      rw [take_getD (by omega)]
      exact h
theorem trm_self {l : List Nat} (h : Tz l) : trm l = l := by
  rw [trm_is (n := l.length) (Nat.le_refl _) (fun i hi => by rw [List.getElem?_eq_none hi]; rfl) h, List.take_of_length_le (Nat.le_refl _)]
theorem trm_lt {q : Nat} {l : List Nat} (h : ∀ a ∈ l, a < q) : ∀ a ∈ trm l, a < q := fun a ha => h a (List.mem_of_mem_take ha)
/-- The quotient and the rest. -/
def quoF (D : FD) (ql : List Nat) (inv : Nat) (pl : List Nat) : List Nat := if pl.length < ql.length then [] else (List.range (pl.length + 1 - ql.length)).map fun i => divQ D ql inv (pl.length + 1 - ql.length) pl (pl.length + 1 - ql.length - 1 - i)
def rstF (D : FD) (ql : List Nat) (inv : Nat) (pl : List Nat) : List Nat := if pl.length < ql.length then pl else trm (divF D ql inv (pl.length + 1 - ql.length) pl (pl.length + 1 - ql.length))
theorem quoF_len (D : FD) (ql : List Nat) (inv : Nat) (pl : List Nat) : (quoF D ql inv pl).length ≤ pl.length + 1 - ql.length := by
  unfold quoF
  split
  · exact Nat.zero_le _
  · simp
theorem rstF_lt {D : FD} (hk : PK D.p D.k D.m) (ql : List Nat) (inv : Nat) {pl : List Nat} (hp : ∀ a ∈ pl, a < D.p ^ D.k) : ∀ a ∈ rstF D ql inv pl, a < D.p ^ D.k := by
  unfold rstF
  split
  · exact hp
  · exact trm_lt (divF_lt hk _ _ _ _ hp)
theorem rstF_tz (D : FD) (ql : List Nat) (inv : Nat) {pl : List Nat} (hp : Tz pl) : Tz (rstF D ql inv pl) := by
  unfold rstF
  split
  · exact hp
  · exact trm_tz _
theorem addm_at (D : FD) (xs : List Nat) (s : Nat) (q : List Nat) (c : Nat) {i : Nat} (hi : i < q.length) (hl : s + q.length ≤ xs.length) : (addm D xs s q c)[s + i]?.getD 0 = padd D.p D.k (xs[s + i]?.getD 0) (pmul D.p D.k D.m (q[i]?.getD 0) D.k c) := by
  unfold addm
  exact addmF_at (D := D) xs s q c q.length i hi hl
section
variable {D : FD} (hD : D.Ok) {ql pl : List Nat} {inv n : Nat}
include hD
/-- A step at whose top stands 0 does nothing. -/
theorem div_skip (hq : ∀ a ∈ ql, a < D.p ^ D.k) (hp : ∀ a ∈ pl, a < D.p ^ D.k) (hi : inv < D.p ^ D.k) (hn : n + ql.length = pl.length + 1) (h1 : 1 ≤ ql.length) {t l : Nat} (hz : ∀ j, l ≤ j → (divF D ql inv n pl t)[j]?.getD 0 = 0) :
    ∀ d, t + d ≤ n → (∀ s, t ≤ s → s < t + d → l ≤ n - 1 - s + (ql.length - 1)) → divF D ql inv n pl (t + d) = divF D ql inv n pl t ∧ ∀ s, t ≤ s → s < t + d → divQ D ql inv n pl s = 0
  | 0, _, _ => ⟨rfl, fun s h1 h2 => by omega⟩
  | d + 1, hd, hs => by
    have hk := hD.pre.pk
    obtain ⟨e1, e2⟩ := div_skip hq hp hi hn h1 hz d (by omega) fun s q1 q2 => hs s q1 (by omega)
    have hzz : pmul D.p D.k D.m 0 D.k inv = 0 := by rw [pmul_comm hk _ _ (Nat.pow_pos hk.p0) hi, pmul_zero_right hk]
    have q0 : divQ D ql inv n pl (t + d) = 0 := by
      unfold divQ
      rw [e1, hz _ (hs (t + d) (by omega) (by omega)), hzz]
    refine ⟨?_, fun s q1 q2 => ?_⟩
    · show addm D (divF D ql inv n pl (t + d)) (n - 1 - (t + d)) ql (pscl D.p D.k (D.p - 1) (divQ D ql inv n pl (t + d))) = _
      rw [q0, pscl_nil hk, e1]
      exact addmF_zero hk _ _ _ (divF_lt hk _ _ _ _ hp) (by rw [divF_len]; omega)
    · by_cases e : s = t + d
      · rw [e]; exact q0
      · exact e2 s q1 (by omega)
/-- A step takes the top away. -/
theorem div_top (hq : ∀ a ∈ ql, a < D.p ^ D.k) (hp : ∀ a ∈ pl, a < D.p ^ D.k) (hn : n + ql.length = pl.length + 1) (h1 : 1 ≤ ql.length) (h0 : ql[ql.length - 1]?.getD 0 ≠ 0) (hi : inv = ppow hD.pre.pk (ql[ql.length - 1]?.getD 0) (D.q - 2)) {t : Nat} (ht : t < n)
    (hz : ∀ j, n - 1 - t + ql.length ≤ j → (divF D ql inv n pl t)[j]?.getD 0 = 0) : ∀ j, n - 1 - t + (ql.length - 1) ≤ j → (divF D ql inv n pl (t + 1))[j]?.getD 0 = 0 := fun j hj => by
  have hk := hD.pre.pk
  have hx := divF_lt hk ql inv n t hp
  have hl := divF_len D ql inv n pl t
  have hiq : inv < D.p ^ D.k := by rw [hi]; exact ppow_lt hk _ _
  show (addm D (divF D ql inv n pl t) (n - 1 - t) ql (pscl D.p D.k (D.p - 1) (divQ D ql inv n pl t)))[j]?.getD 0 = 0
  by_cases e : j = n - 1 - t + (ql.length - 1)
  · subst e
    rw [addm_at D _ _ _ _ (by omega) (by omega)]
    have htop : (divF D ql inv n pl t)[n - 1 - t + (ql.length - 1)]?.getD 0 < D.p ^ D.k := getD_lt (Nat.pow_pos hk.p0) hx _
    have hqt : ql[ql.length - 1]?.getD 0 < D.p ^ D.k := getD_lt (Nat.pow_pos hk.p0) hq _
    unfold divQ
    generalize (divF D ql inv n pl t)[n - 1 - t + (ql.length - 1)]?.getD 0 = x at *
    generalize ql[ql.length - 1]?.getD 0 = y at *
    have e1 : pmul D.p D.k D.m y D.k (pscl D.p D.k (D.p - 1) (pmul D.p D.k D.m x D.k inv)) = pscl D.p D.k (D.p - 1) (pmul D.p D.k D.m (pmul D.p D.k D.m x D.k y) D.k inv) := by
      have := take_off hk (t := pmul D.p D.k D.m x D.k inv) (y := y) (pmul_lt hk _ _ _) hqt
      unfold negF at this
      rw [← this, mul_swap hk htop hqt hiq]
    rw [e1, hi, hD.div_mul htop hqt h0]
    exact padd_neg hk x
  · have := addmF_old D (divF D ql inv n pl t) (n - 1 - t) ql (pscl D.p D.k (D.p - 1) (divQ D ql inv n pl t)) ql.length j (.inr (by omega))
    unfold addm
    rw [this]
    exact hz j (by omega)
end
end FFld
end Go.Proofs.Ytfhhnfpapgfnmaa

set_option linter.unusedVariables false
set_option linter.unusedSimpArgs false
namespace Go.Proofs.Ytfhhnfpapgfnmaa
namespace FFld
/-- The quotient, as far as the first t steps tell. -/
def outF (D : FD) (ql : List Nat) (inv n : Nat) (pl : List Nat) (t : Nat) : List Nat := (List.range n).map fun i => if n - t ≤ i then divQ D ql inv n pl (n - 1 - i) else 0
theorem outF_len (D : FD) (ql : List Nat) (inv n : Nat) (pl : List Nat) (t : Nat) : (outF D ql inv n pl t).length = n := by simp [outF]
theorem range_get {n i : Nat} (f : Nat → Nat) (hi : i < n) : ((List.range n).map f)[i]?.getD 0 = f i := by
  rw [List.getElem?_map, List.getElem?_range hi]
  rfl
theorem outF_get (D : FD) (ql : List Nat) (inv : Nat) {n i : Nat} (pl : List Nat) (t : Nat) (hi : i < n) : (outF D ql inv n pl t)[i]?.getD 0 = if n - t ≤ i then divQ D ql inv n pl (n - 1 - i) else 0 := range_get _ hi
theorem outF_zero (D : FD) (ql : List Nat) (inv n : Nat) (pl : List Nat) : outF D ql inv n pl 0 = List.replicate n 0 := by
  refine ext_getD (by rw [outF_len, List.length_replicate]) fun i hi => ?_
  rw [outF_len] at hi
  rw [outF_get _ _ _ _ _ hi, if_neg (by omega), List.getElem?_replicate_of_lt hi]
  rfl
theorem set_get (l : List Nat) (i j v : Nat) : (l.set i v)[j]?.getD 0 = if i = j ∧ j < l.length then v else l[j]?.getD 0 := by
  rw [List.getElem?_set]
  by_cases e : i = j
  · subst e
    by_cases h : i < l.length
    · rw [if_pos rfl, if_pos h, if_pos ⟨rfl, h⟩]; rfl
    · rw [if_pos rfl, if_neg h, if_neg (fun q => h q.2), List.getElem?_eq_none (by omega)]
  · rw [if_neg e, if_neg (fun q => e q.1)]
theorem outF_next {D : FD} {ql : List Nat} {inv n : Nat} {pl : List Nat} {t s a : Nat} (hts : t ≤ s) (hs : s < n) (ha : n - 1 - s = a) (hz : ∀ u, t ≤ u → u < s → divQ D ql inv n pl u = 0) : (outF D ql inv n pl t).set a (divQ D ql inv n pl s) = outF D ql inv n pl (s + 1) := by
  refine ext_getD (by rw [List.length_set, outF_len, outF_len]) fun i hi => ?_
  rw [List.length_set, outF_len] at hi
  rw [set_get, outF_len, outF_get _ _ _ _ _ hi, outF_get _ _ _ _ _ hi]
  by_cases e : a = i
  · subst e
    rw [if_pos ⟨rfl, hi⟩, if_pos (by omega), show n - 1 - a = s by omega]
  · rw [if_neg (fun q => e q.1)]
    by_cases h1 : n - (s + 1) ≤ i
    · rw [if_pos h1]
      by_cases h2 : n - t ≤ i
      · rw [if_pos h2]
      · rw [if_neg h2]
        exact (hz _ (by omega) (by omega)).symm
    · rw [if_neg h1, if_neg (by omega)]
theorem outF_done {D : FD} {ql : List Nat} {inv n : Nat} {pl : List Nat} {t : Nat} (hn : n + ql.length = pl.length + 1) (hq : 1 ≤ ql.length) (h1 : 1 ≤ n) (hz : ∀ u, t ≤ u → u < n → divQ D ql inv n pl u = 0) : outF D ql inv n pl t = quoF D ql inv pl := by
  have e : pl.length + 1 - ql.length = n := by omega
  unfold quoF
  rw [if_neg (by omega), e]
  refine ext_getD (by rw [outF_len]; simp) fun i hi => ?_
  rw [outF_len] at hi
  rw [outF_get _ _ _ _ _ hi, range_get _ hi]
  split
  · rfl
  · exact (hz _ (by omega) (by omega)).symm
theorem rstF_done {D : FD} {ql : List Nat} {inv n : Nat} {pl : List Nat} {l : Nat} (hn : n + ql.length = pl.length + 1) (hq : 1 ≤ ql.length) (h1 : 1 ≤ n) (hl : l ≤ pl.length) (hz : ∀ j, l ≤ j → (divF D ql inv n pl n)[j]?.getD 0 = 0) (ht : l = 0 ∨ (divF D ql inv n pl n)[l - 1]?.getD 0 ≠ 0) : (divF D ql inv n pl n).take l = rstF D ql inv pl := by
  have e : pl.length + 1 - ql.length = n := by omega
  unfold rstF
  rw [if_neg (by omega), e, trm_is (by rw [divF_len]; exact hl) hz ht]
/-- The trimmed beginning of a list whose last element is 0. -/
theorem trm_pre {X : List Nat} {l : Nat} (h1 : 1 ≤ l) (hl : l ≤ X.length) (hz : ∀ j, l - 1 ≤ j → X[j]?.getD 0 = 0) : (trm (X.take l)).length + 1 ≤ l ∧ (∀ j, (trm (X.take l)).length ≤ j → X[j]?.getD 0 = 0) ∧ ((trm (X.take l)).length = 0 ∨ X[(trm (X.take l)).length - 1]?.getD 0 ≠ 0) := by
  have el : (X.take l).length = l := by rw [List.length_take]; omega
  rw [trm_len, el]
  have ht := trmN_top (X.take l) l
  have hle := trmN_le (X.take l) l
  have hzz := trmN_zero (X.take l) l
  generalize trmN (X.take l) l = r at *
  have ht2 : r = 0 ∨ X[r - 1]?.getD 0 ≠ 0 := by
    rcases ht with h | h
    · exact .inl h
    · by_cases h0 : r = 0
      · exact .inl h0
      · rw [take_getD (by omega)] at h
        exact .inr h
  refine ⟨?_, fun j hj => ?_, ht2⟩
  · rcases ht2 with h | h
    · omega
    · apply Classical.byContradiction
      intro hc
      exact h (hz _ (by omega))
  · by_cases hjl : j < l
    · have := hzz j hj hjl
      rw [take_getD hjl] at this
      exact this
    · exact hz j (by omega)
/-- What divide returns, as two lists. -/
theorem deRet_eq {D : FD} {ql pl qs rs : List Nat} {inv : Nat} (hq1 : 1 ≤ ql.length) (h : if pl.length < ql.length then qs = [] ∧ rs = pl
  else qs.length = pl.length + 1 - ql.length ∧ (∀ t, t < qs.length → qs[qs.length - 1 - t]?.getD 0 = divQ D ql inv qs.length pl t) ∧
    ∃ n, n ≤ pl.length ∧ rs = (divF D ql inv qs.length pl qs.length).take n ∧ (∀ i, n ≤ i → (divF D ql inv qs.length pl qs.length)[i]?.getD 0 = 0) ∧ (n = 0 ∨ (divF D ql inv qs.length pl qs.length)[n - 1]?.getD 0 ≠ 0)) : qs = quoF D ql inv pl ∧ rs = rstF D ql inv pl := by
  by_cases hlt : pl.length < ql.length
  · rw [if_pos hlt] at h
    unfold quoF rstF
    rw [if_pos hlt, if_pos hlt]
    exact h
  · rw [if_neg hlt] at h
    obtain ⟨h1, h2, n, h3, h4, h5, h6⟩ := h
    constructor
    · unfold quoF
      rw [if_neg hlt, ← h1]
      refine ext_getD (by simp) fun i hi => ?_
      rw [range_get _ hi]
      have := h2 (qs.length - 1 - i) (by omega)
      rw [show qs.length - 1 - (qs.length - 1 - i) = i by omega] at this
      exact this
    · rw [h4]
      exact rstF_done (by omega) hq1 (by omega) h3 h5 h6
end FFld
end Go.Proofs.Ytfhhnfpapgfnmaa

set_option linter.unusedVariables false
set_option linter.unusedSimpArgs false
namespace Go.Proofs.Ytfhhnfpapgfnmaa
open Go Go.RowKit Go.Deep
open FFld (ints)
theorem ints_take (l : List Nat) (n : Nat) : ints (l.take n) = (ints l).take n := by
  unfold FFld.ints
  rw [List.map_take]
theorem Sl.pre {K : IntKind} {w : World} {ao : Option Addr} {n cap : Nat} {xs : List Int} (h : Sl K w (.slice ao n cap) xs) {k : Nat} (hk : k ≤ xs.length) : Sl K w (.slice ao k cap) (xs.take k) := by
  obtain ⟨ao', cap', e, hc, hm, hx⟩ := h
  simp only [Value.slice.injEq] at e
  obtain ⟨rfl, e2, rfl⟩ := e
  have hl : (xs.take k).length = k := by rw [List.length_take]; omega
  refine ⟨ao, cap, by rw [hl], by omega, hm, fun i hi => ?_⟩
  rw [hl] at hi
  obtain ⟨b, o, e3, h1, h2⟩ := hx i (by omega)
  refine ⟨b, o, e3, h1, ?_⟩
  rw [List.getElem?_take_of_lt hi]
  exact h2
/-- The reference's Trim: the list without the zeros at its end. -/
theorem rtrim_any (l : List Nat) (ao : Option Addr) (cap : Nat) (w : World) (h : Sl .i64 w (.slice ao l.length cap) (ints l)) (hl6 : l.length ≤ 1000000) :
    Calls Try.prog 117 #[.slice ao l.length cap] w (fun e w' => w = w' ∧ e = .returned (.slice ao (FFld.trm l).length cap)) := by
  obtain ⟨ao', cap', e, hcap, hmax, hc⟩ := h
  simp only [Value.slice.injEq] at e
  obtain ⟨rfl, e2, rfl⟩ := e
  clear e2
  rw [FFld.ints_len] at hcap hc
  unfold maxLen at hmax
  have HC := Kept.mk hc
  clear hc
  have HE : Kept (∀ n, n ≤ l.length → (∀ i, n ≤ i → l[i]?.getD 0 = 0) → (n = 0 ∨ l[n - 1]?.getD 0 ≠ 0) → (FFld.trm l).length = n) := ⟨fun n h1 h2 h3 => by rw [FFld.trm_is h1 h2 h3, List.length_take]; omega⟩
  obtain ⟨r, hr⟩ : ∃ r, (FFld.trm l).length = r := ⟨_, rfl⟩
  rw [hr] at HE ⊢
  clear hr
  go_enter Try.func117, Try.ntmps117
  go_wp2
  go_loop [0] (fun v => ∃ k : Nat, k ≤ l.length ∧ v = .slice ao k cap ∧ Hid (∀ i, k ≤ i → l[i]?.getD 0 = 0)) (fun v => sliceLen v)
  case atStart => exact ⟨l.length, Nat.le_refl _, rfl, fun i hi => by simp [hi]⟩
  case round =>
    obtain ⟨k, hk, rfl, hz⟩ := hrel
    by_cases h0 : 0 < k
    · obtain ⟨b, o, rfl, hb, hcell⟩ := HC.out (k - 1) (by omega)
      obtain ⟨k, rfl⟩ : ∃ j, k = j + 1 := ⟨k - 1, by omega⟩
      rw [FFld.ints_get] at hcell
      simp only [Nat.add_sub_cancel] at hcell
      obtain ⟨x, hx⟩ : ∃ x, l[k]?.getD 0 = x := ⟨_, rfl⟩
      rw [hx] at hcell
      by_cases hx0 : x = 0
      · subst hx0
        have HX := Lib.hid hx
        have e0 : (((0 : Nat) : Int) == 0) = true := rfl
        clear hx
        go_wp2
        go_round
        case rel => exact ⟨k, by omega, by go_num, fun i hi => by
          by_cases e : i = k
          · rw [e]; exact HX.out
          · exact hz.out i (by omega)⟩
        case measure => simp [sliceLen] <;> omega
      · have e0 : ((x : Int) == 0) = false := by rw [beq_eq_false_iff_ne]; omega
        have HX := Lib.hid (show l[k]?.getD 0 ≠ 0 by rw [hx]; exact hx0)
        clear hx hx0
        go_wp2
        go_ret
        refine ⟨rfl, ?_⟩
        rw [HE.out (k + 1) hk hz.out (.inr (by simpa using HX.out))]
        rfl
    · obtain rfl : k = 0 := by omega
      go_wp2
      go_ret
      refine ⟨rfl, ?_⟩
      rw [HE.out 0 hk hz.out (.inl rfl)]
      rfl
theorem trm_sl {w : World} {ao : Option Addr} {cap : Nat} {l : List Nat} (h : Sl .i64 w (.slice ao l.length cap) (ints l)) : Sl .i64 w (.slice ao (FFld.trm l).length cap) (ints (FFld.trm l)) := by
  rw [FFld.trm_len]
  have e : ints (FFld.trm l) = (ints l).take (FFld.trmN l l.length) := ints_take _ _
  rw [e]
  exact h.pre (by rw [FFld.ints_len]; exact FFld.trmN_le _ _)
/-- A polynomial made of any numbers. -/
def polF (D : FFld.FD) (xs : List Int) (most : Nat) : List Nat := FFld.trm ((xs.take most).map (redN D))
theorem polF_lt {D : FFld.FD} (hD : D.Ok) (xs : List Int) (most : Nat) : ∀ a ∈ polF D xs most, a < D.p ^ D.k := FFld.trm_lt fun a ha => by
  obtain ⟨x, _, rfl⟩ := List.mem_map.1 ha
  exact redN_lt (Nat.le_of_lt hD.pre.pk.one_lt) x
theorem polF_len (D : FFld.FD) (xs : List Int) (most : Nat) : (polF D xs most).length ≤ most := by
  unfold polF
  rw [FFld.trm_len]
  have := FFld.trmN_le ((xs.take most).map (redN D)) ((xs.take most).map (redN D)).length
  rw [List.length_map, List.length_take] at this
  rw [List.length_map, List.length_take]
  omega
theorem polF_tz (D : FFld.FD) (xs : List Int) (most : Nat) : FFld.Tz (polF D xs most) := FFld.trm_tz _
set_option maxRecDepth 20000 in
set_option maxHeartbeats 4000000 in
theorem poly_any {D : FFld.FD} (hD : D.Ok) (v : Value) (xs : List Int) (most : Nat) (w : World) (h : Sl .i64 w v xs) (hb : ∀ x ∈ xs, -9223372036854775808 ≤ x ∧ x ≤ 9223372036854775807) (hm : most ≤ 1000) :
    Calls Try.prog 64 #[rfv D.q D.p D.k D.m, v, .int .i64 most] w (fun e w' => Below w.heap.size w w' ∧ ∃ v, e = .returned v ∧ Sl .i64 w' v (ints (polF D xs most))) := by
  obtain ⟨a0, c0, hv0, hc0, hm0⟩ := h.form
  subst hv0
  have HX0 : Kept (Bxs w [rbox D.q D.p D.k D.m] (w.alloc (rbox D.q D.p D.k D.m))) := ⟨(Bxs.start w).alloc (by simp) _⟩
  have HL := Kept.mk (fun W (hW : Sl .i64 W (.slice a0 xs.length c0) xs) => list_any hD _ xs most W hW hb hm)
  have HS := Kept.mk (h.below HX0.out.1)
  obtain ⟨l, hl⟩ : ∃ l, (xs.take most).map (redN D) = l := ⟨_, rfl⟩
  have hp : polF D xs most = FFld.trm l := by unfold polF; rw [hl]
  rw [hl] at HL
  rw [hp]
  have HLL : Kept (l.length ≤ 1000000) := ⟨by rw [← hl, List.length_map, List.length_take]; omega⟩
  clear h hl hp hb
  go_enter Try.func64, Try.ntmps64
  obtain ⟨i0, i1, i2, i3⟩ := four_cells HX0.out.b0
  go_wp2_with fail
  refine (HL.out _ HS.out).mono ?_
  rintro e w1 ⟨hb1, v1, rfl, hm1⟩
  have HB1 := Kept.mk (HX0.out.below hb1)
  have hs1 := hm1.sl
  obtain ⟨a1, c1, rfl, hc1, hx1⟩ := hs1.form
  rw [FFld.ints_len] at hs1 hc1 ⊢
  have HS1 := Kept.mk hs1
  clear hb1 hm1 hs1 HL HS i0 i1 i2 i3
  go_wp2_with fail
  refine (rtrim_any l a1 c1 w1 HS1.out HLL.out).mono ?_
  rintro e w2 ⟨rfl, rfl⟩
  go_wp2
  go_ret
  exact ⟨HB1.out.1, _, rfl, trm_sl HS1.out⟩
end Go.Proofs.Ytfhhnfpapgfnmaa
