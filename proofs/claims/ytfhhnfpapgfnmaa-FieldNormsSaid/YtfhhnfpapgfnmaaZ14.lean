/-
  Texts of the proof, merged by program: Em Wv Fw.
-/
import Derived.Test.YtfhhnfpapgfnmaaZ13
import Derived.Lib.SliceRun
import Derived.Test.YtfhhnfpapgfnmaaZ12
set_option linter.unusedVariables false
set_option linter.unusedSimpArgs false
namespace Go.Proofs.Ytfhhnfpapgfnmaa
open Go Go.RowKit
open FFld (ints)
theorem bstep {w W w' : World} (h1 : Below w.heap.size w W) (h2 : Below W.heap.size W w') : Below w.heap.size w w' := h1.trans (h2.mono h1.size)
set_option maxRecDepth 20000 in
set_option maxHeartbeats 2000000 in
theorem inverse_any {D : FFld.FD} {b : Nat} (hD : D.Ok) (a : Nat) (w : World) (hf : FldB D w b) (ha : a < D.p ^ D.k) (a0 : a ≠ 0) :
    Calls Try.prog 90 #[.pointer (some ⟨b, 0, none⟩), .int .i64 a] w (RB w (.int .i64 (FFld.ppow hD.pre.pk a (D.q - 2) : Nat))) := by
  obtain ⟨h, T, x, fs, fp, fw, ms, ml, hb, ho, _, _⟩ := hf.open
  obtain ⟨c0, c1, c2, c3, c4, c5⟩ := six_cells hb
  have hp2 := h.pre.prime.1
  have hq6 := h.pre.small
  unfold FFld.FD.q at hq6
  have h1 := h.pre.pk.one_lt
  have hqd : D.q = D.p ^ D.k := rfl
  obtain ⟨n, hn⟩ : ∃ n, D.q - 2 = n := ⟨_, rfl⟩
  have ep : IntKind.i64.wrap ((D.q : Int) - 2) = n := by rw [show (D.q : Int) - 2 = n from by omega]; exact wi (by omega) (by omega)
  have hP := Kept.mk (fun W (hW : Below w.heap.size w W) => ho.power W hW a n ha (.inl a0) (by omega))
  rw [hn]
  have hmp := ho.mw
  have hcp := ho.cw
  clear ho hb hn ha a0 hqd h1
  go_enter Try.func90, Try.ntmps90
  go_wp2
  go_region_held3 (fun w' => w'.cell? ⟨b, 0, none⟩ = some (.iface T x) ∧ w'.cell? ⟨b, 1, none⟩ = some (.int .i64 D.q))
    (first | exact ⟨c0, c1⟩ | exact ⟨k0, k1⟩ | go_keep)
    ((first
      | ((with_reducible refine (hP.out _ (by repeat (first | (with_reducible exact Below.refl _ _) | (with_reducible exact HB2.out) | (with_reducible exact HB3.out) | (with_reducible exact HB4.out) | (with_reducible refine Below.drew ?_)))).mono ?_); rintro e w2 ⟨hb2, rfl⟩; have HB2 : Kept (Below w.heap.size w w2) := ⟨bstep (by repeat (first | (with_reducible exact Below.refl _ _) | (with_reducible exact HB2.out) | (with_reducible exact HB3.out) | (with_reducible exact HB4.out) | (with_reducible refine Below.drew ?_))) hb2⟩; have k0 := belowCell HB2.out c0; have k1 := belowCell HB2.out c1; clear hb2)))
  go_wp2
  go_ret
  exact ⟨HB2.out, rfl⟩
set_option maxRecDepth 20000 in
set_option maxHeartbeats 2000000 in
theorem difference_any {D : FFld.FD} {b : Nat} (a a' : Nat) (w : World) (hf : FldB D w b) (ha : a < D.p ^ D.k) (ha' : a' < D.p ^ D.k) :
    Calls Try.prog 98 #[.pointer (some ⟨b, 0, none⟩), .int .i64 a, .int .i64 a'] w (RB w (.int .i64 (FFld.padd D.p D.k a (FFld.pscl D.p D.k (D.p - 1) a') : Nat))) := by
  obtain ⟨h, T, x, fs, fp, fw, ms, ml, hb, ho, _, _⟩ := hf.open
  obtain ⟨c0, c1, c2, c3, c4, c5⟩ := six_cells hb
  have hp2 := h.pre.prime.1
  have hq6 := h.pre.small
  unfold FFld.FD.q at hq6
  have hP := Kept.mk (fun W (hW : Below w.heap.size w W) => ho.sum W hW a (FFld.pscl D.p D.k (D.p - 1) a') ha (FFld.pscl_lt h.pre.pk _ _))
  have hN := Kept.mk (fun W (hW : Below w.heap.size w W) => negative_any a' W (hf.below hW) ha')
  have hmp := ho.ms
  have hcp := ho.cs
  clear ho hb ha ha' hf
  go_enter Try.func98, Try.ntmps98
  go_wp2
  go_region_held3 (fun w' => w'.cell? ⟨b, 0, none⟩ = some (.iface T x))
    (first | exact c0 | exact k0 | exact l0 | go_keep)
    ((first
      | (go_at_call 91; (with_reducible refine (hN.out _ (by repeat (first | (with_reducible exact Below.refl _ _) | (with_reducible exact HB2.out) | (with_reducible exact HB3.out) | (with_reducible exact HB4.out) | (with_reducible refine Below.drew ?_)))).mono ?_); rintro e w2 ⟨hb2, rfl⟩; have HB2 : Kept (Below w.heap.size w w2) := ⟨bstep (by repeat (first | (with_reducible exact Below.refl _ _) | (with_reducible exact HB2.out) | (with_reducible exact HB3.out) | (with_reducible exact HB4.out) | (with_reducible refine Below.drew ?_))) hb2⟩; have k0 := belowCell HB2.out c0; clear hb2)
      | ((with_reducible refine (hP.out _ (by repeat (first | (with_reducible exact Below.refl _ _) | (with_reducible exact HB2.out) | (with_reducible exact HB3.out) | (with_reducible exact HB4.out) | (with_reducible refine Below.drew ?_)))).mono ?_); rintro e w3 ⟨hb3, rfl⟩; have HB3 : Kept (Below w.heap.size w w3) := ⟨bstep (by repeat (first | (with_reducible exact Below.refl _ _) | (with_reducible exact HB2.out) | (with_reducible exact HB3.out) | (with_reducible exact HB4.out) | (with_reducible refine Below.drew ?_))) hb3⟩; have l0 := belowCell HB3.out c0; clear hb3)))
  go_wp2
  go_ret
  exact ⟨HB3.out, rfl⟩
set_option maxRecDepth 20000 in
set_option maxHeartbeats 2000000 in
theorem reduced_any {D : FFld.FD} {b : Nat} (a : Int) (w : World) (hf : FldB D w b) (h0 : -9223372036854775808 ≤ a) (h1 : a ≤ 9223372036854775807) :
    Calls Try.prog 89 #[.pointer (some ⟨b, 0, none⟩), .int .i64 a] w (fun e w' => w = w' ∧ e = .returned (.int .i64 (a % D.q))) := by
  obtain ⟨h, T, x, fs, fp, fw, ms, ml, hb, ho, _, _⟩ := hf.open
  obtain ⟨c0, c1, c2, c3, c4, c5⟩ := six_cells hb
  have hp2 := h.pre.prime.1
  have hq6 := h.pre.small
  unfold FFld.FD.q at hq6
  have h12 := h.pre.pk.one_lt
  have hqd : D.q = D.p ^ D.k := rfl
  have hq2 : 2 ≤ D.q := by omega
  have hq7 : D.q ≤ 65536 := hq6
  obtain ⟨q, hq⟩ : ∃ q, D.q = q := ⟨_, rfl⟩
  rw [hq] at c1 hq2 hq7 ⊢
  have e := Int.mul_tdiv_add_tmod a q
  have e1 := Int.tmod_lt_of_pos a (show (0 : Int) < q by omega)
  have e2 : -(q : Int) < a.tmod q := by
    have := Int.tmod_lt_of_pos (-a) (show (0 : Int) < q by omega)
    rw [Int.neg_tmod] at this
    omega
  obtain ⟨r, hr⟩ : ∃ r, a.tmod q = r := ⟨_, rfl⟩
  have hres : a % q = if r < 0 then r + q else r := by
    rw [← hr]
    split
    · rw [← Int.add_emod_right, show a.tmod q + q = (a.tmod q + q) from rfl]
      conv => lhs; rw [← e, Int.add_comm ((q : Int) * a.tdiv q), Int.add_right_comm, Int.add_mul_emod_self_left]
      exact Int.emod_eq_of_lt (by omega) (by omega)
    · conv => lhs; rw [← e, Int.add_comm, Int.add_mul_emod_self_left]
      exact Int.emod_eq_of_lt (by omega) (by omega)
  have HR := Kept.mk hres
  rw [hr] at e1 e2
  clear ho hb hres e h12 hqd hq hf hq6 hp2
  by_cases hneg : r < 0
  · have HV : Kept (a % q = r + q) := ⟨by rw [HR.out, if_pos hneg]⟩
    go_enter Try.func89, Try.ntmps89
    go_wp2
    go_ret
    exact ⟨rfl, by rw [HV.out]; rfl⟩
  · have HV : Kept (a % q = r) := ⟨by rw [HR.out, if_neg hneg]⟩
    go_enter Try.func89, Try.ntmps89
    go_wp2
    go_ret
    exact ⟨rfl, by rw [HV.out]; rfl⟩
end Go.Proofs.Ytfhhnfpapgfnmaa

set_option linter.unusedVariables false
set_option linter.unusedSimpArgs false
namespace Go.Proofs.Ytfhhnfpapgfnmaa
open Go Go.RowKit
open FFld (ints)
/-- Block g holds the numbers l from its beginning on, and may be written. -/
def Wv (w : World) (g : Nat) (l : List Nat) : Prop := ∃ cur, w.heap[g]? = some (.cells cur 3 (0, 0)) ∧ l.length ≤ cur.size ∧ ∀ i, i < l.length → cur[i]? = some (.int .i64 ((l[i]?.getD 0 : Nat) : Int))
theorem Wv.cell {w : World} {g i : Nat} {l : List Nat} (h : Wv w g l) (hi : i < l.length) : w.cell? ⟨g, i, none⟩ = some (.int .i64 ((l[i]?.getD 0 : Nat) : Int)) := by
  obtain ⟨cur, h1, h2, h3⟩ := h
  rw [cell_of_row w g i cur _ (0, 0) h1]
  exact h3 i hi
theorem Wv.free {w : World} {g : Nat} {l : List Nat} (h : Wv w g l) (i : Nat) : w.frozen? ⟨g, i, none⟩ = false := by
  obtain ⟨cur, h1, h2, h3⟩ := h
  exact frozen_of_row w g i cur _ h1
theorem Wv.set {w : World} {g i : Nat} {l : List Nat} (h : Wv w g l) (v : Nat) : Wv (w.setCell ⟨g, i, none⟩ (.int .i64 v)) g (l.set i v) := by
  obtain ⟨cur, h1, h2, h3⟩ := h
  refine ⟨cur.setIfInBounds i (.int .i64 v), heap_setCell_same w g i cur _ _ h1, by simpa using h2, fun j hj => ?_⟩
  rw [List.length_set] at hj
  rw [Array.getElem?_setIfInBounds]
  by_cases e : i = j
  · subst e
    rw [if_pos rfl, if_pos (by omega), List.getElem?_set_self hj]
    rfl
  · rw [if_neg e, List.getElem?_set_ne e]
    exact h3 j hj
theorem Wv.lt {w : World} {g : Nat} {l : List Nat} (h : Wv w g l) : g < w.heap.size := by
  obtain ⟨cur, h1, _⟩ := h
  exact (Array.getElem?_eq_some_iff.1 h1).1
theorem Wv.below {w w' : World} {g : Nat} {l : List Nat} (h : Wv w g l) (hb : Below w.heap.size w w') : Wv w' g l := by
  have hl := h.lt
  obtain ⟨cur, h1, h2, h3⟩ := h
  exact ⟨cur, (hb.block _ hl).trans h1, h2, h3⟩
theorem Wv.other {w w' : World} {g g' : Nat} {l : List Nat} (h : Wv w g l) (hg : w.grownBy w' (some g')) (hne : g ≠ g') : Wv w' g l := by
  have hl := h.lt
  obtain ⟨cur, h1, h2, h3⟩ := h
  exact ⟨cur, (hg.block _ hl (by simpa using hne)).trans h1, h2, h3⟩
theorem Wv.take {w : World} {g : Nat} {l : List Nat} (h : Wv w g l) (n : Nat) : Wv w g (l.take n) := by
  obtain ⟨cur, h1, h2, h3⟩ := h
  refine ⟨cur, h1, by rw [List.length_take]; omega, fun i hi => ?_⟩
  rw [List.length_take] at hi
  rw [List.getElem?_take, if_pos (by omega)]
  exact h3 i (by omega)
theorem Mine.wv {B : Nat} {w : World} {g n c : Nat} {l : List Nat} (h : Mine 3 .i64 B w (.slice (some ⟨g, 0, none⟩) n c) (ints l)) : Wv w g l := by
  rcases h with ⟨e, hx⟩ | ⟨g', cap, cur, e, hB, hg, hn, hc, hm, ht⟩
  · cases e
  · simp only [Value.slice.injEq, Option.some.injEq, Addr.mk.injEq, and_true] at e
    obtain ⟨rfl, _, rfl⟩ := e
    refine ⟨cur, hg, by rw [FFld.ints_len] at hn; omega, fun i hi => ?_⟩
    have h1 : (cur.toList.take (ints l).length)[i]? = cur[i]? := by rw [List.getElem?_take, if_pos (by rw [FFld.ints_len]; exact hi)]; simp
    rw [← h1, ht, List.getElem?_map]
    have := FFld.ints_get l i
    rw [List.getElem?_eq_getElem (by rw [FFld.ints_len]; exact hi)] at this ⊢
    simp only [Option.getD_some] at this
    simp [this, hi]
theorem Row.wv {w : World} {g : Nat} {l : List Nat} (h : Row 3 .i64 w g (ints l)) : Wv w g l := by
  refine ⟨_, h, by simp [ints], fun i hi => ?_⟩
  have := h.cell (i := i) (by rw [FFld.ints_len]; exact hi)
  rw [cell_of_row w g i _ _ (0, 0) h, FFld.ints_get] at this
  exact this
/-- The slice over a written block. -/
theorem Wv.sl {w : World} {g n c : Nat} {l : List Nat} (h : Wv w g l) (hn : n = l.length) (hc : n ≤ c) (hm : c ≤ maxLen) : Sl .i64 w (.slice (some ⟨g, 0, none⟩) n c) (ints l) := by
  subst hn
  refine ⟨_, c, by rw [FFld.ints_len], by rw [FFld.ints_len]; exact hc, hm, fun i hi => ⟨g, 0, rfl, h.lt, ?_⟩⟩
  rw [FFld.ints_len] at hi
  rw [Nat.zero_add, h.cell hi, FFld.ints_get]
theorem Sl.news {K : IntKind} {w : World} {ad : Addr} {n cap : Nat} {xs : List Int} (h : Sl K w (.slice (some ad) n cap) xs) : ∀ j u, (xs.map (Value.int K))[j]? = some u → w.cell? (ad.add j) = some u := by
  obtain ⟨ao, c, e, hc, hm, hx⟩ := h
  intro j u hj
  have hjl : j < xs.length := by
    apply Classical.byContradiction
    intro hc'
    simp [hc'] at hj
  obtain ⟨b, o, e2, hb, hcell⟩ := hx j hjl
  simp only [Value.slice.injEq] at e
  obtain ⟨rfl, _, _⟩ := e
  simp only [Option.some.injEq] at e2
  subst e2
  have : (⟨b, o, none⟩ : Addr).add j = ⟨b, o + j, none⟩ := by simp [Addr.add]
  rw [this, hcell]
  simp [hjl] at hj ⊢
  exact hj
set_option maxHeartbeats 400000 in
theorem clone_any {v : Value} {xs : List Int} {w : World} (h : Sl .i64 w v xs) (hmx : xs.length ≤ 17000000000000) :
    Calls Try.prog 86 #[v] w (fun e w' => Below w.heap.size w w' ∧ ∃ v', e = .returned v' ∧ Mine 3 .i64 w.heap.size w' v' xs) := by
  have h' := h
  obtain ⟨ao, cap, rfl, hcap, hmax, hc⟩ := h
  have hnil := fun wx : World => Lib.run_eql_slice_nil (P := Try.prog) wx 34 3 ao xs.length cap 0 0 Try.underlying34
  rcases ao with _ | ad
  · have hx : xs = [] := by
      cases xs with
      | nil => rfl
      | cons x xs => obtain ⟨b, o, e, _⟩ := hc 0 (by simp); cases e
    subst hx
    simp only [Option.isNone_none, List.length_nil] at hnil ⊢
    clear hc hmax h' hmx hcap
    go_enter Try.func86, Try.ntmps86
    go_wp2
    go_ret
    exact ⟨Below.refl _ _, _, rfl, Mine.nil _ _ _ _⟩
  · simp only [Option.isNone_some] at hnil
    obtain ⟨i0, hi, hz0, hz1, hz2⟩ := info_parts info_i64
    have hown := World.ownsRow_lit (base := w.heap.size) (e := 3) (size := 1) w #[] 0 (Nat.le_refl _) (Nat.zero_le _) (by rfl)
    have hb : Below w.heap.size w (w.alloc (.cells #[] 3)) := (Below.refl _ _).alloc (Nat.le_refl _) _
    have hn := (h'.below hb).news
    have HO := Lib.hid hown
    have HN := Lib.hid hn
    have hone : ∀ u ∈ xs.map (Value.int .i64), u.oneCell' = true := by
      intro u hu
      obtain ⟨a, _, rfl⟩ := List.mem_map.1 hu
      rfl
    have hlen : (xs.map (Value.int .i64)).length = xs.length * 1 := by simp
    have hm1 : 0 + xs.length ≤ maxLen := by unfold maxLen; omega
    have hm2 : (0 + xs.length) * 8 ≤ 140737488355328 := by omega
    have hb0 : w.heap.size ≤ (w.alloc (.cells #[] 3)).heap.size := by simp
    have HB0 := Lib.hid hb0
    have HONE := Lib.hid hone
    have HLEN := Lib.hid hlen
    have HM1 := Lib.hid hm1
    have HM2 := Lib.hid hm2
    clear hn hown hc hmax h' hone hlen hm1 hm2 hb0
    go_enter Try.func86, Try.ntmps86
    go_wp2_with (at_builtin; refine wpList_append_own _ rfl _ _ 34 rfl w.heap.size 3 i0 (.int .i64 0) 1 8 Try.underlying34 hi hz0 hz1 hz2 rfl (by decide) _ _ _ rfl HO.out ad xs.length cap (xs.map (Value.int .i64)) rfl HLEN.out HN.out HONE.out HM1.out HM2.out HB0.out ?_)
    intro v' w1 hown1 hgrow hiff
    have HO1 := Lib.hid hown1
    have hb2 := hb.grown hgrow (by simp) (fun k hk => (HO.out.lt k hk).1)
    clear hiff hown1 hgrow hb HO HN hi hz0 hz1 hz2 hnil
    go_wp2
    go_ret
    exact ⟨hb2, _, rfl, Mine.of_owns (n := 0 + xs.length) (by simpa using HO1.out)⟩
/-- The list without the zeros at its end. -/
theorem trimmed_any (l : List Nat) (ao : Option Addr) (cap : Nat) (w : World) (h : Sl .i64 w (.slice ao l.length cap) (ints l)) :
    Calls Try.prog 100 #[.slice ao l.length cap] w (fun e w' => w = w' ∧ ∃ n, n ≤ l.length ∧ e = .returned (.slice ao n n) ∧ (∀ i, n ≤ i → l[i]?.getD 0 = 0) ∧ (n = 0 ∨ l[n - 1]?.getD 0 ≠ 0)) := by
  obtain ⟨ao', cap', e, hcap, hmax, hc⟩ := h
  simp only [Value.slice.injEq] at e
  obtain ⟨rfl, e2, rfl⟩ := e
  clear e2
  rw [FFld.ints_len] at hcap hc
  unfold maxLen at hmax
  have HC := Kept.mk hc
  clear hc
  go_enter Try.func100, Try.ntmps100
  go_wp2
  go_loop [3] (fun n => ∃ k : Nat, k ≤ l.length ∧ n = .int .i64 k ∧ Hid (∀ i, k ≤ i → l[i]?.getD 0 = 0)) (fun n => (intOf n).toNat)
  case atStart => exact ⟨l.length, Nat.le_refl _, rfl, fun i hi => by simp [hi]⟩
  case round =>
    obtain ⟨k, hk, rfl, hz⟩ := hrel
    by_cases h0 : 0 < k
    · obtain ⟨b, o, rfl, hb, hcell⟩ := HC.out (k - 1) (by omega)
      obtain ⟨k, rfl⟩ : ∃ j, k = j + 1 := ⟨k - 1, by omega⟩
      rw [FFld.ints_get] at hcell
      simp only [Nat.add_sub_cancel] at hcell
      obtain ⟨x, hx⟩ : ∃ x, l[k]?.getD 0 = x := ⟨_, rfl⟩
      rw [hx] at hcell
      by_cases hx0 : x = 0
      · subst hx0
        have HX := Lib.hid hx
        have e0 : (((0 : Nat) : Int) == 0) = true := rfl
        clear hx
        go_wp2
        go_round
        case rel => exact ⟨k, by omega, by go_num, fun i hi => by
          by_cases e : i = k
          · rw [e]; exact HX.out
          · exact hz.out i (by omega)⟩
        case measure => simp [intOf] <;> omega
      · have e0 : ((x : Int) == 0) = false := by rw [beq_eq_false_iff_ne]; omega
        have HX := Lib.hid (show l[k]?.getD 0 ≠ 0 by rw [hx]; exact hx0)
        clear hx hx0
        go_wp2
        go_ret
        exact ⟨rfl, k + 1, hk, rfl, hz.out, .inr (by simpa using HX.out)⟩
    · obtain rfl : k = 0 := by omega
      go_wp2
      go_ret
      exact ⟨rfl, 0, hk, rfl, hz.out, .inl rfl⟩
end Go.Proofs.Ytfhhnfpapgfnmaa

set_option linter.unusedVariables false
set_option linter.unusedSectionVars false
set_option linter.unusedSimpArgs false
namespace Go.Proofs.Ytfhhnfpapgfnmaa
namespace FFld
/-- To the elements of xs from the place s on the first j of q are added, each times c. -/
def addmF (D : FD) (xs : List Nat) (s : Nat) (q : List Nat) (c : Nat) : Nat → List Nat
  | 0 => xs
  | j + 1 => (addmF D xs s q c j).set (s + j) (padd D.p D.k ((addmF D xs s q c j)[s + j]?.getD 0) (pmul D.p D.k D.m (q[j]?.getD 0) D.k c))
def addm (D : FD) (xs : List Nat) (s : Nat) (q : List Nat) (c : Nat) : List Nat := addmF D xs s q c q.length
theorem addmF_len (D : FD) (xs : List Nat) (s : Nat) (q : List Nat) (c j : Nat) : (addmF D xs s q c j).length = xs.length := by
  induction j with
  | zero => rfl
  | succ j ih => simp only [addmF, List.length_set, ih]
theorem addm_len (D : FD) (xs : List Nat) (s : Nat) (q : List Nat) (c : Nat) : (addm D xs s q c).length = xs.length := addmF_len D xs s q c _
theorem addmF_lt {D : FD} (hk : PK D.p D.k D.m) {xs : List Nat} (s : Nat) (q : List Nat) (c j : Nat) (hx : ∀ a ∈ xs, a < D.p ^ D.k) : ∀ a ∈ addmF D xs s q c j, a < D.p ^ D.k := by
  induction j with
  | zero => exact hx
  | succ j ih => exact mem_set ih (padd_lt hk _ _)
theorem addmF_old (D : FD) (xs : List Nat) (s : Nat) (q : List Nat) (c j i : Nat) (h : i < s ∨ s + j ≤ i) : (addmF D xs s q c j)[i]?.getD 0 = xs[i]?.getD 0 := by
  induction j with
  | zero => rfl
  | succ j ih =>
    simp only [addmF]
    rw [List.getElem?_set_ne (by omega)]
    exact ih (by omega)
theorem addmF_zero {D : FD} (hk : PK D.p D.k D.m) {xs : List Nat} (s : Nat) (q : List Nat) (j : Nat) (hx : ∀ a ∈ xs, a < D.p ^ D.k) (hs : s + j ≤ xs.length) : addmF D xs s q 0 j = xs := by
  induction j with
  | zero => rfl
  | succ j ih =>
    simp only [addmF]
    rw [ih (by omega), pmul_zero_right hk, padd_zero hk _ (getD_lt (Nat.pow_pos hk.p0) hx _)]
    apply List.ext_getElem?
    intro i
    by_cases e : s + j = i
    · subst e
      rw [List.getElem?_set_self (by omega), List.getElem?_eq_getElem (by omega)]
      rfl
    · rw [List.getElem?_set_ne e]
/-- The rest behind t steps of a division whose quotient has n places; dv is what the top coefficient is multiplied by. -/
def divF (D : FD) (q : List Nat) (inv n : Nat) (p : List Nat) : Nat → List Nat
  | 0 => p
  | t + 1 => addm D (divF D q inv n p t) (n - 1 - t) q (pscl D.p D.k (D.p - 1) (pmul D.p D.k D.m ((divF D q inv n p t)[n - 1 - t + (q.length - 1)]?.getD 0) D.k inv))
/-- The place n - 1 - t of the quotient. -/
def divQ (D : FD) (q : List Nat) (inv n : Nat) (p : List Nat) (t : Nat) : Nat := pmul D.p D.k D.m ((divF D q inv n p t)[n - 1 - t + (q.length - 1)]?.getD 0) D.k inv
theorem divF_len (D : FD) (q : List Nat) (inv n : Nat) (p : List Nat) (t : Nat) : (divF D q inv n p t).length = p.length := by
  induction t with
  | zero => rfl
  | succ t ih => simp only [divF]; rw [addm_len, ih]
theorem divF_lt {D : FD} (hk : PK D.p D.k D.m) (q : List Nat) (inv n : Nat) {p : List Nat} (t : Nat) (hp : ∀ a ∈ p, a < D.p ^ D.k) : ∀ a ∈ divF D q inv n p t, a < D.p ^ D.k := by
  induction t with
  | zero => exact hp
  | succ t ih => exact addmF_lt hk _ _ _ _ ih
end FFld
end Go.Proofs.Ytfhhnfpapgfnmaa
