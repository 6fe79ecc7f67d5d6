/-
  Texts of the proof, merged by program: Cj Un Tr Frb.
-/
import Derived.Test.YtfhhnfpapgfnmaaZ18
import Derived.Test.YtfhhnfpapgfnmaaZ9
import Derived.Test.YtfhhnfpapgfnmaaZ11
set_option linter.unusedVariables false
set_option linter.unusedSimpArgs false
namespace Go.Proofs.Ytfhhnfpapgfnmaa
open Go Go.RowKit
open FFld (ints)
/-- The i-th conjugate. -/
def cjg {p k m : Nat} (h : FFld.PK p k m) (a : Nat) : Nat → Nat
  | 0 => a
  | i + 1 => FFld.ppow h (cjg h a i) p
theorem cjg_lt {p k m : Nat} (h : FFld.PK p k m) (a : Nat) (ha : a < p ^ k) (i : Nat) : cjg h a i < p ^ k := by
  cases i with
  | zero => exact ha
  | succ i => exact FFld.ppow_lt _ _ _
/-- What conjugates returns. -/
def CjRet (D : FFld.FD) (h : FFld.PK D.p D.k D.m) (a : Nat) (w : World) (e : Ending) (w' : World) : Prop := Below w.heap.size w w' ∧ ∃ (v : Value) (xs : List Nat), e = .returned v ∧ Sl .i64 w' v (ints xs) ∧ xs.length = D.k ∧ ∀ j, j < D.k → xs[j]?.getD 0 = cjg h a j
set_option maxRecDepth 20000 in
set_option maxHeartbeats 4000000 in
theorem conjugates_any {D : FFld.FD} {b : Nat} (hD : D.Ok) (a : Nat) (w : World) (hf : FldB D w b) (ha : a < D.p ^ D.k) :
    Calls Try.prog 110 #[.pointer (some ⟨b, 0, none⟩), .int .i64 a] w (CjRet D hD.pre.pk a w) := by
  obtain ⟨h, T, x, fs, fp, fw, ms, ml, hb, ho, _, _⟩ := hf.open
  obtain ⟨c0, _, c2, c3, _, _⟩ := six_cells hb
  have hbl' : b < w.heap.size := hf.lt
  have hp2 := hD.pre.prime.1
  have hpq := p_le_q hD
  have hq6 := hD.pre.small
  unfold FFld.FD.q at hq6
  have hk40 : D.k ≤ 40 := FFld.len_of_pow (Nat.pow_le_pow_left hp2 _) (show D.p ^ D.k ≤ 1099511627776 by omega)
  obtain ⟨k, hk⟩ : ∃ k, D.k = k := ⟨_, rfl⟩
  have hp7 : D.p ≤ 70000 := by omega
  have HP := Kept.mk (fun W (hW : Below w.heap.size w W) (c : Nat) (hc : c < D.p ^ D.k) => ho.power W hW c D.p hc (.inr (by omega)) hp7)
  have hmw := ho.mw
  have hcw := ho.cw
  have HL := Kept.mk (fun i => cjg_lt hD.pre.pk a ha i)
  rw [hk] at c3 hk40
  have HK := Kept.mk hk
  clear ho hb hf hpq hq6 ha hk
  go_enter Try.func110, Try.ntmps110
  go_wp2_with (at_make; refine wpList_make_zeros _ rfl _ _ 34 rfl 3 .i64 Try.underlying34 info_i64 _ _ k rfl rfl (by omega) (by omega) (by omega) ?_)
  intro w3 hrow hbel
  rw [FFld.ints_rep] at hrow
  have HQ3 := Kept.mk hrow.wv
  have HB3 := Kept.mk hbel
  clear hrow hbel
  go_wp2
  go_loopw [14, 1] (fun iv av wr => ∃ (i c : Nat) (xs : List Nat), i ≤ k ∧ iv = .int .i64 i ∧ av = .int .i64 c ∧ Kept (cjg hD.pre.pk a i = c) ∧ xs.length = k ∧ Kept (Wv wr w.heap.size xs) ∧ Kept (∀ j, j < i → xs[j]?.getD 0 = cjg hD.pre.pk a j) ∧ Kept (Below w.heap.size w wr)) (fun iv _ _ => k - (intOf iv).toNat)
  case atStart => exact ⟨0, a, List.replicate k 0, Nat.zero_le _, rfl, rfl, ⟨rfl⟩, by simp, HQ3, ⟨fun j h => by omega⟩, HB3⟩
  case round =>
    obtain ⟨i, c, xs, hik, rfl, rfl, hcj, hxs, hwv, hat, hbl⟩ := hrel
    by_cases hlt : i < k
    · obtain ⟨v, hv⟩ : ∃ v, FFld.ppow hD.pre.pk c D.p = v := ⟨_, rfl⟩
      have hc : c < D.p ^ D.k := by rw [← hcj.out]; exact HL.out i
      have HCN : Kept (cjg hD.pre.pk a (i + 1) = v) := ⟨by show FFld.ppow hD.pre.pk (cjg hD.pre.pk a i) D.p = v; rw [hcj.out, hv]⟩
      have hP := Kept.mk (fun W (hW : Below w.heap.size w W) => HP.out W hW c hc)
      rw [hv] at hP
      have hw5 := hwv.out.set (i := i) c
      have hb5 : Below w.heap.size w (wr.setCell ⟨w.heap.size, i, none⟩ (.int .i64 c)) := hbl.out.setCell (p := ⟨w.heap.size, i, none⟩) (Nat.le_refl _) _
      have f1 := (hb5.cell (p := ⟨b, 0, none⟩) hbl').trans c0
      have f2 := (hb5.cell (p := ⟨b, 2, none⟩) hbl').trans c2
      have fr := hwv.out.free i
      have fc := hwv.out.cell (i := i) (by omega)
      have hgl := hwv.out.lt
      have HW5 := Kept.mk hw5
      have HB5 := Kept.mk hb5
      have HXN : Kept (∀ j, j < i + 1 → (xs.set i c)[j]?.getD 0 = cjg hD.pre.pk a j) := ⟨fun j hj => by
        by_cases e : j = i
        · subst e
          rw [List.getElem?_set_self (by omega), Option.getD_some, hcj.out]
        · rw [List.getElem?_set_ne (by omega)]
          exact hat.out j (by omega)⟩
      have hxl : (xs.set i c).length = k := by rw [List.length_set]; exact hxs
      clear hw5 hb5 hv hc
      go_wp2
      obtain ⟨W5, hW5⟩ : ∃ W, wr.setCell ⟨w.heap.size, i, none⟩ (.int .i64 c) = W := ⟨_, rfl⟩
      rw [hW5] at HW5 HB5 f1 f2 ⊢
      clear fr fc hW5
      go_region_held3 (fun w' => w'.cell? ⟨b, 0, none⟩ = some (.iface T x) ∧ w'.cell? ⟨b, 2, none⟩ = some (.int .i64 D.p))
        (first | exact ⟨f1, f2⟩ | exact ⟨k0, k2⟩ | go_keep)
        ((first
          | ((with_reducible refine (hP.out _ ?_).mono ?_); (exact (by first | exact HB5.out | exact HB5.out.drew)); rintro e w6 ⟨hb6, rfl⟩; have HB6 := Kept.mk (bstep (show Below w.heap.size w _ from (by first | exact HB5.out | exact HB5.out.drew)) hb6); have HR6 := Kept.mk (show Below W5.heap.size W5 w6 from (by first | exact hb6 | exact (Below.refl _ _).drew.trans hb6)); have k0 := belowCell HB6.out c0; have k2 := belowCell HB6.out c2; clear hb6)))
      go_wp2
      go_roundw
      case rel => exact ⟨i + 1, v, xs.set i c, by omega, by go_num, rfl, HCN, hxl, ⟨HW5.out.below HR6.out⟩, HXN, HB6⟩
      case measure => simp [intOf] <;> omega
    · obtain rfl : i = k := by omega
      have HS := Kept.mk (hwv.out.sl (n := i) (c := i) hxs.symm (Nat.le_refl _) (by unfold maxLen; omega))
      go_wp2
      go_ret
      exact ⟨hbl.out, _, xs, rfl, HS.out, by rw [HK.out]; exact hxs, fun j hj => hat.out j (by rw [HK.out] at hj; exact hj)⟩
end Go.Proofs.Ytfhhnfpapgfnmaa

set_option linter.unusedVariables false
set_option linter.unusedSectionVars false
set_option linter.unusedSimpArgs false
namespace Go.Proofs.Ytfhhnfpapgfnmaa
namespace FFld
theorem FD.gen_le {p k m g g' : Nat} (h : FD.Ok ⟨p, k, m, g⟩) (h' : FD.Ok ⟨p, k, m, g'⟩) : g' ≤ g := by
  rcases Nat.lt_or_ge g g' with hlt | hge
  · exact absurd h.ord (h'.least g h.gq h.g1 hlt)
  · exact hge
/-- There is one field of an order. -/
theorem FD.uniq {D D' : FD} (h : D.Ok) (h' : D'.Ok) (e : D.q = D'.q) : D = D' := by
  obtain ⟨p, k, m, g⟩ := D
  obtain ⟨p', k', m', g'⟩ := D'
  have e1 : p ^ k = p' ^ k' := e
  have hk := h.pre.k1
  have hp2 := h.pre.prime.1
  simp only at hk hp2
  have ep : p = p' := prime_pow_eq h.pre.prime h'.pre.prime (K := k') (by rw [← e1]; exact ⟨p ^ (k - 1), by rw [← Nat.pow_succ']; congr 1; omega⟩)
  subst ep
  have ek : k = k' := Nat.le_antisymm ((Nat.pow_le_pow_iff_right hp2).1 (Nat.le_of_eq e1)) ((Nat.pow_le_pow_iff_right hp2).1 (Nat.le_of_eq e1.symm))
  subst ek
  have em : m = m' := by
    by_cases h1 : k = 1
    · exact (h.pre.mod1 h1).trans (h'.pre.mod1 h1).symm
    · have a := h.pre.mod2 (show 2 ≤ k by omega)
      have a' := h'.pre.mod2 (show 2 ≤ k by omega)
      rcases Nat.lt_or_ge m m' with hl | hl
      · exact absurd a.2.2.1 (a'.2.2.2 m a.1 hl)
      · rcases Nat.lt_or_ge m' m with hl' | hl'
        · exact absurd a'.2.2.1 (a.2.2.2 m' a'.1 hl')
        · exact Nat.le_antisymm hl' hl
  subst em
  have eg : g = g' := Nat.le_antisymm (FD.gen_le h' h) (FD.gen_le h h')
  subst eg
  rfl
end FFld
end Go.Proofs.Ytfhhnfpapgfnmaa

set_option linter.unusedVariables false
set_option linter.unusedSimpArgs false
namespace Go.Proofs.Ytfhhnfpapgfnmaa
open Go Go.RowKit
open FFld (ints)
/-- What is made of the first i conjugates. -/
def cjf {p k m : Nat} (h : FFld.PK p k m) (a : Nat) (f : Nat → Nat → Nat) (z : Nat) : Nat → Nat
  | 0 => z
  | i + 1 => f (cjf h a f z i) (cjg h a i)
set_option maxRecDepth 20000 in
set_option maxHeartbeats 4000000 in
theorem trace_any {D : FFld.FD} {b : Nat} (hD : D.Ok) (y : Int) (w : World) (hf : FldB D w b) (hx0 : -9223372036854775808 ≤ y) (hx1 : y ≤ 9223372036854775807) (r : Nat) (hr : y % D.q = r) (hr1 : r < D.p ^ D.k) :
    Calls Try.prog 44 #[.pointer (some ⟨b, 0, none⟩), .int .i64 y] w (RB w (.int .i64 (cjf hD.pre.pk r (fun t c => FFld.padd D.p D.k t c) 0 D.k : Nat))) := by
  obtain ⟨h, T, x, fs, fp, fw, ms, ml, hb, ho, _, _⟩ := hf.open
  obtain ⟨c0, _⟩ := six_cells hb
  have hbl' : b < w.heap.size := hf.lt
  have hA := Kept.mk (reduced_any y w hf hx0 hx1)
  rw [hr] at hA
  have hC := Kept.mk (conjugates_any hD r w hf hr1)
  have HP := Kept.mk ho.sum
  have hms := ho.ms
  have hcs := ho.cs
  have hk40 : D.k ≤ 40 := FFld.len_of_pow (Nat.pow_le_pow_left hD.pre.prime.1 _) (show D.p ^ D.k ≤ 1099511627776 by have := hD.pre.small; unfold FFld.FD.q at this; omega)
  obtain ⟨k, hk⟩ : ∃ k, D.k = k := ⟨_, rfl⟩
  have HZ : Kept (∀ i, cjf hD.pre.pk r (fun t c => FFld.padd D.p D.k t c) 0 i < D.p ^ D.k) := ⟨fun i => by
    cases i with
    | zero => exact Nat.pow_pos hD.pre.pk.p0
    | succ i => exact FFld.padd_lt hD.pre.pk _ _⟩
  have HL := Kept.mk (fun i => cjg_lt hD.pre.pk r hr1 i)
  rw [hk] at hk40
  have HK := Kept.mk hk
  clear ho hb hf hx0 hx1 hr hr1 hk
  go_enter Try.func44, Try.ntmps44
  go_wp2_with fail
  refine hA.out.mono ?_
  rintro e w1 ⟨rfl, rfl⟩
  go_wp2_with fail
  refine hC.out.mono ?_
  rintro e w1 ⟨hb1, v, xs, rfl, hsl, hxl, hxs⟩
  obtain ⟨a1, c1, rfl, hc1, hm1⟩ := hsl.form
  replace hxl := hxl.trans HK.out
  replace hxs : ∀ j, j < k → xs[j]?.getD 0 = cjg hD.pre.pk r j := fun j hj => hxs j (by rw [HK.out]; exact hj)
  rw [FFld.ints_len, hxl] at hc1 hsl ⊢
  have HC1 := Kept.mk (hsl.cells (Nat.le_refl _))
  have HX := Kept.mk hxs
  have HB1 := Kept.mk hb1
  have hs1 := hb1.size
  clear hsl hb1 hxs hA hC
  go_wp2
  go_loopw [16, 5] (fun iv tv wr => ∃ (i t : Nat), i ≤ k ∧ iv = .int .i64 i ∧ tv = .int .i64 t ∧ Kept (cjf hD.pre.pk r (fun t c => FFld.padd D.p D.k t c) 0 i = t) ∧ Kept (Below w1.heap.size w1 wr)) (fun iv _ _ => k - (intOf iv).toNat)
  case atStart => exact ⟨0, 0, Nat.zero_le _, rfl, rfl, ⟨rfl⟩, ⟨Below.refl _ _⟩⟩
  case round =>
    obtain ⟨i, t, hik, rfl, rfl, ht, hbx⟩ := hrel
    by_cases hlt : i < k
    · obtain ⟨bb, o, rfl, hcell⟩ := HC1.out _ hbx.out i (by omega)
      obtain ⟨c, hc⟩ : ∃ c, cjg hD.pre.pk r i = c := ⟨_, rfl⟩
      have hxc := HX.out i hlt
      rw [hxc, hc] at hcell
      have hcl : c < D.p ^ D.k := by rw [← hc]; exact HL.out i
      have htl : t < D.p ^ D.k := by rw [← ht.out]; exact HZ.out i
      have hbw : Below w.heap.size w wr := HB1.out.trans (hbx.out.mono HB1.out.size)
      have f0 := (hbw.cell (p := ⟨b, 0, none⟩) hbl').trans c0
      have hP := Kept.mk (HP.out wr hbw t c htl hcl)
      have HN : Kept (cjf hD.pre.pk r (fun t c => FFld.padd D.p D.k t c) 0 (i + 1) = (fun t c => FFld.padd D.p D.k t c) t c) := ⟨by show (fun t c => FFld.padd D.p D.k t c) (cjf hD.pre.pk r (fun t c => FFld.padd D.p D.k t c) 0 i) (cjg hD.pre.pk r i) = _; rw [ht.out, hc]⟩
      clear hxc hc hcl htl hbw
      go_wp2_with fail
      refine hP.out.mono ?_
      rintro e w3 ⟨hb3, rfl⟩
      have HX3 := Kept.mk (hbx.out.trans (hb3.mono hbx.out.size))
      clear hb3
      go_wp2
      go_roundw
      case rel => exact ⟨i + 1, _, by omega, by go_num, rfl, HN, HX3⟩
      case measure => simp [intOf] <;> omega
    · obtain rfl : i = k := by omega
      go_wp2
      go_ret
      exact ⟨HB1.out.trans (hbx.out.mono HB1.out.size), congrArg (fun n : Nat => Ending.returned (.int .i64 (n : Int))) (ht.out.symm.trans (congrArg _ HK.out.symm))⟩
set_option maxRecDepth 20000 in
set_option maxHeartbeats 4000000 in
theorem norm_any {D : FFld.FD} {b : Nat} (hD : D.Ok) (y : Int) (w : World) (hf : FldB D w b) (hx0 : -9223372036854775808 ≤ y) (hx1 : y ≤ 9223372036854775807) (r : Nat) (hr : y % D.q = r) (hr1 : r < D.p ^ D.k) :
    Calls Try.prog 45 #[.pointer (some ⟨b, 0, none⟩), .int .i64 y] w (RB w (.int .i64 (cjf hD.pre.pk r (fun t c => FFld.pmul D.p D.k D.m t D.k c) 1 D.k : Nat))) := by
  obtain ⟨h, T, x, fs, fp, fw, ms, ml, hb, ho, _, _⟩ := hf.open
  obtain ⟨c0, _⟩ := six_cells hb
  have hbl' : b < w.heap.size := hf.lt
  have hA := Kept.mk (reduced_any y w hf hx0 hx1)
  rw [hr] at hA
  have hC := Kept.mk (conjugates_any hD r w hf hr1)
  have HP := Kept.mk ho.product
  have hms := ho.mp
  have hcs := ho.cp
  have hk40 : D.k ≤ 40 := FFld.len_of_pow (Nat.pow_le_pow_left hD.pre.prime.1 _) (show D.p ^ D.k ≤ 1099511627776 by have := hD.pre.small; unfold FFld.FD.q at this; omega)
  obtain ⟨k, hk⟩ : ∃ k, D.k = k := ⟨_, rfl⟩
  have HZ : Kept (∀ i, cjf hD.pre.pk r (fun t c => FFld.pmul D.p D.k D.m t D.k c) 1 i < D.p ^ D.k) := ⟨fun i => by
    cases i with
    | zero => exact hD.pre.pk.one_lt
    | succ i => exact FFld.pmul_lt hD.pre.pk _ _ _⟩
  have HL := Kept.mk (fun i => cjg_lt hD.pre.pk r hr1 i)
  rw [hk] at hk40
  have HK := Kept.mk hk
  clear ho hb hf hx0 hx1 hr hr1 hk
  go_enter Try.func45, Try.ntmps45
  go_wp2_with fail
  refine hA.out.mono ?_
  rintro e w1 ⟨rfl, rfl⟩
  go_wp2_with fail
  refine hC.out.mono ?_
  rintro e w1 ⟨hb1, v, xs, rfl, hsl, hxl, hxs⟩
  obtain ⟨a1, c1, rfl, hc1, hm1⟩ := hsl.form
  replace hxl := hxl.trans HK.out
  replace hxs : ∀ j, j < k → xs[j]?.getD 0 = cjg hD.pre.pk r j := fun j hj => hxs j (by rw [HK.out]; exact hj)
  rw [FFld.ints_len, hxl] at hc1 hsl ⊢
  have HC1 := Kept.mk (hsl.cells (Nat.le_refl _))
  have HX := Kept.mk hxs
  have HB1 := Kept.mk hb1
  have hs1 := hb1.size
  clear hsl hb1 hxs hA hC
  go_wp2
  go_loopw [16, 5] (fun iv tv wr => ∃ (i t : Nat), i ≤ k ∧ iv = .int .i64 i ∧ tv = .int .i64 t ∧ Kept (cjf hD.pre.pk r (fun t c => FFld.pmul D.p D.k D.m t D.k c) 1 i = t) ∧ Kept (Below w1.heap.size w1 wr)) (fun iv _ _ => k - (intOf iv).toNat)
  case atStart => exact ⟨0, 1, Nat.zero_le _, rfl, rfl, ⟨rfl⟩, ⟨Below.refl _ _⟩⟩
  case round =>
    obtain ⟨i, t, hik, rfl, rfl, ht, hbx⟩ := hrel
    by_cases hlt : i < k
    · obtain ⟨bb, o, rfl, hcell⟩ := HC1.out _ hbx.out i (by omega)
      obtain ⟨c, hc⟩ : ∃ c, cjg hD.pre.pk r i = c := ⟨_, rfl⟩
      have hxc := HX.out i hlt
      rw [hxc, hc] at hcell
      have hcl : c < D.p ^ D.k := by rw [← hc]; exact HL.out i
      have htl : t < D.p ^ D.k := by rw [← ht.out]; exact HZ.out i
      have hbw : Below w.heap.size w wr := HB1.out.trans (hbx.out.mono HB1.out.size)
      have f0 := (hbw.cell (p := ⟨b, 0, none⟩) hbl').trans c0
      have hP := Kept.mk (HP.out wr hbw t c htl hcl)
      have HN : Kept (cjf hD.pre.pk r (fun t c => FFld.pmul D.p D.k D.m t D.k c) 1 (i + 1) = (fun t c => FFld.pmul D.p D.k D.m t D.k c) t c) := ⟨by show (fun t c => FFld.pmul D.p D.k D.m t D.k c) (cjf hD.pre.pk r (fun t c => FFld.pmul D.p D.k D.m t D.k c) 1 i) (cjg hD.pre.pk r i) = _; rw [ht.out, hc]⟩
      clear hxc hc hcl htl hbw
      go_wp2_with fail
      refine hP.out.mono ?_
      rintro e w3 ⟨hb3, rfl⟩
      have HX3 := Kept.mk (hbx.out.trans (hb3.mono hbx.out.size))
      clear hb3
      go_wp2
      go_roundw
      case rel => exact ⟨i + 1, _, by omega, by go_num, rfl, HN, HX3⟩
      case measure => simp [intOf] <;> omega
    · obtain rfl : i = k := by omega
      go_wp2
      go_ret
      exact ⟨HB1.out.trans (hbx.out.mono HB1.out.size), congrArg (fun n : Nat => Ending.returned (.int .i64 (n : Int))) (ht.out.symm.trans (congrArg _ HK.out.symm))⟩
end Go.Proofs.Ytfhhnfpapgfnmaa

set_option linter.unusedVariables false
set_option linter.unusedSectionVars false
set_option linter.unusedSimpArgs false
namespace Go.Proofs.Ytfhhnfpapgfnmaa
namespace FFld
/-! The p-th power of a sum is the sum of the p-th powers. -/
namespace Dom
variable {α : Type} (F : Dom α)
def psum (F : Dom α) : List α → List α → List α
  | [], m => m
  | a :: l, [] => a :: l
  | a :: l, b :: m => F.add a b :: psum F l m
theorem psum_len : ∀ (l m : List α) (n : Nat), l.length ≤ n → m.length ≤ n → (F.psum l m).length ≤ n
  | [], m, n, _, h => h
  | a :: l, [], n, h, _ => h
  | a :: l, b :: m, n, h1, h2 => by
    obtain ⟨n, rfl⟩ : ∃ j, n = j + 1 := ⟨n - 1, by simp only [List.length_cons] at h1; omega⟩
    simp only [psum, List.length_cons] at h1 h2 ⊢
    have := psum_len l m n (by omega) (by omega)
    omega
theorem add4 (a b c d : α) : F.add (F.add a b) (F.add c d) = F.add (F.add a c) (F.add b d) := by
  rw [F.add_assoc, ← F.add_assoc b c d, F.add_comm b c, F.add_assoc c b d, ← F.add_assoc]
theorem eval_psum : ∀ (l m : List α) (x : α), F.eval (F.psum l m) x = F.add (F.eval l x) (F.eval m x)
  | [], m, x => by simp only [psum, eval, F.zero_add]
  | a :: l, [], x => by simp only [psum, eval, F.add_zero]
  | a :: l, b :: m, x => by simp only [psum, eval, eval_psum l m x, F.mul_add]; rw [F.add4]
theorem eval_scale (c : α) : ∀ (l : List α) (x : α), F.eval (l.map (F.mul c)) x = F.mul c (F.eval l x)
  | [], x => by simp only [List.map_nil, eval, F.mul_zero]
  | a :: l, x => by
    simp only [List.map_cons, eval, eval_scale c l x, F.mul_add]
    rw [← F.mul_assoc, ← F.mul_assoc, F.mul_comm x c]
/-- f is a polynomial of a degree below n. -/
def Pol (F : Dom α) (n : Nat) (f : α → α) : Prop := ∃ l : List α, l.length ≤ n ∧ ∀ x, F.eval l x = f x
theorem add_pow_pol (b : α) : ∀ n, ∃ g, F.Pol n g ∧ ∀ x, F.pow (F.add x b) n = F.add (F.pow x n) (g x)
  | 0 => ⟨fun _ => F.zero, ⟨[], Nat.le_refl _, fun x => rfl⟩, fun x => by rw [pow_zero, pow_zero, F.add_zero]⟩
  | n + 1 => by
    obtain ⟨g, ⟨l, hl, hg⟩, h⟩ := add_pow_pol b n
    refine ⟨fun x => F.add (F.mul b (F.pow x n)) (F.add (F.mul x (g x)) (F.mul b (g x))), ⟨F.psum ((F.mono n).map (F.mul b)) (F.psum (F.zero :: l) (l.map (F.mul b))), ?_, fun x => ?_⟩, fun x => ?_⟩
    · refine F.psum_len _ _ _ (by rw [List.length_map, mono_len]; omega) (F.psum_len _ _ _ (by simp; omega) (by rw [List.length_map]; omega))
    · rw [eval_psum, eval_psum, eval_scale, eval_scale, eval_mono]
      simp only [eval, F.zero_add, hg]
    · rw [pow_succ, h, pow_succ, F.mul_add, F.add_mul, F.add_mul, F.add_assoc]
      congr 1
      show F.add (F.mul (g x) x) (F.add (F.mul (F.pow x n) b) (F.mul (g x) b)) = F.add (F.mul b (F.pow x n)) (F.add (F.mul x (g x)) (F.mul b (g x)))
      rw [F.mul_comm (g x) x, F.mul_comm (F.pow x n) b, F.mul_comm (g x) b, ← F.add_assoc, ← F.add_assoc, F.add_comm (F.mul x (g x))]
theorem add_pow_all (b : α) {n : Nat} (hn : 1 ≤ n) (R : List α) (hR : R.Nodup) (hl : n ≤ R.length) (h : ∀ r ∈ R, F.pow (F.add r b) n = F.add (F.pow r n) (F.pow b n)) (x : α) : F.pow (F.add x b) n = F.add (F.pow x n) (F.pow b n) := by
  obtain ⟨g, ⟨l, hll, hg⟩, hp⟩ := F.add_pow_pol b n
  have hz := F.roots R hR (F.psum l [F.neg (F.pow b n)]) (Nat.le_trans (F.psum_len _ _ n hll (by simp; omega)) hl) (fun r hr => by
    rw [eval_psum, hg]
    simp only [eval, F.mul_zero, F.add_zero]
    have e := h r hr
    rw [hp] at e
    rw [F.add_left_cancel e, F.add_neg]) x
  rw [eval_psum, hg] at hz
  simp only [eval, F.mul_zero, F.add_zero] at hz
  rw [hp, F.eq_of_sub hz]
end Dom
theorem pmul_small {p k m : Nat} (h : PK p k m) (b d : Nat) (hb : b < p ^ k) (hd : d < p) : pmul p k m b k d = pscl p k d b := by
  obtain ⟨j, rfl⟩ : ∃ j, k = j + 1 := ⟨k - 1, by have := h.k1; omega⟩
  simp only [pmul]
  rw [Nat.mod_eq_of_lt hd, Nat.div_eq_of_lt hd, pmul_zero_right h, pshf_zero h, padd_zero h _ (pscl_lt h _ _)]
theorem pscl_small {p k m : Nat} (h : PK p k m) (a d : Nat) (ha : a < p) : pscl p k d a = a * d % p := by
  have hlt : a * d % p < p ^ k := Nat.lt_of_lt_of_le (Nat.mod_lt _ h.p0) (Nat.le_self_pow (by have := h.k1; omega) p)
  refine dig_ext h.p0 k _ _ (pscl_lt h _ _) hlt fun i hi => ?_
  rw [dig_pscl h _ _ _ hi]
  cases i with
  | zero => rw [dig_zero, dig_zero, Nat.mod_mod, Nat.mod_eq_of_lt ha]
  | succ i => rw [dig_succ, dig_succ, Nat.div_eq_of_lt ha, Nat.div_eq_of_lt (Nat.mod_lt _ h.p0), dig_of_zero, Nat.zero_mul, Nat.zero_mod]
theorem small_lt {p k m : Nat} (h : PK p k m) {a : Nat} (ha : a < p) : a < p ^ k := Nat.lt_of_lt_of_le ha (Nat.le_self_pow (by have := h.k1; omega) p)
theorem ppow_small {p k m : Nat} (h : PK p k m) (a : Nat) (ha : a < p) : ∀ n, ppow h a n = a ^ n % p
  | 0 => by rw [ppow_zero h a (small_lt h ha), Nat.pow_zero, Nat.mod_eq_of_lt h.p2]
  | n + 1 => by
    rw [ppow_succ h a n (small_lt h ha), ppow_small h a ha n, pmul_small h _ _ (small_lt h (Nat.mod_lt _ h.p0)) ha, pscl_small h _ _ (Nat.mod_lt _ h.p0), Nat.pow_succ, Nat.mod_mul_mod]
theorem FD.Ok.fermat {D : FD} (h : D.Ok) {a : Nat} (ha : a < D.p ^ D.k) (h0 : a ≠ 0) : ppow h.pre.pk a (D.p ^ D.k - 1) = 1 := by
  have e := (FD.dom h.nzd).fermat (nzl_all h.nzd) (a := ⟨a, ha⟩) (fun e => h0 (congrArg Subtype.val e))
  rw [nzl_len] at e
  rw [ppow_of _ _ _ ha, ← dom_pow h.nzd, e]
  rfl
theorem FD.Ok.pow_q {D : FD} (h : D.Ok) {a : Nat} (ha : a < D.p ^ D.k) : ppow h.pre.pk a (D.p ^ D.k) = a := by
  have h1 := h.pre.pk.one_lt
  obtain ⟨n, hn⟩ : ∃ n, D.p ^ D.k = n + 1 := ⟨D.p ^ D.k - 1, by omega⟩
  by_cases h0 : a = 0
  · subst h0
    have e := ppow_succ h.pre.pk 0 n ha
    rw [← hn] at e
    rw [e, pmul_zero_right h.pre.pk]
  · have e := h.fermat ha h0
    have e2 := ppow_succ h.pre.pk a n ha
    rw [hn, Nat.add_sub_cancel] at e
    rw [← hn] at e2
    rw [e2, e, pmul_comm h.pre.pk _ _ h1 ha, pmul_by_one h.pre.pk a ha]
theorem fermat_nat {p : Nat} (hp : Prime p) (h6 : p ≤ 65536) (a : Nat) (ha : a < p) : a ^ p % p = a := by
  obtain ⟨g, hg⟩ := FD.prime_exists p hp h6
  have e := hg.pow_q (a := a) (by show a < p ^ 1; rw [Nat.pow_one]; exact ha)
  have e2 : ppow hg.pre.pk a p = a ^ p % p := ppow_small hg.pre.pk a ha p
  have e3 : ppow hg.pre.pk a (p ^ 1) = a := e
  rw [Nat.pow_one] at e3
  rw [← e2, e3]
theorem pscl_p {p k m : Nat} (h : PK p k m) (a : Nat) : pscl p k p a = 0 := by rw [← pscl_mod h, Nat.mod_self, pscl_zero h]
theorem FD.Ok.p6 {D : FD} (h : D.Ok) : D.p ≤ 65536 := by
  have h1 : D.p ≤ D.p ^ D.k := Nat.le_self_pow (by have := h.pre.k1; omega) D.p
  have h2 : D.p ^ D.k ≤ 65536 := h.pre.small
  omega
theorem FD.Ok.pscl_pow {D : FD} (h : D.Ok) (i b : Nat) (hb : b < D.p ^ D.k) : ppow h.pre.pk (pscl D.p D.k i b) D.p = pscl D.p D.k i (ppow h.pre.pk b D.p) := by
  have hk := h.pre.pk
  have hj : i % D.p < D.p := Nat.mod_lt _ hk.p0
  rw [← pscl_mod hk i b, ← pscl_mod hk i (ppow _ _ _), ← pmul_small hk b _ hb hj, ← pmul_small hk _ _ (ppow_lt _ _ _) hj]
  have e := (FD.dom h.nzd).mul_pow ⟨b, hb⟩ ⟨i % D.p, small_lt hk hj⟩ D.p
  rw [dom_pow h.nzd, dom_pow h.nzd, dom_pow h.nzd] at e
  rw [ppow_of _ _ _ (pmul_lt hk _ _ _), ppow_of _ _ _ hb]
  have e2 := fermat_nat h.pre.prime h.p6 _ hj
  rw [← ppow_small hk _ hj, ppow_of _ _ _ (small_lt hk hj)] at e2
  have e3 := congrArg Subtype.val e
  refine e3.trans ?_
  show pmul D.p D.k D.m _ D.k _ = _
  rw [e2]
theorem FD.Ok.pscl_inj {D : FD} (h : D.Ok) {b i j : Nat} (hb : b < D.p ^ D.k) (h0 : b ≠ 0) (hi : i < D.p) (hj : j < D.p) (e : pscl D.p D.k i b = pscl D.p D.k j b) : i = j := by
  have hk := h.pre.pk
  rw [← pmul_small hk b _ hb hi, ← pmul_small hk b _ hb hj] at e
  have := (FD.dom h.nzd).mul_left_cancel (a := ⟨b, hb⟩) (b := ⟨i, small_lt hk hi⟩) (c := ⟨j, small_lt hk hj⟩) (fun e => h0 (congrArg Subtype.val e)) (Subtype.ext e)
  exact congrArg Subtype.val this
theorem nodup_map_on {α β : Type} {f : α → β} : ∀ {l : List α}, l.Nodup → (∀ a ∈ l, ∀ b ∈ l, f a = f b → a = b) → (l.map f).Nodup
  | [], _, _ => List.nodup_nil
  | a :: l, h, hf => by
    obtain ⟨h1, h2⟩ := List.nodup_cons.1 h
    refine List.nodup_cons.2 ⟨fun hm => ?_, nodup_map_on h2 (fun x hx y hy => hf x (List.mem_cons_of_mem _ hx) y (List.mem_cons_of_mem _ hy))⟩
    obtain ⟨c, hc, e⟩ := List.mem_map.1 hm
    have := hf a List.mem_cons_self c (List.mem_cons_of_mem _ hc) e.symm
    subst this
    exact h1 hc
/-- The p-th power of a sum. -/
theorem FD.Ok.frob {D : FD} (h : D.Ok) {a b : Nat} (ha : a < D.p ^ D.k) (hb : b < D.p ^ D.k) : ppow h.pre.pk (padd D.p D.k a b) D.p = padd D.p D.k (ppow h.pre.pk a D.p) (ppow h.pre.pk b D.p) := by
  have hk := h.pre.pk
  have hp2 := hk.p2
  by_cases h0 : b = 0
  · subst h0
    obtain ⟨n, hn⟩ : ∃ n, D.p = n + 1 := ⟨D.p - 1, by omega⟩
    have e : ppow h.pre.pk 0 D.p = 0 := by
      have := ppow_succ hk 0 n hb
      rw [← hn] at this
      rw [this, pmul_zero_right hk]
    rw [e, padd_zero hk a ha, padd_zero hk _ (ppow_lt _ _ _)]
  · let R : List (El (D.p ^ D.k)) := (List.range D.p).map (fun i => ⟨pscl D.p D.k i b, pscl_lt hk _ _⟩)
    have hR : R.Nodup := nodup_map_on List.nodup_range (fun i hi j hj e => h.pscl_inj hb h0 (List.mem_range.1 hi) (List.mem_range.1 hj) (congrArg Subtype.val e))
    have hall := (FD.dom h.nzd).add_pow_all (b := ⟨b, hb⟩) (n := D.p) (by omega) R hR (by simp [R]) (fun r hr => by
      obtain ⟨i, hi, rfl⟩ := List.mem_map.1 hr
      rw [dom_pow h.nzd, dom_pow h.nzd, dom_pow h.nzd]
      apply Subtype.ext
      have e1 : padd D.p D.k (pscl D.p D.k i b) b = pscl D.p D.k (i + 1) b := by rw [pscl_sum hk, pscl_one hk b hb]
      show ((rng hk).pow ⟨padd D.p D.k (pscl D.p D.k i b) b, _⟩ D.p).1 = padd D.p D.k ((rng hk).pow ⟨pscl D.p D.k i b, _⟩ D.p).1 ((rng hk).pow ⟨b, hb⟩ D.p).1
      rw [← ppow_of hk _ _ (padd_lt hk _ _), ← ppow_of hk _ _ (pscl_lt hk _ _), ← ppow_of hk _ _ hb, e1, h.pscl_pow _ _ hb, h.pscl_pow _ _ hb, pscl_sum hk, pscl_one hk _ (ppow_lt _ _ _)]) ⟨a, ha⟩
    rw [dom_pow h.nzd, dom_pow h.nzd, dom_pow h.nzd] at hall
    have := congrArg Subtype.val hall
    rw [ppow_of _ _ _ (padd_lt hk _ _), ppow_of _ _ _ ha, ppow_of _ _ _ hb]
    exact this
/-- a b / b is a. -/
theorem FD.Ok.div_mul {D : FD} (h : D.Ok) {a b : Nat} (ha : a < D.p ^ D.k) (hb : b < D.p ^ D.k) (h0 : b ≠ 0) : pmul D.p D.k D.m (pmul D.p D.k D.m a D.k b) D.k (ppow h.pre.pk b (D.q - 2)) = a := by
  have hk := h.pre.pk
  have h1 := hk.one_lt
  have e := h.fermat hb h0
  have hq : D.p ^ D.k - 1 = D.q - 2 + 1 := by unfold FD.q; omega
  rw [hq, ppow_succ hk _ _ hb] at e
  rw [pmul_assoc hk _ _ _ ha hb (ppow_lt _ _ _), pmul_comm hk b _ hb (ppow_lt _ _ _), e, pmul_by_one hk a ha]
end FFld
end Go.Proofs.Ytfhhnfpapgfnmaa
