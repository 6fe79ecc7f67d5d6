/-
  Texts of the proof, merged by program: Fnw Mu Sd Fpo Cj Tr Awa Awb.
-/
import Derived.Test.YtfhhnfpapgfnmaaGreatV17
import Derived.Test.YtfhhnfpapgfnmaaGreatV11
import Derived.Test.YtfhhnfpapgfnmaaGreatV13
import Derived.Test.YtfhhnfpapgfnmaaGreatV16
import Derived.Test.YtfhhnfpapgfnmaaGreatV10
set_option linter.unusedVariables false
set_option linter.unusedSimpArgs false
namespace Go.Proofs.YtfhhnfpapgfnmaaGreat
open Go Go.RowKit
open FFld (ints)
/-- What New returns: the field, or none and ErrField. -/
def FnRet (q : Int) (w : World) (e : Ending) (w' : World) : Prop := Below w.heap.size w w' ∧ ((∃ (D : FFld.FD) (b : Nat), q = D.q ∧ w.heap.size ≤ b ∧ e = .returned (.tuple #[.pointer (some ⟨b, 0, none⟩), .int .i64 0]) ∧ FldB D w' b) ∨ (¬ FFld.Fit q ∧ e = .returned (.tuple #[.pointer none, .int .i64 20])))
set_option maxRecDepth 20000 in
set_option maxHeartbeats 2000000 in
theorem fnew_any (q : Int) (w : World) (hr0 : -9223372036854775808 ≤ q) (hr1 : q ≤ 9223372036854775807) :
    Calls Tryz.prog 33 #[.int .i64 q] w (FnRet q w) := by
  have hPp := Kept.mk (primePower_any q w hr0 hr1)
  go_enter Tryz.func33, Tryz.ntmps33
  go_wp2_with fail
  refine hPp.out.mono ?_
  rintro e w1 ⟨hb1, h⟩
  have HB1 := Kept.mk hb1
  clear hb1 hPp
  rcases h with ⟨p, k, hp, hk1, hq, hq6, rfl⟩ | ⟨hn, rfl⟩
  · obtain ⟨m, g, hD⟩ := FFld.FD.exists p k hp hk1 hq6
    have hp6 : p ^ 1 ≤ 65536 := by
      have := Nat.pow_le_pow_right (n := p) (by have := hp.1; omega) hk1
      omega
    obtain ⟨m', g', hP⟩ := FFld.FD.exists p 1 hp (Nat.le_refl _) hp6
    have hqD : q = (((⟨p, k, m, g⟩ : FFld.FD).q : Nat) : Int) := hq
    have HD := Kept.mk hD
    have HP := Kept.mk hP
    have HQ := Kept.mk hqD
    have hPf := Kept.mk (fun W => show Calls Tryz.prog 51 #[.int .i64 p] W (FldRet ⟨p, 1, m', g'⟩ W) from primeField_any ⟨p, 1, m', g'⟩ HP.out rfl W)
    by_cases hk : k = 1
    · subst hk
      have hPf' := Kept.mk (fun W => show Calls Tryz.prog 51 #[.int .i64 p] W (FldRet ⟨p, 1, m, g⟩ W) from primeField_any ⟨p, 1, m, g⟩ HD.out rfl W)
      clear hp hk1 hq hq6 hD hp6 hP hqD hPf
      go_wp2_with fail
      refine (hPf'.out _).mono ?_
      rintro e w2 ⟨hb2, b, hb, rfl, hf⟩
      have HB2 := Kept.mk (bstep HB1.out hb2)
      have HF := Kept.mk hf
      have HS := HB1.out.size
      clear hb2 hf
      go_wp2
      go_ret2
      exact ⟨HB2.out, .inl ⟨_, b, HQ.out, by omega, rfl, HF.out⟩⟩
    · have hk2 : 2 ≤ k := by omega
      have ek : decide ((k : Int) > 1) = true := by simp; omega
      have hEx := Kept.mk (fun W b (hf : FldB ⟨p, 1, m', g'⟩ W b) => show Calls Tryz.prog 52 #[.pointer (some ⟨b, 0, none⟩), .int .i64 q, .int .i64 k] W (FldRet ⟨p, k, m, g⟩ W) from by
        rw [HQ.out]
        exact extension_any HP.out rfl HD.out hk2 rfl W hf)
      have hk1' : (1 : Int) < k := by omega
      clear hp hq hq6 hD hp6 hP hqD
      go_wp2_with fail
      refine (hPf.out _).mono ?_
      rintro e w2 ⟨hb2, b, hb, rfl, hf⟩
      have HB2 := Kept.mk (bstep HB1.out hb2)
      have HF := Kept.mk hf
      clear hb2 hf
      go_wp2_with fail
      refine (hEx.out _ _ HF.out).mono ?_
      rintro e w3 ⟨hb3, b', hb', rfl, hf⟩
      have HB3 := Kept.mk (bstep HB2.out hb3)
      have HF3 := Kept.mk hf
      have HS := HB2.out.size
      clear hb3 hf
      go_wp2
      go_ret2
      exact ⟨HB3.out, .inl ⟨_, b', HQ.out, by omega, rfl, HF3.out⟩⟩
  · have HN := Kept.mk hn
    clear hn
    go_wp2
    go_ret2
    exact ⟨HB1.out, .inr ⟨HN.out, rfl⟩⟩
end Go.Proofs.YtfhhnfpapgfnmaaGreat

set_option linter.unusedVariables false
set_option linter.unusedSimpArgs false
namespace Go.Proofs.YtfhhnfpapgfnmaaGreat
open Go Go.RowKit
open FFld (ints)
set_option maxRecDepth 20000 in
set_option maxHeartbeats 4000000 in
theorem fmul_any {D : FFld.FD} {b : Nat} (x y : Int) (w : World) (hf : FldB D w b) (hx0 : -9223372036854775808 ≤ x) (hx1 : x ≤ 9223372036854775807) (hy0 : -9223372036854775808 ≤ y) (hy1 : y ≤ 9223372036854775807) (r s : Nat) (hr : x % D.q = r) (hs : y % D.q = s) (hr1 : r < D.p ^ D.k) (hs1 : s < D.p ^ D.k) :
    Calls Tryz.prog 37 #[.pointer (some ⟨b, 0, none⟩), .int .i64 x, .int .i64 y] w (RB w (.int .i64 (FFld.pmul D.p D.k D.m r D.k s : Nat))) := by
  obtain ⟨h, T, xx, fs, fp, fw, ms, ml, hb, ho, _, _⟩ := hf.open
  obtain ⟨c0, _⟩ := six_cells hb
  have hP := Kept.mk (fun W (hW : Below w.heap.size w W) => ho.product W hW r s hr1 hs1)
  have hA := Kept.mk (fun W (hW : Below w.heap.size w W) => reduced_any x W (hf.below hW) hx0 hx1)
  have hB := Kept.mk (fun W (hW : Below w.heap.size w W) => reduced_any y W (hf.below hW) hy0 hy1)
  rw [hr] at hA
  rw [hs] at hB
  have hmp := ho.mp
  have hcp := ho.cp
  clear ho hb hf hx0 hx1 hy0 hy1 hr hs hr1 hs1
  go_enter Tryz.func37, Tryz.ntmps37
  go_wp2
  go_region_held3 (fun w' => w'.cell? ⟨b, 0, none⟩ = some (.iface T xx))
    (first | exact c0 | exact k0 | go_keep)
    ((first
      | ((with_reducible refine (hA.out _ ?_).mono ?_); (exact (by first | exact Below.refl _ _ | exact (Below.refl _ _).drew | exact (Below.refl _ _).drew.drew)); rintro e w2 ⟨rfl, rfl⟩)
      | ((with_reducible refine (hB.out _ ?_).mono ?_); (exact (by first | exact Below.refl _ _ | exact (Below.refl _ _).drew | exact (Below.refl _ _).drew.drew)); rintro e w2 ⟨rfl, rfl⟩)
      | ((with_reducible refine (hP.out _ ?_).mono ?_); (exact (by first | exact Below.refl _ _ | exact (Below.refl _ _).drew | exact (Below.refl _ _).drew.drew)); rintro e w2 ⟨hb2, rfl⟩; have HB2 := Kept.mk (show Below w.heap.size w w2 from (by first | exact hb2 | exact (Below.refl _ _).drew.trans hb2)); have k0 := belowCell HB2.out c0; clear hb2)))
  go_wp2
  go_ret
  exact ⟨HB2.out, rfl⟩
end Go.Proofs.YtfhhnfpapgfnmaaGreat

set_option linter.unusedVariables false
set_option linter.unusedSimpArgs false
namespace Go.Proofs.YtfhhnfpapgfnmaaGreat
open Go Go.RowKit
open FFld (ints)
end Go.Proofs.YtfhhnfpapgfnmaaGreat

set_option linter.unusedVariables false
set_option linter.unusedSimpArgs false
namespace Go.Proofs.YtfhhnfpapgfnmaaGreat
open Go Go.RowKit
open FFld (ints)
end Go.Proofs.YtfhhnfpapgfnmaaGreat

set_option linter.unusedVariables false
set_option linter.unusedSimpArgs false
namespace Go.Proofs.YtfhhnfpapgfnmaaGreat
open Go Go.RowKit
open FFld (ints)
/-- The i-th conjugate. -/
def cjg {p k m : Nat} (h : FFld.PK p k m) (a : Nat) : Nat → Nat
  | 0 => a
  | i + 1 => FFld.ppow h (cjg h a i) p
theorem cjg_lt {p k m : Nat} (h : FFld.PK p k m) (a : Nat) (ha : a < p ^ k) (i : Nat) : cjg h a i < p ^ k := by
  cases i with
  | zero => exact ha
  | succ i => exact FFld.ppow_lt _ _ _
/-- What conjugates returns. -/
def CjRet (D : FFld.FD) (h : FFld.PK D.p D.k D.m) (a : Nat) (w : World) (e : Ending) (w' : World) : Prop := Below w.heap.size w w' ∧ ∃ (v : Value) (xs : List Nat), e = .returned v ∧ Sl .i64 w' v (ints xs) ∧ xs.length = D.k ∧ ∀ j, j < D.k → xs[j]?.getD 0 = cjg h a j
set_option maxRecDepth 20000 in
set_option maxHeartbeats 4000000 in
theorem conjugates_any {D : FFld.FD} {b : Nat} (hD : D.Ok) (a : Nat) (w : World) (hf : FldB D w b) (ha : a < D.p ^ D.k) :
    Calls Tryz.prog 57 #[.pointer (some ⟨b, 0, none⟩), .int .i64 a] w (CjRet D hD.pre.pk a w) := by
  obtain ⟨h, T, x, fs, fp, fw, ms, ml, hb, ho, _, _⟩ := hf.open
  obtain ⟨c0, _, c2, c3, _, _⟩ := six_cells hb
  have hbl' : b < w.heap.size := hf.lt
  have hp2 := hD.pre.prime.1
  have hpq := p_le_q hD
  have hq6 := hD.pre.small
  unfold FFld.FD.q at hq6
  have hk40 : D.k ≤ 40 := FFld.len_of_pow (Nat.pow_le_pow_left hp2 _) (show D.p ^ D.k ≤ 1099511627776 by omega)
  obtain ⟨k, hk⟩ : ∃ k, D.k = k := ⟨_, rfl⟩
  have hp7 : D.p ≤ 70000 := by omega
  have HP := Kept.mk (fun W (hW : Below w.heap.size w W) (c : Nat) (hc : c < D.p ^ D.k) => ho.power W hW c D.p hc (.inr (by omega)) hp7)
  have hmw := ho.mw
  have hcw := ho.cw
  have HL := Kept.mk (fun i => cjg_lt hD.pre.pk a ha i)
  rw [hk] at c3 hk40
  have HK := Kept.mk hk
  clear ho hb hf hpq hq6 ha hk
  go_enter Tryz.func57, Tryz.ntmps57
  go_wp2_with (at_make; refine wpList_make_zeros _ rfl _ _ 35 rfl 3 .i64 Tryz.underlying35 info_i64 _ _ k rfl rfl (by omega) (by omega) (by omega) ?_)
  intro w3 hrow hbel
  rw [FFld.ints_rep] at hrow
  have HQ3 := Kept.mk hrow.wv
  have HB3 := Kept.mk hbel
  clear hrow hbel
  go_wp2
  go_loopw [14, 1] (fun iv av wr => ∃ (i c : Nat) (xs : List Nat), i ≤ k ∧ iv = .int .i64 i ∧ av = .int .i64 c ∧ Kept (cjg hD.pre.pk a i = c) ∧ xs.length = k ∧ Kept (Wv wr w.heap.size xs) ∧ Kept (∀ j, j < i → xs[j]?.getD 0 = cjg hD.pre.pk a j) ∧ Kept (Below w.heap.size w wr)) (fun iv _ _ => k - (intOf iv).toNat)
  case atStart => exact ⟨0, a, List.replicate k 0, Nat.zero_le _, rfl, rfl, ⟨rfl⟩, by simp, HQ3, ⟨fun j h => by omega⟩, HB3⟩
  case round =>
    obtain ⟨i, c, xs, hik, rfl, rfl, hcj, hxs, hwv, hat, hbl⟩ := hrel
    by_cases hlt : i < k
    · obtain ⟨v, hv⟩ : ∃ v, FFld.ppow hD.pre.pk c D.p = v := ⟨_, rfl⟩
      have hc : c < D.p ^ D.k := by rw [← hcj.out]; exact HL.out i
      have HCN : Kept (cjg hD.pre.pk a (i + 1) = v) := ⟨by show FFld.ppow hD.pre.pk (cjg hD.pre.pk a i) D.p = v; rw [hcj.out, hv]⟩
      have hP := Kept.mk (fun W (hW : Below w.heap.size w W) => HP.out W hW c hc)
      rw [hv] at hP
      have hw5 := hwv.out.set (i := i) c
      have hb5 : Below w.heap.size w (wr.setCell ⟨w.heap.size, i, none⟩ (.int .i64 c)) := hbl.out.setCell (p := ⟨w.heap.size, i, none⟩) (Nat.le_refl _) _
      have f1 := (hb5.cell (p := ⟨b, 0, none⟩) hbl').trans c0
      have f2 := (hb5.cell (p := ⟨b, 2, none⟩) hbl').trans c2
      have fr := hwv.out.free i
      have fc := hwv.out.cell (i := i) (by omega)
      have hgl := hwv.out.lt
      have HW5 := Kept.mk hw5
      have HB5 := Kept.mk hb5
      have HXN : Kept (∀ j, j < i + 1 → (xs.set i c)[j]?.getD 0 = cjg hD.pre.pk a j) := ⟨fun j hj => by
        by_cases e : j = i
        · subst e
          rw [List.getElem?_set_self (by omega), Option.getD_some, hcj.out]
        · rw [List.getElem?_set_ne (by omega)]
          exact hat.out j (by omega)⟩
      have hxl : (xs.set i c).length = k := by rw [List.length_set]; exact hxs
      clear hw5 hb5 hv hc
      go_wp2
      obtain ⟨W5, hW5⟩ : ∃ W, wr.setCell ⟨w.heap.size, i, none⟩ (.int .i64 c) = W := ⟨_, rfl⟩
      rw [hW5] at HW5 HB5 f1 f2 ⊢
      clear fr fc hW5
      go_region_held3 (fun w' => w'.cell? ⟨b, 0, none⟩ = some (.iface T x) ∧ w'.cell? ⟨b, 2, none⟩ = some (.int .i64 D.p))
        (first | exact ⟨f1, f2⟩ | exact ⟨k0, k2⟩ | go_keep)
        ((first
          | ((with_reducible refine (hP.out _ ?_).mono ?_); (exact (by first | exact HB5.out | exact HB5.out.drew)); rintro e w6 ⟨hb6, rfl⟩; have HB6 := Kept.mk (bstep (show Below w.heap.size w _ from (by first | exact HB5.out | exact HB5.out.drew)) hb6); have HR6 := Kept.mk (show Below W5.heap.size W5 w6 from (by first | exact hb6 | exact (Below.refl _ _).drew.trans hb6)); have k0 := belowCell HB6.out c0; have k2 := belowCell HB6.out c2; clear hb6)))
      go_wp2
      go_roundw
      case rel => exact ⟨i + 1, v, xs.set i c, by omega, by go_num, rfl, HCN, hxl, ⟨HW5.out.below HR6.out⟩, HXN, HB6⟩
      case measure => simp [intOf] <;> omega
    · obtain rfl : i = k := by omega
      have HS := Kept.mk (hwv.out.sl (n := i) (c := i) hxs.symm (Nat.le_refl _) (by unfold maxLen; omega))
      go_wp2
      go_ret
      exact ⟨hbl.out, _, xs, rfl, HS.out, by rw [HK.out]; exact hxs, fun j hj => hat.out j (by rw [HK.out] at hj; exact hj)⟩
end Go.Proofs.YtfhhnfpapgfnmaaGreat

set_option linter.unusedVariables false
set_option linter.unusedSimpArgs false
namespace Go.Proofs.YtfhhnfpapgfnmaaGreat
open Go Go.RowKit
open FFld (ints)
/-- What is made of the first i conjugates. -/
def cjf {p k m : Nat} (h : FFld.PK p k m) (a : Nat) (f : Nat → Nat → Nat) (z : Nat) : Nat → Nat
  | 0 => z
  | i + 1 => f (cjf h a f z i) (cjg h a i)
set_option maxRecDepth 20000 in
set_option maxHeartbeats 4000000 in
theorem trace_any {D : FFld.FD} {b : Nat} (hD : D.Ok) (y : Int) (w : World) (hf : FldB D w b) (hx0 : -9223372036854775808 ≤ y) (hx1 : y ≤ 9223372036854775807) (r : Nat) (hr : y % D.q = r) (hr1 : r < D.p ^ D.k) :
    Calls Tryz.prog 38 #[.pointer (some ⟨b, 0, none⟩), .int .i64 y] w (RB w (.int .i64 (cjf hD.pre.pk r (fun t c => FFld.padd D.p D.k t c) 0 D.k : Nat))) := by
  obtain ⟨h, T, x, fs, fp, fw, ms, ml, hb, ho, _, _⟩ := hf.open
  obtain ⟨c0, _⟩ := six_cells hb
  have hbl' : b < w.heap.size := hf.lt
  have hA := Kept.mk (reduced_any y w hf hx0 hx1)
  rw [hr] at hA
  have hC := Kept.mk (conjugates_any hD r w hf hr1)
  have HP := Kept.mk ho.sum
  have hms := ho.ms
  have hcs := ho.cs
  have hk40 : D.k ≤ 40 := FFld.len_of_pow (Nat.pow_le_pow_left hD.pre.prime.1 _) (show D.p ^ D.k ≤ 1099511627776 by have := hD.pre.small; unfold FFld.FD.q at this; omega)
  obtain ⟨k, hk⟩ : ∃ k, D.k = k := ⟨_, rfl⟩
  have HZ : Kept (∀ i, cjf hD.pre.pk r (fun t c => FFld.padd D.p D.k t c) 0 i < D.p ^ D.k) := ⟨fun i => by
    cases i with
    | zero => exact Nat.pow_pos hD.pre.pk.p0
    | succ i => exact FFld.padd_lt hD.pre.pk _ _⟩
  have HL := Kept.mk (fun i => cjg_lt hD.pre.pk r hr1 i)
  rw [hk] at hk40
  have HK := Kept.mk hk
  clear ho hb hf hx0 hx1 hr hr1 hk
  go_enter Tryz.func38, Tryz.ntmps38
  go_wp2_with fail
  refine hA.out.mono ?_
  rintro e w1 ⟨rfl, rfl⟩
  go_wp2_with fail
  refine hC.out.mono ?_
  rintro e w1 ⟨hb1, v, xs, rfl, hsl, hxl, hxs⟩
  obtain ⟨a1, c1, rfl, hc1, hm1⟩ := hsl.form
  replace hxl := hxl.trans HK.out
  replace hxs : ∀ j, j < k → xs[j]?.getD 0 = cjg hD.pre.pk r j := fun j hj => hxs j (by rw [HK.out]; exact hj)
  rw [FFld.ints_len, hxl] at hc1 hsl ⊢
  have HC1 := Kept.mk (hsl.cells (Nat.le_refl _))
  have HX := Kept.mk hxs
  have HB1 := Kept.mk hb1
  have hs1 := hb1.size
  clear hsl hb1 hxs hA hC
  go_wp2
  go_loopw [16, 5] (fun iv tv wr => ∃ (i t : Nat), i ≤ k ∧ iv = .int .i64 i ∧ tv = .int .i64 t ∧ Kept (cjf hD.pre.pk r (fun t c => FFld.padd D.p D.k t c) 0 i = t) ∧ Kept (Below w1.heap.size w1 wr)) (fun iv _ _ => k - (intOf iv).toNat)
  case atStart => exact ⟨0, 0, Nat.zero_le _, rfl, rfl, ⟨rfl⟩, ⟨Below.refl _ _⟩⟩
  case round =>
    obtain ⟨i, t, hik, rfl, rfl, ht, hbx⟩ := hrel
    by_cases hlt : i < k
    · obtain ⟨bb, o, rfl, hcell⟩ := HC1.out _ hbx.out i (by omega)
      obtain ⟨c, hc⟩ : ∃ c, cjg hD.pre.pk r i = c := ⟨_, rfl⟩
      have hxc := HX.out i hlt
      rw [hxc, hc] at hcell
      have hcl : c < D.p ^ D.k := by rw [← hc]; exact HL.out i
      have htl : t < D.p ^ D.k := by rw [← ht.out]; exact HZ.out i
      have hbw : Below w.heap.size w wr := HB1.out.trans (hbx.out.mono HB1.out.size)
      have f0 := (hbw.cell (p := ⟨b, 0, none⟩) hbl').trans c0
      have hP := Kept.mk (HP.out wr hbw t c htl hcl)
      have HN : Kept (cjf hD.pre.pk r (fun t c => FFld.padd D.p D.k t c) 0 (i + 1) = (fun t c => FFld.padd D.p D.k t c) t c) := ⟨by show (fun t c => FFld.padd D.p D.k t c) (cjf hD.pre.pk r (fun t c => FFld.padd D.p D.k t c) 0 i) (cjg hD.pre.pk r i) = _; rw [ht.out, hc]⟩
      clear hxc hc hcl htl hbw
      go_wp2_with fail
      refine hP.out.mono ?_
      rintro e w3 ⟨hb3, rfl⟩
      have HX3 := Kept.mk (hbx.out.trans (hb3.mono hbx.out.size))
      clear hb3
      go_wp2
      go_roundw
      case rel => exact ⟨i + 1, _, by omega, by go_num, rfl, HN, HX3⟩
      case measure => simp [intOf] <;> omega
    · obtain rfl : i = k := by omega
      go_wp2
      go_ret
      exact ⟨HB1.out.trans (hbx.out.mono HB1.out.size), congrArg (fun n : Nat => Ending.returned (.int .i64 (n : Int))) (ht.out.symm.trans (congrArg _ HK.out.symm))⟩
end Go.Proofs.YtfhhnfpapgfnmaaGreat

set_option linter.unusedVariables false
set_option linter.unusedSimpArgs false
namespace Go.Proofs.YtfhhnfpapgfnmaaGreat
open Go Go.RowKit Go.Deep
open FFld (ints)
namespace FFld
theorem prime_of {n : Nat} (h : isP n = true) : Prime n := isP_prime h
theorem fit_pow {p k : Nat} (hp : Prime p) (hk : 1 ≤ k) (hq : p ^ k ≤ 65536) : Fit ((p ^ k : Nat) : Int) := by
  obtain ⟨m, g, h⟩ := FD.exists p k hp hk hq
  exact ⟨⟨p, k, m, g⟩, h, rfl⟩
theorem ok8 : ∃ g, FD.Ok ⟨2, 3, 11, g⟩ := by
  have hpre : FD.Pre ⟨2, 3, 11, 0⟩ := ⟨prime_of (by decide), by decide, by decide, fun h => by simp at h, fun _ => ⟨by decide, by decide, (irr_iff 2 3 11).1 (by decide), fun n h1 h2 hi => by
    have h1' : 8 ≤ n := h1
    have h2' : n < 11 := h2
    rw [← irr_iff] at hi
    have : n = 8 ∨ n = 9 ∨ n = 10 := by omega
    rcases this with rfl | rfl | rfl <;> exact absurd hi (by decide)⟩⟩
  exact FD.with_gen 2 3 11 hpre (nzd_cert (g := 2) (fs := [7]) hpre.pk (by decide) (by decide))
theorem q8 {D : FD} (h : D.Ok) (e : D.q = 8) : D = ⟨2, 3, 11, 2⟩ := by
  obtain ⟨g, hg⟩ := ok8
  have hD : D = ⟨2, 3, 11, g⟩ := FD.uniq h hg (by rw [e]; rfl)
  subst hD
  have h1 : 1 ≤ g := hg.g1
  have e7 : ((2 : Nat) ^ 3 - 1) / 7 = 1 := by decide
  have h2 : 2 ≤ g := hg.not_gen (a := 1) (r := 7) h1 (by decide) (show (7 : Nat) < 2 ^ 3 by decide) (fun ht => ht (show (7 : Nat) ∣ 2 ^ 3 - 1 by decide) (prime_of (by decide)) (by
    show ppow hg.pre.pk 1 (((2 : Nat) ^ 3 - 1) / 7) = 1
    rw [e7]
    exact ppow_one hg.pre.pk 1 (show (1 : Nat) < 2 ^ 3 by decide)))
  have h3 : 2 = g := hg.gen (a := 2) (by decide) h2 (fun r hr1 hr2 hd hp he => by
    have hd' : r ∣ 7 := hd
    have : r = 7 := by
      have h8 : r < 8 := hr2
      have h5 := Nat.le_of_dvd (by decide) hd'
      have : r = 2 ∨ r = 3 ∨ r = 4 ∨ r = 5 ∨ r = 6 ∨ r = 7 := by omega
      rcases this with rfl | rfl | rfl | rfl | rfl | rfl
      all_goals first | rfl | exact absurd hd' (by decide)
    subst this
    have e1 : ppow hg.pre.pk 2 (((2 : Nat) ^ 3 - 1) / 7) = 1 := he
    rw [e7, ppow_one hg.pre.pk 2 (show (2 : Nat) < 2 ^ 3 by decide)] at e1
    exact absurd e1 (by decide))
  subst h3
  rfl
theorem q5 {D : FD} (h : D.Ok) (e : D.q = 5) : ∃ g, D = ⟨5, 1, 5, g⟩ := by
  obtain ⟨g, hg⟩ := FD.prime_exists 5 (prime_of (by decide)) (by decide)
  exact ⟨g, FD.uniq h hg (by rw [e]; rfl)⟩
theorem digs11 {l : List Nat} (h : Digs 2 11 l) : l = [1, 1, 0, 1] := by
  have h1 := h.len (k := 4) (by decide) (by decide)
  have hv := h.val
  have hlt := h.lt
  match l, h1, hv, hlt with
  | [], _, hv, _ => simp [num] at hv
  | [a], _, hv, hlt => have := hlt a (by simp); simp [num] at hv; omega
  | [a, b], _, hv, hlt => have := hlt a (by simp); have := hlt b (by simp); simp [num] at hv; omega
  | [a, b, c], _, hv, hlt => have := hlt a (by simp); have := hlt b (by simp); have := hlt c (by simp); simp [num] at hv; omega
  | [a, b, c, d], _, hv, hlt =>
    have := hlt a (by simp)
    have := hlt b (by simp)
    have := hlt c (by simp)
    have := hlt d (by simp)
    simp only [num] at hv
    have : a = 1 ∧ b = 1 ∧ c = 0 ∧ d = 1 := by omega
    obtain ⟨rfl, rfl, rfl, rfl⟩ := this
    rfl
theorem mul8 : pmul 2 3 11 2 3 4 = 3 := by decide
theorem tr8 (h : PK 2 3 11) : Go.Proofs.YtfhhnfpapgfnmaaGreat.cjf h 1 (fun t c => padd 2 3 t c) 0 3 = 1 := by
  have e : ∀ i, Go.Proofs.YtfhhnfpapgfnmaaGreat.cjg h 1 i = 1 := fun i => by
    induction i with
    | zero => rfl
    | succ i ih =>
      show ppow h (Go.Proofs.YtfhhnfpapgfnmaaGreat.cjg h 1 i) 2 = 1
      rw [ih, ppow_small h 1 (by decide)]
  simp only [Go.Proofs.YtfhhnfpapgfnmaaGreat.cjf, e]
  decide
end FFld
theorem elim5 (g : Nat) (h : FFld.PK 5 1 5) : FFld.elimF ⟨5, 1, 5, g⟩ h ⟨[[1, 2], [2, 4]], idM 2, []⟩ 2 = ⟨[[1, 2], [0, 0]], [[1, 0], [3, 1]], [0]⟩ := by
  kernel_rfl
theorem sop5 (g : Nat) : sopV ⟨5, 1, 5, g⟩ ⟨[[1, 2], [0, 0]], [[1, 0], [3, 1]], [0]⟩ [1, 3] 1 ≠ 0 := by
  have : sopV ⟨5, 1, 5, g⟩ ⟨[[1, 2], [0, 0]], [[1, 0], [3, 1]], [0]⟩ [1, 3] 1 = 1 := by kernel_rfl
  rw [this]
  decide
end Go.Proofs.YtfhhnfpapgfnmaaGreat

set_option linter.unusedVariables false
set_option linter.unusedSimpArgs false
namespace Go.Proofs.YtfhhnfpapgfnmaaGreat
open Go Go.RowKit Go.Deep
open FFld (ints)
/-- The literals of awake. -/
abbrev awL (w : World) : World := (((w.alloc (.cells #[.int .i64 1, .int .i64 2] 3)).alloc (.cells #[.int .i64 2, .int .i64 4] 3)).alloc (.cells #[.slice (some ⟨w.heap.size, 0, none⟩) 2 2, .slice (some ⟨w.heap.size + 1, 0, none⟩) 2 2] 35)).alloc (.cells #[.int .i64 1, .int .i64 3] 3)
theorem awL_bxs (w : World) : Bxs w [.cells #[.int .i64 1, .int .i64 2] 3, .cells #[.int .i64 2, .int .i64 4] 3, .cells #[.slice (some ⟨w.heap.size, 0, none⟩) 2 2, .slice (some ⟨w.heap.size + 1, 0, none⟩) 2 2] 35, .cells #[.int .i64 1, .int .i64 3] 3] (awL w) :=
  ((((Bxs.start w).alloc (by simp) _).alloc (by simp) _).alloc (by simp) _).alloc (by simp) _
theorem awL_facts (w : World) : Below w.heap.size w (awL w) ∧ Sls (awL w) (some ⟨w.heap.size + 1 + 1, 0, none⟩) ([[1, 2], [2, 4]].map ints) ∧ Sl .i64 (awL w) (.slice (some ⟨w.heap.size + 1 + 1 + 1, 0, none⟩) 2 2) (ints [1, 3]) := by
  have hx := awL_bxs w
  have h0 : Row 3 .i64 (awL w) w.heap.size (ints [1, 2]) := hx.2.2 0 _ rfl
  have h1 : Row 3 .i64 (awL w) (w.heap.size + 1) (ints [2, 4]) := hx.2.2 1 _ rfl
  have h2 : (awL w).heap[w.heap.size + 1 + 1]? = some (.cells #[.slice (some ⟨w.heap.size, 0, none⟩) 2 2, .slice (some ⟨w.heap.size + 1, 0, none⟩) 2 2] 35 (0, 0)) := hx.2.2 2 _ rfl
  have h3 : Row 3 .i64 (awL w) (w.heap.size + 1 + 1 + 1) (ints [1, 3]) := hx.2.2 3 _ rfl
  obtain ⟨c0, c1, _⟩ := two_cells h2
  have hl2 : w.heap.size + 1 + 1 < (awL w).heap.size := (Array.getElem?_eq_some_iff.1 h2).1
  refine ⟨hx.1, fun i hi => ?_, h3.slAll rfl (Nat.le_refl _) (by decide)⟩
  have hi' : i < 2 := hi
  have : i = 0 ∨ i = 1 := by omega
  rcases this with rfl | rfl
  · exact ⟨_, _, _, rfl, hl2, c0, h0.slAll rfl (Nat.le_refl _) (by decide)⟩
  · exact ⟨_, _, _, rfl, hl2, c1, h1.slAll rfl (Nat.le_refl _) (by decide)⟩
theorem wf5 (g : Nat) : FFld.Wfm ⟨5, 1, 5, g⟩ 2 [[1, 2], [2, 4]] := fun r hr => by
  simp only [List.mem_cons, List.not_mem_nil, or_false] at hr
  rcases hr with rfl | rfl
  · exact ⟨rfl, fun a ha => by show a < 5 ^ 1; simp at ha; omega⟩
  · exact ⟨rfl, fun a ha => by show a < 5 ^ 1; simp at ha; omega⟩
theorem deny5 {g b : Nat} {w : World} (hf : FldB ⟨5, 1, 5, g⟩ w b) : Calls Tryz.prog 35 #[.pointer (some ⟨b, 0, none⟩), .slice (some ⟨w.heap.size + 1 + 1, 0, none⟩) 2 2, .slice (some ⟨w.heap.size + 1 + 1 + 1, 0, none⟩) 2 2] (awL w) (fun e w' => Below (awL w).heap.size (awL w) w' ∧ ∃ ao c, e = .returned (.tuple #[.slice ao 2 c, .bool true])) := by
  obtain ⟨hb, h1, h2⟩ := awL_facts w
  have h := deny_any hf.ok [[1, 2], [2, 4]] (some ⟨w.heap.size + 1 + 1, 0, none⟩) 2 (.slice (some ⟨w.heap.size + 1 + 1 + 1, 0, none⟩) 2 2) [1, 3] 2 2 (awL w) (hf.below hb) h1 (Nat.le_refl _) (by decide) h2 rfl (by decide) (wf5 g) (by decide) (fun h => by simp at h) rfl (fun a ha => by show a < 5 ^ 1; simp at ha; omega)
  rw [elim5] at h
  refine h.mono ?_
  rintro e w' ⟨hb', ⟨i, vd, _, _, _, rfl, _, ao, c, rfl⟩ | ⟨hz, _⟩⟩
  · exact ⟨hb', ao, c, rfl⟩
  · exact absurd (hz 1 (by decide) (by decide)) (sop5 g)
set_option maxRecDepth 20000 in
set_option maxHeartbeats 8000000 in
theorem awake_any (w : World) : Calls Tryz.prog 16 #[] w (RB w (.bool true)) := by
  have HN8 := Kept.mk (fnew_any 8 w (by omega) (by omega))
  have HN5 := Kept.mk (fun W => fnew_any 5 W (by omega) (by omega))
  have HT8 := Kept.mk FFld.tr8
  go_enter Tryz.func16, Tryz.ntmps16
  go_wp2_with fail
  refine HN8.out.mono ?_
  rintro e w1 ⟨hb1, h⟩
  have HB1 := Kept.mk hb1
  clear hb1 HN8
  rcases h with ⟨D, b, hq, hbb, rfl, hf⟩ | ⟨hn, rfl⟩
  · have hD : D = ⟨2, 3, 11, 2⟩ := FFld.q8 hf.ok (by omega)
    subst hD
    have HF := Kept.mk hf
    have HM := Kept.mk (fmodulus_any w1 hf)
    clear hf hq
    go_wp2_with fail
    refine HM.out.mono ?_
    rintro e w2 ⟨hb2, vm, ml, rfl, hsm, hdm⟩
    have hml := FFld.digs11 hdm
    subst hml
    obtain ⟨am, cm, rfl, hcm, hxm⟩ := hsm.form
    have HB2 := Kept.mk (bstep HB1.out hb2)
    have HF2 := Kept.mk (HF.out.below hb2)
    have HSM := Kept.mk hsm
    clear hb2 hsm hdm HM HF
    go_wp2_with fail
    refine (HN5.out _).mono ?_
    rintro e w3 ⟨hb3, h⟩
    have HB3 := Kept.mk (bstep HB2.out hb3)
    have HR3 := Kept.mk hb3
    clear hb3 HN5
    rcases h with ⟨D5, b5, hq5, hbb5, rfl, hf5⟩ | ⟨hn, rfl⟩
    · obtain ⟨g, hD5⟩ := FFld.q5 hf5.ok (by omega)
      subst hD5
      have HF5 := Kept.mk hf5
      clear hf5 hq5
      go_wp2_with fail
      refine (deny5 HF5.out).mono ?_
      rintro e w5 ⟨hb5, ao5, c5, rfl⟩
      have hba := (awL_facts w3).1
      have HB5 := Kept.mk (bstep (bstep HB3.out hba) hb5)
      have hR5 := bstep (bstep HR3.out hba) hb5
      have HF8 := Kept.mk (HF2.out.below hR5)
      obtain ⟨gm, om, rfl, hgm, hcell⟩ := (HSM.out.below hR5).news_at 2 (by decide)
      have hcell' : w5.cell? ⟨gm, om + 2, none⟩ = some (.int .i64 0) := hcell
      have HG := Kept.mk (generator_any w5 HF8.out)
      have HMU := Kept.mk (fmul_any 2 4 w5 HF8.out (by omega) (by omega) (by omega) (by omega) 2 4 (by decide) (by decide) (by decide) (by decide))
      rw [FFld.mul8] at HMU
      have HTR := Kept.mk (fun W (hW : Below w5.heap.size w5 W) => trace_any HF8.out.ok 1 W (HF8.out.below hW) (by omega) (by omega) 1 (by decide) (by decide))
      rw [HT8.out] at HTR
      clear hb5 hba hR5 hcell
      have hcm4 : 4 ≤ cm := hcm
      have e4 : (ints [1, 1, 0, 1]).length = 4 := rfl
      rw [e4]
      go_wp2_with fail
      refine HG.out.mono ?_
      rintro e w6 ⟨rfl, rfl⟩
      go_wp2_with fail
      refine HMU.out.mono ?_
      rintro e w6 ⟨hb6, rfl⟩
      have HB6 := Kept.mk hb6
      clear hb6
      go_wp2_with fail
      refine (HTR.out _ HB6.out).mono ?_
      rintro e w7 ⟨hb7, rfl⟩
      have HB7 := Kept.mk (bstep HB5.out (bstep HB6.out hb7))
      clear hb7
      go_wp2
      go_ret
      exact ⟨HB7.out, rfl⟩
    · exfalso
      exact hn (FFld.fit_pow (p := 5) (k := 1) (FFld.prime_of (by decide)) (by decide) (by decide))
  · exfalso
    exact hn (FFld.fit_pow (p := 2) (k := 3) (FFld.prime_of (by decide)) (by decide) (by decide))
end Go.Proofs.YtfhhnfpapgfnmaaGreat
