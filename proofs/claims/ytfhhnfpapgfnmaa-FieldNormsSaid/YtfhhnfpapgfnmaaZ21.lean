/-
  Texts of the proof, merged by program: Mf Mg.
-/
import Derived.Test.YtfhhnfpapgfnmaaZ20
set_option linter.unusedVariables false
set_option linter.unusedSimpArgs false
namespace Go.Proofs.Ytfhhnfpapgfnmaa
open Go Go.RowKit Go.Deep
open FFld (ints)
theorem RH.ok.form {w : World} {r : RH} (h : r.ok w) : ∃ c, r.val = .slice (r.blk.map fun g => ⟨g, 0, none⟩) r.xs.length c ∧ r.xs.length ≤ c ∧ c ≤ maxLen := by
  obtain ⟨b, c, l⟩ := r
  cases b with
  | none =>
    have : l = [] := h
    subst this
    exact ⟨0, rfl, Nat.le_refl _, Nat.zero_le _⟩
  | some g => exact ⟨c, rfl, h.2.1, h.2.2⟩
theorem RH.ok.blk1 {w : World} {r : RH} (h : r.ok w) (hl : 0 < r.xs.length) : ∃ g, r.blk = some g ∧ Wv w g r.xs := by
  obtain ⟨b, c, l⟩ := r
  cases b with
  | none =>
    have : l = [] := h
    subst this
    simp at hl
  | some g => exact ⟨g, rfl, h.1⟩
set_option maxRecDepth 20000 in
set_option maxHeartbeats 1000000 in
/-- Nothing is added. -/
theorem addMultiple_nil (b : Nat) (ao : Option Addr) (n : Nat) (k : Nat) (ad : Option Addr) (cap : Nat) (a : Nat) (w : World) :
    Calls Try.prog 99 #[.pointer (some ⟨b, 0, none⟩), .slice ao n k, .slice ad 0 cap, .int .i64 a] w (fun e w' => e = .returned (.tuple #[]) ∧ w = w') := by
  by_cases a0 : a = 0
  · subst a0
    have e0 : (((0 : Nat) : Int) == 0) = true := rfl
    go_enter Try.func99, Try.ntmps99
    go_wp2
    exact bodyPost_ret (v := .tuple #[]) (by simp [results, Try.results99, go_sem]) rfl ⟨rfl, rfl⟩
  · have e0 : ((a : Int) == 0) = false := by rw [beq_eq_false_iff_ne]; omega
    clear a0
    go_enter Try.func99, Try.ntmps99
    go_wp2
    go_loopw [14] (fun iv wr => iv = .int .i64 0 ∧ w = wr) (fun iv _ => 0)
    case atStart => exact ⟨rfl, rfl⟩
    case round =>
      obtain ⟨rfl, rfl⟩ := hrel
      go_wp2
      go_end0
      exact ⟨rfl, rfl⟩
theorem RH.qc {w : World} {s : RH} (h : s.ok w) {g : Nat} (hne : s.blk ≠ some g) : Qc g (s.blk.map fun g => ⟨g, 0, none⟩) s.xs w := fun i hi => by
  obtain ⟨g2, e, hw⟩ := h.blk1 (by omega)
  refine ⟨g2, 0, by rw [e]; rfl, fun e2 => hne (by rw [e, e2]), hw.lt, ?_⟩
  rw [Nat.zero_add]
  exact hw.cell hi
/-- addMultiple on rows. -/
theorem addMultiple_rh {D : FFld.FD} {b : Nat} (w0 w : World) (hf : FldB D w0 b) (hb : Below w0.heap.size w0 w) (r s : RH) (hr : r.ok w) (hs : s.ok w) (hlow : ∀ g, r.blk = some g → w0.heap.size ≤ g) (hne : ∀ g, r.blk = some g → s.blk ≠ some g)
    (hl : s.xs.length ≤ r.xs.length) (hrq : ∀ a ∈ r.xs, a < D.p ^ D.k) (hsq : ∀ a ∈ s.xs, a < D.p ^ D.k) (a : Nat) (ha : a < D.p ^ D.k) (hsl : s.xs.length ≤ 1000000) :
    Calls Try.prog 99 #[.pointer (some ⟨b, 0, none⟩), r.val, s.val, .int .i64 a] w (fun e w' => e = .returned (.tuple #[]) ∧ w.grownBy w' r.blk ∧ (r.put (FFld.addm D r.xs 0 s.xs a)).ok w') := by
  obtain ⟨c2, hv2, hc2, hm2⟩ := hs.form
  rw [hv2]
  cases hbk : r.blk with
  | none =>
    have hx : r.xs = [] := by
      obtain ⟨bk, c, l⟩ := r
      cases hbk
      exact hr
    have hs0 : s.xs = [] := List.eq_nil_of_length_eq_zero (by rw [hx] at hl; simpa using hl)
    have hv : r.val = .slice none 0 0 := by unfold RH.val; rw [hbk]
    rw [hv, hs0]
    refine (addMultiple_nil b none 0 0 _ c2 a w).mono ?_
    rintro e w' ⟨rfl, rfl⟩
    refine ⟨rfl, growRefl _ _, ?_⟩
    rw [hx]
    unfold RH.ok RH.put
    rw [hbk]
    rfl
  | some g =>
    obtain ⟨hw, hc1, hm1⟩ : Wv w g r.xs ∧ r.xs.length ≤ r.cap ∧ r.cap ≤ maxLen := by
      obtain ⟨bk, c, l⟩ := r
      cases hbk
      exact hr
    have hv : r.val = .slice (some ⟨g, 0, none⟩) r.xs.length r.cap := by unfold RH.val; rw [hbk]
    rw [hv]
    refine (addMultiple_any (s := 0) (n := r.xs.length) (cc := r.cap) w0 w hf hb (hlow g hbk) r.xs hw hrq s.xs (RH.qc hs (hne g hbk)) hsq (by omega) hl a ha hsl).mono ?_
    rintro e w' ⟨rfl, hg, hw'⟩
    refine ⟨rfl, hg, ?_⟩
    unfold RH.ok RH.put
    rw [hbk]
    exact ⟨hw', by rw [FFld.addm_len]; exact hc1, hm1⟩
set_option maxRecDepth 20000 in
set_option maxHeartbeats 4000000 in
theorem msub_any {D : FFld.FD} {b G n i j : Nat} (w0 w : World) (hf : FldB D w0 b) (hb : Below w0.heap.size w0 w) (L : List RH) (hm : Mx w G L) (hL : L.length = n) (hi : i < n) (hj : j < n) (hij : i ≠ j) (hd : dis L) (ri rj : RH) (hri : rowH L i = ri) (hrj : rowH L j = rj)
    (hlow : ∀ g, ri.blk = some g → w0.heap.size ≤ g ∧ g ≠ G) (hl : rj.xs.length ≤ ri.xs.length) (hiq : ∀ a ∈ ri.xs, a < D.p ^ D.k) (hjq : ∀ a ∈ rj.xs, a < D.p ^ D.k) (hll : rj.xs.length ≤ 1000000) (t : Nat) (ht : t < D.p ^ D.k) :
    Calls Try.prog 145 #[mxv b G n, .int .i64 i, .int .i64 j, .int .i64 t] w (fun e w' => e = .returned (.tuple #[]) ∧ w.grownBy w' ri.blk ∧ (ri.put (FFld.addm D ri.xs 0 rj.xs (FFld.negF D t))).ok w') := by
  have hpk := hf.ok.pre.pk
  have hb0 : Below w.heap.size w (w.alloc (mxbox b G n)) := (Below.refl _ _).alloc (Nat.le_refl _) _
  have hm0 := hm.below hb0
  obtain ⟨c0, c1, _⟩ := two_cells (heap_alloc_new w (mxbox b G n))
  have ci := hm0.cell (i := i) (by omega)
  have cj := hm0.cell (i := j) (by omega)
  have hoi := hm0.ok _ (rowH_mem (i := i) (by omega))
  have hoj := hm0.ok _ (rowH_mem (i := j) (by omega))
  have hne : ∀ g, ri.blk = some g → rj.blk ≠ some g := fun g e => by rw [← hrj]; exact hd.ne (by omega) (by omega) hij (by rw [hri]; exact e)
  have hbw0 : Below w0.heap.size w0 (w.alloc (mxbox b G n)) := hb.trans (hb0.mono hb.size)
  have hlt := hm0.lt
  have hns : w.heap.size < (w.alloc (mxbox b G n)).heap.size := by simp
  have hG := hm.lt
  rw [hri] at ci hoi
  rw [hrj] at cj hoj
  obtain ⟨W0, hW0⟩ : ∃ W, w.alloc (mxbox b G n) = W := ⟨_, rfl⟩
  rw [hW0] at c0 c1 ci cj hoi hoj hbw0 hlt hns hb0
  have HN := Kept.mk (fun W (hW : Below W0.heap.size W0 W) => negative_any t W (hf.below (hbw0.trans (hW.mono hbw0.size))) ht)
  have HA := Kept.mk (fun W (hW : Below W0.heap.size W0 W) => addMultiple_rh w0 W hf (hbw0.trans (hW.mono hbw0.size)) ri rj (hoi.grown (row := none) (growBelow hW) (fun _ _ => by simp)) (hoj.grown (row := none) (growBelow hW) (fun _ _ => by simp)) (fun g e => (hlow g e).1) hne hl hiq hjq (FFld.pscl D.p D.k (D.p - 1) t) (FFld.pscl_lt hpk _ _) hll)
  obtain ⟨nt, hnt⟩ : ∃ nt, FFld.pscl D.p D.k (D.p - 1) t = nt := ⟨_, rfl⟩
  have HT : Kept (FFld.negF D t = nt) := ⟨hnt⟩
  rw [hnt] at HN HA
  obtain ⟨ai, ni, ki, hvi⟩ := RH.form ri
  obtain ⟨aj, nj, kj, hvj⟩ := RH.form rj
  rw [hvi] at ci HA
  rw [hvj] at cj HA
  have HB0 := Kept.mk hb0
  have HNB : Kept (some w.heap.size ≠ ri.blk) := ⟨fun e => by have := (hm.ok _ (rowH_mem (i := i) (by omega))).lt (by rw [hri]; exact e.symm); omega⟩
  have HNG : Kept (some G ≠ ri.blk) := ⟨fun e => (hlow _ e.symm).2 rfl⟩
  rw [HT.out]
  clear hm hm0 hb0 hvi hvj hlow hd hf hb hoi hoj hne hbw0 hl hiq hjq hll ht hnt hri hrj hpk
  go_enter Try.func145, Try.ntmps145
  go_wp2
  try rw [hW0]
  clear hW0
  go_region_held3 (fun w' => w'.cell? ⟨w.heap.size, 0, none⟩ = some (.pointer (some ⟨b, 0, none⟩)) ∧ w'.cell? ⟨w.heap.size, 1, none⟩ = some (.slice (some ⟨G, 0, none⟩) n n) ∧ w'.cell? ⟨G, i, none⟩ = some (.slice ai ni ki) ∧ w'.cell? ⟨G, j, none⟩ = some (.slice aj nj kj))
    (first | exact ⟨c0, c1, ci, cj⟩ | exact ⟨k0, k1, k2, k3⟩ | exact ⟨l0, l1, l2, l3⟩ | go_keep)
    ((first
      | (go_at_call 91; (with_reducible refine (HN.out _ ?_).mono ?_); (exact (by first | exact Below.refl _ _ | exact (Below.refl _ _).drew)); rintro e w2 ⟨hb2, rfl⟩; have HB2 := Kept.mk (show Below W0.heap.size W0 w2 from (by first | exact hb2 | exact (Below.refl _ _).drew.trans hb2)); have k0 := belowCell HB2.out c0; have k1 := belowCell HB2.out c1; have k2 := belowCell HB2.out ci; have k3 := belowCell HB2.out cj; clear hb2)
      | (go_at_call 99; (with_reducible refine (HA.out _ HB2.out).mono ?_); rintro e w3 ⟨rfl, hg3, ho3⟩; have HG3 := Kept.mk (growTrans (growBelow HB2.out) hg3); have HO3 := Kept.mk ho3; have l0 := HG3.out.cell c0 HNB.out; have l1 := HG3.out.cell c1 HNB.out; have l2 := HG3.out.cell ci HNG.out; have l3 := HG3.out.cell cj HNG.out; clear hg3 ho3)))
  go_wp2
  go_end0
  exact ⟨rfl, growTrans (growBelow HB0.out) HG3.out, HO3.out⟩
end Go.Proofs.Ytfhhnfpapgfnmaa

set_option linter.unusedVariables false
set_option linter.unusedSimpArgs false
namespace Go.Proofs.Ytfhhnfpapgfnmaa
open Go Go.RowKit Go.Deep
open FFld (ints)
/-- Other elements, as many as before. -/
theorem RH.ok.next {w w' : World} {r : RH} {l l' : List Nat} (h : (r.put l).ok w) {g : Nat} (hg : r.blk = some g) (hw : Wv w' g l') (hl : l'.length = l.length) : (r.put l').ok w' := by
  obtain ⟨b, c, l0⟩ := r
  cases hg
  exact ⟨hw, (show l'.length ≤ c by rw [hl]; exact h.2.1), h.2.2⟩
set_option maxRecDepth 20000 in
set_option maxHeartbeats 4000000 in
theorem mmul_any {D : FFld.FD} {b G n i : Nat} (w0 w : World) (hf : FldB D w0 b) (hb : Below w0.heap.size w0 w) (L : List RH) (hm : Mx w G L) (hL : L.length = n) (hi : i < n) (r : RH) (hr : rowH L i = r) (hG0 : w0.heap.size ≤ G)
    (hlow : ∀ g, r.blk = some g → w0.heap.size ≤ g ∧ g ≠ G) (hq : ∀ a ∈ r.xs, a < D.p ^ D.k) (hll : r.xs.length ≤ 1000000) (c : Nat) (hc : c < D.p ^ D.k) :
    Calls Try.prog 144 #[mxv b G n, .int .i64 i, .int .i64 c] w (fun e w' => e = .returned (.tuple #[]) ∧ w.grownBy w' r.blk ∧ (r.put (FFld.rowMul D r.xs c)).ok w') := by
  obtain ⟨h, T, x, fs, fp, fw, ms, ml, hbb, ho, _, _⟩ := hf.open
  have hpk := h.pre.pk
  obtain ⟨fc0, _⟩ := six_cells hbb
  have hbl : b < w0.heap.size := hf.lt
  have HP := Kept.mk ho.product
  have hmp := ho.mp
  have hcp := ho.cp
  have hb0 : Below w.heap.size w (w.alloc (mxbox b G n)) := (Below.refl _ _).alloc (Nat.le_refl _) _
  have hm0 := hm.below hb0
  obtain ⟨c0, c1, _⟩ := two_cells (heap_alloc_new w (mxbox b G n))
  have ci := hm0.cell (i := i) (by omega)
  have hoi := hm0.ok _ (rowH_mem (i := i) (by omega))
  rw [hr] at ci hoi
  have hbw0 : Below w0.heap.size w0 (w.alloc (mxbox b G n)) := hb.trans (hb0.mono hb.size)
  have hns : w.heap.size < (w.alloc (mxbox b G n)).heap.size := by simp
  have hG := hm.lt
  have hws := hb.size
  have HNB : Kept (∀ g, r.blk = some g → g < w.heap.size) := ⟨fun g e => (hm.ok _ (rowH_mem (i := i) (by omega))).lt (by rw [hr]; exact e)⟩
  obtain ⟨W0, hW0⟩ : ∃ W, w.alloc (mxbox b G n) = W := ⟨_, rfl⟩
  rw [hW0] at c0 c1 ci hoi hbw0 hns hb0
  obtain ⟨cap, hv, hc1, hm1⟩ := hoi.form
  obtain ⟨len, hlen⟩ : ∃ len, r.xs.length = len := ⟨_, rfl⟩
  rw [hv, hlen] at ci
  rw [hlen] at hll hc1
  have HST : Kept ((r.put (FFld.rowMulF D r.xs c 0)).ok W0) := ⟨hoi⟩
  have HQ := Kept.mk (fun j => FFld.rowMulF_lt (D := D) hpk (l := r.xs) c j hq)
  have HLN := Kept.mk hlen
  have HB0 := Kept.mk hb0
  have HBW := Kept.mk hbw0
  have HLOW := Kept.mk hlow
  have HALL := Kept.mk (FFld.rowMulF_all D r.xs c)
  have hpos : 0 < D.p ^ D.k := Nat.pow_pos hpk.p0
  unfold maxLen at hm1
  clear hm hm0 hb0 hv hlow hf hb hoi hbw0 hq hlen hbb ho hr
  go_enter Try.func144, Try.ntmps144
  go_wp2
  try rw [hW0]
  clear hW0
  go_loopw [14] (fun iv wr => ∃ (j : Nat), j ≤ len ∧ iv = .int .i64 j ∧ Kept ((r.put (FFld.rowMulF D r.xs c j)).ok wr) ∧ Kept (W0.grownBy wr r.blk)) (fun iv _ => len - (intOf iv).toNat)
  case atStart => exact ⟨0, Nat.zero_le _, rfl, HST, ⟨growRefl _ _⟩⟩
  case round =>
    obtain ⟨j, hj, rfl, hok, hgr⟩ := hrel
    by_cases hlt : j < len
    · have hml := FFld.rowMulF_len D r.xs c j
      rw [HLN.out] at hml
      obtain ⟨g, hg, hwv⟩ := hok.out.blk1 (by show 0 < (FFld.rowMulF D r.xs c j).length; omega)
      have hg' : r.blk = some g := hg
      have hwv' : Wv wr g (FFld.rowMulF D r.xs c j) := hwv
      have hgl := HNB.out g hg'
      obtain ⟨hg0, hgG⟩ := HLOW.out g hg'
      rw [hg'] at hgr
      have HBX := Kept.mk (belowGrow hgr.out HBW.out hg0)
      have f0 : wr.cell? ⟨b, 0, none⟩ = some (.iface T x) := (HBX.out.cell (p := ⟨b, 0, none⟩) hbl).trans fc0
      have f1 : wr.cell? ⟨w.heap.size, 0, none⟩ = some (.pointer (some ⟨b, 0, none⟩)) := hgr.out.cell c0 (by simp; omega)
      have f2 : wr.cell? ⟨w.heap.size, 1, none⟩ = some (.slice (some ⟨G, 0, none⟩) n n) := hgr.out.cell c1 (by simp; omega)
      have f3 : wr.cell? ⟨G, i, none⟩ = some (.slice (r.blk.map fun g => ⟨g, 0, none⟩) len cap) := hgr.out.cell ci (by simp; omega)
      rw [hg'] at f3 ⊢
      simp only [Option.map_some] at f3 ⊢
      obtain ⟨a, ha⟩ : ∃ a, (FFld.rowMulF D r.xs c j)[j]?.getD 0 = a := ⟨_, rfl⟩
      have hab : a < D.p ^ D.k := by rw [← ha]; exact FFld.getD_lt hpos (HQ.out j) j
      obtain ⟨v, hv⟩ : ∃ v, FFld.pmul D.p D.k D.m a D.k c = v := ⟨_, rfl⟩
      have HV : Kept ((FFld.rowMulF D r.xs c j).set j v = FFld.rowMulF D r.xs c (j + 1)) := ⟨by simp only [FFld.rowMulF]; rw [ha, hv]⟩
      have fa := hwv'.cell (i := j) (by omega)
      rw [ha] at fa
      have hP := Kept.mk (fun W (hW : Below w0.heap.size w0 W) => HP.out W hW a c hab hc)
      rw [hv] at hP
      have HWV := Kept.mk hwv'
      have hgwr := hwv'.lt
      have hsz := hgr.out.size
      have hjc : j < cap := by omega
      clear ha hv hab hml hwv hwv' hg
      go_wp2
      go_region_held3 (fun w' => w'.cell? ⟨b, 0, none⟩ = some (.iface T x) ∧ w'.cell? ⟨w.heap.size, 0, none⟩ = some (.pointer (some ⟨b, 0, none⟩)) ∧ w'.cell? ⟨w.heap.size, 1, none⟩ = some (.slice (some ⟨G, 0, none⟩) n n) ∧ w'.cell? ⟨G, i, none⟩ = some (.slice (some ⟨g, 0, none⟩) len cap))
        (first | exact ⟨f0, f1, f2, f3⟩ | exact ⟨k0, k1, k2, k3⟩ | exact ⟨l0, l1, l2, l3⟩ | go_keep)
        ((first
          | ((with_reducible refine (hP.out _ ?_).mono ?_); (exact (by first | exact HBX.out | exact HBX.out.drew)); rintro e w4 ⟨hb4, rfl⟩; have HB4 := Kept.mk (bstep (show Below w0.heap.size w0 _ from (by first | exact HBX.out | exact HBX.out.drew)) hb4); have HR4 : Kept (Below wr.heap.size wr w4) := ⟨by first | exact hb4 | exact (Below.refl _ _).drew.trans hb4⟩; have k0 := belowCell HR4.out f0; have k1 := belowCell HR4.out f1; have k2 := belowCell HR4.out f2; have k3 := belowCell HR4.out f3; have HW4 := Kept.mk (HWV.out.below HR4.out); have q4 := belowCell HR4.out fa; have z4 := HW4.out.free j; have l0 := (World.cell?_of_block (a := ⟨b, 0, none⟩) (heap_setCell_other w4 ⟨g, j, none⟩ b (.int .i64 v) (by simp; omega))).trans k0; have l1 := (World.cell?_of_block (a := ⟨w.heap.size, 0, none⟩) (heap_setCell_other w4 ⟨g, j, none⟩ w.heap.size (.int .i64 v) (by simp; omega))).trans k1; have l2 := (World.cell?_of_block (a := ⟨w.heap.size, 1, none⟩) (heap_setCell_other w4 ⟨g, j, none⟩ w.heap.size (.int .i64 v) (by simp; omega))).trans k2; have l3 := (World.cell?_of_block (a := ⟨G, i, none⟩) (heap_setCell_other w4 ⟨g, j, none⟩ G (.int .i64 v) (by simp; omega))).trans k3; clear hb4)))
      go_wp2
      go_roundw
      case rel => exact ⟨j + 1, by omega, by go_num, ⟨by have hw5 := HW4.out.set (i := j) v; rw [HV.out] at hw5; exact RH.ok.next hok.out hg' hw5 (by rw [FFld.rowMulF_len, FFld.rowMulF_len])⟩, ⟨growTrans hgr.out (growSet (growBelow HR4.out) _ _)⟩⟩
      case measure => simp [intOf] <;> omega
    · obtain rfl : j = len := by omega
      have HEND : Kept ((r.put (FFld.rowMul D r.xs c)).ok wr) := ⟨by rw [← HALL.out, HLN.out]; exact hok.out⟩
      go_wp2
      go_end0
      exact ⟨rfl, growTrans (growBelow HB0.out) hgr.out, HEND.out⟩
end Go.Proofs.Ytfhhnfpapgfnmaa
