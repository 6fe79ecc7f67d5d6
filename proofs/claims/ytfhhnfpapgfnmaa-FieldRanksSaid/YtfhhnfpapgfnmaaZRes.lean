/-
  Texts of the proof, merged by program: Res.
-/
import Derived.Test.YtfhhnfpapgfnmaaZRec
import Derived.Test.YtfhhnfpapgfnmaaZSvb
set_option linter.unusedVariables false
set_option linter.unusedSimpArgs false
namespace Go.Proofs.Ytfhhnfpapgfnmaa
open Go Go.RowKit Go.Deep
open FFld (ints)
set_option maxRecDepth 20000 in
set_option maxHeartbeats 2000000 in
/-- The first element that is not 0. -/
theorem rfirst_any (v : Value) (l : List Nat) (ci : Nat) (w : World) (h : Sl .i64 w v (ints l)) (hci : ci < l.length) (hz : ∀ c', c' < ci → l[c']?.getD 0 = 0) (hne : l[ci]?.getD 0 ≠ 0) :
    Calls Try.prog 121 #[v] w (fun e w' => w = w' ∧ e = .returned (.int .i64 (ci : Nat))) := by
  obtain ⟨ao, cap, rfl, hcap, hmax, hc⟩ := h
  rw [FFld.ints_len] at hcap hc ⊢
  unfold maxLen at hmax
  obtain ⟨n, hn⟩ : ∃ n, l.length = n := ⟨_, rfl⟩
  rw [hn] at hcap hc hci ⊢
  have HC := Kept.mk hc
  have HZ := Kept.mk hz
  have HNE := Kept.mk hne
  clear hc hz hne hn
  go_enter Try.func121, Try.ntmps121
  go_wp2
  go_loopw [3] (fun iv wr => ∃ i : Nat, i ≤ ci ∧ iv = .int .i64 i ∧ wr = w) (fun iv _ => n - (intOf iv).toNat)
  case atStart => exact ⟨0, Nat.zero_le _, rfl, rfl⟩
  case round =>
    obtain ⟨i, hi, rfl, rfl⟩ := hrel
    have hin : i < n := by omega
    obtain ⟨g, o, rfl, hg, hcell⟩ := HC.out i hin
    rw [FFld.ints_get] at hcell
    by_cases he : i = ci
    · subst he
      obtain ⟨x, hx⟩ : ∃ x, l[i]?.getD 0 = x := ⟨_, rfl⟩
      rw [hx] at hcell
      have hx0 : x ≠ 0 := by rw [← hx]; exact HNE.out
      have ex : ((x : Int) == 0) = false := by rw [beq_eq_false_iff_ne]; omega
      have ex2 : ((x : Int) != 0) = true := by rw [bne_iff_ne]; omega
      clear hx hx0
      go_wp2
      go_ret
      exact ⟨rfl, rfl⟩
    · rw [HZ.out i (by omega)] at hcell
      have ez : (((0 : Nat) : Int) == 0) = true := rfl
      have ez2 : (((0 : Nat) : Int) != 0) = false := rfl
      go_wp2
      go_roundw
      case rel => exact ⟨i + 1, by omega, by go_num, by first | rfl | trivial⟩
      case measure => simp [intOf] <;> omega
/-- The matrix with b at its end. -/
def wideR (rows : List (List Nat)) (bl : List Nat) (i : Nat) : List Nat := FFld.rowAt rows i ++ [bl[i]?.getD 0]
def wideM (rows : List (List Nat)) (bl : List Nat) (n : Nat) : List (List Nat) := (List.range n).map (wideR rows bl)
theorem wide_len (rows : List (List Nat)) (bl : List Nat) (n : Nat) : (wideM rows bl n).length = n := by simp [wideM]
theorem wide_row (rows : List (List Nat)) (bl : List Nat) {n i : Nat} (hi : i < n) : FFld.rowAt (wideM rows bl n) i = wideR rows bl i := by
  unfold FFld.rowAt wideM
  rw [List.getElem?_map, List.getElem?_range hi]
  rfl
theorem wide_wf {D : FFld.FD} (hk : FFld.PK D.p D.k D.m) {rows : List (List Nat)} {bl : List Nat} {wd n : Nat} (hw : FFld.Wfm D wd rows) (hN : rows.length = n) (hb : ∀ a ∈ bl, a < D.p ^ D.k) : FFld.Wfm D (wd + 1) (wideM rows bl n) := fun r hr => by
  obtain ⟨i, hi, rfl⟩ := List.mem_map.1 hr
  have hi' : i < n := by simpa using hi
  unfold wideR
  refine ⟨by rw [List.length_append, (hw.row (i := i) (by omega)).1]; rfl, fun a ha => ?_⟩
  rcases List.mem_append.1 ha with h1 | h1
  · exact FFld.rowAt_lt hw i a h1
  · rw [List.mem_singleton.1 h1]
    exact FFld.getD_lt (Nat.pow_pos hk.p0) hb i
theorem wide_wf0 {D : FFld.FD} {rows : List (List Nat)} {bl : List Nat} : FFld.Wfm D 0 (wideM rows bl 0) := fun r hr => by simp [wideM] at hr
/-- The solution that is read off the echelon form. -/
def solW (s : FFld.ESt) (wd : Nat) : Nat → List Nat
  | 0 => List.replicate wd 0
  | i + 1 => (solW s wd i).set (s.cols[i]?.getD 0) (FFld.cellAt s.A i wd)
theorem solW_len (s : FFld.ESt) (wd i : Nat) : (solW s wd i).length = wd := by
  induction i with
  | zero => simp [solW]
  | succ i ih => simp only [solW, List.length_set, ih]
/-- What the reference's Solve returns. -/
def RsRet (s : FFld.ESt) (wd : Nat) (w : World) (e : Ending) (w' : World) : Prop := Below w.heap.size w w' ∧
  ((∃ i, i < s.cols.length ∧ s.cols[i]?.getD 0 = wd ∧ e = .returned (.tuple #[.slice none 0 0, .bool false])) ∨
   ((∀ i, i < s.cols.length → s.cols[i]?.getD 0 < wd) ∧ ∃ vx, e = .returned (.tuple #[vx, .bool true]) ∧ Sl .i64 w' vx (ints (solW s wd s.cols.length))))
theorem take_row {A : List (List Nat)} {r a : Nat} (h : a < r) : ((A.take r).map ints)[a]?.getD [] = ints (FFld.rowAt A a) := by
  rw [List.getElem?_map, List.getElem?_take, if_pos h]
  unfold FFld.rowAt
  cases A[a]? <;> rfl
set_option maxRecDepth 20000 in
set_option maxHeartbeats 8000000 in
theorem rsolve_any {D : FFld.FD} (hD : D.Ok) (rows : List (List Nat)) (ao : Option Addr) (cap : Nat) (vb : Value) (bl : List Nat) (wd n W : Nat) (w : World) (h : Sls w ao (rows.map ints)) (hcap : n ≤ cap) (hmax : cap ≤ maxLen) (hb : Sl .i64 w vb (ints bl)) (hN : rows.length = n) (hn : n ≤ 64) (hw : FFld.Wfm D wd rows) (hwd : wd ≤ 64) (h0 : n = 0 → wd = 0) (hbl : bl.length = n) (hbq : ∀ a ∈ bl, a < D.p ^ D.k) (hW0 : n = 0 → W = 0) (hW1 : n ≠ 0 → W = wd + 1) :
    Calls Try.prog 79 #[rfv D.q D.p D.k D.m, .slice ao n cap, vb] w (RsRet (FFld.elimF D hD.pre.pk ⟨wideM rows bl n, List.replicate n [], []⟩ W) wd w) := by
  have HX0 : Kept (Bxs w [rbox D.q D.p D.k D.m] (w.alloc (rbox D.q D.p D.k D.m))) := ⟨(Bxs.start w).alloc (by simp) _⟩
  have hk := hD.pre.pk
  obtain ⟨ab, cb, hvb, hcb, hmb⟩ := hb.form
  subst hvb
  rw [FFld.ints_len, hbl] at hcb hb ⊢
  have hww : FFld.Wfm D W (wideM rows bl n) := by
    by_cases hz : n = 0
    · rw [hW0 hz, hz]; exact wide_wf0
    · rw [hW1 hz]; exact wide_wf hk hw hN hbq
  have hW65 : W ≤ 65 := by
    by_cases hz : n = 0
    · rw [hW0 hz]; omega
    · rw [hW1 hz]; omega
  have HE := Kept.mk (fun ao cap X (hX : Sls X ao ((wideM rows bl n).map ints)) (hc : n ≤ cap) (hm : cap ≤ maxLen) => rechelon_any hD (wideM rows bl n) ao cap W n X hX hc hm (wide_len _ _ _) hn hww hW65 hW0)
  have hEO : FFld.EOk D W 0 n ⟨wideM rows bl n, List.replicate n [], []⟩ := ⟨wide_len _ _ _, by simp, hww, fun r hr => by rw [List.eq_of_mem_replicate hr]; simp, by simp⟩
  have hecf := FFld.Ecf.elim hD (s := ⟨wideM rows bl n, List.replicate n [], []⟩) rfl hEO W (Nat.le_refl _)
  have heo := FFld.EOk.elim hEO hk W
  obtain ⟨s, hs⟩ : ∃ s, FFld.elimF D hk ⟨wideM rows bl n, List.replicate n [], []⟩ W = s := ⟨_, rfl⟩
  rw [hs] at hecf heo HE ⊢
  have HEC := Kept.mk hecf
  have HEO := Kept.mk heo
  have hcl := heo.cl
  have HCOL := Kept.mk (fun X (hX : Sls X ao (rows.map ints)) => rcolumns_any ao (rows.map ints) cap X (by rw [List.length_map]; omega) hmax hX)
  rw [rlen_wd hw hN h0, List.length_map, hN] at HCOL
  have HC := Kept.mk h
  have HBC := Kept.mk (hb.cells (Nat.le_refl _))
  have HW := Kept.mk hw
  have HN := Kept.mk hN
  have HBL := Kept.mk hbl
  have hm0 := hmax
  have hmb0 := hmb
  unfold maxLen at hm0 hmb0
  clear h hb hw hN hbl hbq hww hEO hecf heo hs hmax hmb
  go_enter Try.func79, Try.ntmps79
  go_wp2_with fail
  refine (HCOL.out _ (HC.out.below HX0.out.1)).mono ?_
  rintro e w1 ⟨rfl, rfl⟩
  clear HCOL
  go_wp2
  go_loopw [9, 10] (fun ov iv wr => ∃ (i : Nat) (L : List (Value × List Int)), i ≤ n ∧ iv = .int .i64 i ∧ L.length = i ∧ Kept (((List.range i).map (wideR rows bl)).map ints = L.map (·.2)) ∧ Kept (Rws (w.heap.size + 1) wr ov L) ∧ Kept (Bxs w [rbox D.q D.p D.k D.m] wr)) (fun _ iv _ => n - (intOf iv).toNat)
  case atStart => exact ⟨0, [], Nat.zero_le _, rfl, rfl, ⟨rfl⟩, ⟨Rws.nil _ _⟩, HX0⟩
  case round =>
    obtain ⟨i, L, hik, rfl, hll, hat, hrw, hbx⟩ := hrel
    by_cases hlt : i < n
    · obtain ⟨g, o, rv, rfl, hg, hcell, hsl⟩ := (HC.out.below hbx.out.1) i (by rw [List.length_map, HN.out]; exact hlt)
      rw [rows_cell] at hsl
      have HL : Kept (((List.range (i + 1)).map (wideR rows bl)).map ints = L.map (·.2) ++ [ints (wideR rows bl i)]) := ⟨by rw [List.range_succ, List.map_append, List.map_append, hat.out]; rfl⟩
      have hwr : (FFld.rowAt rows i).length = wd := (HW.out.row (by rw [HN.out]; exact hlt)).1
      obtain ⟨a1, c1, rfl, hc1, hm1⟩ := hsl.form
      rw [FFld.ints_len, hwr] at hsl hcell hc1
      obtain ⟨y, hy⟩ : ∃ y, bl[i]?.getD 0 = y := ⟨_, rfl⟩
      obtain ⟨bb, bo, rfl, ib⟩ := HBC.out _ hbx.out.1 i (by rw [HBL.out]; exact hlt)
      rw [hy] at ib
      obtain ⟨xs, hxs⟩ : ∃ xs, ints (FFld.rowAt rows i) = xs := ⟨_, rfl⟩
      have hxl : xs.length = wd := by rw [← hxs, FFld.ints_len, hwr]
      have HWR : Kept (ints (wideR rows bl i) = xs ++ [(y : Int)]) := ⟨by unfold wideR; rw [FFld.ints_append, hxs, hy]; rfl⟩
      rw [HWR.out] at HL
      rw [hxs] at hsl
      have HSL := Kept.mk hsl
      have H1 := Kept.mk (show (([] : List Int).length + xs.length) * 8 ≤ 140737488355328 by rw [hxl]; simp; omega)
      have H2 := Kept.mk (show ([] : List Int).length + xs.length ≤ maxLen by rw [hxl]; unfold maxLen; simp; omega)
      have HXL := Kept.mk hxl
      obtain ⟨ov0, oc, rfl, hoc, hom⟩ := hrw.out.own.form
      rw [List.length_map, hll] at hoc hrw ⊢
      clear hxs hsl hwr hxl hy
      go_wp2_with (at_builtin; refine wpList_append_sl _ rfl _ _ 34 rfl 3 .i64 8 Try.underlying34 info_i64 wr.heap.size (.slice none 0 0) [] (by rfl) (Mine.nil _ _ _ _) (Nat.le_refl _) _ _ (by rfl) HSL.out H1.out H2.out ?_)
      intro v3 w3 hm3 hg3
      try rw [List.nil_append] at hm3
      have hb3 : Below wr.heap.size wr w3 := (Below.refl _ _).grown hg3 (Nat.le_refl _) (by simp [Value.ownBlock])
      obtain ⟨vra, vrc, rfl, hvc, hvm⟩ := hm3.sl.form
      rw [HXL.out] at hm3 hvc ⊢
      have ib3 := belowCell hb3 ib
      have HMa := Kept.mk (hm3.alloc (.cells #[.int .i64 (y : Int)] 3))
      have HNY := Kept.mk (new_one (K := .i64) (x := (y : Int)) (w := w3.alloc (.cells #[.int .i64 (y : Int)] 3)) (b := w3.heap.size) (o := 0) (by exact (Row.new (E := 3) (K := .i64) w3 [(y : Int)]).cell (i := 0) (by simp)))
      have hsz3 := hb3.size
      have HBY : Kept (wr.heap.size ≤ (w3.alloc (.cells #[.int .i64 (y : Int)] 3)).heap.size) := ⟨by simp; omega⟩
      have H5 := Kept.mk (show (xs.length + [(y : Int)].length) * 8 ≤ 140737488355328 by rw [HXL.out]; simp; omega)
      have H6 := Kept.mk (show xs.length + [(y : Int)].length ≤ maxLen by rw [HXL.out]; unfold maxLen; simp; omega)
      have hown3 := Kept.mk hm3.own
      have HB3 := Kept.mk hb3
      clear hm3 hg3 ib hb3
      go_wp2_with (at_builtin; refine wpList_append_mine _ rfl _ _ 34 rfl 3 .i64 8 Try.underlying34 info_i64 wr.heap.size (.slice vra wd vrc) xs (by rfl) HMa.out HBY.out ⟨w3.heap.size, 0, none⟩ 1 1 [(y : Int)] (by rfl) rfl HNY.out H5.out H6.out ?_)
      intro v4 w4 hm4 hg4 hn4
      have hgg := growTrans (World.grownBy_alloc w3 (.cells #[.int .i64 (y : Int)] 3) _) hg4
      have hb4 : Below wr.heap.size wr w4 := HB3.out.grown hgg hsz3 (fun j hj => (hown3.out j hj).1)
      obtain ⟨vsa, vsc, rfl, hsc, hsm⟩ := hm4.sl.form
      have hl4 : (xs ++ [(y : Int)]).length = wd + 1 := by rw [List.length_append, HXL.out]; rfl
      rw [hl4] at hm4 hsc ⊢
      obtain ⟨vr, hvr⟩ : ∃ v, Value.slice vsa (wd + 1) vsc = v := ⟨_, rfl⟩
      rw [hvr] at hm4
      have hX4 := hbx.out.below hb4
      have HX4 := Kept.mk hX4
      have hsz := hbx.out.l1
      have hsz4 := hb4.size
      have HW3 := Kept.mk (hrw.out.below hb4)
      have HMR := Kept.mk (hm4.lower hsz)
      have HNE : Kept (∀ g, vr.ownBlock = some g → (Value.slice ov0 i oc).ownBlock ≠ some g) := ⟨fun g hgb e => by
        have h1 := (hm4.own g hgb).1
        have h2 := (hrw.out.own.own g e).2
        omega⟩
      have hal : Below w4.heap.size w4 (w4.alloc (.cells #[vr] 34)) := (Below.refl _ _).alloc (Nat.le_refl _) _
      have HW4 := Kept.mk (HW3.out.below hal)
      have HX5 := Kept.mk (HX4.out.below hal)
      have HM4 := Kept.mk (HMR.out.below hal)
      have HON := Kept.mk HW4.out.own
      have HNW := Kept.mk (rows_one (W := w4) (rv := vr))
      have H3 := Kept.mk HMR.out.one
      have H4 : Kept ((L.map (·.1)).length = i) := ⟨by rw [List.length_map, hll]⟩
      have HBB : Kept (w.heap.size + 1 ≤ (w4.alloc (.cells #[vr] 34)).heap.size) := ⟨by simp; omega⟩
      clear hb4 hm4 hg4 hn4 hgg hal hsz hsz3 hsz4 HW3 hcell hrw HMR hl4 ib3 hX4
      subst hvr
      go_wp2_with (at_builtin; refine wpList_append_w _ rfl _ _ 49 (by rfl) 34 (.slice none 0 0) 24 Try.underlying49 info_rows (by rfl) (w.heap.size + 1) (.slice ov0 i oc) (L.map (·.1)) (by rfl) HON.out HBB.out ⟨w4.heap.size, 0, none⟩ 1 (.slice vsa (wd + 1) vsc) (by rfl) HNW.out H3.out i H4.out (by omega) (by omega) ?_)
      intro v' w5 ho5 hg5 hv5
      have HR5 := Kept.mk (HW4.out.push HM4.out HNE.out ho5 hg5 (by simpa using hv5))
      have hown := HON.out.own
      have HB5 := Kept.mk (HX5.out.grown hg5 (fun j hj => (hown j hj).1))
      clear ho5 hg5 hv5 hown
      go_wp2
      go_roundw
      case rel => exact ⟨i + 1, L ++ [(.slice vsa (wd + 1) vsc, xs ++ [(y : Int)])], by omega, by go_num, by simp [hll], ⟨by rw [HL.out, List.map_append]; rfl⟩, HR5, HB5⟩
      case measure => simp [intOf] <;> omega
    · obtain rfl : i = n := by omega
      obtain ⟨ov0, oc, rfl, hoc, hom, hsls⟩ := hrw.out.sls
      rw [hll] at hoc ⊢
      rw [← hat.out] at hsls
      have HSW := Kept.mk (show Sls wr ov0 ((wideM rows bl i).map ints) from hsls)
      have HEC2 := Kept.mk (HE.out ov0 oc wr HSW.out hoc hom)
      obtain ⟨i0, i1, i2, i3⟩ := four_cells hbx.out.b0
      clear hsls hrw hat hlt hik HE hoc hom
      go_wp2_with fail
      refine HEC2.out.mono ?_
      rintro e w2 ⟨hb2, ae, ce, rfl, hce, hme, hse⟩
      have HX2 := Kept.mk (hbx.out.below hb2)
      have HSE := Kept.mk hse
      have hme0 := hme
      unfold maxLen at hme0
      obtain ⟨r, hr⟩ : ∃ r, s.cols.length = r := ⟨_, rfl⟩
      rw [hr] at hce HSE hcl ⊢
      have HRR := Kept.mk hr
      clear hse hr hb2 i0 i1 i2 i3 HEC2 HSW hme
      go_wp2_with (at_make; refine wpList_make_zeros _ rfl _ _ 34 rfl 3 .i64 Try.underlying34 info_i64 _ _ wd rfl rfl (by omega) (by omega) (by omega) ?_)
      intro w3 hrow hbel
      rw [FFld.ints_rep] at hrow
      have HW3 := Kept.mk hrow.wv
      have HX3 := Kept.mk (HX2.out.below hbel)
      obtain ⟨g, hg⟩ : ∃ g, w2.heap.size = g := ⟨_, rfl⟩
      have hgl := HX2.out.l1
      rw [hg] at HW3 hgl
      have HB23 := Kept.mk hbel
      have hgz : w2.heap.size ≤ g := by omega
      clear hrow hbel
      go_wp2
      try rw [hg]
      clear hg
      go_loopw [14] (fun iv wr' => ∃ a : Nat, a ≤ r ∧ iv = .int .i64 a ∧ Kept (∀ j, j < a → s.cols[j]?.getD 0 < wd) ∧ Kept (Wv wr' g (solW s wd a)) ∧ Kept (Below w2.heap.size w2 wr')) (fun iv _ => r - (intOf iv).toNat)
      case atStart => exact ⟨0, Nat.zero_le _, rfl, ⟨fun j hj => by omega⟩, HW3, HB23⟩
      case round =>
        obtain ⟨a, har, rfl, hcw, hwv, hbw⟩ := hrel
        by_cases hal : a < r
        · obtain ⟨ge, oe, rv, hae, hge, hcell, hsl⟩ := (HSE.out.below hbw.out) a (by rw [List.length_map, List.length_take, HEO.out.la]; omega)
          subst hae
          rw [take_row hal] at hsl
          have hWW : W = wd + 1 := hW1 (by omega)
          have hrl : (FFld.rowAt s.A a).length = wd + 1 := by rw [← hWW]; exact (HEO.out.wa.row (by rw [HEO.out.la]; omega)).1
          obtain ⟨q1, q2, q3⟩ := HEC.out.low a (by rw [HRR.out]; exact hal)
          obtain ⟨ci, hci⟩ : ∃ c, s.cols[a]?.getD 0 = c := ⟨_, rfl⟩
          rw [hci] at q1 q2 q3
          have HCI := Kept.mk hci
          obtain ⟨a1, c1, rfl, hc1, hm1⟩ := hsl.form
          have HF := Kept.mk (fun X (hX : Below wr.heap.size wr X) => rfirst_any _ (FFld.rowAt s.A a) ci X (hsl.below hX) (by omega) q3 (by have e : (FFld.rowAt s.A a)[ci]?.getD 0 = 1 := q2; rw [e]; exact Nat.one_ne_zero))
          rw [FFld.ints_len, hrl] at hcell hsl HF hc1
          obtain ⟨y, hy⟩ : ∃ y, FFld.cellAt s.A a wd = y := ⟨_, rfl⟩
          obtain ⟨gb, bo, rfl, ic⟩ := (hsl.cells (Nat.le_refl _)) _ (Below.refl _ _) wd (by rw [hrl]; exact Nat.lt_succ_self _)
          rw [show (FFld.rowAt s.A a)[wd]?.getD 0 = y from hy] at ic
          have HY := Kept.mk hy
          have hci1 : ci ≤ wd := by omega
          clear hsl hci q1 q2 q3 hrl hWW hy
          go_wp2_with fail
          refine (HF.out _ (Below.refl _ _)).mono ?_
          rintro e w6 ⟨rfl, rfl⟩
          by_cases hcd : ci = wd
          · subst hcd
            have ecc : ((ci : Int) == (ci : Int)) = true := by simp
            have HXE := Kept.mk (HX2.out.below hbw.out)
            go_wp2
            go_ret2
            exact ⟨HXE.out.1, .inl ⟨a, by rw [HRR.out]; exact hal, HCI.out, rfl⟩⟩
          · have ecd : ((ci : Int) == (wd : Int)) = false := by rw [beq_eq_false_iff_ne]; omega
            have hcl2 : ci < wd := by omega
            have z3 := hwv.out.free ci
            have t3 := hwv.out.cell (i := ci) (by rw [solW_len]; exact hcl2)
            obtain ⟨u, hu⟩ : ∃ u, (solW s wd a)[ci]?.getD 0 = u := ⟨_, rfl⟩
            rw [hu] at t3
            clear hu
            have HNX : Kept (solW s wd (a + 1) = (solW s wd a).set ci y) := ⟨by simp only [solW]; rw [HCI.out, HY.out]⟩
            have hgs := grow_set wr g ci (.int .i64 (y : Nat))
            have HBW := Kept.mk (hbw.out.grown hgs hbw.out.size (fun k hk => by cases hk; omega))
            have HCW : Kept (∀ j, j < a + 1 → s.cols[j]?.getD 0 < wd) := ⟨fun j hj => by
              by_cases e : j = a
              · rw [e, HCI.out]; exact hcl2
              · exact hcw.out j (by omega)⟩
            have HWV := Kept.mk (hwv.out.set (i := ci) y)
            rw [← HNX.out] at HWV
            clear hgs hcd
            go_wp2
            go_roundw
            case rel => exact ⟨a + 1, by omega, by go_num, HCW, HWV, HBW⟩
            case measure => simp [intOf] <;> omega
        · obtain rfl : a = r := by omega
          have HXE := Kept.mk (HX2.out.below hbw.out)
          have HSX := Kept.mk (hwv.out.sl (n := wd) (c := wd) (solW_len s wd a).symm (Nat.le_refl _) (by unfold maxLen; omega))
          go_wp2
          go_ret2
          refine ⟨HXE.out.1, .inr ⟨?_, _, rfl, ?_⟩⟩
          · rw [HRR.out]; exact hcw.out
          · rw [HRR.out]; exact HSX.out
end Go.Proofs.Ytfhhnfpapgfnmaa
