/-
  Texts of the proof, merged by program: Res Sol TWat TCut TSum TCmp TMul TAddMul TSum2.
-/
import Derived.Test.YtdnheaafcbihbaaGreatRq11
import Derived.Test.YtdnheaafcbihbaaGreatProg
import Derived.Laws.Externs
import Derived.Deep.QuietTactic
import Derived.BigQuiet
import Derived.Test.YtdnheaafcbihbaaGreatShelf
import Derived.Deep.DeepMust
set_option linter.unusedSimpArgs false
set_option linter.unusedVariables false
set_option maxHeartbeats 16000000
namespace Go.Proofs.YtdnheaafcbihbaaGreat
open Go Go.RowKit Go.Deep
open FFld (ints)
set_option maxRecDepth 20000 in
theorem rfirst_any (v : Value) (l : List Nat) (ci : Nat) (w : World) (h : Sl .i64 w v (ints l)) (hci : ci < l.length) (hz : ∀ c', c' < ci -> l[c']?.getD 0 = 0) (hne : l[ci]?.getD 0 ≠ 0) :
 Calls Tryz.prog 174 #[v] w (fun e w' => w = w' /\ e = .returned (.int .i64 (ci : Nat))) := by
 obtain ⟨ao, cap, rfl, hcap, hmax, hc⟩ := h
 rw [FFld.ints_len] at hcap hc ⊢
 unfold maxLen at hmax
 obtain ⟨n, hn⟩ : ∃ n, l.length = n := ⟨_, rfl⟩
 rw [hn] at hcap hc hci ⊢
 have HC := Kept.mk hc
 have HZ := Kept.mk hz
 have HNE := Kept.mk hne
 clear hc hz hne hn
 go_enter Tryz.func174, Tryz.ntmps174
 go_wp2
 go_loopw [3] (fun iv wr => ∃ i : Nat, i <= ci /\ iv = .int .i64 i /\ wr = w) (fun iv _ => n - (intOf iv).toNat)
 case atStart => exact ⟨0, Nat.zero_le _, rfl, rfl⟩
 case round =>
  obtain ⟨i, hi, rfl, rfl⟩ := hrel
  have hin : i < n := by omega
  obtain ⟨g, o, rfl, hg, hcell⟩ := HC.out i hin
  rw [FFld.ints_get] at hcell
  by_cases he : i = ci
  ·subst he
   obtain ⟨x, hx⟩ : ∃ x, l[i]?.getD 0 = x := ⟨_, rfl⟩
   rw [hx] at hcell
   have hx0 : x ≠ 0 := by rw [<- hx]; exact HNE.out
   have ex : ((x : Int) == 0) = false := by rw [beq_eq_false_iff_ne]; omega
   have ex2 : ((x : Int) != 0) = true := by rw [bne_iff_ne]; omega
   clear hx hx0
   go_wp2
   go_ret
   exact ⟨rfl, rfl⟩
  ·rw [HZ.out i (by omega)] at hcell
   have ez : (((0 : Nat) : Int) == 0) = true := rfl
   have ez2 : (((0 : Nat) : Int) != 0) = false := rfl
   go_wp2
   go_roundw
   case rel => exact ⟨i + 1, by omega, by go_num, by first | rfl | trivial⟩
   case measure => simp [intOf] <;> omega
def wideR (rows : List (List Nat)) (bl : List Nat) (i : Nat) : List Nat := FFld.rowAt rows i ++ [bl[i]?.getD 0]
def wideM (rows : List (List Nat)) (bl : List Nat) (n : Nat) : List (List Nat) := (List.range n).map (wideR rows bl)
theorem wide_len (rows : List (List Nat)) (bl : List Nat) (n : Nat) : (wideM rows bl n).length = n := by simp [wideM]
theorem wide_row (rows : List (List Nat)) (bl : List Nat) {n i : Nat} (hi : i < n) : FFld.rowAt (wideM rows bl n) i = wideR rows bl i := by
 unfold FFld.rowAt wideM
 rw [List.getElem?_map, List.getElem?_range hi]
 rfl
theorem wide_wf {D : FFld.FD} (hk : FFld.PK D.p D.k D.m) {rows : List (List Nat)} {bl : List Nat} {wd n : Nat} (hw : FFld.Wfm D wd rows) (hN : rows.length = n) (hb : ∀ a ∈ bl, a < D.p ^ D.k) : FFld.Wfm D (wd + 1) (wideM rows bl n) := fun r hr => by
 obtain ⟨i, hi, rfl⟩ := List.mem_map.1 hr
 have hi' : i < n := by simpa using hi
 unfold wideR
 refine ⟨by rw [List.length_append, (hw.row (i := i) (by omega)).1]; rfl, fun a ha => ?_⟩
 rcases List.mem_append.1 ha with h1 | h1
 ·exact FFld.rowAt_lt hw i a h1
 ·rw [List.mem_singleton.1 h1]
  exact FFld.getD_lt (Nat.pow_pos hk.p0) hb i
theorem wide_wf0 {D : FFld.FD} {rows : List (List Nat)} {bl : List Nat} : FFld.Wfm D 0 (wideM rows bl 0) := fun r hr => by simp [wideM] at hr
def solW (s : FFld.ESt) (wd : Nat) : Nat -> List Nat
 | 0 => List.replicate wd 0
 | i + 1 => (solW s wd i).set (s.cols[i]?.getD 0) (FFld.cellAt s.A i wd)
theorem solW_len (s : FFld.ESt) (wd i : Nat) : (solW s wd i).length = wd := by
 induction i with
 | zero => simp [solW]
 | succ i ih => simp only [solW, List.length_set, ih]
def RsRet (s : FFld.ESt) (wd : Nat) (w : World) (e : Ending) (w' : World) : Prop := Below w.heap.size w w' /\
 ((∃ i, i < s.cols.length /\ s.cols[i]?.getD 0 = wd /\ e = .returned (.tuple #[.slice none 0 0, .bool false])) \/
  ((∀ i, i < s.cols.length -> s.cols[i]?.getD 0 < wd) /\ ∃ vx, e = .returned (.tuple #[vx, .bool true]) /\ Sl .i64 w' vx (ints (solW s wd s.cols.length))))
theorem take_row {A : List (List Nat)} {r a : Nat} (h : a < r) : ((A.take r).map ints)[a]?.getD [] = ints (FFld.rowAt A a) := by
 rw [List.getElem?_map, List.getElem?_take, if_pos h]
 unfold FFld.rowAt
 cases A[a]? <;> rfl
set_option maxRecDepth 20000 in
theorem rsolve_any {D : FFld.FD} (hD : D.Ok) (rows : List (List Nat)) (ao : Option Addr) (cap : Nat) (vb : Value) (bl : List Nat) (wd n W : Nat) (w : World) (h : Sls w ao (rows.map ints)) (hcap : n <= cap) (hmax : cap <= maxLen) (hb : Sl .i64 w vb (ints bl)) (hN : rows.length = n) (hn : n <= 64) (hw : FFld.Wfm D wd rows) (hwd : wd <= 64) (h0 : n = 0 -> wd = 0) (hbl : bl.length = n) (hbq : ∀ a ∈ bl, a < D.p ^ D.k) (hW0 : n = 0 -> W = 0) (hW1 : n ≠ 0 -> W = wd + 1) :
 Calls Tryz.prog 104 #[rfv D.q D.p D.k D.m, .slice ao n cap, vb] w (RsRet (FFld.elimF D hD.pre.pk ⟨wideM rows bl n, List.replicate n [], []⟩ W) wd w) := by
 have HX0 : Kept (Bxs w [rbox D.q D.p D.k D.m] (w.alloc (rbox D.q D.p D.k D.m))) := ⟨(Bxs.start w).alloc (by simp) _⟩
 have hk := hD.pre.pk
 obtain ⟨ab, cb, hvb, hcb, hmb⟩ := hb.form
 subst hvb
 rw [FFld.ints_len, hbl] at hcb hb ⊢
 have hww : FFld.Wfm D W (wideM rows bl n) := by
  by_cases hz : n = 0
  ·rw [hW0 hz, hz]; exact wide_wf0
  ·rw [hW1 hz]; exact wide_wf hk hw hN hbq
 have hW65 : W <= 65 := by
  by_cases hz : n = 0
  ·rw [hW0 hz]; omega
  ·rw [hW1 hz]; omega
 have HE := Kept.mk (fun ao cap X (hX : Sls X ao ((wideM rows bl n).map ints)) (hc : n <= cap) (hm : cap <= maxLen) => rechelon_any hD (wideM rows bl n) ao cap W n X hX hc hm (wide_len _ _ _) hn hww hW65 hW0)
 have hEO : FFld.EOk D W 0 n ⟨wideM rows bl n, List.replicate n [], []⟩ := ⟨wide_len _ _ _, by simp, hww, fun r hr => by rw [List.eq_of_mem_replicate hr]; simp, by simp⟩
 have hecf := FFld.Ecf.elim hD (s := ⟨wideM rows bl n, List.replicate n [], []⟩) rfl hEO W (Nat.le_refl _)
 have heo := FFld.EOk.elim hEO hk W
 obtain ⟨s, hs⟩ : ∃ s, FFld.elimF D hk ⟨wideM rows bl n, List.replicate n [], []⟩ W = s := ⟨_, rfl⟩
 rw [hs] at hecf heo HE ⊢
 have HEC := Kept.mk hecf
 have HEO := Kept.mk heo
 have hcl := heo.cl
 have HCOL := Kept.mk (fun X (hX : Sls X ao (rows.map ints)) => rcolumns_any ao (rows.map ints) cap X (by rw [List.length_map]; omega) hmax hX)
 rw [rlen_wd hw hN h0, List.length_map, hN] at HCOL
 have HC := Kept.mk h
 have HBC := Kept.mk (hb.cells (Nat.le_refl _))
 have HW := Kept.mk hw
 have HN := Kept.mk hN
 have HBL := Kept.mk hbl
 have hm0 := hmax
 have hmb0 := hmb
 unfold maxLen at hm0 hmb0
 clear h hb hw hN hbl hbq hww hEO hecf heo hs hmax hmb
 go_enter Tryz.func104, Tryz.ntmps104
 go_wp2_with fail
 refine (HCOL.out _ (HC.out.below HX0.out.1)).mono ?_
 rintro e w1 ⟨rfl, rfl⟩
 clear HCOL
 go_wp2
 go_loopw [9, 10] (fun ov iv wr => ∃ (i : Nat) (L : List (Value × List Int)), i <= n /\ iv = .int .i64 i /\ L.length = i /\ Kept (((List.range i).map (wideR rows bl)).map ints = L.map (·.2)) /\ Kept (Rws (w.heap.size + 1) wr ov L) /\ Kept (Bxs w [rbox D.q D.p D.k D.m] wr)) (fun _ iv _ => n - (intOf iv).toNat)
 case atStart => exact ⟨0, [], Nat.zero_le _, rfl, rfl, ⟨rfl⟩, ⟨Rws.nil _ _⟩, HX0⟩
 case round =>
  obtain ⟨i, L, hik, rfl, hll, hat, hrw, hbx⟩ := hrel
  by_cases hlt : i < n
  ·obtain ⟨g, o, rv, rfl, hg, hcell, hsl⟩ := (HC.out.below hbx.out.1) i (by rw [List.length_map, HN.out]; exact hlt)
   rw [rows_cell] at hsl
   have HL : Kept (((List.range (i + 1)).map (wideR rows bl)).map ints = L.map (·.2) ++ [ints (wideR rows bl i)]) := ⟨by rw [List.range_succ, List.map_append, List.map_append, hat.out]; rfl⟩
   have hwr : (FFld.rowAt rows i).length = wd := (HW.out.row (by rw [HN.out]; exact hlt)).1
   obtain ⟨a1, c1, rfl, hc1, hm1⟩ := hsl.form
   rw [FFld.ints_len, hwr] at hsl hcell hc1
   obtain ⟨y, hy⟩ : ∃ y, bl[i]?.getD 0 = y := ⟨_, rfl⟩
   obtain ⟨bb, bo, rfl, ib⟩ := HBC.out _ hbx.out.1 i (by rw [HBL.out]; exact hlt)
   rw [hy] at ib
   obtain ⟨xs, hxs⟩ : ∃ xs, ints (FFld.rowAt rows i) = xs := ⟨_, rfl⟩
   have hxl : xs.length = wd := by rw [<- hxs, FFld.ints_len, hwr]
   have HWR : Kept (ints (wideR rows bl i) = xs ++ [(y : Int)]) := ⟨by unfold wideR; rw [FFld.ints_append, hxs, hy]; rfl⟩
   rw [HWR.out] at HL
   rw [hxs] at hsl
   have HSL := Kept.mk hsl
   have H1 := Kept.mk (show (([] : List Int).length + xs.length) * 8 <= 140737488355328 by rw [hxl]; simp; omega)
   have H2 := Kept.mk (show ([] : List Int).length + xs.length <= maxLen by rw [hxl]; unfold maxLen; simp; omega)
   have HXL := Kept.mk hxl
   obtain ⟨ov0, oc, rfl, hoc, hom⟩ := hrw.out.own.form
   rw [List.length_map, hll] at hoc hrw ⊢
   clear hxs hsl hwr hxl hy
   go_wp2_with (at_builtin; refine wpList_append_sl _ rfl _ _ 22 rfl 3 .i64 8 Tryz.underlying22 info_i64 wr.heap.size (.slice none 0 0) [] (by rfl) (Mine.nil _ _ _ _) (Nat.le_refl _) _ _ (by rfl) HSL.out H1.out H2.out ?_)
   intro v3 w3 hm3 hg3
   try rw [List.nil_append] at hm3
   have hb3 : Below wr.heap.size wr w3 := (Below.refl _ _).grown hg3 (Nat.le_refl _) (by simp [Value.ownBlock])
   obtain ⟨vra, vrc, rfl, hvc, hvm⟩ := hm3.sl.form
   rw [HXL.out] at hm3 hvc ⊢
   have ib3 := belowCell hb3 ib
   have HMa := Kept.mk (hm3.alloc (.cells #[.int .i64 (y : Int)] 3))
   have HNY := Kept.mk (new_one (K := .i64) (x := (y : Int)) (w := w3.alloc (.cells #[.int .i64 (y : Int)] 3)) (b := w3.heap.size) (o := 0) (by exact (Row.new (E := 3) (K := .i64) w3 [(y : Int)]).cell (i := 0) (by simp)))
   have hsz3 := hb3.size
   have HBY : Kept (wr.heap.size <= (w3.alloc (.cells #[.int .i64 (y : Int)] 3)).heap.size) := ⟨by simp; omega⟩
   have H5 := Kept.mk (show (xs.length + [(y : Int)].length) * 8 <= 140737488355328 by rw [HXL.out]; simp; omega)
   have H6 := Kept.mk (show xs.length + [(y : Int)].length <= maxLen by rw [HXL.out]; unfold maxLen; simp; omega)
   have hown3 := Kept.mk hm3.own
   have HB3 := Kept.mk hb3
   clear hm3 hg3 ib hb3
   go_wp2_with (at_builtin; refine wpList_append_mine _ rfl _ _ 22 rfl 3 .i64 8 Tryz.underlying22 info_i64 wr.heap.size (.slice vra wd vrc) xs (by rfl) HMa.out HBY.out ⟨w3.heap.size, 0, none⟩ 1 1 [(y : Int)] (by rfl) rfl HNY.out H5.out H6.out ?_)
   intro v4 w4 hm4 hg4 hn4
   have hgg := growTrans (World.grownBy_alloc w3 (.cells #[.int .i64 (y : Int)] 3) _) hg4
   have hb4 : Below wr.heap.size wr w4 := HB3.out.grown hgg hsz3 (fun j hj => (hown3.out j hj).1)
   obtain ⟨vsa, vsc, rfl, hsc, hsm⟩ := hm4.sl.form
   have hl4 : (xs ++ [(y : Int)]).length = wd + 1 := by rw [List.length_append, HXL.out]; rfl
   rw [hl4] at hm4 hsc ⊢
   obtain ⟨vr, hvr⟩ : ∃ v, Value.slice vsa (wd + 1) vsc = v := ⟨_, rfl⟩
   rw [hvr] at hm4
   have hX4 := hbx.out.below hb4
   have HX4 := Kept.mk hX4
   have hsz := hbx.out.l1
   have hsz4 := hb4.size
   have HW3 := Kept.mk (hrw.out.below hb4)
   have HMR := Kept.mk (hm4.lower hsz)
   have HNE : Kept (∀ g, vr.ownBlock = some g -> (Value.slice ov0 i oc).ownBlock ≠ some g) := ⟨fun g hgb e => by
    have h1 := (hm4.own g hgb).1
    have h2 := (hrw.out.own.own g e).2
    omega⟩
   have hal : Below w4.heap.size w4 (w4.alloc (.cells #[vr] 22)) := (Below.refl _ _).alloc (Nat.le_refl _) _
   have HW4 := Kept.mk (HW3.out.below hal)
   have HX5 := Kept.mk (HX4.out.below hal)
   have HM4 := Kept.mk (HMR.out.below hal)
   have HON := Kept.mk HW4.out.own
   have HNW := Kept.mk (rows_one (W := w4) (rv := vr))
   have H3 := Kept.mk HMR.out.one
   have H4 : Kept ((L.map (·.1)).length = i) := ⟨by rw [List.length_map, hll]⟩
   have HBB : Kept (w.heap.size + 1 <= (w4.alloc (.cells #[vr] 22)).heap.size) := ⟨by simp; omega⟩
   clear hb4 hm4 hg4 hn4 hgg hal hsz hsz3 hsz4 HW3 hcell hrw HMR hl4 ib3 hX4
   subst hvr
   go_wp2_with (at_builtin; refine wpList_append_w _ rfl _ _ 39 (by rfl) 22 (.slice none 0 0) 24 Tryz.underlying39 info_rows (by rfl) (w.heap.size + 1) (.slice ov0 i oc) (L.map (·.1)) (by rfl) HON.out HBB.out ⟨w4.heap.size, 0, none⟩ 1 (.slice vsa (wd + 1) vsc) (by rfl) HNW.out H3.out i H4.out (by omega) (by omega) ?_)
   intro v' w5 ho5 hg5 hv5
   have HR5 := Kept.mk (HW4.out.push HM4.out HNE.out ho5 hg5 (by simpa using hv5))
   have hown := HON.out.own
   have HB5 := Kept.mk (HX5.out.grown hg5 (fun j hj => (hown j hj).1))
   clear ho5 hg5 hv5 hown
   go_wp2
   go_roundw
   case rel => exact ⟨i + 1, L ++ [(.slice vsa (wd + 1) vsc, xs ++ [(y : Int)])], by omega, by go_num, by simp [hll], ⟨by rw [HL.out, List.map_append]; rfl⟩, HR5, HB5⟩
   case measure => simp [intOf] <;> omega
  ·obtain rfl : i = n := by omega
   obtain ⟨ov0, oc, rfl, hoc, hom, hsls⟩ := hrw.out.sls
   rw [hll] at hoc ⊢
   rw [<- hat.out] at hsls
   have HSW := Kept.mk (show Sls wr ov0 ((wideM rows bl i).map ints) from hsls)
   have HEC2 := Kept.mk (HE.out ov0 oc wr HSW.out hoc hom)
   obtain ⟨i0, i1, i2, i3⟩ := four_cells hbx.out.b0
   clear hsls hrw hat hlt hik HE hoc hom
   go_wp2_with fail
   refine HEC2.out.mono ?_
   rintro e w2 ⟨hb2, ae, ce, rfl, hce, hme, hse⟩
   have HX2 := Kept.mk (hbx.out.below hb2)
   have HSE := Kept.mk hse
   have hme0 := hme
   unfold maxLen at hme0
   obtain ⟨r, hr⟩ : ∃ r, s.cols.length = r := ⟨_, rfl⟩
   rw [hr] at hce HSE hcl ⊢
   have HRR := Kept.mk hr
   clear hse hr hb2 i0 i1 i2 i3 HEC2 HSW hme
   go_wp2_with (at_make; refine wpList_make_zeros _ rfl _ _ 22 rfl 3 .i64 Tryz.underlying22 info_i64 _ _ wd rfl rfl (by omega) (by omega) (by omega) ?_)
   intro w3 hrow hbel
   rw [FFld.ints_rep] at hrow
   have HW3 := Kept.mk hrow.wv
   have HX3 := Kept.mk (HX2.out.below hbel)
   obtain ⟨g, hg⟩ : ∃ g, w2.heap.size = g := ⟨_, rfl⟩
   have hgl := HX2.out.l1
   rw [hg] at HW3 hgl
   have HB23 := Kept.mk hbel
   have hgz : w2.heap.size <= g := by omega
   clear hrow hbel
   go_wp2
   try rw [hg]
   clear hg
   go_loopw [14] (fun iv wr' => ∃ a : Nat, a <= r /\ iv = .int .i64 a /\ Kept (∀ j, j < a -> s.cols[j]?.getD 0 < wd) /\ Kept (Wv wr' g (solW s wd a)) /\ Kept (Below w2.heap.size w2 wr')) (fun iv _ => r - (intOf iv).toNat)
   case atStart => exact ⟨0, Nat.zero_le _, rfl, ⟨fun j hj => by omega⟩, HW3, HB23⟩
   case round =>
    obtain ⟨a, har, rfl, hcw, hwv, hbw⟩ := hrel
    by_cases hal : a < r
    ·obtain ⟨ge, oe, rv, hae, hge, hcell, hsl⟩ := (HSE.out.below hbw.out) a (by rw [List.length_map, List.length_take, HEO.out.la]; omega)
     subst hae
     rw [take_row hal] at hsl
     have hWW : W = wd + 1 := hW1 (by omega)
     have hrl : (FFld.rowAt s.A a).length = wd + 1 := by rw [<- hWW]; exact (HEO.out.wa.row (by rw [HEO.out.la]; omega)).1
     obtain ⟨q1, q2, q3⟩ := HEC.out.low a (by rw [HRR.out]; exact hal)
     obtain ⟨ci, hci⟩ : ∃ c, s.cols[a]?.getD 0 = c := ⟨_, rfl⟩
     rw [hci] at q1 q2 q3
     have HCI := Kept.mk hci
     obtain ⟨a1, c1, rfl, hc1, hm1⟩ := hsl.form
     have HF := Kept.mk (fun X (hX : Below wr.heap.size wr X) => rfirst_any _ (FFld.rowAt s.A a) ci X (hsl.below hX) (by omega) q3 (by have e : (FFld.rowAt s.A a)[ci]?.getD 0 = 1 := q2; rw [e]; exact Nat.one_ne_zero))
     rw [FFld.ints_len, hrl] at hcell hsl HF hc1
     obtain ⟨y, hy⟩ : ∃ y, FFld.cellAt s.A a wd = y := ⟨_, rfl⟩
     obtain ⟨gb, bo, rfl, ic⟩ := (hsl.cells (Nat.le_refl _)) _ (Below.refl _ _) wd (by rw [hrl]; exact Nat.lt_succ_self _)
     rw [show (FFld.rowAt s.A a)[wd]?.getD 0 = y from hy] at ic
     have HY := Kept.mk hy
     have hci1 : ci <= wd := by omega
     clear hsl hci q1 q2 q3 hrl hWW hy
     go_wp2_with fail
     refine (HF.out _ (Below.refl _ _)).mono ?_
     rintro e w6 ⟨rfl, rfl⟩
     by_cases hcd : ci = wd
     ·subst hcd
      have ecc : ((ci : Int) == (ci : Int)) = true := by simp
      have HXE := Kept.mk (HX2.out.below hbw.out)
      go_wp2
      go_ret2
      exact ⟨HXE.out.1, .inl ⟨a, by rw [HRR.out]; exact hal, HCI.out, rfl⟩⟩
     ·have ecd : ((ci : Int) == (wd : Int)) = false := by rw [beq_eq_false_iff_ne]; omega
      have hcl2 : ci < wd := by omega
      have z3 := hwv.out.free ci
      have t3 := hwv.out.cell (i := ci) (by rw [solW_len]; exact hcl2)
      obtain ⟨u, hu⟩ : ∃ u, (solW s wd a)[ci]?.getD 0 = u := ⟨_, rfl⟩
      rw [hu] at t3
      clear hu
      have HNX : Kept (solW s wd (a + 1) = (solW s wd a).set ci y) := ⟨by simp only [solW]; rw [HCI.out, HY.out]⟩
      have hgs := grow_set wr g ci (.int .i64 (y : Nat))
      have HBW := Kept.mk (hbw.out.grown hgs hbw.out.size (fun k hk => by cases hk; omega))
      have HCW : Kept (∀ j, j < a + 1 -> s.cols[j]?.getD 0 < wd) := ⟨fun j hj => by
       by_cases e : j = a
       ·rw [e, HCI.out]; exact hcl2
       ·exact hcw.out j (by omega)⟩
      have HWV := Kept.mk (hwv.out.set (i := ci) y)
      rw [<- HNX.out] at HWV
      clear hgs hcd
      go_wp2
      go_roundw
      case rel => exact ⟨a + 1, by omega, by go_num, HCW, HWV, HBW⟩
      case measure => simp [intOf] <;> omega
    ·obtain rfl : a = r := by omega
     have HXE := Kept.mk (HX2.out.below hbw.out)
     have HSX := Kept.mk (hwv.out.sl (n := wd) (c := wd) (solW_len s wd a).symm (Nat.le_refl _) (by unfold maxLen; omega))
     go_wp2
     go_ret2
     refine ⟨HXE.out.1, .inr ⟨?_, _, rfl, ?_⟩⟩
     ·rw [HRR.out]; exact hcw.out
     ·rw [HRR.out]; exact HSX.out
end Go.Proofs.YtdnheaafcbihbaaGreat
namespace Go.Proofs.YtdnheaafcbihbaaGreat
namespace FFld
section
variable {α : Type} (F : Dom α)
def lf (W : Nat) (y v : Nat -> α) : α := F.sm (fun c => F.mul (v c) (y c)) W
theorem sm_null : ∀ n, F.sm (fun _ => F.zero) n = F.zero
 | 0 => rfl
 | n + 1 => by
   simp only [Dom.sm]
   rw [sm_null n, F.add_zero]
theorem lf_congr {W : Nat} {y v v' : Nat -> α} (h : ∀ c, c < W -> v c = v' c) : lf F W y v = lf F W y v' := F.sm_congr W fun c hc => by rw [h c hc]
theorem lf_spn {W : Nat} {y v : Nat -> α} {P : (Nat -> α) -> Prop} (h : ∀ v, P v -> lf F W y v = F.zero) (hv : Dom.Spn F W P v) : lf F W y v = F.zero := by
 induction hv with
 | mem v hp => exact h v hp
 | zero v hz =>
   have e : lf F W y v = F.sm (fun _ => F.zero) W := F.sm_congr W fun c hc => by rw [hz c hc, F.zero_mul]
   rw [e, sm_null]
 | add u v w _ _ hw ihu ihv =>
   have e : lf F W y w = F.add (lf F W y u) (lf F W y v) := by
    unfold lf
    rw [<- F.sm_add]
    exact F.sm_congr W fun c hc => by rw [hw c hc, F.add_mul]
   rw [e, ihu, ihv, F.add_zero]
 | mul a u w _ hw ih =>
   have e : lf F W y w = F.mul a (lf F W y u) := by
    unfold lf
    rw [<- F.sm_mul]
    exact F.sm_congr W fun c hc => by rw [hw c hc, F.mul_assoc]
   rw [e, ih, F.mul_zero]
end
section
variable {D : FD} (hD : D.Ok) {M R : List (List Nat)} {wd n N : Nat}
include hD
theorem lf_last (x v : Nat -> El (D.p ^ D.k)) : lf (FD.dom hD.nzd) (wd + 1) (fun c => if c < wd then x c else (FD.dom hD.nzd).neg (FD.dom hD.nzd).one) v = (FD.dom hD.nzd).add ((FD.dom hD.nzd).sm (fun c => (FD.dom hD.nzd).mul (v c) (x c)) wd) ((FD.dom hD.nzd).neg (v wd)) := by
 unfold lf
 simp only [Dom.sm]
 rw [if_neg (Nat.lt_irrefl wd), Dom.mul_neg, Dom.mul_one, (FD.dom hD.nzd).sm_congr wd (g := fun c => (FD.dom hD.nzd).mul (v c) (x c)) fun c hc => by rw [if_pos hc]]
theorem sol_yes (ho : EOk D (wd + 1) n N ⟨M, R, []⟩) (h : ∀ i, i < (elimF D hD.pre.pk ⟨M, R, []⟩ (wd + 1)).cols.length -> (elimF D hD.pre.pk ⟨M, R, []⟩ (wd + 1)).cols[i]?.getD 0 < wd) :
 ∃ x : Nat -> El (D.p ^ D.k), ∀ i, i < N -> (FD.dom hD.nzd).sm (fun c => (FD.dom hD.nzd).mul (toE hD.pre.pk (cellAt M i c)) (x c)) wd = toE hD.pre.pk (cellAt M i wd) := by
 have hec := Ecf.elim hD (s := ⟨M, R, []⟩) rfl ho (wd + 1) (Nat.le_refl _)
 have hrc := Rcf.elim hD (s := ⟨M, R, []⟩) rfl ho (wd + 1) (Nat.le_refl _)
 have hin := (into_elim hD ho (wd + 1) (Nat.le_refl _)).2
 have hcl := (ho.elim hD.pre.pk (wd + 1)).cl
 obtain ⟨E, hE⟩ : ∃ E, elimF D hD.pre.pk ⟨M, R, []⟩ (wd + 1) = E := ⟨_, rfl⟩
 rw [hE] at hec hrc hin hcl h
 obtain ⟨r, hr⟩ : ∃ r, E.cols.length = r := ⟨_, rfl⟩
 rw [hr] at h hcl
 have hx1 : ∀ k, k < r -> (FD.dom hD.nzd).sm (fun i => if E.cols[i]?.getD 0 = E.cols[k]?.getD 0 then toE hD.pre.pk (cellAt E.A i wd) else (FD.dom hD.nzd).zero) r = toE hD.pre.pk (cellAt E.A k wd) := fun k hk => by
  rw [(FD.dom hD.nzd).sm_one (j := k) r hk fun i hi hne => ?_]
  ·rw [if_pos rfl]
  ·rw [if_neg]
   intro e
   rcases Nat.lt_or_gt_of_ne hne with h1 | h1
   ·have := hrc.mono i k h1 (by omega); omega
   ·have := hrc.mono k i h1 (by omega); omega
 obtain ⟨x, hx⟩ : ∃ x : Nat -> El (D.p ^ D.k), (fun c => (FD.dom hD.nzd).sm (fun i => if E.cols[i]?.getD 0 = c then toE hD.pre.pk (cellAt E.A i wd) else (FD.dom hD.nzd).zero) r) = x := ⟨_, rfl⟩
 have hxp : ∀ k, k < r -> x (E.cols[k]?.getD 0) = toE hD.pre.pk (cellAt E.A k wd) := fun k hk => by rw [<- hx]; exact hx1 k hk
 have hxz : ∀ c, (∀ k, k < r -> E.cols[k]?.getD 0 ≠ c) -> x c = (FD.dom hD.nzd).zero := fun c hc => by
  rw [<- hx]
  have e : (FD.dom hD.nzd).sm (fun i => if E.cols[i]?.getD 0 = c then toE hD.pre.pk (cellAt E.A i wd) else (FD.dom hD.nzd).zero) r = (FD.dom hD.nzd).sm (fun _ => (FD.dom hD.nzd).zero) r := (FD.dom hD.nzd).sm_congr r fun i hi => by rw [if_neg (hc i hi)]
  exact e.trans (sm_null _ r)
 have hrow : ∀ k, k < N -> (FD.dom hD.nzd).sm (fun c => (FD.dom hD.nzd).mul (toE hD.pre.pk (cellAt E.A k c)) (x c)) wd = toE hD.pre.pk (cellAt E.A k wd) := fun k hk => by
  by_cases hkr : k < r
  ·obtain ⟨h1, h2, h3⟩ := hec.low k (by omega)
   rw [(FD.dom hD.nzd).sm_one (j := E.cols[k]?.getD 0) wd (h k hkr) fun c hc hne => ?_]
   ·rw [h2, toE_one hD, Dom.one_mul, hxp k hkr]
   ·by_cases hp : ∃ j, j < r /\ E.cols[j]?.getD 0 = c
    ·obtain ⟨j, hj, rfl⟩ := hp
     rw [hrc.up j (by omega) k hk (fun e => hne (by rw [e])), toE_zero hD, Dom.zero_mul]
    ·rw [hxz c fun j hj e => hp ⟨j, hj, e⟩, Dom.mul_zero]
  ·have hz := hec.zero k (by omega) hk
   rw [hz wd (by omega), toE_zero hD]
   have e : (FD.dom hD.nzd).sm (fun c => (FD.dom hD.nzd).mul (toE hD.pre.pk (cellAt E.A k c)) (x c)) wd = (FD.dom hD.nzd).sm (fun _ => (FD.dom hD.nzd).zero) wd := (FD.dom hD.nzd).sm_congr wd fun c hc => by rw [hz c (by omega), toE_zero hD, Dom.zero_mul]
   exact e.trans (sm_null _ wd)
 refine ⟨x, fun i hi => ?_⟩
 have hl := lf_spn (FD.dom hD.nzd) (W := wd + 1) (y := fun c => if c < wd then x c else (FD.dom hD.nzd).neg (FD.dom hD.nzd).one) (P := RS hD (wd + 1) N E.A) (fun v hv => by
  obtain ⟨k, hk, hvk⟩ := hv
  rw [lf_congr _ hvk, lf_last hD, hrow k hk, Dom.add_neg]) (hin _ ⟨i, hi, fun _ _ => rfl⟩)
 rw [lf_last hD] at hl
 have h2 := (FD.dom hD.nzd).neg_unique ((Dom.add_comm _ _ _).trans hl)
 rw [Dom.neg_neg] at h2
 exact h2
theorem sol_no (ho : EOk D (wd + 1) n N ⟨M, R, []⟩) (x : Nat -> El (D.p ^ D.k)) (hx : ∀ i, i < N -> (FD.dom hD.nzd).sm (fun c => (FD.dom hD.nzd).mul (toE hD.pre.pk (cellAt M i c)) (x c)) wd = toE hD.pre.pk (cellAt M i wd)) :
 ∀ i, i < (elimF D hD.pre.pk ⟨M, R, []⟩ (wd + 1)).cols.length -> (elimF D hD.pre.pk ⟨M, R, []⟩ (wd + 1)).cols[i]?.getD 0 < wd := by
 have hec := Ecf.elim hD (s := ⟨M, R, []⟩) rfl ho (wd + 1) (Nat.le_refl _)
 have hin := (into_elim hD ho (wd + 1) (Nat.le_refl _)).1
 have hcl := (ho.elim hD.pre.pk (wd + 1)).cl
 obtain ⟨E, hE⟩ : ∃ E, elimF D hD.pre.pk ⟨M, R, []⟩ (wd + 1) = E := ⟨_, rfl⟩
 rw [hE] at hec hin hcl ⊢
 intro i hi
 obtain ⟨h1, h2, h3⟩ := hec.low i hi
 apply Classical.byContradiction
 intro hc
 have he : E.cols[i]?.getD 0 = wd := by omega
 rw [he] at h2 h3
 have hl := lf_spn (FD.dom hD.nzd) (W := wd + 1) (y := fun c => if c < wd then x c else (FD.dom hD.nzd).neg (FD.dom hD.nzd).one) (P := RS hD (wd + 1) N M) (fun v hv => by
  obtain ⟨k, hk, hvk⟩ := hv
  rw [lf_congr _ hvk, lf_last hD, hx k hk, Dom.add_neg]) (hin _ ⟨i, by omega, fun _ _ => rfl⟩)
 rw [lf_last hD] at hl
 have e : (FD.dom hD.nzd).sm (fun c => (FD.dom hD.nzd).mul (toE hD.pre.pk (cellAt E.A i c)) (x c)) wd = (FD.dom hD.nzd).sm (fun _ => (FD.dom hD.nzd).zero) wd := (FD.dom hD.nzd).sm_congr wd fun c hc => by rw [h3 c hc, toE_zero hD, Dom.zero_mul]
 rw [e, sm_null, Dom.zero_add, h2, toE_one hD] at hl
 have h4 := (FD.dom hD.nzd).add_neg (FD.dom hD.nzd).one
 rw [hl, Dom.add_zero] at h4
 exact (FD.dom hD.nzd).one_ne h4
end
end FFld
end Go.Proofs.YtdnheaafcbihbaaGreat
namespace Go.Proofs.YtdnheaafcbihbaaGreat
open Go Go.RowKit
abbrev BW : Int := 18446744073709551616
theorem wfD {xs : List Int} (h : Dg.Wf BW xs) (i : Nat) : 0 <= xs[i]?.getD 0 /\ xs[i]?.getD 0 < 18446744073709551616 := h.getD (by decide) i
theorem info_u64 : (Tryz.prog.info? 165).map (fun i => (i.zero, i.size, i.bytes)) = some (some (.int .u64 0), 1, 8) := by kernel_rfl
theorem add64 (x y c : Int) (hx : 0 <= x) (hx1 : x < 18446744073709551616) (hy : 0 <= y) (hy1 : y < 18446744073709551616) (hc0 : 0 <= c) (hc : c <= 1) :
 ∃ s k : Int, (∀ w : World, (callFunc 238 #[.int .u64 x, .int .u64 y, .int .u64 c]).run Tryz.prog w = .ok (.value (.tuple #[.int .u64 s, .int .u64 k])) w) /\
   0 <= s /\ s < 18446744073709551616 /\ 0 <= k /\ k <= 1 /\ x + y + c = s + 18446744073709551616 * k := by
 refine ⟨(x + y + c) % 18446744073709551616, (x + y + c) / 18446744073709551616, fun w => ?_, by omega, by omega, by omega, by omega, by omega⟩
 rw [run_callFunc_extern Tryz.func238 (by kernel_rfl) (by kernel_rfl) (by kernel_rfl) (e := add64Entry) (by kernel_rfl), run_add64 x y c hx hy hc0 hc]
 rfl
def sub64Entry : Array Value -> Sem Value := fun args => do
 let (x, y, b) <- Extern.MathBitsCarry.three "Sub64" args
 pure (Extern.MathBitsCarry.pair ((x + Extern.MathBitsCarry.m64 - y - b) % Extern.MathBitsCarry.m64) (if x < y + b then 1 else 0))
theorem run_sub64 {P : Program} (x y b : Nat) (hb : b <= 1) (w : World) :
 (sub64Entry #[.int .u64 x, .int .u64 y, .int .u64 b]).run P w =
   .ok (.tuple #[.int .u64 (((x + 18446744073709551616 - y - b) % 18446744073709551616 : Nat) : Int), .int .u64 ((if x < y + b then 1 else 0 : Nat) : Int)]) w := by
 have : b = 0 \/ b = 1 := by omega
 rcases this with rfl | rfl <;> rfl
theorem sub64 (x y c : Int) (hx : 0 <= x) (hx1 : x < 18446744073709551616) (hy : 0 <= y) (hy1 : y < 18446744073709551616) (hc0 : 0 <= c) (hc : c <= 1) :
 ∃ s k : Int, (∀ w : World, (callFunc 240 #[.int .u64 x, .int .u64 y, .int .u64 c]).run Tryz.prog w = .ok (.value (.tuple #[.int .u64 s, .int .u64 k])) w) /\
   0 <= s /\ s < 18446744073709551616 /\ 0 <= k /\ k <= 1 /\ x - y - c = s - 18446744073709551616 * k := by
 obtain ⟨x, rfl⟩ := Int.eq_ofNat_of_zero_le hx
 obtain ⟨y, rfl⟩ := Int.eq_ofNat_of_zero_le hy
 obtain ⟨c, rfl⟩ := Int.eq_ofNat_of_zero_le hc0
 refine ⟨((x + 18446744073709551616 - y - c) % 18446744073709551616 : Nat), ((if x < y + c then 1 else 0 : Nat) : Int), fun w => ?_, by omega, by omega, by split <;> omega, by split <;> omega, by split <;> omega⟩
 rw [run_callFunc_extern Tryz.func240 (by kernel_rfl) (by kernel_rfl) (by kernel_rfl) (e := sub64Entry) (by kernel_rfl), run_sub64 x y c (by omega)]
 rfl
theorem wordAt_in (b o n cap : Nat) (k : Nat) (x : Int) (w : World) (hk : k < n) (hc : w.cell? ⟨b, o + k, none⟩ = some (.int .u64 x)) :
 Calls Tryz.prog 239 #[.slice (some ⟨b, o, none⟩) n cap, .int .i64 k] w fun e w' => e = .returned (.int .u64 x) /\ w = w' := by
 go_enter Tryz.func239, Tryz.ntmps239
 go_wp2
 go_ret
 exact ⟨rfl, rfl⟩
theorem wordAt_out (ao : Option Addr) (n cap : Nat) (k : Nat) (w : World) (hk : n <= k) :
 Calls Tryz.prog 239 #[.slice ao n cap, .int .i64 k] w fun e w' => e = .returned (.int .u64 0) /\ w = w' := by
 go_enter Tryz.func239, Tryz.ntmps239
 go_wp2
 go_ret
 exact ⟨rfl, rfl⟩
theorem wordAt_any {v : Value} {xs : List Int} {w : World} (h : Sl .u64 w v xs) (k : Nat) (x : Int) (hx : Hid (x = xs[k]?.getD 0)) :
 Calls Tryz.prog 239 #[v, .int .i64 k] w fun e w' => e = .returned (.int .u64 x) /\ w = w' := by
 obtain ⟨ao, cap, rfl, hcap, hmax, hc⟩ := h
 by_cases hk : k < xs.length
 ·obtain ⟨b, o, rfl, hb, hcell⟩ := hc k hk
  rw [<- hx.out] at hcell
  exact wordAt_in b o _ cap k x w hk hcell
 ·have : x = 0 := by rw [hx.out]; simp [hk]
  subst this
  exact wordAt_out ao _ cap k w (by omega)
theorem Sl.cut_of {K : IntKind} {w : World} {ao : Option Addr} {xs : List Int} {k : Nat} (hk : k <= xs.length) (hm : xs.length <= maxLen)
 (hx : ∀ i, i < xs.length -> ∃ b o, ao = some ⟨b, o, none⟩ /\ b < w.heap.size /\ w.cell? ⟨b, o + i, none⟩ = some (.int K (xs[i]?.getD 0))) : Sl K w (.slice ao k k) (xs.take k) := by
 refine ⟨ao, k, by simp [Nat.min_eq_left hk], by simp [Nat.min_eq_left hk], Nat.le_trans hk hm, fun i hi => ?_⟩
 have hi' : i < k := by simpa [Nat.min_eq_left hk] using hi
 obtain ⟨b, o, e, hl, hcell⟩ := hx i (by omega)
 exact ⟨b, o, e, hl, by rw [hcell, List.getElem?_take, if_pos hi']⟩
theorem cut_any (v : Value) (xs : List Int) (w : World) (h : Sl .u64 w v xs) :
 Calls Tryz.prog 196 #[v] w (RetSame .u64 w v (Dg.cut xs)) := by
 obtain ⟨ao, cap, rfl, hcap, hmax, hc⟩ := h
 have hmax' := hmax
 unfold maxLen at hmax
 go_enter Tryz.func196, Tryz.ntmps196
 go_wp2
 go_loop [3] (fun n => ∃ k : Nat, k <= xs.length /\ n = .int .i64 k /\ Hid (∀ i, k <= i -> xs[i]?.getD 0 = 0)) (fun n => (intOf n).toNat)
 case atStart => exact ⟨xs.length, Nat.le_refl _, rfl, fun i hi => by simp [hi]⟩
 case round =>
  obtain ⟨k, hk, rfl, hz⟩ := hrel
  by_cases h0 : 0 < k
  ·obtain ⟨b, o, rfl, hb, hcell⟩ := hc (k-1) (by omega)
   obtain ⟨k, rfl⟩ : ∃ j, k = j+1 := ⟨k - 1, by omega⟩
   obtain ⟨x, hx⟩ : ∃ x, x = xs[k]?.getD 0 := ⟨_, rfl⟩
   simp only [Nat.add_sub_cancel] at hcell
   rw [<- hx] at hcell
   have HX := Lib.hid hx
   clear hx
   go_wp2
   ·have h1 : (x == 0) = true := by assumption
    refine ⟨⟨k, by omega, rfl, fun i hi => ?_⟩, by simp [intOf]⟩
    by_cases e : i = k
    ·rw [e, <- HX.out]; simpa using h1
    ·exact hz.out i (by omega)
   ·have h1 : (x == 0) = false := by assumption
    go_ret
    refine ⟨rfl, _, rfl, ?_⟩
    rw [Dg.cut_eq xs (k + 1) hz.out (Or.inr (by simpa [<- HX.out] using h1))]
    exact ⟨Sl.cut_of hk (Nat.le_trans hcap hmax') hc, fun k h => h⟩
  ·obtain rfl : k = 0 := by omega
   go_wp2
   go_ret
   refine ⟨rfl, _, rfl, ?_⟩
   rw [Dg.cut_eq xs 0 hz.out (Or.inl rfl)]
   exact ⟨Sl.nil _ _, fun k h => by simp [Value.ownBlock] at h⟩
def Num (L : Nat) (w : World) (v : Value) (n : Int) : Prop := ∃ xs, Sl .u64 w v xs /\ Dg.Wf BW xs /\ Dg.Nz xs /\ Dg.val BW xs = n /\ xs.length <= L
def RetNum (L : Nat) (w : World) (n : Int) (e : Ending) (w' : World) : Prop := Below w.heap.size w w' /\ ∃ v', e = .returned v' /\ Num L w' v' n /\ Frm w.heap.size v'
theorem Num.below {L : Nat} {w w' : World} {v : Value} {n : Int} (h : Num L w v n) (hb : Below w.heap.size w w') : Num L w' v n :=
 let ⟨xs, h1, h2⟩ := h; ⟨xs, h1.below hb, h2⟩
theorem Num.mono {L L' : Nat} {w : World} {v : Value} {n : Int} (h : Num L w v n) (hL : L <= L') : Num L' w v n :=
 let ⟨xs, h1, h2, h3, h4, h5⟩ := h; ⟨xs, h1, h2, h3, h4, Nat.le_trans h5 hL⟩
theorem cut_num {v : Value} {xs : List Int} {w : World} (h : Sl .u64 w v xs) (hw : Dg.Wf BW xs) :
 Calls Tryz.prog 196 #[v] w fun e w' => ∃ v', e = .returned v' /\ w = w' /\ Num xs.length w v' (Dg.val BW xs) /\ ∀ k, v'.ownBlock = some k -> v.ownBlock = some k :=
 (cut_any v xs w h).mono fun e w' ⟨hw', v', he, hs, ho⟩ => ⟨v', he, hw', ⟨Dg.cut xs, hs, hw.cut, Dg.nz_cut xs, Dg.val_cut BW xs, Dg.cut_len xs⟩, ho⟩
def SumAt (xs ys zs : List Int) (k : Nat) (c : Int) : Prop := zs.length = xs.length + 1 /\ Dg.Wf BW zs /\ 0 <= c /\ c <= 1 /\
 Dg.val BW (zs.take k) + c * BW ^ k = Dg.val BW (xs.take k) + Dg.val BW (ys.take k) /\ ∀ i, k <= i -> zs[i]?.getD 0 = 0
theorem SumAt.start (xs ys : List Int) : SumAt xs ys (List.replicate (xs.length + 1) 0) 0 0 :=
 ⟨by simp, Dg.Wf.zeros (by decide) _, by decide, by decide, by simp [Dg.val], fun i _ => by simp [List.getElem?_replicate]; split <;> rfl⟩
theorem SumAt.next {xs ys zs : List Int} {k : Nat} {c x y s d : Int} (h : SumAt xs ys zs k c) (hk : k < xs.length) (hx : x = xs[k]?.getD 0) (hy : y = ys[k]?.getD 0)
 (s0 : 0 <= s) (s1 : s < BW) (d0 : 0 <= d) (d1 : d <= 1) (he : x + y + c = s + BW * d) : SumAt xs ys (zs.set k s) (k + 1) d := by
 obtain ⟨hl, hw, c0, c1, hv, hz⟩ := h
 refine ⟨by simpa using hl, hw.set k s0 s1, d0, d1, ?_, fun i hi => by rw [List.getElem?_set_ne (by omega)]; exact hz i (by omega)⟩
 rw [Dg.take_set_succ zs k s (by omega), Dg.val_append, Dg.val_one, Dg.val_take_succD, Dg.val_take_succD, <- hx, <- hy, Int.pow_succ]
 have : (zs.take k).length = k := by simp; omega
 rw [this]
 exact Dg.step_sum hv he
theorem SumAt.done {xs ys zs : List Int} {c : Int} (h : SumAt xs ys zs xs.length c) (hy : ys.length <= xs.length) :
 Dg.Wf BW (zs.set xs.length c) /\ Dg.val BW (zs.set xs.length c) = Dg.val BW xs + Dg.val BW ys := by
 obtain ⟨hl, hw, c0, c1, hv, hz⟩ := h
 refine ⟨hw.set _ c0 (by unfold BW; omega), ?_⟩
 rw [Dg.set_last zs _ c hl, Dg.val_append, Dg.val_one]
 have : (zs.take xs.length).length = xs.length := by simp; omega
 rw [this]
 rw [List.take_of_length_le (Nat.le_refl _), List.take_of_length_le hy] at hv
 rw [<- hv, Int.mul_comm]
theorem tquietSame {P : Program} {f : FuncId} {args : Array Value} {w : World} {n : Nat} {v : Value}
 (h : Calls P f args (w.drewN n) fun e w' => e = .returned v /\ w.drewN n = w') : Calls P f args (w.drewN n) fun e w'' => e = .returned v /\ ∃ m, w'' = w.drewN m :=
 h.mono fun _ _ ⟨he, hm⟩ => ⟨he, n, hm.symm⟩
theorem cmpInt_any (x y : Int) (w : World) :
 Calls Tryz.prog 200 #[.int .i64 x, .int .i64 y] w fun e w' => e = .returned (.int .i64 (Dg.sg x y)) /\ w = w' := by
 rcases Int.lt_trichotomy x y with h | rfl | h
 ·go_enter Tryz.func200, Tryz.ntmps200
  go_wp2
  go_ret
  exact ⟨by rw [Dg.sg_lt h]; rfl, rfl⟩
 ·go_enter Tryz.func200, Tryz.ntmps200
  go_wp2
  go_ret
  exact ⟨by rw [Dg.sg_eq]; rfl, rfl⟩
 ·go_enter Tryz.func200, Tryz.ntmps200
  go_wp2
  go_ret
  exact ⟨by rw [Dg.sg_gt h]; rfl, rfl⟩
theorem cmpWord_any (x y : Int) (w : World) :
 Calls Tryz.prog 201 #[.int .u64 x, .int .u64 y] w fun e w' => e = .returned (.int .i64 (Dg.sg x y)) /\ w = w' := by
 rcases Int.lt_trichotomy x y with h | rfl | h
 ·go_enter Tryz.func201, Tryz.ntmps201
  go_wp2
  go_ret
  exact ⟨by rw [Dg.sg_lt h]; rfl, rfl⟩
 ·go_enter Tryz.func201, Tryz.ntmps201
  go_wp2
  go_ret
  exact ⟨by rw [Dg.sg_eq]; rfl, rfl⟩
 ·go_enter Tryz.func201, Tryz.ntmps201
  go_wp2
  go_ret
  exact ⟨by rw [Dg.sg_gt h]; rfl, rfl⟩
def RetV (w : World) (v : Value) (e : Ending) (w' : World) : Prop := Below w.heap.size w w' /\ e = .returned v
theorem compare_eqlen {va vb : Value} {xs ys : List Int} {w : World} (ha : Sl .u64 w va xs) (hb : Sl .u64 w vb ys) (hwa : Dg.Wf BW xs) (hwb : Dg.Wf BW ys) (hl : ys.length = xs.length) :
 Calls Tryz.prog 142 #[va, vb] w (RetV w (.int .i64 (Dg.sg (Dg.val BW xs) (Dg.val BW ys)))) := by
 obtain ⟨ao, cap, rfl, hcap, hmax, hc⟩ := ha
 obtain ⟨bo, bcap, rfl, hbcap, hbmax, hbc⟩ := hb
 unfold maxLen at hmax hbmax
 rw [hl] at hbcap ⊢
 have HL := Lib.hid hl
 simp only [hl] at hbc
 clear hl
 have hz : (Dg.sg (xs.length : Int) xs.length) = 0 := Dg.sg_eq _
 go_enter Tryz.func142, Tryz.ntmps142
 go_wp2_with (go_at_call 200; refine (cmpInt_any _ _ _).mono ?_; rintro e w' ⟨rfl, rfl⟩)
 go_loopw [6] (fun i wr => ∃ (k : Nat) (j : Int), k <= xs.length /\ Hid (j + 1 = k) /\ i = .int .i64 j /\ Hid (xs.drop k = ys.drop k) /\ Below w.heap.size w wr) (fun i _ => (intOf i + 1).toNat)
 case atStart => exact ⟨xs.length, _, Nat.le_refl _, by show _ - (1 : Int) + 1 = _; omega, rfl, by show xs.drop xs.length = ys.drop xs.length; rw [<- HL.out]; simp [HL.out], Below.refl _ _⟩
 case round =>
  obtain ⟨k, j, hk, hj, rfl, hd, hbl⟩ := hrel
  by_cases h0 : 0 < k
  ·obtain ⟨k, rfl⟩ : ∃ j, k = j+1 := ⟨k - 1, by omega⟩
   obtain rfl : j = (k : Int) := by have := hj.out; omega
   clear hj
   obtain ⟨b, o, rfl, hbs, hcell⟩ := hc k (by omega)
   obtain ⟨b', o', rfl, hbs', hcell'⟩ := hbc k (by omega)
   obtain ⟨x, hx⟩ : ∃ x, x = xs[k]?.getD 0 := ⟨_, rfl⟩
   obtain ⟨y, hy⟩ : ∃ y, y = ys[k]?.getD 0 := ⟨_, rfl⟩
   rw [<- hx] at hcell
   rw [<- hy] at hcell'
   have HX := Lib.hid hx
   have HY := Lib.hid hy
   clear hx hy
   have hcl := (hbl.cell (p := ⟨b, o + k, none⟩) hbs).trans hcell
   have hcl' := (hbl.cell (p := ⟨b', o' + k, none⟩) hbs').trans hcell'
   clear hcell hcell' hc hbc
   have hbd : ∀ q, Below w.heap.size w (wr.drewN q) := fun q => ⟨hbl.os, hbl.tape, hbl.output, hbl.size, hbl.block⟩
   have hki : k < xs.length := by omega
   rcases Int.lt_trichotomy x y with h | h | h
   ·have hs := Dg.sg_lt h
    go_wp2_with fail
    go_quiet ((go_at_call 201; exact tquietSame (cmpWord_any _ _ _)))
    go_wp2
    go_ret
    refine ⟨hbd _, ?_⟩
    rw [Dg.sg_lt (Dg.val_lt_at (by decide) hwa hwb HL.out.symm (k := k) (by omega) hd.out (by rw [<- HX.out, <- HY.out]; exact h))]
    show Ending.returned (.int .i64 (Dg.sg x y)) = _
    rw [hs]
   ·subst h
    have hs := Dg.sg_eq x
    go_wp2_with fail
    go_quiet ((go_at_call 201; exact tquietSame (cmpWord_any _ _ _)))
    go_wp2
    go_roundw
    case rel => exact ⟨k, (k : Int) - 1, by omega, by show _ - (1 : Int) + 1 = _; omega, rfl, Dg.drop_eq_at HL.out.symm hd.out (by rw [<- HX.out, <- HY.out]), hbd _⟩
    case measure => simp [intOf] <;> omega
   ·have hs := Dg.sg_gt h
    go_wp2_with fail
    go_quiet ((go_at_call 201; exact tquietSame (cmpWord_any _ _ _)))
    go_wp2
    go_ret
    refine ⟨hbd _, ?_⟩
    rw [Dg.sg_gt (Dg.val_lt_at (by decide) hwb hwa HL.out (k := k) (by have := HL.out; omega) hd.out.symm (by rw [<- HX.out, <- HY.out]; exact h))]
    show Ending.returned (.int .i64 (Dg.sg x y)) = _
    rw [hs]
  ·obtain rfl : k = 0 := by omega
   obtain rfl : j = -1 := by have := hj.out; omega
   have he : xs = ys := by simpa using hd.out
   have hs : Dg.sg (Dg.val BW xs) (Dg.val BW ys) = 0 := by rw [he]; exact Dg.sg_eq _
   have HS := Lib.hid hs
   clear hj hd he hs
   go_wp2
   go_ret
   exact ⟨hbl, by rw [HS.out]; rfl⟩
theorem compare_any {va vb : Value} {xs ys : List Int} {w : World} (ha : Sl .u64 w va xs) (hb : Sl .u64 w vb ys) (hwa : Dg.Wf BW xs) (hwb : Dg.Wf BW ys) (hna : Dg.Nz xs) (hnb : Dg.Nz ys) :
 Calls Tryz.prog 142 #[va, vb] w (RetV w (.int .i64 (Dg.sg (Dg.val BW xs) (Dg.val BW ys)))) := by
 rcases Nat.lt_trichotomy xs.length ys.length with h | h | h
 ·have hs : Dg.sg (xs.length : Int) ys.length = -1 := Dg.sg_lt (by omega)
  have hv : Dg.sg (Dg.val BW xs) (Dg.val BW ys) = -1 := Dg.sg_lt (Dg.val_lt_of_len (by decide) hwa hwb hnb h)
  obtain ⟨ao, cap, rfl, hcap, hmax, hc⟩ := ha
  obtain ⟨bo, bcap, rfl, hbcap, hbmax, hbc⟩ := hb
  have HV := Lib.hid hv
  clear hv
  go_enter Tryz.func142, Tryz.ntmps142
  go_wp2_with (go_at_call 200; refine (cmpInt_any _ _ _).mono ?_; rintro e w' ⟨rfl, rfl⟩)
  go_ret
  exact ⟨Below.refl _ _, by rw [HV.out]; rfl⟩
 ·exact compare_eqlen ha hb hwa hwb h.symm
 ·have hs : Dg.sg (xs.length : Int) ys.length = 1 := Dg.sg_gt (by omega)
  have hv : Dg.sg (Dg.val BW xs) (Dg.val BW ys) = 1 := Dg.sg_gt (Dg.val_lt_of_len (by decide) hwb hwa hna h)
  obtain ⟨ao, cap, rfl, hcap, hmax, hc⟩ := ha
  obtain ⟨bo, bcap, rfl, hbcap, hbmax, hbc⟩ := hb
  have HV := Lib.hid hv
  clear hv
  go_enter Tryz.func142, Tryz.ntmps142
  go_wp2_with (go_at_call 200; refine (cmpInt_any _ _ _).mono ?_; rintro e w' ⟨rfl, rfl⟩)
  go_ret
  exact ⟨Below.refl _ _, by rw [HV.out]; rfl⟩
theorem compare_num {La Lb : Nat} {va vb : Value} {m n : Int} {w : World} (ha : Num La w va m) (hb : Num Lb w vb n) :
 Calls Tryz.prog 142 #[va, vb] w (RetV w (.int .i64 (Dg.sg m n))) := by
 obtain ⟨xs, h1, h2, h3, rfl, _⟩ := ha
 obtain ⟨ys, k1, k2, k3, rfl, _⟩ := hb
 exact compare_any h1 k1 h2 k2 h3 k3
def Two (x y : Int) (c : Int) (w : World) (e : Ending) (w' : World) : Prop := ∃ h l : Int, e = .returned (.tuple #[.int .u64 h, .int .u64 l]) /\ w = w' /\
 0 <= h /\ h < 18446744073709551616 /\ 0 <= l /\ l < 18446744073709551616 /\ x * y + c = h * 18446744073709551616 + l
theorem mul64 (x y : Int) (w : World) (hx : 0 <= x) (hx1 : x < 18446744073709551616) (hy : 0 <= y) (hy1 : y < 18446744073709551616) :
 Calls Tryz.prog 261 #[.int .u64 x, .int .u64 y] w (Two x y 0 w) := by
 obtain ⟨x, rfl⟩ := Int.eq_ofNat_of_zero_le hx
 obtain ⟨y, rfl⟩ := Int.eq_ofNat_of_zero_le hy
 refine (Go.Proofs.Tryz.bits_Mul64 x y (by omega) (by omega) w).mono fun e w' ⟨he, hw⟩ => ?_
 have hb := Dg.mul_bound (B := 18446744073709551616) hx hx1 hy hy1
 have hp : 0 <= (x : Int) * y := Int.mul_nonneg hx hy
 refine ⟨_, _, he, hw.symm, by omega, ?_, by omega, by omega, ?_⟩
 ·have : (x * y : Nat) / 18446744073709551616 < 18446744073709551616 := by
   apply Nat.div_lt_of_lt_mul
   have : ((x * y : Nat) : Int) = x * y := Int.natCast_mul _ _
   omega
  omega
 ·have e1 : ((x * y : Nat) : Int) = x * y := Int.natCast_mul _ _
  have := Nat.div_add_mod (x * y) 18446744073709551616
  omega
theorem mulAdd (x y c : Int) (w : World) (hx : 0 <= x) (hx1 : x < 18446744073709551616) (hy : 0 <= y) (hy1 : y < 18446744073709551616) (hc : 0 <= c) (hc1 : c < 18446744073709551616) :
 Calls Tryz.prog 259 #[.int .u64 x, .int .u64 y, .int .u64 c] w (Two x y c w) := by
 have hbd := Dg.mul_bound (B := 18446744073709551616) hx hx1 hy hy1
 have HB := Lib.hid hbd
 clear hbd
 go_enter Tryz.func259, Tryz.ntmps259
 go_wp2_with fail
 refine (mul64 x y _ hx hx1 hy hy1).mono ?_
 rintro e w' ⟨h, l, rfl, rfl, h0, h1, l0, l1, hv⟩
 obtain ⟨s, k, hadd, s0, s1, k0, k1, hs⟩ := add64 l c 0 l0 l1 hc hc1 (by omega) (by omega)
 have hkb : h + k <= 18446744073709551615 := by have := HB.out; omega
 have HV := Lib.hid hv
 have HS := Lib.hid hs
 clear hv hs
 go_wp2
 go_ret2
 exact ⟨_, _, rfl, rfl, by omega, by omega, s0, s1, by have := HV.out; have := HS.out; omega⟩
theorem tgrowRefl (w : World) (r : Option Nat) : w.grownBy w r := ⟨rfl, rfl, rfl, Nat.le_refl _, fun _ _ _ => rfl⟩
theorem tgrowTrans {a b c : World} {r : Option Nat} (h : a.grownBy b r) (k : b.grownBy c r) : a.grownBy c r :=
 ⟨k.os.trans h.os, k.tape.trans h.tape, k.output.trans h.output, Nat.le_trans h.size k.size, fun i hi hne => (k.block i (Nat.lt_of_lt_of_le hi h.size) hne).trans (h.block i hi hne)⟩
theorem tgrowSet {w w' : World} {g : Nat} (h : w.grownBy w' (some g)) (i : Nat) (v : Value) : w.grownBy (w'.setCell ⟨g, i, none⟩ v) (some g) :=
 tgrowTrans h ⟨rfl, rfl, rfl, by simp [World.setCell], fun k _ hk => heap_setCell_other w' ⟨g, i, none⟩ k v (fun e => hk (by rw [e]))⟩
theorem tgrowBelow {w w' : World} {r : Option Nat} (h : Below w.heap.size w w') : w.grownBy w' r := ⟨h.os, h.tape, h.output, h.size, fun i hi _ => h.block i hi⟩
theorem tbelowGrow {w0 w w' : World} {g : Nat} (h : w.grownBy w' (some g)) (hb : Below w0.heap.size w0 w) (hg : w0.heap.size <= g) : Below w0.heap.size w0 w' :=
 hb.grown h hb.size (fun k hk => by cases hk; exact hg)
def AmAt (M us M' : List Int) (f : Int) (k : Nat) (c : Int) : Prop := M'.length = M.length /\ Dg.Wf BW M' /\ 0 <= c /\ c < 18446744073709551616 /\
 Dg.val BW (M'.take k) + c * BW ^ k = Dg.val BW (M.take k) + f * Dg.val BW (us.take k) /\ ∀ i, k <= i -> M'[i]?.getD 0 = M[i]?.getD 0
theorem AmAt.start {M : List Int} (hM : Dg.Wf BW M) (us : List Int) (f : Int) : AmAt M us M f 0 0 := ⟨rfl, hM, by decide, by decide, by simp [Dg.val], fun _ _ => rfl⟩
theorem AmAt.next {M us M' : List Int} {f : Int} {k : Nat} {c x m h l s d : Int} (H : AmAt M us M' f k c) (hk : k < M.length) (hx : x = us[k]?.getD 0) (hm : m = M'[k]?.getD 0)
 (he : x * f + c = h * 18446744073709551616 + l) (hs : m + l + 0 = s + 18446744073709551616 * d) (s0 : 0 <= s) (s1 : s < 18446744073709551616) (d0 : 0 <= h + d) (d1 : h + d < 18446744073709551616) :
 AmAt M us (M'.set k s) f (k + 1) (h + d) := by
 obtain ⟨hl, hw, c0, c1, hv, hz⟩ := H
 refine ⟨by simpa using hl, hw.set k s0 s1, d0, d1, ?_, fun i hi => by rw [List.getElem?_set_ne (by omega)]; exact hz i (by omega)⟩
 rw [Dg.take_set_succ M' k s (by omega), Dg.val_append, Dg.val_one, Dg.val_take_succD, Dg.val_take_succD, <- hx, <- hz k (Nat.le_refl _), <- hm, Int.pow_succ]
 have : (M'.take k).length = k := by simp; omega
 rw [this]
 exact Dg.step_mul hv he (by rw [Int.add_zero] at hs; exact hs)
theorem AmAt.done {M us M' : List Int} {f c : Int} (H : AmAt M us M' f us.length c) (hl : M.length = us.length) : Dg.val BW M' + c * BW ^ us.length = Dg.val BW M + f * Dg.val BW us := by
 obtain ⟨hl', hw, c0, c1, hv, hz⟩ := H
 rw [List.take_of_length_le (by omega), List.take_of_length_le (by omega), List.take_of_length_le (Nat.le_refl _)] at hv
 exact hv
def AmRet (w : World) (g : Nat) (P M S us : List Int) (f : Int) (e : Ending) (w' : World) : Prop :=
 ∃ (c : Int) (M' : List Int), e = .returned (.int .u64 c) /\ Row 165 .u64 w' g (P ++ M' ++ S) /\ w.grownBy w' (some g) /\ M'.length = M.length /\ Dg.Wf BW M' /\ 0 <= c /\ c < 18446744073709551616 /\
   Dg.val BW M' + c * BW ^ us.length = Dg.val BW M + f * Dg.val BW us
theorem taddMultiple_any (g cap : Nat) (P M S us : List Int) (va : Value) (f : Int) (w0 w : World) (ha : Sl .u64 w0 va us) (hb0 : Below w0.heap.size w0 w) (hg : w0.heap.size <= g)
 (hr : Row 165 .u64 w g (P ++ M ++ S)) (hM : M.length = us.length) (hwM : Dg.Wf BW M) (hwa : Dg.Wf BW us) (hf : 0 <= f) (hf1 : f < 18446744073709551616) :
 Calls Tryz.prog 242 #[.slice (some ⟨g, P.length, none⟩) us.length cap, va, .int .u64 f] w (AmRet w g P M S us f) := by
 obtain ⟨ao, acap, rfl, hcap, hmax, hc⟩ := ha
 unfold maxLen at hmax
 have HM := Lib.hid hM
 clear hM
 go_enter Tryz.func242, Tryz.ntmps242
 go_wp2
 go_loopw [7, 15] (fun c i wr => ∃ (k : Nat) (cv : Int) (M' : List Int), k <= us.length /\ i = .int .i64 k /\ c = .int .u64 cv /\ Hid (AmAt M us M' f k cv) /\ Row 165 .u64 wr g (P ++ M' ++ S) /\ w.grownBy wr (some g)) (fun _ i _ => us.length - (intOf i).toNat)
 case atStart => exact ⟨0, 0, M, Nat.zero_le _, rfl, rfl, AmAt.start hwM us f, hr, tgrowRefl _ _⟩
 case round =>
  obtain ⟨k, cv, M', hk, rfl, rfl, hat, hrr, hgr⟩ := hrel
  have hz0 : 0 <= cv := hat.out.2.2.1
  have hz1 : cv < 18446744073709551616 := hat.out.2.2.2.1
  by_cases hlt : k < us.length
  ·have hMl : k < M'.length := by have := hat.out.1; have := HM.out; omega
   obtain ⟨b, o, rfl, hbs, hcell⟩ := hc k hlt
   obtain ⟨x, hx⟩ : ∃ x, x = us[k]?.getD 0 := ⟨_, rfl⟩
   obtain ⟨m, hm⟩ : ∃ m, m = M'[k]?.getD 0 := ⟨_, rfl⟩
   have hxb := wfD hwa k
   have hmb := wfD hat.out.2.1 k
   have hcl := ((tbelowGrow hgr hb0 hg).cell (p := ⟨b, o + k, none⟩) hbs).trans hcell
   have hcz := hrr.cell (i := P.length + k) (by simp; omega)
   rw [Dg.mid_get P M' S k hMl, <- hm] at hcz
   have hfz := hrr.free (P.length + k)
   rw [<- hx] at hcl hxb
   rw [<- hm] at hmb
   have HX := Lib.hid hx
   have HMM := Lib.hid hm
   clear hx hm hcell
   have hxf := Lib.hid (Dg.mul_bound (B := 18446744073709551616) hxb.1 hxb.2 hf hf1)
   go_wp2_with fail
   refine (mulAdd x f cv _ hxb.1 hxb.2 hf hf1 hz0 hz1).mono ?_
   rintro e w' ⟨h, l, rfl, rfl, h0, h1, l0, l1, hv⟩
   obtain ⟨s, d, hadd, s0, s1, d0, d1, hs⟩ := add64 m l 0 hmb.1 hmb.2 l0 l1 (by omega) (by omega)
   have hkb : h + d <= 18446744073709551615 := by have := hxf.out; omega
   have HV := Lib.hid hv
   have HS := Lib.hid hs
   clear hv hs
   go_wp2
   have hrs := hrr.set (P.length + k) s
   rw [Dg.mid_set P M' S k s hMl] at hrs
   go_roundw
   case rel => exact ⟨k + 1, h + d, M'.set k s, by omega, by go_num, rfl, hat.out.next (by have := HM.out; omega) HX.out HMM.out HV.out HS.out s0 s1 (by omega) (by omega), hrs, tgrowSet hgr _ _⟩
   case measure => simp [intOf] <;> omega
  ·obtain rfl : k = us.length := by omega
   go_wp2
   go_ret
   exact ⟨_, M', rfl, hrr, hgr, hat.out.1, hat.out.2.1, hz0, hz1, hat.out.done HM.out⟩
theorem sum_core (sw : Bool) (va vb : Value) (xs ys : List Int) (w : World) (ha : Sl .u64 w va xs) (hb : Sl .u64 w vb ys) (hwa : Dg.Wf BW xs) (hwb : Dg.Wf BW ys)
 (hle : ys.length <= xs.length) (hlt : sw = true -> ys.length < xs.length) (hmx : xs.length <= 17000000000000) :
 Calls Tryz.prog 194 (if sw then #[vb, va] else #[va, vb]) w (RetNum (xs.length + 1) w (Dg.val BW xs + Dg.val BW ys)) := by
 have hb' := hb
 have ha' := ha
 obtain ⟨ao, cap, rfl, hcap, hmax, hc⟩ := ha
 obtain ⟨bo, bcap, rfl, hbcap, hbmax, hbc⟩ := hb
 unfold maxLen at hmax hbmax
 cases sw
 all_goals
  simp only [if_true, if_false, Bool.false_eq_true, forall_const] at hlt ⊢
  go_enter Tryz.func194, Tryz.ntmps194
  go_wp2_with (at_make; refine wpList_make_zeros _ rfl _ _ 96 rfl 165 .u64 Tryz.underlying96 info_u64 _ _ (xs.length + 1) rfl rfl (by omega) (by omega) (by omega) ?_)
 all_goals
  intro w1 hrow hbel
  go_wp2
  go_loopw [6, 22] (fun c i wr => ∃ (k : Nat) (cv : Int) (zs : List Int), k <= xs.length /\ i = .int .i64 k /\ c = .int .u64 cv /\ Hid (SumAt xs ys zs k cv) /\ Row 165 .u64 wr w.heap.size zs /\ Below w.heap.size w wr) (fun _ i _ => xs.length - (intOf i).toNat)
  case atStart => exact ⟨0, 0, _, Nat.zero_le _, rfl, rfl, SumAt.start xs ys, hrow, hbel⟩
  case round =>
   obtain ⟨k, cv, zs, hk, rfl, rfl, hat, hr, hbl⟩ := hrel
   have hzl : zs.length = xs.length + 1 := hat.out.1
   have hz0 : 0 <= cv := hat.out.2.2.1
   have hz1 : cv <= 1 := hat.out.2.2.2.1
   clear hrow hbel
   by_cases hlt' : k < xs.length
   ·obtain ⟨b, o, rfl, hbs, hcell⟩ := hc k hlt'
    obtain ⟨x, hx⟩ : ∃ x, x = xs[k]?.getD 0 := ⟨_, rfl⟩
    obtain ⟨y, hy⟩ : ∃ y, y = ys[k]?.getD 0 := ⟨_, rfl⟩
    have hxb := wfD hwa k
    have hyb := wfD hwb k
    rw [<- hx] at hcell hxb
    rw [<- hy] at hyb
    have HX := Lib.hid hx
    have HY := Lib.hid hy
    clear hx hy
    have hcl := (hbl.cell (p := ⟨b, o + k, none⟩) hbs).trans hcell
    have hsl := hb'.below hbl
    have hcz := hr.cell (i := k) (by omega)
    have hfz := hr.free k
    obtain ⟨s, d, hadd, hs0, hs1, hd0, hd1, hsd⟩ := add64 x y cv hxb.1 hxb.2 hyb.1 hyb.2 hz0 hz1
    have HSD := Lib.hid hsd
    clear hsd hcell
    go_wp2_with (go_at_call 239; refine (wordAt_any hsl k y HY).mono ?_; rintro e w' ⟨rfl, rfl⟩)
    go_roundw
    case rel => exact ⟨k + 1, d, zs.set k s, by omega, by go_num, rfl, hat.out.next hlt' HX.out HY.out hs0 hs1 hd0 hd1 HSD.out, hr.set k s, hbl.setCell (Nat.le_refl _) _⟩
    case measure => simp [intOf] <;> omega
   ·obtain rfl : k = xs.length := by omega
    have hcz := hr.cell (i := xs.length) (by omega)
    have hfz := hr.free xs.length
    obtain ⟨hdw, hdv⟩ := hat.out.done hle
    have hrs := hr.set xs.length cv
    have hlen : (zs.set xs.length cv).length = xs.length + 1 := by simpa using hzl
    have hSl := hrs.slAll (n := xs.length + 1) (cap := xs.length + 1) hlen.symm (Nat.le_refl _) (by unfold maxLen; omega)
    have hbl2 : Below w.heap.size w (wr.setCell ⟨w.heap.size, xs.length, none⟩ (.int .u64 cv)) := hbl.setCell (Nat.le_refl _) _
    have HL := Lib.hid hlen
    have HV := Lib.hid hdv
    clear hlen hdv hat hzl
    go_wp2_with (go_at_call 196; refine (cut_num hSl hdw).mono ?_; rintro e w' ⟨v', rfl, rfl, hn, hob⟩; have HOB := Lib.hid hob; clear hob)
    go_ret
    rw [HV.out, HL.out] at hn
    exact ⟨hbl2, _, rfl, hn, (Frm.mk (Nat.le_refl _)).of HOB.out⟩
end Go.Proofs.YtdnheaafcbihbaaGreat
