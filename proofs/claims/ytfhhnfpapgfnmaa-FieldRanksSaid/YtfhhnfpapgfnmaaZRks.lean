/-
  Texts of the proof, merged by program: Rks.
-/
import Derived.Test.YtfhhnfpapgfnmaaZRkp
import Derived.Test.YtfhhnfpapgfnmaaZSvc
import Derived.Test.YtfhhnfpapgfnmaaZRws
import Derived.Test.YtfhhnfpapgfnmaaTam
import Derived.Test.YtfhhnfpapgfnmaaZLca
import Derived.Test.YtfhhnfpapgfnmaaZOpl
set_option linter.unusedVariables false
set_option linter.unusedSimpArgs false
namespace Go.Proofs.Ytfhhnfpapgfnmaa
open Go Go.RowKit Go.Deep
open FFld (ints)
/-- Rows and columns exchanged. -/
def trM (m : List (List Nat)) (n wd : Nat) : List (List Nat) := (List.range wd).map (colL m n)
theorem trM_len (m : List (List Nat)) (n wd : Nat) : (trM m n wd).length = wd := by simp [trM]
theorem colL_len (m : List (List Nat)) (n c : Nat) : (colL m n c).length = n := by simp [colL]
theorem trM_wf {D : FFld.FD} (hk : FFld.PK D.p D.k D.m) {m : List (List Nat)} {n wd : Nat} (hw : FFld.Wfm D wd m) : FFld.Wfm D n (trM m n wd) := fun r hr => by
  obtain ⟨c, _, rfl⟩ := List.mem_map.1 hr
  refine ⟨colL_len _ _ _, fun a ha => ?_⟩
  obtain ⟨i, _, rfl⟩ := List.mem_map.1 ha
  exact hw.cell hk i c
theorem trM_cell (m : List (List Nat)) {n wd i c : Nat} (hi : i < n) (hc : c < wd) : FFld.cellAt (trM m n wd) c i = FFld.cellAt m i c := by
  have e : FFld.rowAt (trM m n wd) c = colL m n c := by
    unfold FFld.rowAt trM
    rw [List.getElem?_map, List.getElem?_range hc]
    rfl
  unfold FFld.cellAt
  rw [e]
  exact colL_get m hi
theorem eok_none {D : FFld.FD} {m : List (List Nat)} {n wd : Nat} (hw : FFld.Wfm D wd m) (hN : m.length = n) : FFld.EOk D wd 0 n ⟨m, List.replicate n [], []⟩ := ⟨hN, by simp, hw, fun r hr => by rw [List.eq_of_mem_replicate hr]; simp, by simp⟩
/-- The rank is that of the rows and columns exchanged. -/
theorem rank_eq {D : FFld.FD} (hD : D.Ok) {m : List (List Nat)} {n wd nn : Nat} (hw : FFld.Wfm D wd m) (hN : m.length = n) (h0 : n = 0 → wd = 0) (hn0 : wd = 0 → nn = 0) (hn1 : wd ≠ 0 → nn = n) :
    (FFld.elimF D hD.pre.pk ⟨trM m n wd, List.replicate wd [], []⟩ nn).cols.length = (FFld.elimF D hD.pre.pk ⟨m, List.replicate n [], []⟩ wd).cols.length := by
  by_cases hz : wd = 0
  · rw [hn0 hz, hz]
    rfl
  · rw [hn1 hz]
    have ha := eok_none (D := D) hw hN
    have hb := eok_none (D := D) (trM_wf (n := n) hD.pre.pk hw) (trM_len m n wd)
    exact Nat.le_antisymm (FFld.rank_le hD ha hb fun i c hi hc => trM_cell m hi hc) (FFld.rank_le hD hb ha fun i c hi hc => (trM_cell m hc hi).symm)
/-- The form of the form is the form. -/
theorem form_form {D : FFld.FD} (hD : D.Ok) {m E : List (List Nat)} {n wd r wr : Nat} (hw : FFld.Wfm D wd m) (hN : m.length = n) (hr : (FFld.elimF D hD.pre.pk ⟨m, List.replicate n [], []⟩ wd).cols.length = r)
    (hE : (FFld.elimF D hD.pre.pk ⟨m, List.replicate n [], []⟩ wd).A.take r = E) (h0 : r = 0 → wr = 0) (h1 : r ≠ 0 → wr = wd) :
    (FFld.elimF D hD.pre.pk ⟨E, List.replicate r [], []⟩ wr).cols.length = r ∧ (FFld.elimF D hD.pre.pk ⟨E, List.replicate r [], []⟩ wr).A.take r = E := by
  have ha := eok_none (D := D) hw hN
  have ho := ha.elim hD.pre.pk wd
  have fe := FFld.Ecf.elim hD rfl ha wd (Nat.le_refl _)
  have fr := FFld.Rcf.elim hD rfl ha wd (Nat.le_refl _)
  generalize FFld.elimF D hD.pre.pk ⟨m, List.replicate n [], []⟩ wd = s at *
  have hcl := ho.cl
  have hla := ho.la
  have hEl : E.length = r := by rw [← hE, List.length_take]; omega
  by_cases hz : r = 0
  · rw [h0 hz]
    subst hz
    refine ⟨rfl, ?_⟩
    rw [List.take_zero]
    exact (List.eq_nil_of_length_eq_zero hEl).symm
  · rw [h1 hz]
    have hcell : ∀ i c, i < r → FFld.cellAt E i c = FFld.cellAt s.A i c := fun i c hi => by
      unfold FFld.cellAt FFld.rowAt
      rw [← hE, List.getElem?_take_of_lt hi]
    have hwE : FFld.Wfm D wd E := fun x hx => by
      rw [← hE] at hx
      exact ho.wa x (List.mem_of_mem_take hx)
    obtain ⟨t, R', htr, e, q1, q2⟩ := FFld.elim_again hD (R := List.replicate r []) hwE hEl (by simp) hr
      (fun i hi => by
        obtain ⟨a1, a2, a3⟩ := fe.low i (by omega)
        exact ⟨a1, by rw [hcell i _ hi]; exact a2, fun c' hc' => by rw [hcell i _ hi]; exact a3 c' hc'⟩)
      (fun i hi k hk hne => by rw [hcell k _ hk]; exact fr.up i (by omega) k (by omega) hne)
      (fun i j hij hj => fr.mono i j hij (by omega)) wd (Nat.le_refl _)
    have ht : t = r := by
      apply Classical.byContradiction
      intro hc
      have a1 := q2 t (Nat.le_refl _) (by omega)
      have a2 := (fe.low t (by omega)).1
      omega
    subst ht
    rw [e]
    refine ⟨by simp [hr], ?_⟩
    exact List.take_of_length_le (by show E.length ≤ _; omega)
set_option maxRecDepth 20000 in
set_option maxHeartbeats 8000000 in
theorem fieldRanks_any (order : Int) (ao : Option Addr) (rows : List (List Int)) (cap : Nat) (w : World) (o0 : -9223372036854775808 ≤ order) (o1 : order ≤ 9223372036854775807) (hcap : rows.length ≤ cap) (hmax : cap ≤ maxLen) (hr : Sls w ao rows) (hrb : ∀ l ∈ rows, I64s l) :
    Calls Try.prog 17 #[.int .i64 order, .slice ao rows.length cap] w (RB w (.bool true)) := by
  go_enter Try.func17, Try.ntmps17
  go_wp2_with fail
  refine (some_any order 300 w o0 o1 (by omega) (by omega)).mono ?_
  rintro e w1 ⟨hb1, D, b, hD, hle, hbl, hf, rfl⟩
  have HB1 := Kept.mk hb1
  have HF1 := Kept.mk hf
  have HD := Kept.mk hD
  have hq0 : D.q = D.p ^ D.k := rfl
  have hq6 := hD.pre.small
  have hq1 := hD.pre.pk.one_lt
  rw [← hq0] at hq1
  have hbx : Below w1.heap.size w1 (w1.alloc (rbox D.q D.p D.k D.m)) := (Below.refl _ _).alloc (Nat.le_refl _) _
  obtain ⟨i0, i1, i2, i3⟩ := four_cells (heap_alloc_new w1 (rbox D.q D.p D.k D.m))
  have HX := Kept.mk hbx
  have hns : w1.heap.size < (w1.alloc (rbox D.q D.p D.k D.m)).heap.size := by simp
  have HR := Kept.mk ((hr.below hb1).below hbx)
  have HTM := Kept.mk (fun W (hW : Sls W ao rows) => tame_any hD ao rows cap 8 W hcap hmax hW hrb (by omega))
  clear hb1 hf hD hbx hq0 hr hrb
  have HF := Kept.mk (HF1.out.below HX.out)
  have HB := Kept.mk (bstep HB1.out HX.out)
  clear HF1 HB1
  go_wp2_with fail
  refine (HTM.out _ HR.out).mono ?_
  rintro e w2 ⟨hb2, vm, L, rfl, hrw, hLm⟩
  obtain ⟨am, cm, rfl, hcm, hmm, hsls⟩ := hrw.sls
  rw [hLm] at hsls
  obtain ⟨n, hn⟩ : ∃ n, L.length = n := ⟨_, rfl⟩
  have hmn : (tamM D rows 8).length = n := by
    have e := congrArg List.length hLm
    rw [List.length_map, List.length_map] at e
    rw [← e, hn]
  have hn8 : n ≤ 8 := by rw [← hmn, tamM_len]; omega
  have hn0 : n = 0 → min (rlen rows 0) 8 = 0 := fun h => by
    have : rows.length = 0 := by rw [tamM_len] at hmn; omega
    rw [rlen_zero this]; rfl
  have hwd : min (rlen rows 0) 8 ≤ 8 := by omega
  have hwf : FFld.Wfm D (min (rlen rows 0) 8) (tamM D rows 8) := tamM_wf (by omega) rows 8
  rw [hn] at hcm ⊢
  obtain ⟨m, hm⟩ : ∃ m, tamM D rows 8 = m := ⟨_, rfl⟩
  obtain ⟨wd, hwdd⟩ : ∃ wd, min (rlen rows 0) 8 = wd := ⟨_, rfl⟩
  rw [hm] at hsls hwf hmn
  rw [hwdd] at hwf hn0 hwd
  have HM := Kept.mk hsls
  have HWF := Kept.mk hwf
  have HMN := Kept.mk hmn
  have HN0 := Kept.mk hn0
  have HCM := Kept.mk hcm
  have HMX := Kept.mk hmm
  have hk := HD.out.pre.pk
  have hmm0 := hmm
  unfold maxLen at hmm0
  replace HF := Kept.mk (HF.out.below hb2)
  replace HB := Kept.mk (bstep HB.out hb2)
  have HEC := Kept.mk (fun X (hF : FldB D X b) (hM : Sls X am (m.map ints)) => echelon_any (b := b) HD.out m am cm wd n X hF hM hcm hmm hmn (by omega) hwf (by omega) hn0)
  have HEO : Kept (FFld.EOk D wd 0 n (FFld.elimF D HD.out.pre.pk ⟨m, List.replicate n [], []⟩ wd)) := ⟨(eok_none hwf hmn).elim _ wd⟩
  obtain ⟨nn, hnn0, hnn1⟩ : ∃ W, (wd = 0 → W = 0) ∧ (wd ≠ 0 → W = n) := ⟨if wd = 0 then 0 else n, fun h => by rw [if_pos h], fun h => by rw [if_neg h]⟩
  have HRE := Kept.mk (rank_eq HD.out hwf hmn hn0 hnn0 hnn1)
  have hnn8 : nn ≤ 8 := by
    by_cases h : wd = 0
    · rw [hnn0 h]; omega
    · rw [hnn1 h]; exact hn8
  have HTF : Kept (FFld.Wfm D nn (trM m n wd)) := ⟨by
    by_cases h : wd = 0
    · intro x hx
      rw [List.eq_nil_of_length_eq_zero (show (trM m n wd).length = 0 by rw [trM_len]; exact h)] at hx
      simp at hx
    · rw [hnn1 h]
      exact trM_wf HD.out.pre.pk hwf⟩
  have HN00 := Kept.mk hnn0
  have HFF := Kept.mk (fun E r wr h1 h2 h3 h4 => form_form (E := E) (r := r) (wr := wr) HD.out hwf hmn h1 h2 h3 h4)
  have hcol : (n : Nat) = 0 ∨ 0 < n := by omega
  have HRL : Kept (rlen (m.map ints) 0 = wd) := ⟨by
    rcases hcol with h | h
    · rw [rlen_zero (by rw [List.length_map, hmn]; exact h), hn0 h]
    · unfold rlen
      rw [rows_cell, FFld.ints_len]
      exact (hwf.row (by omega)).1⟩
  have HML : Kept ((m.map ints).length = n) := ⟨by rw [List.length_map, hmn]⟩
  have HCO := Kept.mk (fun X (hM : Sls X am (m.map ints)) => rcolumns_any am (m.map ints) cm X (by rw [HML.out]; exact hcm) hmm hM)
  rw [HRL.out, HML.out] at HCO
  clear hb2 hrw hsls hLm hm hn hmn hwf hn0 hwdd i0 i1 i2 i3 HR HTM hcap hmax hmm hcm hq1 HX hns hcol hnn0 hnn1 HRL
  go_wp2
  go_loopw [8, 9] (fun ov cv wr => ∃ (c : Nat) (L : List (Value × List Int)), c ≤ wd ∧ cv = .int .i64 c ∧ L.length = c ∧ Kept ((List.range c).map (fun c => ints (colL m n c)) = L.map (·.2)) ∧ Kept (Rws w2.heap.size wr ov L) ∧ Kept (Below w2.heap.size w2 wr)) (fun _ cv _ => wd - (intOf cv).toNat)
  case atStart => exact ⟨0, [], Nat.zero_le _, rfl, rfl, ⟨rfl⟩, ⟨Rws.nil _ _⟩, ⟨Below.refl _ _⟩⟩
  case round =>
    obtain ⟨c, L, hcw, rfl, hll, hat, hrw, hbx⟩ := hrel
    have HMr := Kept.mk (HM.out.below hbx.out)
    obtain ⟨ov0, oc, rfl, hoc, hom⟩ := hrw.out.own.form
    rw [List.length_map, hll] at hoc hrw ⊢
    obtain ⟨wz, rfl⟩ : ∃ W, W = wr := ⟨_, rfl⟩
    go_wp2_with fail
    refine (HCO.out _ HMr.out).mono ?_
    rintro e w3 ⟨rfl, rfl⟩
    by_cases hlt : c < wd
    · go_wp2
      go_loopw [10, 11] (fun rv iv wr => ∃ (i : Nat) (l : List Nat), i ≤ n ∧ iv = .int .i64 i ∧ l.length = i ∧ Kept ((List.range i).map (fun i => FFld.cellAt m i c) = l) ∧ Kept (Mine 3 .i64 wz.heap.size wr rv (ints l)) ∧ Kept (Below wz.heap.size wz wr)) (fun _ iv _ => n - (intOf iv).toNat)
      case atStart => exact ⟨0, [], Nat.zero_le _, rfl, rfl, ⟨rfl⟩, ⟨Mine.nil _ _ _ _⟩, ⟨Below.refl _ _⟩⟩
      case round =>
        obtain ⟨i, l, hin, rfl, hli, hl2, hmn, hbq⟩ := hrel
        obtain ⟨rv1, rc, rfl, hrc, hrm⟩ := hmn.out.sl.form
        rw [FFld.ints_len, hli] at hrc hmn ⊢
        by_cases hi : i < n
        · obtain ⟨g, o, rv, rfl, hg, hci, hsi⟩ := (HMr.out.below hbq.out) i (by rw [HML.out]; exact hi)
          rw [rows_cell] at hsi
          have hwi : (FFld.rowAt m i).length = wd := (HWF.out.row (by rw [HMN.out]; exact hi)).1
          obtain ⟨ai, ci, rfl, hcci, hmi⟩ := hsi.form
          rw [FFld.ints_len, hwi] at hci hcci hsi
          obtain ⟨gi, oi, rfl, hgi, hcc⟩ := hsi.news_at c (by rw [FFld.ints_len, hwi]; exact hlt)
          rw [FFld.ints_get] at hcc
          obtain ⟨v, hv⟩ : ∃ v, FFld.cellAt m i c = v := ⟨_, rfl⟩
          have hv2 : (FFld.rowAt m i)[c]?.getD 0 = v := hv
          rw [hv2] at hcc
          have HLV : Kept ((List.range (i + 1)).map (fun i => FFld.cellAt m i c) = l ++ [v]) := ⟨by rw [List.range_succ, List.map_append, hl2.out, List.map_cons, List.map_nil, hv]⟩
          have H1 := Kept.mk (show ((ints l).length + [(v : Int)].length) * 8 ≤ 140737488355328 by rw [FFld.ints_len, hli]; simp; omega)
          have H2 := Kept.mk (show (ints l).length + [(v : Int)].length ≤ maxLen by rw [FFld.ints_len, hli]; unfold maxLen; simp; omega)
          have hal : Below wr.heap.size wr (wr.alloc (.cells #[.int .i64 (v : Int)] 3)) := (Below.refl _ _).alloc (Nat.le_refl _) _
          have HM3 := Kept.mk (hmn.out.alloc (.cells #[.int .i64 (v : Int)] 3))
          have HNW := Kept.mk (new_one (K := .i64) (x := (v : Int)) (w := wr.alloc (.cells #[.int .i64 (v : Int)] 3)) (b := wr.heap.size) (o := 0) (by exact (Row.new (E := 3) (K := .i64) wr [(v : Int)]).cell (i := 0) (by simp)))
          have hsz := hbq.out.size
          have HBB := Kept.mk (show wz.heap.size ≤ (wr.alloc (.cells #[.int .i64 (v : Int)] 3)).heap.size by simp; omega)
          have HBQ := Kept.mk (hbq.out.alloc hsz (.cells #[.int .i64 (v : Int)] 3))
          have HOW := Kept.mk HM3.out.own
          clear hv hv2 hsi hwi hal
          go_wp2_with (at_builtin; refine wpList_append_mine _ rfl _ _ 34 (by rfl) 3 .i64 8 Try.underlying34 info_i64 wz.heap.size (.slice rv1 i rc) (ints l) (by rfl) HM3.out HBB.out ⟨wr.heap.size, 0, none⟩ 1 1 [(v : Int)] (by rfl) rfl HNW.out H1.out H2.out ?_)
          intro v' w5 hm5 hg5 hn5
          have HM5 := Kept.mk hm5
          have HB5 := Kept.mk (HBQ.out.grown hg5 HBB.out (fun j hj => (HOW.out j hj).1))
          clear hm5 hg5 hn5
          go_wp2
          go_roundw
          case rel => exact ⟨i + 1, l ++ [v], by omega, by go_num, by simp [hli], HLV, ⟨by rw [FFld.ints_append]; exact HM5.out⟩, HB5⟩
          case measure => simp [intOf] <;> omega
        · obtain rfl : i = n := by omega
          have HL : Kept ((List.range (c + 1)).map (fun c => ints (colL m i c)) = L.map (·.2) ++ [ints l]) := ⟨by
            rw [List.range_succ, List.map_append, hat.out, List.map_cons, List.map_nil]
            unfold colL
            rw [hl2.out]⟩
          have HW3 := Kept.mk (hrw.out.below hbq.out)
          have hsz0 := hbx.out.size
          have hszq := hbq.out.size
          have HMR := Kept.mk (hmn.out.lower (show w2.heap.size ≤ wz.heap.size by omega))
          have HNE : Kept (∀ g, (Value.slice rv1 i rc).ownBlock = some g → (Value.slice ov0 c oc).ownBlock ≠ some g) := ⟨fun g hgb e => by
            have h1 := (hmn.out.own g hgb).1
            have h2 := (hrw.out.own.own g e).2
            omega⟩
          have hal : Below wr.heap.size wr (wr.alloc (.cells #[.slice rv1 i rc] 34)) := (Below.refl _ _).alloc (Nat.le_refl _) _
          have HW4 := Kept.mk (HW3.out.below hal)
          have HX4 := Kept.mk ((bstep hbx.out hbq.out).alloc (by omega) (.cells #[.slice rv1 i rc] 34))
          have HM4 := Kept.mk (HMR.out.below hal)
          have HON := Kept.mk HW4.out.own
          have HNW := Kept.mk (rows_one (W := wr) (rv := .slice rv1 i rc))
          have H1 : Kept ((L.map (·.1)).length = c) := ⟨by rw [List.length_map, hll]⟩
          have HBB : Kept (w2.heap.size ≤ (wr.alloc (.cells #[.slice rv1 i rc] 34)).heap.size) := ⟨by simp; omega⟩
          have hown := Kept.mk HON.out.own
          clear hal hszq hsz0 HW3
          go_wp2_with (at_builtin; refine wpList_append_w _ rfl _ _ 49 (by rfl) 34 (.slice none 0 0) 24 Try.underlying49 info_rows (by rfl) w2.heap.size (.slice ov0 c oc) (L.map (·.1)) (by rfl) HON.out HBB.out ⟨wr.heap.size, 0, none⟩ 1 (.slice rv1 i rc) (by rfl) HNW.out rfl c H1.out (by omega) (by omega) ?_)
          intro v' w5 ho5 hg5 hv5
          have HR5 := Kept.mk (HW4.out.push HM4.out HNE.out ho5 hg5 (by simpa using hv5))
          have HX5 := Kept.mk (HX4.out.grown hg5 HBB.out (fun j hj => (hown.out j hj).1))
          clear ho5 hg5 hv5
          go_wp2
          go_roundw
          case rel => exact ⟨c + 1, L ++ [(.slice rv1 i rc, ints l)], by omega, by go_num, by simp [hll], ⟨by rw [HL.out, List.map_append]; rfl⟩, HR5, HX5⟩
          case measure => simp [intOf] <;> omega
    · obtain rfl : c = wd := by omega
      have HE : Kept (L.map (·.2) = (trM m n c).map ints) := ⟨by rw [← hat.out]; unfold trM; rw [List.map_map]; rfl⟩
      obtain ⟨at2, ct2, hv2, hct, hmt, hst⟩ := hrw.out.sls
      rw [HE.out] at hst
      rw [hll] at hv2 hct
      simp only [Value.slice.injEq, true_and] at hv2
      obtain ⟨rfl, rfl⟩ := hv2
      have HST := Kept.mk hst
      replace HF := Kept.mk (HF.out.below hbx.out)
      replace HB := Kept.mk (bstep HB.out hbx.out)
      have HET := Kept.mk (fun X (hF : FldB D X b) (hM : Sls X ov0 ((trM m n c).map ints)) => echelon_any (b := b) HD.out (trM m n c) ov0 oc nn c X hF hM hct hmt (trM_len _ _ _) (by omega) HTF.out (by omega) HN00.out)
      have HTN : Kept ((FFld.elimF D HD.out.pre.pk ⟨trM m n c, List.replicate c [], []⟩ nn).cols.length = (FFld.elimF D HD.out.pre.pk ⟨m, List.replicate n [], []⟩ c).cols.length) := HRE
      obtain ⟨s1, hs1⟩ : ∃ s, FFld.elimF D HD.out.pre.pk ⟨trM m n c, List.replicate c [], []⟩ nn = s := ⟨_, rfl⟩
      obtain ⟨s0, hs0⟩ : ∃ s, FFld.elimF D HD.out.pre.pk ⟨m, List.replicate n [], []⟩ c = s := ⟨_, rfl⟩
      rw [hs1] at HTN HET
      rw [hs0] at HTN HEC HFF HEO
      obtain ⟨r, hr⟩ : ∃ r, s0.cols.length = r := ⟨_, rfl⟩
      rw [hr] at HTN
      have hrn : r ≤ n := by rw [← hr]; exact HEO.out.cl
      obtain ⟨E, hE⟩ : ∃ E, s0.A.take r = E := ⟨_, rfl⟩
      have hEl : E.length = r := by rw [← hE, List.length_take, HEO.out.la]; omega
      have hEw : ∀ l ∈ E, l.length = c ∧ ∀ a ∈ l, a < D.p ^ D.k := fun l hl => by
        rw [← hE] at hl
        exact HEO.out.wa l (List.mem_of_mem_take hl)
      obtain ⟨wr', hr0, hr1⟩ : ∃ W, (r = 0 → W = 0) ∧ (r ≠ 0 → W = c) := ⟨if r = 0 then 0 else c, fun h => by rw [if_pos h], fun h => by rw [if_neg h]⟩
      have hwr8 : wr' ≤ 8 := by
        by_cases h : r = 0
        · rw [hr0 h]; omega
        · rw [hr1 h]; exact hwd
      obtain ⟨f1, f2⟩ := HFF.out E r wr' hr hE hr0 hr1
      have HEWF : Kept (FFld.Wfm D wr' E) := ⟨by
        by_cases h : r = 0
        · intro x hx
          rw [List.eq_nil_of_length_eq_zero (show E.length = 0 by rw [hEl]; exact h)] at hx
          simp at hx
        · rw [hr1 h]
          exact hEw⟩
      have HR0 := Kept.mk hr0
      have HEL := Kept.mk hEl
      have HE3 := Kept.mk (fun X G (hF : FldB D X b) (hM : Sls X (some ⟨G, 0, none⟩) (E.map ints)) => echelon_any (b := b) HD.out E (some ⟨G, 0, none⟩) r wr' r X hF hM (Nat.le_refl _) (by unfold maxLen; omega) HEL.out (by omega) HEWF.out (by omega) HR0.out)
      obtain ⟨s2, hs2⟩ : ∃ s, FFld.elimF D HD.out.pre.pk ⟨E, List.replicate r [], []⟩ wr' = s := ⟨_, rfl⟩
      rw [hs2] at HE3 f1 f2
      have F1 := Kept.mk f1
      have F2 := Kept.mk f2
      have HRR := Kept.mk hr
      have HEE := Kept.mk hE
      have hEr : ∀ l ∈ E.map ints, l.length ≤ 1000000 := fun l hl => by
        obtain ⟨x, hx, rfl⟩ := List.mem_map.1 hl
        rw [FFld.ints_len, (hEw x hx).1]
        omega
      have HRW := Kept.mk (fun X ao bo ca cb (ha : Sls X ao (E.map ints)) (hb : Sls X bo (E.map ints)) h1 h2 h3 h4 => rows_eq ao bo (E.map ints) ca cb r X ha hb (by rw [List.length_map]; exact HEL.out) h1 h2 h3 h4 hEr)
      clear hst hs0 hs1 hs2 hr hE hEl hEw hr0 hr1 f1 f2 HRE HFF hbx hrw hat HE HCO HM hlt hcw hct hmt hEr hll HMN HML
      go_wp2_with fail
      refine (HEC.out _ HF.out HMr.out).mono ?_
      rintro e w4 ⟨hb4, G, rfl, hsE⟩
      rw [HRR.out, HEE.out] at hsE
      rw [HRR.out]
      replace HF := Kept.mk (HF.out.below hb4)
      replace HB := Kept.mk (bstep HB.out hb4)
      replace HST := Kept.mk (HST.out.below hb4)
      have HSE := Kept.mk hsE
      clear hb4 hsE HEC HMr
      go_wp2_with fail
      refine (HET.out _ HF.out HST.out).mono ?_
      rintro e w5 ⟨hb5, G2, rfl, hsT⟩
      rw [HTN.out]
      replace HF := Kept.mk (HF.out.below hb5)
      replace HB := Kept.mk (bstep HB.out hb5)
      replace HSE := Kept.mk (HSE.out.below hb5)
      clear hb5 hsT HET HST
      go_wp2_with fail
      refine (HE3.out _ _ HF.out HSE.out).mono ?_
      rintro e w6 ⟨hb6, G3, rfl, hsF⟩
      rw [F1.out, F2.out] at hsF
      rw [F1.out]
      replace HB := Kept.mk (bstep HB.out hb6)
      replace HSE := Kept.mk (HSE.out.below hb6)
      have HSF := Kept.mk hsF
      clear hb6 hsF HE3 HF
      go_wp2_with fail
      refine (HRW.out _ _ _ _ _ HSF.out HSE.out (Nat.le_refl _) (Nat.le_refl _) (by unfold maxLen; omega) (by unfold maxLen; omega)).mono ?_
      rintro e w7 ⟨hb7, rfl⟩
      replace HB := Kept.mk (bstep HB.out hb7)
      clear hb7
      go_wp2_with fail
      refine (awake_any _).mono ?_
      rintro e w8 ⟨hb8, rfl⟩
      replace HB := Kept.mk (bstep HB.out hb8)
      clear hb8
      go_wp2
      go_ret
      exact ⟨HB.out, rfl⟩
end Go.Proofs.Ytfhhnfpapgfnmaa
