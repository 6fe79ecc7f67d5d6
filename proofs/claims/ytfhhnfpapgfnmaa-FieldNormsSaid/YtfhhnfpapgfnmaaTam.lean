import Derived.Test.YtfhhnfpapgfnmaaMro
import Derived.Test.YtfhhnfpapgfnmaaZOpl
import Derived.Test.YtfhhnfpapgfnmaaZ24
set_option linter.unusedVariables false
set_option linter.unusedSimpArgs false
namespace Go.Proofs.Ytfhhnfpapgfnmaa
open Go Go.RowKit Go.Deep
open FFld (ints)
theorem rlen_zero {rows : List (List Int)} (h : rows.length = 0) : rlen rows 0 = 0 := by
  unfold rlen
  rw [List.getElem?_eq_none (by omega)]
  rfl
set_option maxRecDepth 20000 in
set_option maxHeartbeats 2000000 in
/-- The number of columns. -/
theorem rcolumns_any (ao : Option Addr) (rows : List (List Int)) (cap : Nat) (w : World) (hcap : rows.length ≤ cap) (hmax : cap ≤ maxLen) (h : Sls w ao rows) :
    Calls Try.prog 81 #[.slice ao rows.length cap] w (fun e w' => w = w' ∧ e = .returned (.int .i64 (rlen rows 0 : Nat))) := by
  obtain ⟨n, hN⟩ : ∃ n, rows.length = n := ⟨_, rfl⟩
  unfold maxLen at hmax
  by_cases h0 : n = 0
  · subst h0
    have HE := Kept.mk (rlen_zero hN)
    rw [hN] at hcap ⊢
    rw [HE.out]
    clear h hN
    go_enter Try.func81, Try.ntmps81
    go_wp2
    go_ret
    exact ⟨rfl, rfl⟩
  · obtain ⟨g, o, rv, rfl, hg, hcell, hsl⟩ := h 0 (by omega)
    obtain ⟨a0, c0, rfl, hc0, hm0⟩ := hsl.form
    obtain ⟨r0, hr0⟩ : ∃ r, (rows[0]?.getD []).length = r := ⟨_, rfl⟩
    have hr : rlen rows 0 = r0 := hr0
    rw [hr0, Nat.add_zero] at hcell
    rw [hr, hN]
    have e0 : ((n : Int) == 0) = false := by rw [beq_eq_false_iff_ne]; omega
    have hn0 : 0 < n := by omega
    clear hr hr0 hsl h0 h hc0 hm0 hN
    go_enter Try.func81, Try.ntmps81
    go_wp2
    go_ret
    exact ⟨rfl, rfl⟩
/-- A row of elements, made of any numbers. -/
def tamE (D : FFld.FD) (r : List Int) (c : Nat) : Nat := if c < r.length then redN D (r[c]?.getD 0) else 0
def tamR (D : FFld.FD) (r : List Int) (wd : Nat) : List Nat := (List.range wd).map (tamE D r)
def tamM (D : FFld.FD) (rows : List (List Int)) (most : Nat) : List (List Nat) := (rows.take most).map fun r => tamR D r (min (rlen rows 0) most)
theorem tamE_lt {D : FFld.FD} (hq : 1 ≤ D.q) (r : List Int) (c : Nat) : tamE D r c < D.q := by
  unfold tamE
  split
  · exact redN_lt hq _
  · omega
theorem tamR_len (D : FFld.FD) (r : List Int) (wd : Nat) : (tamR D r wd).length = wd := by simp [tamR]
theorem tamM_wf {D : FFld.FD} (hq : 1 ≤ D.q) (rows : List (List Int)) (most : Nat) : FFld.Wfm D (min (rlen rows 0) most) (tamM D rows most) := fun r hr => by
  obtain ⟨l, _, rfl⟩ := List.mem_map.1 hr
  refine ⟨tamR_len _ _ _, fun a ha => ?_⟩
  obtain ⟨c, _, rfl⟩ := List.mem_map.1 ha
  exact tamE_lt hq _ _
theorem tamM_len (D : FFld.FD) (rows : List (List Int)) (most : Nat) : (tamM D rows most).length = min rows.length most := by
  unfold tamM
  rw [List.length_map, List.length_take, Nat.min_comm]
set_option maxRecDepth 20000 in
set_option maxHeartbeats 8000000 in
theorem tame_any {D : FFld.FD} (hD : D.Ok) (ao : Option Addr) (rows : List (List Int)) (cap most : Nat) (w : World) (hcap : rows.length ≤ cap) (hmax : cap ≤ maxLen) (h : Sls w ao rows) (hb : ∀ l ∈ rows, I64s l) (hm : most ≤ 1000) :
    Calls Try.prog 76 #[rfv D.q D.p D.k D.m, .slice ao rows.length cap, .int .i64 most] w (RetR w ((tamM D rows most).map ints)) := by
  obtain ⟨n, hN⟩ : ∃ n, rows.length = n := ⟨_, rfl⟩
  obtain ⟨k, hk⟩ : ∃ k, min n most = k := ⟨_, rfl⟩
  have hkn : k ≤ n := by omega
  have hkm : k ≤ most := by omega
  obtain ⟨n0, hn0⟩ : ∃ n0, rlen rows 0 = n0 := ⟨_, rfl⟩
  obtain ⟨wd, hwd⟩ : ∃ wd, min n0 most = wd := ⟨_, rfl⟩
  have hwn : wd ≤ n0 := by omega
  have hwm : wd ≤ most := by omega
  have HT : Kept ((tamM D rows most).map ints = (rows.take k).map (fun r => ints (tamR D r wd))) := ⟨by
    unfold tamM
    rw [List.map_map, hn0, hwd, ← hk]
    by_cases hle : most ≤ n
    · rw [Nat.min_eq_right hle]; rfl
    · rw [Nat.min_eq_left (by omega), List.take_of_length_le (by omega), List.take_of_length_le (by omega)]; rfl⟩
  have hkk : k < n → k < most → False := by omega
  have hww : wd < n0 → wd < most → False := by omega
  have hq6 : D.q ≤ 65536 := hD.pre.small
  have hq1 : 1 ≤ D.q := Nat.le_of_lt hD.pre.pk.one_lt
  have HX0 : Kept (Bxs w [rbox D.q D.p D.k D.m] (w.alloc (rbox D.q D.p D.k D.m))) := ⟨(Bxs.start w).alloc (by simp) _⟩
  have HC := Kept.mk h
  have HBD := Kept.mk hb
  have HN0 := Kept.mk hn0
  rw [hN] at hcap ⊢
  have HN := Kept.mk hN
  unfold maxLen at hmax
  clear h hN hk hb hn0 hwd
  go_enter Try.func76, Try.ntmps76
  go_wp2
  go_loopw [7, 8] (fun ov iv wr => ∃ (i : Nat) (L : List (Value × List Int)), i ≤ k ∧ iv = .int .i64 i ∧ L.length = i ∧ Kept ((rows.take i).map (fun r => ints (tamR D r wd)) = L.map (·.2)) ∧ Kept (Rws (w.heap.size + 1) wr ov L) ∧ Kept (Bxs w [rbox D.q D.p D.k D.m] wr)) (fun _ iv _ => k - (intOf iv).toNat)
  case atStart => exact ⟨0, [], Nat.zero_le _, rfl, rfl, ⟨rfl⟩, ⟨Rws.nil _ _⟩, HX0⟩
  case round =>
    obtain ⟨i, L, hik, rfl, hll, hat, hrw, hbx⟩ := hrel
    by_cases hlt : i < k
    · have hin : i < n := by omega
      have him : i < most := by omega
      have HL : Kept ((rows.take (i + 1)).map (fun r => ints (tamR D r wd)) = L.map (·.2) ++ [ints (tamR D (rows[i]?.getD []) wd)]) := ⟨by rw [map_take_next' (d := []) (by rw [HN.out]; exact hin), hat.out]⟩
      obtain ⟨xs, hxs⟩ : ∃ xs, rows[i]?.getD [] = xs := ⟨_, rfl⟩
      have HXB : Kept (I64s xs) := ⟨by
        rw [← hxs, List.getElem?_eq_getElem (by rw [HN.out]; exact hin)]
        exact HBD.out _ (List.getElem_mem _)⟩
      rw [hxs] at HL
      have HXS := Kept.mk hxs
      obtain ⟨ov0, oc, rfl, hoc, hom⟩ := hrw.out.own.form
      rw [List.length_map, hll] at hoc hrw ⊢
      have hln0 : (0 : Nat) < n := by omega
      obtain ⟨g, o, rv0, rfl, hg, hc00, hs00⟩ := HC.out 0 (by rw [HN.out]; exact hln0)
      obtain ⟨a00, c00, rfl, hcc00, hm00⟩ := hs00.form
      have hr0 : (rows[0]?.getD []).length = n0 := HN0.out
      rw [hr0, Nat.add_zero] at hc00
      clear hxs hs00 hr0 hcc00 hm00
      obtain ⟨wz, rfl⟩ : ∃ W, W = wr := ⟨_, rfl⟩
      go_wp2
      go_loopw [9, 10] (fun rv cv wr => ∃ (c : Nat) (l : List Nat), c ≤ wd ∧ cv = .int .i64 c ∧ l.length = c ∧ Kept ((List.range c).map (tamE D xs) = l) ∧ Kept (Mine 3 .i64 wz.heap.size wr rv (ints l)) ∧ Kept (Below wz.heap.size wz wr)) (fun _ cv _ => wd - (intOf cv).toNat)
      case atStart => exact ⟨0, [], Nat.zero_le _, rfl, rfl, ⟨rfl⟩, ⟨Mine.nil _ _ _ _⟩, ⟨Below.refl _ _⟩⟩
      case round =>
        obtain ⟨c, l, hcw, rfl, hlc, hlt2, hmn, hbq⟩ := hrel
        obtain ⟨rv1, rc, rfl, hrc, hrm⟩ := hmn.out.sl.form
        rw [FFld.ints_len, hlc] at hrc hmn ⊢
        have hbxq := Kept.mk (hbx.out.below hbq.out)
        have ic0 := (hbxq.out.1.cell (p := ⟨g, o, none⟩) hg).trans hc00
        by_cases hcl : c < wd
        · have hc0 : c < n0 := by omega
          have hcm : c < most := by omega
          obtain ⟨g', o', rv, ee, hg', hci, hsi⟩ := HC.out i (by rw [HN.out]; exact hin)
          simp only [Option.some.injEq, Addr.mk.injEq, and_true] at ee
          obtain ⟨rfl, rfl⟩ := ee
          rw [HXS.out] at hsi
          obtain ⟨ai, ci, rfl, hcci, hmi⟩ := hsi.form
          obtain ⟨ni, hni⟩ : ∃ n, xs.length = n := ⟨_, rfl⟩
          rw [hni] at hci hcci hsi
          have ici := (hbxq.out.1.cell (p := ⟨g, o + i, none⟩) hg).trans hci
          obtain ⟨v, hv⟩ : ∃ v, tamE D xs c = v := ⟨_, rfl⟩
          have HLV : Kept ((List.range (c + 1)).map (tamE D xs) = l ++ [v]) := ⟨by rw [List.range_succ, List.map_append, hlt2.out, List.map_cons, List.map_nil, hv]⟩
          have H1 := Kept.mk (show ((ints l).length + [(v : Int)].length) * 8 ≤ 140737488355328 by rw [FFld.ints_len, hlc]; simp; omega)
          have H2 := Kept.mk (show (ints l).length + [(v : Int)].length ≤ maxLen by rw [FFld.ints_len, hlc]; unfold maxLen; simp; omega)
          by_cases hcn : c < ni
          · obtain ⟨gi, oi, rfl, hgi, hcc⟩ := hsi.news_at c (by omega)
            obtain ⟨a, ha⟩ : ∃ a, xs[c]?.getD 0 = a := ⟨_, rfl⟩
            have hv2 : redN D a = v := by rw [← hv, ← ha]; unfold tamE; rw [if_pos (by omega)]
            obtain ⟨a0, a1⟩ := HXB.out a (by rw [← ha, List.getElem?_eq_getElem (by omega)]; exact List.getElem_mem _)
            rw [ha] at hcc
            have icc := (hbxq.out.1.cell (p := ⟨gi, oi + c, none⟩) hgi).trans hcc
            obtain ⟨i0, i1, i2, i3⟩ := four_cells hbxq.out.b0
            have hI := Kept.mk (fun W => rin_any D.q D.p D.k D.m a W hq1 hq6 a0 a1)
            rw [← redN_int hq1 a, hv2] at hI
            clear hv hv2 ha hcc hci hsi hni
            go_wp2
            go_region_held3 (fun w' => w'.cell? ⟨w.heap.size, 0, none⟩ = some (.int .i64 D.q) ∧ w'.cell? ⟨w.heap.size, 1, none⟩ = some (.int .i64 D.p) ∧ w'.cell? ⟨w.heap.size, 2, none⟩ = some (.int .i64 D.k) ∧ w'.cell? ⟨w.heap.size, 3, none⟩ = some (.int .i64 D.m) ∧ w'.cell? ⟨g, o + i, none⟩ = some (.slice (some ⟨gi, oi, none⟩) ni ci) ∧ w'.cell? ⟨gi, oi + c, none⟩ = some (.int .i64 a))
              (first | exact ⟨j0, j1, j2, j3, jr, jc⟩ | exact ⟨i0, i1, i2, i3, ici, icc⟩ | go_keep)
              ((first
                | (go_at_call 51; (with_reducible refine (hI.out _).mono ?_); rintro e w3 ⟨hb3, rfl⟩; have HB3 := Kept.mk (bstep (show Below wr.heap.size wr _ from (by first | exact Below.refl _ _ | exact (Below.refl _ _).drew)) hb3); have j0 := belowCell HB3.out i0; have j1 := belowCell HB3.out i1; have j2 := belowCell HB3.out i2; have j3 := belowCell HB3.out i3; have jr := belowCell HB3.out ici; have jc := belowCell HB3.out icc; clear hb3)))
            have HM3 := Kept.mk ((hmn.out.below HB3.out).alloc (.cells #[.int .i64 (v : Int)] 3))
            have HNW := Kept.mk (new_one (K := .i64) (x := (v : Int)) (w := w3.alloc (.cells #[.int .i64 (v : Int)] 3)) (b := w3.heap.size) (o := 0) (by exact (Row.new (E := 3) (K := .i64) w3 [(v : Int)]).cell (i := 0) (by simp)))
            have hsz := (bstep hbq.out HB3.out).size
            have HBB := Kept.mk (show wz.heap.size ≤ (w3.alloc (.cells #[.int .i64 (v : Int)] 3)).heap.size by simp; omega)
            have HBQ := Kept.mk ((bstep hbq.out HB3.out).alloc hsz (.cells #[.int .i64 (v : Int)] 3))
            have HOW := Kept.mk HM3.out.own
            go_wp2_with (at_builtin; refine wpList_append_mine _ rfl _ _ 34 (by rfl) 3 .i64 8 Try.underlying34 info_i64 wz.heap.size (.slice rv1 c rc) (ints l) (by rfl) HM3.out HBB.out ⟨w3.heap.size, 0, none⟩ 1 1 [(v : Int)] (by rfl) rfl HNW.out H1.out H2.out ?_)
            intro v' w5 hm5 hg5 hn5
            have HM5 := Kept.mk hm5
            have HB5 := Kept.mk (HBQ.out.grown hg5 HBB.out (fun j hj => (HOW.out j hj).1))
            clear hm5 hg5 hn5
            go_wp2
            go_roundw
            case rel => exact ⟨c + 1, l ++ [v], by omega, by go_num, by simp [hlc], HLV, ⟨by rw [FFld.ints_append]; exact HM5.out⟩, HB5⟩
            case measure => simp [intOf] <;> omega
          · have hv2 : v = 0 := by rw [← hv]; unfold tamE; rw [if_neg (by omega)]
            subst hv2
            have hal : Below wr.heap.size wr (wr.alloc (.cells #[.int .i64 ((0 : Nat) : Int)] 3)) := (Below.refl _ _).alloc (Nat.le_refl _) _
            have HM3 := Kept.mk (hmn.out.alloc (.cells #[.int .i64 ((0 : Nat) : Int)] 3))
            have HNW := Kept.mk (new_one (K := .i64) (x := ((0 : Nat) : Int)) (w := wr.alloc (.cells #[.int .i64 ((0 : Nat) : Int)] 3)) (b := wr.heap.size) (o := 0) (by exact (Row.new (E := 3) (K := .i64) wr [((0 : Nat) : Int)]).cell (i := 0) (by simp)))
            have hsz := hbq.out.size
            have HBB := Kept.mk (show wz.heap.size ≤ (wr.alloc (.cells #[.int .i64 ((0 : Nat) : Int)] 3)).heap.size by simp; omega)
            have HBQ := Kept.mk (hbq.out.alloc hsz (.cells #[.int .i64 ((0 : Nat) : Int)] 3))
            have HOW := Kept.mk HM3.out.own
            clear hv hci hsi hni hal
            go_wp2_with (at_builtin; refine wpList_append_mine _ rfl _ _ 34 (by rfl) 3 .i64 8 Try.underlying34 info_i64 wz.heap.size (.slice rv1 c rc) (ints l) (by rfl) HM3.out HBB.out ⟨wr.heap.size, 0, none⟩ 1 1 [((0 : Nat) : Int)] (by rfl) rfl HNW.out H1.out H2.out ?_)
            intro v' w5 hm5 hg5 hn5
            have HM5 := Kept.mk hm5
            have HB5 := Kept.mk (HBQ.out.grown hg5 HBB.out (fun j hj => (HOW.out j hj).1))
            clear hm5 hg5 hn5
            go_wp2
            go_roundw
            case rel => exact ⟨c + 1, l ++ [0], by omega, by go_num, by simp [hlc], HLV, ⟨by rw [FFld.ints_append]; exact HM5.out⟩, HB5⟩
            case measure => simp [intOf] <;> omega
        · obtain rfl : c = wd := by omega
          have HLE : Kept (ints (tamR D xs c) = ints l) := ⟨by unfold tamR; rw [hlt2.out]⟩
          have HW3 := Kept.mk (hrw.out.below hbq.out)
          have hsz0 := hbx.out.l1
          have hszq := hbq.out.size
          have HMR := Kept.mk (hmn.out.lower (show w.heap.size + 1 ≤ wz.heap.size by omega))
          have HNE : Kept (∀ g, (Value.slice rv1 c rc).ownBlock = some g → (Value.slice ov0 i oc).ownBlock ≠ some g) := ⟨fun g hgb e => by
            have h1 := (hmn.out.own g hgb).1
            have h2 := (hrw.out.own.own g e).2
            omega⟩
          have hal : Below wr.heap.size wr (wr.alloc (.cells #[.slice rv1 c rc] 34)) := (Below.refl _ _).alloc (Nat.le_refl _) _
          have HW4 := Kept.mk (HW3.out.below hal)
          have HX4 := Kept.mk (hbxq.out.below hal)
          have HM4 := Kept.mk (HMR.out.below hal)
          have HON := Kept.mk HW4.out.own
          have HNW := Kept.mk (rows_one (W := wr) (rv := .slice rv1 c rc))
          have H1 : Kept ((L.map (·.1)).length = i) := ⟨by rw [List.length_map, hll]⟩
          have HBB : Kept (w.heap.size + 1 ≤ (wr.alloc (.cells #[.slice rv1 c rc] 34)).heap.size) := ⟨by simp; omega⟩
          have hown := Kept.mk HON.out.own
          clear hal hszq hsz0 HW3
          by_cases hc0 : c < n0
          · have hcm : ¬ c < most := fun h => hww hc0 h
            go_wp2_with (at_builtin; refine wpList_append_w _ rfl _ _ 49 (by rfl) 34 (.slice none 0 0) 24 Try.underlying49 info_rows (by rfl) (w.heap.size + 1) (.slice ov0 i oc) (L.map (·.1)) (by rfl) HON.out HBB.out ⟨wr.heap.size, 0, none⟩ 1 (.slice rv1 c rc) (by rfl) HNW.out rfl i H1.out (by omega) (by omega) ?_)
            intro v' w5 ho5 hg5 hv5
            have HR5 := Kept.mk (HW4.out.push HM4.out HNE.out ho5 hg5 (by simpa using hv5))
            have HX5 := Kept.mk (HX4.out.grown hg5 (fun j hj => (hown.out j hj).1))
            clear ho5 hg5 hv5
            go_wp2
            go_roundw
            case rel => exact ⟨i + 1, L ++ [(.slice rv1 c rc, ints l)], by omega, by go_num, by simp [hll], ⟨by rw [HL.out, List.map_append, HLE.out]; rfl⟩, HR5, HX5⟩
            case measure => simp [intOf] <;> omega
          · go_wp2_with (at_builtin; refine wpList_append_w _ rfl _ _ 49 (by rfl) 34 (.slice none 0 0) 24 Try.underlying49 info_rows (by rfl) (w.heap.size + 1) (.slice ov0 i oc) (L.map (·.1)) (by rfl) HON.out HBB.out ⟨wr.heap.size, 0, none⟩ 1 (.slice rv1 c rc) (by rfl) HNW.out rfl i H1.out (by omega) (by omega) ?_)
            intro v' w5 ho5 hg5 hv5
            have HR5 := Kept.mk (HW4.out.push HM4.out HNE.out ho5 hg5 (by simpa using hv5))
            have HX5 := Kept.mk (HX4.out.grown hg5 (fun j hj => (hown.out j hj).1))
            clear ho5 hg5 hv5
            go_wp2
            go_roundw
            case rel => exact ⟨i + 1, L ++ [(.slice rv1 c rc, ints l)], by omega, by go_num, by simp [hll], ⟨by rw [HL.out, List.map_append, HLE.out]; rfl⟩, HR5, HX5⟩
            case measure => simp [intOf] <;> omega
    · obtain rfl : i = k := by omega
      have HE : Kept (L.map (·.2) = (tamM D rows most).map ints) := ⟨by rw [HT.out]; exact hat.out.symm⟩
      by_cases hin : i < n
      · have him : ¬ i < most := fun h => hkk hin h
        go_wp2
        go_ret
        exact ⟨hbx.out.1, _, L, rfl, hrw.out.lower (by omega), HE.out⟩
      · go_wp2
        go_ret
        exact ⟨hbx.out.1, _, L, rfl, hrw.out.lower (by omega), HE.out⟩
end Go.Proofs.Ytfhhnfpapgfnmaa
