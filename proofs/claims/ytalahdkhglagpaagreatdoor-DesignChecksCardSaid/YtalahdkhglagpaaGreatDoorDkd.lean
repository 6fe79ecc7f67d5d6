import Derived.Test.YtalahdkhglagpaaGreatDoorDr
import Derived.Test.YtalahdkhglagpaaGreatDoorDb
set_option linter.unusedVariables false
set_option linter.unusedSimpArgs false
namespace Go.Proofs.YtalahdkhglagpaaGreatDoor
open Go Go.RowKit Go.Deep
open Dsg
/-- The numbers below n that satisfy p. -/
def fL (n : Nat) (p : Nat → Bool) : List Int := ((List.range n).filter p).map fun (x : Nat) => (x : Int)
theorem fL_succ (n : Nat) (p : Nat → Bool) : fL (n + 1) p = if p n = true then fL n p ++ [(n : Int)] else fL n p := by
  unfold fL
  rw [List.range_succ, List.filter_append, List.map_append]
  by_cases h : p n = true
  · rw [if_pos h]; simp [h]
  · rw [if_neg h]; simp [h]
theorem fL_len (n : Nat) (p : Nat → Bool) : (fL n p).length ≤ n := by
  unfold fL
  rw [List.length_map]
  exact Nat.le_trans (List.length_filter_le _ _) (by rw [List.length_range]; omega)
set_option maxRecDepth 20000 in
set_option maxHeartbeats 4000000 in
theorem rDual_any (v : Nat) (ao : Option Addr) (rows : List (List Int)) (cap : Nat) (w : World) (h : Sls w ao rows) (hcap : rows.length ≤ cap) (hmax : cap ≤ maxLen) (hv : v ≤ 200) (hr : rows.length ≤ 2000) :
    Calls Tryz.prog 12 #[.int .i64 v, .slice ao rows.length cap] w (RetR w ((List.range v).map fun j => fL rows.length fun x => hasB (rows[x]?.getD []) (j : Nat))) := by
  obtain ⟨n, hN⟩ : ∃ n, rows.length = n := ⟨_, rfl⟩
  have HC := Kept.mk h
  rw [hN] at hcap hr ⊢
  have HN := Kept.mk hN
  unfold maxLen at hmax
  obtain ⟨D, hD⟩ : ∃ D, (fun j : Nat => fL n fun x => hasB (rows[x]?.getD []) (j : Nat)) = D := ⟨_, rfl⟩
  have HD : Kept (∀ j, D j = fL n fun x => hasB (rows[x]?.getD []) (j : Nat)) := ⟨fun j => by rw [← hD]⟩
  rw [hD]
  clear h hN hD
  go_enter Tryz.func12, Tryz.ntmps12
  go_wp2
  go_loopw [5, 6] (fun ov jv wr => ∃ (j : Nat) (L : List (Value × List Int)), j ≤ v ∧ jv = .int .i64 j ∧ L.length = j ∧ Kept (Rws w.heap.size wr ov L) ∧ Kept (L.map (·.2) = (List.range j).map D) ∧ Kept (Below w.heap.size w wr)) (fun _ jv _ => v - (intOf jv).toNat)
  case atStart => exact ⟨0, [], Nat.zero_le _, rfl, rfl, ⟨Rws.nil _ _⟩, ⟨rfl⟩, ⟨Below.refl _ _⟩⟩
  case round =>
    obtain ⟨j, L, hju, rfl, hLl, hrw, hLm, hbj⟩ := hrel
    obtain ⟨oa, oc, hov, _, _⟩ := hrw.out.own.form
    rw [List.length_map, hLl] at hov
    subst hov
    by_cases hlt : j < v
    · obtain ⟨wy, hwy⟩ : ∃ W, W = wr := ⟨_, rfl⟩
      subst hwy
      have HLL := Kept.mk hLl
      clear hLl
      go_wp2
      go_loopw [7, 8] (fun lv xv wr => ∃ x : Nat, x ≤ n ∧ xv = .int .i64 x ∧ Kept (Mine 3 .i64 wy.heap.size wr lv (fL x fun x => hasB (rows[x]?.getD []) (j : Nat))) ∧ Kept (Below wy.heap.size wy wr)) (fun _ xv _ => n - (intOf xv).toNat)
      case atStart => exact ⟨0, Nat.zero_le _, rfl, ⟨Mine.nil _ _ _ _⟩, ⟨Below.refl _ _⟩⟩
      case round =>
        obtain ⟨x, hxu, rfl, hmn, hbx⟩ := hrel
        have hbw := hbj.out.trans (hbx.out.mono hbj.out.size)
        have hfs := fL_succ x (fun x => hasB (rows[x]?.getD []) (j : Nat))
        have hfl := fL_len x (fun x => hasB (rows[x]?.getD []) (j : Nat))
        obtain ⟨ys, hys⟩ : ∃ ys, fL x (fun x => hasB (rows[x]?.getD []) (j : Nat)) = ys := ⟨_, rfl⟩
        rw [hys] at hmn hfs hfl
        obtain ⟨la, lc, hlv, _, _⟩ := hmn.out.sl.form
        obtain ⟨m, hml⟩ : ∃ m, ys.length = m := ⟨_, rfl⟩
        rw [hml] at hlv hfl
        subst hlv
        by_cases hlx : x < n
        · obtain ⟨g, o, rv, rfl, hg, hcell, hs⟩ := HC.out x (by rw [HN.out]; omega)
          have rc := (hbw.cell (p := ⟨g, o + x, none⟩) hg).trans hcell
          have HHA := Kept.mk (has6_any _ (rows[x]?.getD []) (j : Nat) wr (hs.below hbw))
          obtain ⟨ra, rcp, rfl, hrc1, hrc2⟩ := hs.form
          obtain ⟨q, hq⟩ : ∃ q, (rows[x]?.getD []).length = q := ⟨_, rfl⟩
          rw [hq] at rc HHA
          have HBW := Kept.mk hbw
          obtain ⟨b, hb⟩ : ∃ b, hasB (rows[x]?.getD []) (j : Nat) = b := ⟨_, rfl⟩
          rw [hb] at HHA hfs
          clear hb hs hcell hq hrc1 hrc2 hys hbw
          have H1 := Kept.mk (show (ys.length + [(x : Int)].length) * 8 ≤ 140737488355328 by rw [hml]; simp; omega)
          have H2 := Kept.mk (show ys.length + [(x : Int)].length ≤ maxLen by rw [hml]; unfold maxLen; simp; omega)
          have HMA := Kept.mk (hmn.out.alloc (.cells #[.int .i64 (x : Int)] 3))
          have HBB := Kept.mk (show wy.heap.size ≤ (wr.alloc (.cells #[.int .i64 (x : Int)] 3)).heap.size by have := hbx.out.size; simp; omega)
          have HNW := Kept.mk (new_one (K := .i64) (x := (x : Int)) (w := wr.alloc (.cells #[.int .i64 (x : Int)] 3)) (b := wr.heap.size) (o := 0) (by exact (Row.new (E := 3) (K := .i64) wr [(x : Int)]).cell (i := 0) (by simp)))
          have HBA := Kept.mk (hbx.out.alloc hbx.out.size (.cells #[.int .i64 (x : Int)] 3))
          clear hml
          cases b with
          | true =>
            have HM1 : Kept (fL (x + 1) (fun x => hasB (rows[x]?.getD []) (j : Nat)) = ys ++ [(x : Int)]) := ⟨by rw [hfs]; rfl⟩
            clear hfs
            go_wp2_with fail
            refine HHA.out.mono ?_
            rintro e w1 ⟨rfl, rfl⟩
            go_wp2_with (at_builtin; refine wpList_append_mine _ rfl _ _ 40 rfl 3 .i64 8 Tryz.underlying40 info_i64 wy.heap.size _ ys rfl HMA.out HBB.out ⟨wr.heap.size, 0, none⟩ 1 1 [(x : Int)] rfl rfl HNW.out H1.out H2.out ?_)
            intro v' w5 hM5 hg5 hn5
            have HM5 := Kept.mk hM5
            have HB5 := Kept.mk (HBA.out.grown hg5 HBA.out.size (fun k hk => (HMA.out.own k hk).1))
            clear hM5 hg5 hn5
            go_wp2
            go_roundw
            case rel => exact ⟨x + 1, by omega, by go_num, ⟨by rw [HM1.out]; exact HM5.out⟩, HB5⟩
            case measure => simp [intOf] <;> omega
          | false =>
            have HM1 : Kept (fL (x + 1) (fun x => hasB (rows[x]?.getD []) (j : Nat)) = ys) := ⟨by rw [hfs]; rfl⟩
            clear hfs
            go_wp2_with fail
            refine HHA.out.mono ?_
            rintro e w1 ⟨rfl, rfl⟩
            go_wp2
            go_roundw
            case rel => exact ⟨x + 1, by omega, by go_num, ⟨by rw [HM1.out]; exact hmn.out⟩, hbx⟩
            case measure => simp [intOf] <;> omega
        · obtain rfl : x = n := by omega
          have HDJ : Kept (D j = ys) := ⟨by rw [HD.out]; exact hys⟩
          have HBW := Kept.mk hbw
          clear hfs hfl hys hbw
          have HSU : Kept ((List.range (j + 1)).map D = (List.range j).map D ++ [ys]) := ⟨by rw [List.range_succ, List.map_append, ← HDJ.out]; rfl⟩
          have hal := hbx.out.alloc hbx.out.size (.cells #[.slice la m lc] 40)
          have hMA : Mine 3 .i64 w.heap.size (wr.alloc (.cells #[.slice la m lc] 40)) (.slice la m lc) (ys) := (hmn.out.alloc _).lower hbj.out.size
          have hRA : Rws w.heap.size (wr.alloc (.cells #[.slice la m lc] 40)) (.slice oa j oc) L := hrw.out.below hal
          have hne : ∀ g, (Value.slice la m lc).ownBlock = some g → (Value.slice oa j oc).ownBlock ≠ some g := fun g hg e => by
            have h1 := (hmn.out.own g hg).1
            have h2 := (hrw.out.own.own g e).2
            omega
          have HOW := Kept.mk hRA.own
          have HBB := Kept.mk (show w.heap.size ≤ (wr.alloc (.cells #[.slice la m lc] 40)).heap.size by have := HBW.out.size; simp; omega)
          have HNV := Kept.mk (rows_one (W := wr) (rv := .slice la m lc))
          have HLN := Kept.mk (show (L.map (·.1)).length = j by rw [List.length_map]; exact HLL.out)
          have HPU := Kept.mk (fun (v' : Value) (w5 : World) ho hg hn => hRA.push hMA hne (v' := v') (w' := w5) ho hg hn)
          have HGB := Kept.mk (fun (w5 : World) (hg : (wr.alloc (.cells #[.slice la m lc] 40)).grownBy w5 (Value.slice oa j oc).ownBlock) => (hbj.out.trans (hal.mono hbj.out.size)).grown hg HBB.out (fun k hk => (hRA.own.own k hk).1))
          have HLM : Kept ((L ++ [(Value.slice la m lc, ys)]).map (·.2) = (List.range (j + 1)).map D) := ⟨by rw [List.map_append, hLm.out, HSU.out]; rfl⟩
          have HLC : Kept ((L ++ [(Value.slice la m lc, ys)]).length = j + 1) := ⟨by rw [List.length_append, HLL.out]; rfl⟩
          clear hal hMA hRA hne hml
          go_wp2_with (at_builtin; refine wpList_append_w _ rfl _ _ 22 (by rfl) 40 (.slice none 0 0) 24 Tryz.underlying22 info_rows rfl w.heap.size (.slice oa j oc) (L.map (·.1)) (by rfl) HOW.out HBB.out ⟨wr.heap.size, 0, none⟩ 1 (.slice la m lc) (by rfl) HNV.out rfl j HLN.out (by omega) (by omega) ?_)
          intro v' w5 hO5 hg5 hn5
          have HR5 := Kept.mk (HPU.out v' w5 hO5 hg5 (by rw [World.size_alloc]; exact hn5))
          have HB5 := Kept.mk (HGB.out w5 hg5)
          clear hO5 hg5 hn5
          go_wp2
          go_roundw
          case rel => exact ⟨j + 1, _, by omega, by go_num, HLC.out, HR5, HLM, HB5⟩
          case measure => simp [intOf] <;> omega
    · obtain rfl : j = v := by omega
      have HF : Kept (RetR w ((List.range j).map D) (.returned (.slice oa j oc)) wr) := ⟨hbj.out, _, L, rfl, hrw.out, hLm.out⟩
      go_wp2
      go_ret
      exact HF.out
set_option maxRecDepth 20000 in
set_option maxHeartbeats 4000000 in
theorem rComplement_any (v : Nat) (ao : Option Addr) (rows : List (List Int)) (cap : Nat) (w : World) (h : Sls w ao rows) (hcap : rows.length ≤ cap) (hmax : cap ≤ maxLen) (hv : v ≤ 200) (hr : rows.length ≤ 2000) :
    Calls Tryz.prog 13 #[.int .i64 v, .slice ao rows.length cap] w (RetR w ((List.range rows.length).map fun j => fL v fun x => !hasB (rows[j]?.getD []) (x : Nat))) := by
  obtain ⟨n, hN⟩ : ∃ n, rows.length = n := ⟨_, rfl⟩
  have HC := Kept.mk h
  rw [hN] at hcap hr ⊢
  have HN := Kept.mk hN
  unfold maxLen at hmax
  obtain ⟨D, hD⟩ : ∃ D, (fun j : Nat => fL v fun x => !hasB (rows[j]?.getD []) (x : Nat)) = D := ⟨_, rfl⟩
  have HD : Kept (∀ j, D j = fL v fun x => !hasB (rows[j]?.getD []) (x : Nat)) := ⟨fun j => by rw [← hD]⟩
  rw [hD]
  clear h hN hD
  go_enter Tryz.func13, Tryz.ntmps13
  go_wp2
  go_loopw [5, 6] (fun ov jv wr => ∃ (j : Nat) (L : List (Value × List Int)), j ≤ n ∧ jv = .int .i64 j ∧ L.length = j ∧ Kept (Rws w.heap.size wr ov L) ∧ Kept (L.map (·.2) = (List.range j).map D) ∧ Kept (Below w.heap.size w wr)) (fun _ jv _ => n - (intOf jv).toNat)
  case atStart => exact ⟨0, [], Nat.zero_le _, rfl, rfl, ⟨Rws.nil _ _⟩, ⟨rfl⟩, ⟨Below.refl _ _⟩⟩
  case round =>
    obtain ⟨j, L, hju, rfl, hLl, hrw, hLm, hbj⟩ := hrel
    obtain ⟨oa, oc, hov, _, _⟩ := hrw.out.own.form
    rw [List.length_map, hLl] at hov
    subst hov
    by_cases hlt : j < n
    · obtain ⟨wy, hwy⟩ : ∃ W, W = wr := ⟨_, rfl⟩
      subst hwy
      have HLL := Kept.mk hLl
      clear hLl
      go_wp2
      go_loopw [7, 8] (fun lv xv wr => ∃ x : Nat, x ≤ v ∧ xv = .int .i64 x ∧ Kept (Mine 3 .i64 wy.heap.size wr lv (fL x fun x => !hasB (rows[j]?.getD []) (x : Nat))) ∧ Kept (Below wy.heap.size wy wr)) (fun _ xv _ => v - (intOf xv).toNat)
      case atStart => exact ⟨0, Nat.zero_le _, rfl, ⟨Mine.nil _ _ _ _⟩, ⟨Below.refl _ _⟩⟩
      case round =>
        obtain ⟨x, hxu, rfl, hmn, hbx⟩ := hrel
        have hbw := hbj.out.trans (hbx.out.mono hbj.out.size)
        have hfs := fL_succ x (fun x => !hasB (rows[j]?.getD []) (x : Nat))
        have hfl := fL_len x (fun x => !hasB (rows[j]?.getD []) (x : Nat))
        obtain ⟨ys, hys⟩ : ∃ ys, fL x (fun x => !hasB (rows[j]?.getD []) (x : Nat)) = ys := ⟨_, rfl⟩
        rw [hys] at hmn hfs hfl
        obtain ⟨la, lc, hlv, _, _⟩ := hmn.out.sl.form
        obtain ⟨m, hml⟩ : ∃ m, ys.length = m := ⟨_, rfl⟩
        rw [hml] at hlv hfl
        subst hlv
        by_cases hlx : x < v
        · obtain ⟨g, o, rv, rfl, hg, hcell, hs⟩ := HC.out j (by rw [HN.out]; omega)
          have rc := (hbw.cell (p := ⟨g, o + j, none⟩) hg).trans hcell
          have HHA := Kept.mk (has6_any _ (rows[j]?.getD []) (x : Nat) wr (hs.below hbw))
          obtain ⟨ra, rcp, rfl, hrc1, hrc2⟩ := hs.form
          obtain ⟨q, hq⟩ : ∃ q, (rows[j]?.getD []).length = q := ⟨_, rfl⟩
          rw [hq] at rc HHA
          have HBW := Kept.mk hbw
          obtain ⟨b, hb⟩ : ∃ b, hasB (rows[j]?.getD []) (x : Nat) = b := ⟨_, rfl⟩
          rw [hb] at HHA hfs
          clear hb hs hcell hq hrc1 hrc2 hys hbw
          have H1 := Kept.mk (show (ys.length + [(x : Int)].length) * 8 ≤ 140737488355328 by rw [hml]; simp; omega)
          have H2 := Kept.mk (show ys.length + [(x : Int)].length ≤ maxLen by rw [hml]; unfold maxLen; simp; omega)
          have HMA := Kept.mk (hmn.out.alloc (.cells #[.int .i64 (x : Int)] 3))
          have HBB := Kept.mk (show wy.heap.size ≤ (wr.alloc (.cells #[.int .i64 (x : Int)] 3)).heap.size by have := hbx.out.size; simp; omega)
          have HNW := Kept.mk (new_one (K := .i64) (x := (x : Int)) (w := wr.alloc (.cells #[.int .i64 (x : Int)] 3)) (b := wr.heap.size) (o := 0) (by exact (Row.new (E := 3) (K := .i64) wr [(x : Int)]).cell (i := 0) (by simp)))
          have HBA := Kept.mk (hbx.out.alloc hbx.out.size (.cells #[.int .i64 (x : Int)] 3))
          clear hml
          cases b with
          | false =>
            have HM1 : Kept (fL (x + 1) (fun x => !hasB (rows[j]?.getD []) (x : Nat)) = ys ++ [(x : Int)]) := ⟨by rw [hfs]; rfl⟩
            clear hfs
            go_wp2_with fail
            refine HHA.out.mono ?_
            rintro e w1 ⟨rfl, rfl⟩
            go_wp2_with (at_builtin; refine wpList_append_mine _ rfl _ _ 40 rfl 3 .i64 8 Tryz.underlying40 info_i64 wy.heap.size _ ys rfl HMA.out HBB.out ⟨wr.heap.size, 0, none⟩ 1 1 [(x : Int)] rfl rfl HNW.out H1.out H2.out ?_)
            intro v' w5 hM5 hg5 hn5
            have HM5 := Kept.mk hM5
            have HB5 := Kept.mk (HBA.out.grown hg5 HBA.out.size (fun k hk => (HMA.out.own k hk).1))
            clear hM5 hg5 hn5
            go_wp2
            go_roundw
            case rel => exact ⟨x + 1, by omega, by go_num, ⟨by rw [HM1.out]; exact HM5.out⟩, HB5⟩
            case measure => simp [intOf] <;> omega
          | true =>
            have HM1 : Kept (fL (x + 1) (fun x => !hasB (rows[j]?.getD []) (x : Nat)) = ys) := ⟨by rw [hfs]; rfl⟩
            clear hfs
            go_wp2_with fail
            refine HHA.out.mono ?_
            rintro e w1 ⟨rfl, rfl⟩
            go_wp2
            go_roundw
            case rel => exact ⟨x + 1, by omega, by go_num, ⟨by rw [HM1.out]; exact hmn.out⟩, hbx⟩
            case measure => simp [intOf] <;> omega
        · obtain rfl : x = v := by omega
          have HDJ : Kept (D j = ys) := ⟨by rw [HD.out]; exact hys⟩
          have HBW := Kept.mk hbw
          clear hfs hfl hys hbw
          have HSU : Kept ((List.range (j + 1)).map D = (List.range j).map D ++ [ys]) := ⟨by rw [List.range_succ, List.map_append, ← HDJ.out]; rfl⟩
          have hal := hbx.out.alloc hbx.out.size (.cells #[.slice la m lc] 40)
          have hMA : Mine 3 .i64 w.heap.size (wr.alloc (.cells #[.slice la m lc] 40)) (.slice la m lc) (ys) := (hmn.out.alloc _).lower hbj.out.size
          have hRA : Rws w.heap.size (wr.alloc (.cells #[.slice la m lc] 40)) (.slice oa j oc) L := hrw.out.below hal
          have hne : ∀ g, (Value.slice la m lc).ownBlock = some g → (Value.slice oa j oc).ownBlock ≠ some g := fun g hg e => by
            have h1 := (hmn.out.own g hg).1
            have h2 := (hrw.out.own.own g e).2
            omega
          have HOW := Kept.mk hRA.own
          have HBB := Kept.mk (show w.heap.size ≤ (wr.alloc (.cells #[.slice la m lc] 40)).heap.size by have := HBW.out.size; simp; omega)
          have HNV := Kept.mk (rows_one (W := wr) (rv := .slice la m lc))
          have HLN := Kept.mk (show (L.map (·.1)).length = j by rw [List.length_map]; exact HLL.out)
          have HPU := Kept.mk (fun (v' : Value) (w5 : World) ho hg hn => hRA.push hMA hne (v' := v') (w' := w5) ho hg hn)
          have HGB := Kept.mk (fun (w5 : World) (hg : (wr.alloc (.cells #[.slice la m lc] 40)).grownBy w5 (Value.slice oa j oc).ownBlock) => (hbj.out.trans (hal.mono hbj.out.size)).grown hg HBB.out (fun k hk => (hRA.own.own k hk).1))
          have HLM : Kept ((L ++ [(Value.slice la m lc, ys)]).map (·.2) = (List.range (j + 1)).map D) := ⟨by rw [List.map_append, hLm.out, HSU.out]; rfl⟩
          have HLC : Kept ((L ++ [(Value.slice la m lc, ys)]).length = j + 1) := ⟨by rw [List.length_append, HLL.out]; rfl⟩
          clear hal hMA hRA hne hml
          go_wp2_with (at_builtin; refine wpList_append_w _ rfl _ _ 22 (by rfl) 40 (.slice none 0 0) 24 Tryz.underlying22 info_rows rfl w.heap.size (.slice oa j oc) (L.map (·.1)) (by rfl) HOW.out HBB.out ⟨wr.heap.size, 0, none⟩ 1 (.slice la m lc) (by rfl) HNV.out rfl j HLN.out (by omega) (by omega) ?_)
          intro v' w5 hO5 hg5 hn5
          have HR5 := Kept.mk (HPU.out v' w5 hO5 hg5 (by rw [World.size_alloc]; exact hn5))
          have HB5 := Kept.mk (HGB.out w5 hg5)
          clear hO5 hg5 hn5
          go_wp2
          go_roundw
          case rel => exact ⟨j + 1, _, by omega, by go_num, HLC.out, HR5, HLM, HB5⟩
          case measure => simp [intOf] <;> omega
    · obtain rfl : j = n := by omega
      have HF : Kept (RetR w ((List.range j).map D) (.returned (.slice oa j oc)) wr) := ⟨hbj.out, _, L, rfl, hrw.out, hLm.out⟩
      go_wp2
      go_ret
      exact HF.out
end Go.Proofs.YtalahdkhglagpaaGreatDoor
