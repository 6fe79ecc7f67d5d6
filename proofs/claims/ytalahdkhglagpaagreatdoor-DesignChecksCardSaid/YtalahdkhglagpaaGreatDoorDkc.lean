import Derived.Test.YtalahdkhglagpaaGreatDoorDr
import Derived.Test.YtalahdkhglagpaaGreatDoorDb
set_option linter.unusedVariables false
set_option linter.unusedSimpArgs false
namespace Go.Proofs.YtalahdkhglagpaaGreatDoor
open Go Go.RowKit Go.Deep
open Dsg
theorem take_map_succ {rows : List (List Int)} {j c : Nat} (h : j < rows.length) : (rows.take (j + 1)).map (·.take c) = (rows.take j).map (·.take c) ++ [(rows[j]?.getD []).take c] := by
  rw [List.take_add_one, List.getElem?_eq_getElem h, List.map_append]
  rfl
set_option maxRecDepth 20000 in
set_option maxHeartbeats 4000000 in
theorem rawRows6_any (ao : Option Addr) (rows : List (List Int)) (cap mr mc : Nat) (w : World) (h : Sls w ao rows) (hcap : rows.length ≤ cap) (hmax : cap ≤ maxLen) (hmr : mr ≤ 1000) (hmc : mc ≤ 1000) :
    Calls Tryz.prog 4 #[.slice ao rows.length cap, .int .i64 mr, .int .i64 mc] w (RetR w ((rows.take mr).map (·.take mc))) := by
  obtain ⟨n, hN⟩ : ∃ n, rows.length = n := ⟨_, rfl⟩
  have HC := Kept.mk h
  rw [hN] at hcap ⊢
  have HN := Kept.mk hN
  unfold maxLen at hmax
  have HMX : Kept (cap ≤ maxLen) := ⟨by unfold maxLen; omega⟩
  clear h hN
  go_enter Tryz.func4, Tryz.ntmps4
  go_wp2
  go_loopw [7, 8] (fun ov jv wr => ∃ (j : Nat) (L : List (Value × List Int)), j ≤ min n mr ∧ jv = .int .i64 j ∧ L.length = j ∧ Kept (Rws w.heap.size wr ov L) ∧ Kept (L.map (·.2) = (rows.take j).map (·.take mc)) ∧ Kept (Below w.heap.size w wr)) (fun _ jv _ => n - (intOf jv).toNat)
  case atStart => exact ⟨0, [], Nat.zero_le _, rfl, rfl, ⟨Rws.nil _ _⟩, ⟨rfl⟩, ⟨Below.refl _ _⟩⟩
  case round =>
    obtain ⟨j, L, hju, rfl, hLl, hrw, hLm, hbj⟩ := hrel
    obtain ⟨oa, oc, hov, _, _⟩ := hrw.out.own.form
    rw [List.length_map, hLl] at hov
    subst hov
    by_cases hlt : j < n
    · have e1 : decide ((j : Int) < (n : Int)) = true := decide_eq_true (by omega)
      by_cases hlm : j < mr
      · have e2 : decide ((j : Int) < (mr : Int)) = true := decide_eq_true (by omega)
        obtain ⟨g, o, rv, rfl, hg, hcell, hs⟩ := HC.out j (by rw [HN.out]; exact hlt)
        have rc := (hbj.out.cell (p := ⟨g, o + j, none⟩) hg).trans hcell
        obtain ⟨xs, hxs⟩ : ∃ xs, rows[j]?.getD [] = xs := ⟨_, rfl⟩
        rw [hxs] at hs
        obtain ⟨ra, rcp, rfl, hrc1, hrc2⟩ := hs.form
        have HRW := Kept.mk (raw6_any _ xs mc wr (hs.below hbj.out) hmc)
        have HTK := Kept.mk (take_map_succ (c := mc) (rows := rows) (j := j) (by rw [HN.out]; exact hlt))
        rw [hxs] at HTK
        obtain ⟨q, hq⟩ : ∃ q, xs.length = q := ⟨_, rfl⟩
        rw [hq] at rc HRW
        have HLL := Kept.mk hLl
        obtain ⟨wy, hwy⟩ : ∃ W, W = wr := ⟨_, rfl⟩
        subst hwy
        clear hxs hcell hs hrc1 hrc2 hq hLl
        go_wp2_with fail
        refine HRW.out.mono ?_
        rintro e wr ⟨hbr, lv, rfl, hmr2⟩
        have hbx := Kept.mk hbr
        have hmn := Kept.mk hmr2
        have HBW := Kept.mk (bstep hbj.out hbr)
        clear hbr hmr2 HRW
        obtain ⟨ys, hys⟩ : ∃ ys, xs.take mc = ys := ⟨_, rfl⟩
        rw [hys] at hmn HTK
        clear hys
        obtain ⟨la, lc, hlv, _, _⟩ := hmn.out.sl.form
        obtain ⟨m, hml⟩ : ∃ m, ys.length = m := ⟨_, rfl⟩
        rw [hml] at hlv
        subst hlv
        have hal := hbx.out.alloc hbx.out.size (.cells #[.slice la m lc] 40)
        have hMA : Mine 3 .i64 w.heap.size (wr.alloc (.cells #[.slice la m lc] 40)) (.slice la m lc) (ys) := (hmn.out.alloc _).lower hbj.out.size
        have hRA : Rws w.heap.size (wr.alloc (.cells #[.slice la m lc] 40)) (.slice oa j oc) L := hrw.out.below hal
        have hne : ∀ g, (Value.slice la m lc).ownBlock = some g → (Value.slice oa j oc).ownBlock ≠ some g := fun g hg e => by
          have h1 := (hmn.out.own g hg).1
          have h2 := (hrw.out.own.own g e).2
          omega
        have HOW := Kept.mk hRA.own
        have HBB := Kept.mk (show w.heap.size ≤ (wr.alloc (.cells #[.slice la m lc] 40)).heap.size by have := HBW.out.size; simp; omega)
        have HNV := Kept.mk (rows_one (W := wr) (rv := .slice la m lc))
        have HLN := Kept.mk (show (L.map (·.1)).length = j by rw [List.length_map]; exact HLL.out)
        have HPU := Kept.mk (fun (v' : Value) (w5 : World) ho hg hn => hRA.push hMA hne (v' := v') (w' := w5) ho hg hn)
        have HGB := Kept.mk (fun (w5 : World) (hg : (wr.alloc (.cells #[.slice la m lc] 40)).grownBy w5 (Value.slice oa j oc).ownBlock) => (hbj.out.trans (hal.mono hbj.out.size)).grown hg HBB.out (fun k hk => (hRA.own.own k hk).1))
        have HLM : Kept ((L ++ [(Value.slice la m lc, ys)]).map (·.2) = (rows.take (j + 1)).map (·.take mc)) := ⟨by rw [List.map_append, hLm.out, HTK.out]; rfl⟩
        have HLC : Kept ((L ++ [(Value.slice la m lc, ys)]).length = j + 1) := ⟨by rw [List.length_append, HLL.out]; rfl⟩
        clear hal hMA hRA hne hml
        go_wp2_with (at_builtin; refine wpList_append_w _ rfl _ _ 22 (by rfl) 40 (.slice none 0 0) 24 Tryz.underlying22 info_rows rfl w.heap.size (.slice oa j oc) (L.map (·.1)) (by rfl) HOW.out HBB.out ⟨wr.heap.size, 0, none⟩ 1 (.slice la m lc) (by rfl) HNV.out rfl j HLN.out (by omega) (by omega) ?_)
        intro v' w5 hO5 hg5 hn5
        have HR5 := Kept.mk (HPU.out v' w5 hO5 hg5 (by rw [World.size_alloc]; exact hn5))
        have HB5 := Kept.mk (HGB.out w5 hg5)
        clear hO5 hg5 hn5
        go_wp2
        go_roundw
        case rel => exact ⟨j + 1, _, by omega, by go_num, HLC.out, HR5, HLM, HB5⟩
        case measure => simp [intOf] <;> omega
      · have e2 : decide ((j : Int) < (mr : Int)) = false := decide_eq_false (by omega)
        have HF : Kept (RetR w ((rows.take mr).map (·.take mc)) (.returned (.slice oa j oc)) wr) := ⟨hbj.out, _, L, rfl, hrw.out, by rw [hLm.out, show j = mr by omega]⟩
        go_wp2
        go_ret
        exact HF.out
    · have e1 : decide ((j : Int) < (n : Int)) = false := decide_eq_false (by omega)
      have HF : Kept (RetR w ((rows.take mr).map (·.take mc)) (.returned (.slice oa j oc)) wr) := ⟨hbj.out, _, L, rfl, hrw.out, by
        rw [hLm.out, List.take_of_length_le (by rw [HN.out]; omega), List.take_of_length_le (by rw [HN.out]; omega)]⟩
      go_wp2
      go_ret
      exact HF.out
end Go.Proofs.YtalahdkhglagpaaGreatDoor
