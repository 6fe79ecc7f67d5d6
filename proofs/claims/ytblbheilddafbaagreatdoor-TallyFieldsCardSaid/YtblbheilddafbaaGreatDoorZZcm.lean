/-
  Texts of the proof, merged by program: Zad Zsu Zmu Zcm.
-/
import Derived.Test.YtblbheilddafbaaGreatDoorZZtr
set_option linter.unusedVariables false
set_option linter.unusedSimpArgs false
namespace Go.Proofs.YtblbheilddafbaaGreatDoor
open Go Go.RowKit
set_option maxRecDepth 20000 in
set_option maxHeartbeats 2000000 in
theorem addN_any (va vb : Value) (xs ys : List Int) (w : World) (ha : Sl .i64 w va xs) (hb : Sl .i64 w vb ys) (wx : Dg.Wf BN xs) (wy : Dg.Wf BN ys) (nx : Dg.Nz xs) (ny : Dg.Nz ys) (hxl : xs.length ≤ 17000000000000) (hyl : ys.length ≤ 17000000000000) :
    Calls Tryz.prog 98 #[va, vb] w (RetR (max xs.length ys.length + 1) w (Dg.val BN xs + Dg.val BN ys)) := by
  obtain ⟨ao, cap, rfl, hcap, hmax, hc⟩ := ha
  obtain ⟨bo, bcap, rfl, hbcap, hbmax, hbc⟩ := hb
  unfold maxLen at hmax hbmax
  obtain ⟨M, hM⟩ : ∃ M, M = max xs.length ys.length := ⟨_, rfl⟩
  rw [← hM]
  have hMx : xs.length ≤ M := by omega
  have hMy : ys.length ≤ M := by omega
  have hMl : M ≤ 17000000000000 := by omega
  have HM := Kept.mk hM
  have HC := Kept.mk hc
  have HBC := Kept.mk hbc
  have WX := Kept.mk wx
  have WY := Kept.mk wy
  have NX := Kept.mk nx
  have NY := Kept.mk ny
  clear hM hc hbc wx wy nx ny
  go_enter Tryz.func98, Tryz.ntmps98
  go_wp2
  go_loopw [5, 6, 7] (fun o c i wr => ∃ (k : Nat) (cv : Int) (zs : List Int), k ≤ M + 1 ∧ i = .int .i64 k ∧ c = .int .i64 cv ∧ 0 ≤ cv ∧ cv ≤ 1 ∧ Kept (RaAt xs ys zs k cv) ∧ Kept (Mine 3 .i64 w.heap.size wr o zs) ∧ Kept (Below w.heap.size w wr)) (fun _ _ i _ => M + 2 - (intOf i).toNat)
  case atStart => exact ⟨0, 0, [], Nat.zero_le _, rfl, rfl, by omega, by omega, ⟨RaAt.start xs ys⟩, ⟨Mine.nil _ _ _ _⟩, ⟨Below.refl _ _⟩⟩
  case round =>
    obtain ⟨k, cv, zs, hk, rfl, rfl, hc0, hc1, hat, hm, hbl⟩ := hrel
    by_cases hcond : k < xs.length ∨ k < ys.length ∨ 0 < cv
    · obtain ⟨x, hx⟩ : ∃ x, x = xs[k]?.getD 0 := ⟨_, rfl⟩
      obtain ⟨y, hy⟩ : ∃ y, y = ys[k]?.getD 0 := ⟨_, rfl⟩
      have hxb := Dg.Wf.getD (show (0 : Int) < BN by decide) WX.out k
      have hyb := Dg.Wf.getD (show (0 : Int) < BN by decide) WY.out k
      rw [← hx] at hxb
      rw [← hy] at hyb
      have hx0 : 0 ≤ x := hxb.1
      have hx1 : x < 1000000000 := hxb.2
      have hy0 : 0 ≤ y := hyb.1
      have hy1 : y < 1000000000 := hyb.2
      have HNX := Kept.mk (hat.out.next hx hy hxb hyb hcond)
      have hkM : k ≤ M := by
        have := HNX.out.kl
        have := HM.out
        omega
      have hlen := hat.out.len
      obtain ⟨d, hd⟩ : ∃ d, (cv + x + y) % 1000000000 = d := ⟨_, rfl⟩
      obtain ⟨q, hq⟩ : ∃ q, (cv + x + y) / 1000000000 = q := ⟨_, rfl⟩
      have HD := Kept.mk hd
      have HQ := Kept.mk hq
      have hq0 : 0 ≤ q := by omega
      have hq1 : q ≤ 1 := by omega
      have HMa := Lib.hid (hm.out.alloc (.cells #[.int .i64 d] 3))
      have HNW := Lib.hid (new_one (K := .i64) (x := d) (w := wr.alloc (.cells #[.int .i64 d] 3)) (b := wr.heap.size) (o := 0) (by exact (Row.new (E := 3) (K := .i64) wr [d]).cell (i := 0) (by simp)))
      have HBB := Lib.hid (show w.heap.size ≤ (wr.alloc (.cells #[.int .i64 d] 3)).heap.size by have := hbl.out.size; simp; omega)
      have H1 := Lib.hid (show (zs.length + [d].length) * 8 ≤ 140737488355328 by simp; omega)
      have H2 := Lib.hid (show zs.length + [d].length ≤ maxLen by unfold maxLen; simp; omega)
      have hOwn := Kept.mk hm.out.own
      by_cases hkx : k < xs.length
      · by_cases hky : k < ys.length
        · obtain ⟨b, o, rfl, hbs, hcell⟩ := HC.out k hkx
          rw [← hx] at hcell
          have hcl := (hbl.out.cell (p := ⟨b, o + k, none⟩) hbs).trans hcell
          obtain ⟨b', o', rfl, hbs', hcell'⟩ := HBC.out k hky
          rw [← hy] at hcell'
          have hcl' := (hbl.out.cell (p := ⟨b', o' + k, none⟩) hbs').trans hcell'
          have hmod : (cv + x + y) % 1000000000 = d := by exact hd
          have hquo : (cv + x + y) / 1000000000 = q := by exact hq
          have HQU := Kept.mk hquo
          clear hlen hd hq hquo hcond hxb hyb hx hy hcell hcell'
          go_wp2_with (at_builtin; refine wpList_append_mine _ rfl _ _ 23 rfl 3 .i64 8 Tryz.underlying23 info_i64 w.heap.size _ zs rfl HMa.out HBB.out ⟨wr.heap.size, 0, none⟩ 1 1 [d] rfl rfl HNW.out H1.out H2.out ?_)
          intro v' w5 hm5 hg5 hn5
          have HM5 := Kept.mk hm5
          have HB5 := Kept.mk (hbl.out.grown (growTrans (World.grownBy_alloc wr (.cells #[.int .i64 d] 3) _) hg5) hbl.out.size (fun j hj => (hOwn.out j hj).1))
          clear hm5 hg5 hn5
          go_wp2
          go_roundw
          case rel => exact ⟨k + 1, q, zs ++ [d], by omega, by go_num, congrArg (Value.int .i64) HQU.out, hq0, hq1, ⟨by have := HNX.out; rw [HD.out, HQ.out] at this; exact this⟩, HM5, HB5⟩
          case measure => simp [intOf]; omega
        · obtain ⟨b, o, rfl, hbs, hcell⟩ := HC.out k hkx
          rw [← hx] at hcell
          have hcl := (hbl.out.cell (p := ⟨b, o + k, none⟩) hbs).trans hcell
          have ey : y = 0 := by rw [hy]; exact Dg.getD_out (by omega)
          subst ey
          have hmod : (cv + x) % 1000000000 = d := by rw [← hd]; congr 1; omega
          have hquo : (cv + x) / 1000000000 = q := by rw [← hq]; congr 1; omega
          have HQU := Kept.mk hquo
          clear hlen hd hq hquo hcond hxb hyb hx hy hcell
          go_wp2_with (at_builtin; refine wpList_append_mine _ rfl _ _ 23 rfl 3 .i64 8 Tryz.underlying23 info_i64 w.heap.size _ zs rfl HMa.out HBB.out ⟨wr.heap.size, 0, none⟩ 1 1 [d] rfl rfl HNW.out H1.out H2.out ?_)
          intro v' w5 hm5 hg5 hn5
          have HM5 := Kept.mk hm5
          have HB5 := Kept.mk (hbl.out.grown (growTrans (World.grownBy_alloc wr (.cells #[.int .i64 d] 3) _) hg5) hbl.out.size (fun j hj => (hOwn.out j hj).1))
          clear hm5 hg5 hn5
          go_wp2
          go_roundw
          case rel => exact ⟨k + 1, q, zs ++ [d], by omega, by go_num, congrArg (Value.int .i64) HQU.out, hq0, hq1, ⟨by have := HNX.out; rw [HD.out, HQ.out] at this; exact this⟩, HM5, HB5⟩
          case measure => simp [intOf]; omega
      · by_cases hky : k < ys.length
        · have ex : x = 0 := by rw [hx]; exact Dg.getD_out (by omega)
          subst ex
          obtain ⟨b', o', rfl, hbs', hcell'⟩ := HBC.out k hky
          rw [← hy] at hcell'
          have hcl' := (hbl.out.cell (p := ⟨b', o' + k, none⟩) hbs').trans hcell'
          have hmod : (cv + y) % 1000000000 = d := by rw [← hd]; congr 1; omega
          have hquo : (cv + y) / 1000000000 = q := by rw [← hq]; congr 1; omega
          have HQU := Kept.mk hquo
          clear hlen hd hq hquo hcond hxb hyb hx hy hcell'
          go_wp2_with (at_builtin; refine wpList_append_mine _ rfl _ _ 23 rfl 3 .i64 8 Tryz.underlying23 info_i64 w.heap.size _ zs rfl HMa.out HBB.out ⟨wr.heap.size, 0, none⟩ 1 1 [d] rfl rfl HNW.out H1.out H2.out ?_)
          intro v' w5 hm5 hg5 hn5
          have HM5 := Kept.mk hm5
          have HB5 := Kept.mk (hbl.out.grown (growTrans (World.grownBy_alloc wr (.cells #[.int .i64 d] 3) _) hg5) hbl.out.size (fun j hj => (hOwn.out j hj).1))
          clear hm5 hg5 hn5
          go_wp2
          go_roundw
          case rel => exact ⟨k + 1, q, zs ++ [d], by omega, by go_num, congrArg (Value.int .i64) HQU.out, hq0, hq1, ⟨by have := HNX.out; rw [HD.out, HQ.out] at this; exact this⟩, HM5, HB5⟩
          case measure => simp [intOf]; omega
        · have hcv : 0 < cv := by omega
          have ex : x = 0 := by rw [hx]; exact Dg.getD_out (by omega)
          subst ex
          have ey : y = 0 := by rw [hy]; exact Dg.getD_out (by omega)
          subst ey
          have hmod : (cv) % 1000000000 = d := by rw [← hd]; congr 1; omega
          have hquo : (cv) / 1000000000 = q := by rw [← hq]; congr 1; omega
          have HQU := Kept.mk hquo
          clear hlen hd hq hquo hcond hxb hyb hx hy
          go_wp2_with (at_builtin; refine wpList_append_mine _ rfl _ _ 23 rfl 3 .i64 8 Tryz.underlying23 info_i64 w.heap.size _ zs rfl HMa.out HBB.out ⟨wr.heap.size, 0, none⟩ 1 1 [d] rfl rfl HNW.out H1.out H2.out ?_)
          intro v' w5 hm5 hg5 hn5
          have HM5 := Kept.mk hm5
          have HB5 := Kept.mk (hbl.out.grown (growTrans (World.grownBy_alloc wr (.cells #[.int .i64 d] 3) _) hg5) hbl.out.size (fun j hj => (hOwn.out j hj).1))
          clear hm5 hg5 hn5
          go_wp2
          go_roundw
          case rel => exact ⟨k + 1, q, zs ++ [d], by omega, by go_num, congrArg (Value.int .i64) HQU.out, hq0, hq1, ⟨by have := HNX.out; rw [HD.out, HQ.out] at this; exact this⟩, HM5, HB5⟩
          case measure => simp [intOf]; omega
    · have hcv : cv = 0 := by omega
      subst hcv
      have hd := hat.out.done (by omega) (by omega) WX.out WY.out NX.out NY.out
      rw [← HM.out] at hd
      have HN : Kept (NumR (M + 1) wr u5 (Dg.val BN xs + Dg.val BN ys)) := ⟨⟨zs, hm.out.sl, hat.out.wf, hd.1, hd.2.1, hd.2.2⟩⟩
      have c1 : ¬ k < xs.length := by omega
      have c2 : ¬ k < ys.length := by omega
      clear hd
      go_wp2
      go_ret
      exact ⟨hbl.out, _, rfl, HN.out⟩
end Go.Proofs.YtblbheilddafbaaGreatDoor

set_option linter.unusedVariables false
set_option linter.unusedSimpArgs false
namespace Go.Proofs.YtblbheilddafbaaGreatDoor
open Go Go.RowKit
set_option maxRecDepth 20000 in
set_option maxHeartbeats 2000000 in
theorem subN_any (va vb : Value) (xs ys : List Int) (w : World) (ha : Sl .i64 w va xs) (hb : Sl .i64 w vb ys) (wx : Dg.Wf BN xs) (wy : Dg.Wf BN ys) (hle : ys.length ≤ xs.length) (hv : Dg.val BN ys ≤ Dg.val BN xs) (hxl : xs.length ≤ 17000000000000) :
    Calls Tryz.prog 99 #[va, vb] w (RetR xs.length w (Dg.val BN xs - Dg.val BN ys)) := by
  obtain ⟨ao, cap, rfl, hcap, hmax, hc⟩ := ha
  obtain ⟨bo, bcap, rfl, hbcap, hbmax, hbc⟩ := hb
  unfold maxLen at hmax hbmax
  have HC := Kept.mk hc
  have HBC := Kept.mk hbc
  have WX := Kept.mk wx
  have WY := Kept.mk wy
  have HV := Kept.mk hv
  clear hc hbc wx wy hv
  go_enter Tryz.func99, Tryz.ntmps99
  go_wp2
  go_loopw [5, 6, 7] (fun o c i wr => ∃ (k : Nat) (cv : Int) (zs : List Int), k ≤ xs.length ∧ i = .int .i64 k ∧ c = .int .i64 cv ∧ 0 ≤ cv ∧ cv ≤ 1 ∧ Kept (RsAt xs ys zs k cv) ∧ Kept (Mine 3 .i64 w.heap.size wr o zs) ∧ Kept (Below w.heap.size w wr)) (fun _ _ i _ => xs.length - (intOf i).toNat)
  case atStart => exact ⟨0, 0, [], Nat.zero_le _, rfl, rfl, by omega, by omega, ⟨RsAt.start xs ys⟩, ⟨Mine.nil _ _ _ _⟩, ⟨Below.refl _ _⟩⟩
  case round =>
    obtain ⟨k, cv, zs, hk, rfl, rfl, hc0, hc1, hat, hm, hbl⟩ := hrel
    by_cases hkx : k < xs.length
    · obtain ⟨x, hx⟩ : ∃ x, x = xs[k]?.getD 0 := ⟨_, rfl⟩
      obtain ⟨y, hy⟩ : ∃ y, y = ys[k]?.getD 0 := ⟨_, rfl⟩
      have hxb := Dg.Wf.getD (show (0 : Int) < BN by decide) WX.out k
      have hyb := Dg.Wf.getD (show (0 : Int) < BN by decide) WY.out k
      rw [← hx] at hxb
      rw [← hy] at hyb
      have hx0 : 0 ≤ x := hxb.1
      have hx1 : x < 1000000000 := hxb.2
      have hy0 : 0 ≤ y := hyb.1
      have hy1 : y < 1000000000 := hyb.2
      have hlen := hat.out.len
      obtain ⟨d, q, hd, hd0, hd1, hq0, hq1⟩ : ∃ d q : Int, x - y - cv = d - 1000000000 * q ∧ 0 ≤ d ∧ d < 1000000000 ∧ 0 ≤ q ∧ q ≤ 1 := by
        by_cases h : x - y - cv < 0
        · exact ⟨x - y - cv + 1000000000, 1, by omega, by omega, by omega, by omega, by omega⟩
        · exact ⟨x - y - cv, 0, by omega, by omega, by omega, by omega, by omega⟩
      have HNX := Kept.mk (hat.out.next hx hy hd0 hd1 hq0 hq1 hd)
      have HMa := Lib.hid (hm.out.alloc (.cells #[.int .i64 d] 3))
      have HNW := Lib.hid (new_one (K := .i64) (x := d) (w := wr.alloc (.cells #[.int .i64 d] 3)) (b := wr.heap.size) (o := 0) (by exact (Row.new (E := 3) (K := .i64) wr [d]).cell (i := 0) (by simp)))
      have HBB := Lib.hid (show w.heap.size ≤ (wr.alloc (.cells #[.int .i64 d] 3)).heap.size by have := hbl.out.size; simp; omega)
      have H1 := Lib.hid (show (zs.length + [d].length) * 8 ≤ 140737488355328 by simp; omega)
      have H2 := Lib.hid (show zs.length + [d].length ≤ maxLen by unfold maxLen; simp; omega)
      have hOwn := Kept.mk hm.out.own
      obtain ⟨b, o, rfl, hbs, hcell⟩ := HC.out k hkx
      rw [← hx] at hcell
      have hcl := (hbl.out.cell (p := ⟨b, o + k, none⟩) hbs).trans hcell
      by_cases hky : k < ys.length
      · obtain ⟨b', o', rfl, hbs', hcell'⟩ := HBC.out k hky
        rw [← hy] at hcell'
        have hcl' := (hbl.out.cell (p := ⟨b', o' + k, none⟩) hbs').trans hcell'
        by_cases hneg : x - cv - y < 0
        · obtain rfl : q = 1 := by omega
          obtain rfl : d = x - cv - y + 1000000000 := by omega
          clear hlen hd hx hy hcell hcell' hxb hyb
          go_wp2_with (at_builtin; refine wpList_append_mine _ rfl _ _ 23 rfl 3 .i64 8 Tryz.underlying23 info_i64 w.heap.size _ zs rfl HMa.out HBB.out ⟨wr.heap.size, 0, none⟩ 1 1 [x - cv - y + 1000000000] rfl rfl HNW.out H1.out H2.out ?_)
          intro v' w5 hm5 hg5 hn5
          have HM5 := Kept.mk hm5
          have HB5 := Kept.mk (hbl.out.grown (growTrans (World.grownBy_alloc wr (.cells #[.int .i64 (x - cv - y + 1000000000)] 3) _) hg5) hbl.out.size (fun j hj => (hOwn.out j hj).1))
          clear hm5 hg5 hn5
          go_wp2
          go_roundw
          case rel => exact ⟨k + 1, 1, _, by omega, by go_num, rfl, hq0, hq1, HNX, HM5, HB5⟩
          case measure => simp [intOf]; omega
        · obtain rfl : q = 0 := by omega
          obtain rfl : d = x - cv - y := by omega
          clear hlen hd hx hy hcell hcell' hxb hyb
          go_wp2_with (at_builtin; refine wpList_append_mine _ rfl _ _ 23 rfl 3 .i64 8 Tryz.underlying23 info_i64 w.heap.size _ zs rfl HMa.out HBB.out ⟨wr.heap.size, 0, none⟩ 1 1 [x - cv - y] rfl rfl HNW.out H1.out H2.out ?_)
          intro v' w5 hm5 hg5 hn5
          have HM5 := Kept.mk hm5
          have HB5 := Kept.mk (hbl.out.grown (growTrans (World.grownBy_alloc wr (.cells #[.int .i64 (x - cv - y)] 3) _) hg5) hbl.out.size (fun j hj => (hOwn.out j hj).1))
          clear hm5 hg5 hn5
          go_wp2
          go_roundw
          case rel => exact ⟨k + 1, 0, _, by omega, by go_num, rfl, hq0, hq1, HNX, HM5, HB5⟩
          case measure => simp [intOf]; omega
      · have ey : y = 0 := by rw [hy]; exact Dg.getD_out (by omega)
        subst ey
        by_cases hneg : x - cv < 0
        · obtain rfl : q = 1 := by omega
          obtain rfl : d = x - cv + 1000000000 := by omega
          clear hlen hd hx hy hcell hxb hyb
          go_wp2_with (at_builtin; refine wpList_append_mine _ rfl _ _ 23 rfl 3 .i64 8 Tryz.underlying23 info_i64 w.heap.size _ zs rfl HMa.out HBB.out ⟨wr.heap.size, 0, none⟩ 1 1 [x - cv + 1000000000] rfl rfl HNW.out H1.out H2.out ?_)
          intro v' w5 hm5 hg5 hn5
          have HM5 := Kept.mk hm5
          have HB5 := Kept.mk (hbl.out.grown (growTrans (World.grownBy_alloc wr (.cells #[.int .i64 (x - cv + 1000000000)] 3) _) hg5) hbl.out.size (fun j hj => (hOwn.out j hj).1))
          clear hm5 hg5 hn5
          go_wp2
          go_roundw
          case rel => exact ⟨k + 1, 1, _, by omega, by go_num, rfl, hq0, hq1, HNX, HM5, HB5⟩
          case measure => simp [intOf]; omega
        · obtain rfl : q = 0 := by omega
          obtain rfl : d = x - cv := by omega
          clear hlen hd hx hy hcell hxb hyb
          go_wp2_with (at_builtin; refine wpList_append_mine _ rfl _ _ 23 rfl 3 .i64 8 Tryz.underlying23 info_i64 w.heap.size _ zs rfl HMa.out HBB.out ⟨wr.heap.size, 0, none⟩ 1 1 [x - cv] rfl rfl HNW.out H1.out H2.out ?_)
          intro v' w5 hm5 hg5 hn5
          have HM5 := Kept.mk hm5
          have HB5 := Kept.mk (hbl.out.grown (growTrans (World.grownBy_alloc wr (.cells #[.int .i64 (x - cv)] 3) _) hg5) hbl.out.size (fun j hj => (hOwn.out j hj).1))
          clear hm5 hg5 hn5
          go_wp2
          go_roundw
          case rel => exact ⟨k + 1, 0, _, by omega, by go_num, rfl, hq0, hq1, HNX, HM5, HB5⟩
          case measure => simp [intOf]; omega
    · obtain rfl : k = xs.length := by omega
      have hd := hat.out.done hle HV.out
      have HS := Kept.mk hm.out.sl
      have HL := Kept.mk hat.out.len
      have HD := Kept.mk hd.2
      have HW := Kept.mk hd.1
      clear hd
      go_wp2_with fail
      refine (trim_num HS.out HW.out).mono ?_
      rintro e w2 ⟨v2, rfl, rfl, hn2, _⟩
      rw [HD.out, HL.out] at hn2
      have HN2 := Kept.mk hn2
      clear hn2
      go_wp2
      go_ret
      exact ⟨hbl.out, _, rfl, HN2.out⟩
end Go.Proofs.YtblbheilddafbaaGreatDoor

set_option linter.unusedVariables false
set_option linter.unusedSimpArgs false
namespace Go.Proofs.YtblbheilddafbaaGreatDoor
open Go Go.RowKit
set_option maxRecDepth 20000 in
set_option maxHeartbeats 2000000 in
theorem mulN_any (va vb : Value) (xs ys : List Int) (w : World) (ha : Sl .i64 w va xs) (hb : Sl .i64 w vb ys) (wx : Dg.Wf BN xs) (wy : Dg.Wf BN ys) (hxl : xs.length ≤ 1099511627776) (hyl : ys.length ≤ 1099511627776) :
    Calls Tryz.prog 100 #[va, vb] w (RetR (xs.length + ys.length) w (Dg.val BN xs * Dg.val BN ys)) := by
  obtain ⟨ao, cap, rfl, hcap, hmax, hc⟩ := ha
  obtain ⟨bo, bcap, rfl, hbcap, hbmax, hbc⟩ := hb
  unfold maxLen at hmax hbmax
  have HC := Kept.mk hc
  have HBC := Kept.mk hbc
  have WX := Kept.mk wx
  have WY := Kept.mk wy
  clear hc hbc wx wy
  go_enter Tryz.func100, Tryz.ntmps100
  go_wp2_with (at_make; refine wpList_make_zeros _ rfl _ _ 23 rfl 3 .i64 Tryz.underlying23 info_i64 _ _ (xs.length + ys.length) rfl rfl (by omega) (by omega) (by omega) ?_)
  intro w1 hrow hbel
  have HR1 := Kept.mk hrow
  have HB1 := Kept.mk hbel
  clear hrow hbel
  go_wp2
  go_loopw [6] (fun i wr => ∃ (n : Nat) (T : List Int), n ≤ xs.length ∧ i = .int .i64 n ∧ Kept (RmAt xs ys T n) ∧ Kept (Row 3 .i64 wr w.heap.size T) ∧ Kept (Below w.heap.size w wr)) (fun i _ => xs.length - (intOf i).toNat)
  case atStart => exact ⟨0, _, Nat.zero_le _, rfl, ⟨RmAt.start xs ys⟩, HR1, HB1⟩
  case round =>
    obtain ⟨n, T, hn, rfl, hat, hr, hbl⟩ := hrel
    by_cases hnx : n < xs.length
    · obtain ⟨x, hx⟩ : ∃ x, x = xs[n]?.getD 0 := ⟨_, rfl⟩
      have hxb := Dg.Wf.getD (show (0 : Int) < BN by decide) WX.out n
      rw [← hx] at hxb
      have hx0 : 0 ≤ x := hxb.1
      have hx1 : x < 1000000000 := hxb.2
      obtain ⟨b, o, rfl, hbs, hcell⟩ := HC.out n hnx
      rw [← hx] at hcell
      have HX := Kept.mk hx
      have HCL := Kept.mk hcell
      clear hx hcell hxb
      go_wp2
      go_loopw [7, 8] (fun c kv wi => ∃ (k : Nat) (cv : Int) (T' : List Int), k ≤ ys.length + 1 ∧ kv = .int .i64 k ∧ c = .int .i64 cv ∧ 0 ≤ cv ∧ cv < 1000000000 ∧ Kept (RmIn xs ys T' n k x cv) ∧ Kept (Row 3 .i64 wi w.heap.size T') ∧ Kept (Below w.heap.size w wi)) (fun _ kv _ => ys.length + 2 - (intOf kv).toNat)
      case atStart => exact ⟨0, 0, T, Nat.zero_le _, rfl, rfl, by omega, by omega, ⟨hat.out.row x⟩, hr, hbl⟩
      case round =>
        obtain ⟨k, cv, T', hk, rfl, rfl, hc0, hc1, hin, hri, hbi⟩ := hrel
        by_cases hcond : k < ys.length ∨ 0 < cv
        · obtain ⟨y, hy⟩ : ∃ y, y = ys[k]?.getD 0 := ⟨_, rfl⟩
          obtain ⟨t, ht⟩ : ∃ t, t = T'[n + k]?.getD 0 := ⟨_, rfl⟩
          obtain ⟨hlt, hm0, hm1, ht0, ht1, hnx'⟩ := hin.out.next hnx hy ht hx0 hx1 WY.out hcond
          have hkk : k ≤ ys.length := by
            apply Classical.byContradiction
            intro hc
            have := (hin.out.top (by omega)).1
            omega
          have HNX := Kept.mk hnx'
          have hct := hri.out.cell hlt
          have hft := hri.out.free (n + k)
          rw [← ht] at hct
          have hcx := (hbi.out.cell (p := ⟨b, o + n, none⟩) hbs).trans HCL.out
          obtain ⟨m, hm⟩ : ∃ m, x * y = m := ⟨_, rfl⟩
          rw [hm] at hm0 hm1
          obtain ⟨d, hd⟩ : ∃ d, (t + cv + m) % 1000000000 = d := ⟨_, rfl⟩
          obtain ⟨q, hq⟩ : ∃ q, (t + cv + m) / 1000000000 = q := ⟨_, rfl⟩
          have hq0 : 0 ≤ q := by omega
          have hq1 : q < 1000000000 := by omega
          have HQ := Kept.mk hq
          have HNX' : Kept (RmIn xs ys (T'.set (n + k) d) n (k + 1) x q) := ⟨by have := HNX.out; rw [hm, hd, hq] at this; exact this⟩
          by_cases hky : k < ys.length
          · obtain ⟨b', o', rfl, hbs', hcell'⟩ := HBC.out k hky
            rw [← hy] at hcell'
            have hcy := (hbi.out.cell (p := ⟨b', o' + k, none⟩) hbs').trans hcell'
            clear hnx' HNX hq hy ht hcell' hcond
            go_wp2
            go_region
            go_wp2
            go_roundw
            case rel => exact ⟨k + 1, q, T'.set (n + k) d, by omega, by go_num, congrArg (Value.int .i64) HQ.out, hq0, hq1, HNX', ⟨(hri.out.set (n + k) d).drew⟩, ⟨(hbi.out.setCell (Nat.le_refl _) _).drew⟩⟩
            case measure => simp [intOf]; omega
          · have ey : y = 0 := by rw [hy]; exact Dg.getD_out (by omega)
            obtain rfl : m = 0 := by rw [← hm, ey, Int.mul_zero]
            have hcv : 0 < cv := by omega
            rw [Int.add_zero] at hd hq
            have HQ2 := Kept.mk hq
            clear hnx' HNX hq hy ht hcond
            go_wp2
            go_roundw
            case rel => exact ⟨k + 1, q, T'.set (n + k) d, by omega, by go_num, congrArg (Value.int .i64) HQ2.out, hq0, hq1, HNX', ⟨hri.out.set (n + k) d⟩, ⟨hbi.out.setCell (Nat.le_refl _) _⟩⟩
            case measure => simp [intOf]; omega
        · have hcv : cv = 0 := by omega
          subst hcv
          have c2 : ¬ k < ys.length := by omega
          have HD := Kept.mk (hin.out.done (by omega) hnx HX.out)
          go_wp2
          go_roundw
          case rel => exact ⟨n + 1, T', by omega, by go_num, HD, hri, hbi⟩
          case measure => simp [intOf]; omega
    · obtain rfl : n = xs.length := by omega
      have hSl := hr.out.slAll (n := xs.length + ys.length) (cap := xs.length + ys.length) hat.out.len.symm (Nat.le_refl _) (by unfold maxLen; omega)
      have HS := Kept.mk hSl
      have HL := Kept.mk hat.out.len
      have HD := Kept.mk hat.out.done
      have HW := Kept.mk hat.out.wf
      clear hSl
      go_wp2_with fail
      refine (trim_num HS.out HW.out).mono ?_
      rintro e w2 ⟨v2, rfl, rfl, hn2, _⟩
      rw [HD.out, HL.out] at hn2
      have HN2 := Kept.mk hn2
      clear hn2
      go_wp2
      go_ret
      exact ⟨hbl.out, _, rfl, HN2.out⟩
end Go.Proofs.YtblbheilddafbaaGreatDoor

set_option linter.unusedVariables false
set_option linter.unusedSimpArgs false
namespace Go.Proofs.YtblbheilddafbaaGreatDoor
open Go Go.RowKit
set_option maxRecDepth 20000 in
set_option maxHeartbeats 1000000 in
theorem cmpN_eqlen {va vb : Value} {xs ys : List Int} {w : World} (ha : Sl .i64 w va xs) (hb : Sl .i64 w vb ys) (hwa : Dg.Wf BN xs) (hwb : Dg.Wf BN ys) (hl : ys.length = xs.length) :
    Calls Tryz.prog 87 #[va, vb] w (RetV w (.int .i64 (Dg.sg (Dg.val BN xs) (Dg.val BN ys)))) := by
  obtain ⟨ao, cap, rfl, hcap, hmax, hc⟩ := ha
  obtain ⟨bo, bcap, rfl, hbcap, hbmax, hbc⟩ := hb
  unfold maxLen at hmax hbmax
  rw [hl] at hbcap ⊢
  have HL := Kept.mk hl
  simp only [hl] at hbc
  have HC := Kept.mk hc
  have HBC := Kept.mk hbc
  have WX := Kept.mk hwa
  have WY := Kept.mk hwb
  clear hl hc hbc hwa hwb
  go_enter Tryz.func87, Tryz.ntmps87
  go_wp2
  go_loopw [5] (fun i wr => ∃ (k : Nat) (j : Int), k ≤ xs.length ∧ Hid (j + 1 = k) ∧ i = .int .i64 j ∧ Kept (xs.drop k = ys.drop k) ∧ Kept (Below w.heap.size w wr)) (fun i _ => (intOf i + 1).toNat)
  case atStart => exact ⟨xs.length, _, Nat.le_refl _, by show _ - (1 : Int) + 1 = _; omega, rfl, ⟨by rw [List.drop_length, ← HL.out, List.drop_length]⟩, ⟨Below.refl _ _⟩⟩
  case round =>
    obtain ⟨k, j, hk, hj, rfl, hd, hbl⟩ := hrel
    by_cases h0 : 0 < k
    · obtain ⟨k, rfl⟩ : ∃ j, k = j+1 := ⟨k - 1, by omega⟩
      obtain rfl : j = (k : Int) := by have := hj.out; omega
      clear hj
      obtain ⟨b, o, rfl, hbs, hcell⟩ := HC.out k (by omega)
      obtain ⟨b', o', rfl, hbs', hcell'⟩ := HBC.out k (by omega)
      obtain ⟨x, hx⟩ : ∃ x, x = xs[k]?.getD 0 := ⟨_, rfl⟩
      obtain ⟨y, hy⟩ : ∃ y, y = ys[k]?.getD 0 := ⟨_, rfl⟩
      rw [← hx] at hcell
      rw [← hy] at hcell'
      have HX := Kept.mk hx
      have HY := Kept.mk hy
      clear hx hy
      have hcl := (hbl.out.cell (p := ⟨b, o + k, none⟩) hbs).trans hcell
      have hcl' := (hbl.out.cell (p := ⟨b', o' + k, none⟩) hbs').trans hcell'
      clear hcell hcell'
      have hki : k < xs.length := by omega
      rcases Int.lt_trichotomy x y with h | h | h
      · have hv := Kept.mk (Dg.sg_lt (Dg.val_lt_at (by decide) WX.out WY.out HL.out.symm (k := k) (by omega) hd.out (by rw [← HX.out, ← HY.out]; exact h)))
        go_wp2
        go_region
        go_wp2
        go_ret
        exact ⟨hbl.out.drew, by rw [hv.out]; rfl⟩
      · subst h
        go_wp2
        go_region
        go_wp2
        go_region
        go_wp2
        go_roundw
        case rel => exact ⟨k, (k : Int) - 1, by omega, by show _ - (1 : Int) + 1 = _; omega, rfl, ⟨Dg.drop_eq_at HL.out.symm hd.out (by rw [← HX.out, ← HY.out])⟩, ⟨hbl.out.drew.drew⟩⟩
        case measure => simp [intOf] <;> omega
      · have hv := Kept.mk (Dg.sg_gt (Dg.val_lt_at (by decide) WY.out WX.out HL.out (k := k) (by have := HL.out; omega) hd.out.symm (by rw [← HX.out, ← HY.out]; exact h)))
        go_wp2
        go_region
        go_wp2
        go_region
        go_wp2
        go_ret
        exact ⟨hbl.out.drew.drew, by rw [hv.out]; rfl⟩
    · obtain rfl : k = 0 := by omega
      obtain rfl : j = -1 := by have := hj.out; omega
      have he : xs = ys := by simpa using hd.out
      have hs : Dg.sg (Dg.val BN xs) (Dg.val BN ys) = 0 := by rw [he]; exact Dg.sg_eq _
      have HS := Kept.mk hs
      clear hj hd he hs
      go_wp2
      go_ret
      exact ⟨hbl.out, by rw [HS.out]; rfl⟩
set_option maxHeartbeats 1000000 in
theorem cmpN_any {va vb : Value} {xs ys : List Int} {w : World} (ha : Sl .i64 w va xs) (hb : Sl .i64 w vb ys) (hwa : Dg.Wf BN xs) (hwb : Dg.Wf BN ys) (hna : Dg.Nz xs) (hnb : Dg.Nz ys) :
    Calls Tryz.prog 87 #[va, vb] w (RetV w (.int .i64 (Dg.sg (Dg.val BN xs) (Dg.val BN ys)))) := by
  rcases Nat.lt_trichotomy xs.length ys.length with h | h | h
  · have hv : Dg.sg (Dg.val BN xs) (Dg.val BN ys) = -1 := Dg.sg_lt (Dg.val_lt_of_len (by decide) hwa hwb hnb h)
    obtain ⟨ao, cap, rfl, hcap, hmax, hc⟩ := ha
    obtain ⟨bo, bcap, rfl, hbcap, hbmax, hbc⟩ := hb
    have HV := Kept.mk hv
    have hne : ((xs.length : Int) == (ys.length : Int)) = false := by simp; omega
    clear hv
    go_enter Tryz.func87, Tryz.ntmps87
    go_wp2
    go_ret
    exact ⟨Below.refl _ _, by rw [HV.out]; rfl⟩
  · exact cmpN_eqlen ha hb hwa hwb h.symm
  · have hv : Dg.sg (Dg.val BN xs) (Dg.val BN ys) = 1 := Dg.sg_gt (Dg.val_lt_of_len (by decide) hwb hwa hna h)
    obtain ⟨ao, cap, rfl, hcap, hmax, hc⟩ := ha
    obtain ⟨bo, bcap, rfl, hbcap, hbmax, hbc⟩ := hb
    have HV := Kept.mk hv
    have hne : ((xs.length : Int) == (ys.length : Int)) = false := by simp; omega
    clear hv
    go_enter Tryz.func87, Tryz.ntmps87
    go_wp2
    go_ret
    exact ⟨Below.refl _ _, by rw [HV.out]; rfl⟩
theorem addN_num {La Lb : Nat} {va vb : Value} {m n : Int} {w : World} (ha : NumR La w va m) (hb : NumR Lb w vb n) (h1 : La ≤ 17000000000000) (h2 : Lb ≤ 17000000000000) :
    Calls Tryz.prog 98 #[va, vb] w (RetR (max La Lb + 1) w (m + n)) := by
  obtain ⟨xs, a1, a2, a3, rfl, a5⟩ := ha
  obtain ⟨ys, b1, b2, b3, rfl, b5⟩ := hb
  exact (addN_any va vb xs ys w a1 b1 a2 b2 a3 b3 (by omega) (by omega)).mono fun e w' ⟨hb, v', he, hn⟩ => ⟨hb, v', he, hn.mono (by omega)⟩
theorem subN_num {La Lb : Nat} {va vb : Value} {m n : Int} {w : World} (ha : NumR La w va m) (hb : NumR Lb w vb n) (h1 : La ≤ 17000000000000) (hle : n ≤ m) :
    Calls Tryz.prog 99 #[va, vb] w (RetR La w (m - n)) := by
  obtain ⟨xs, a1, a2, a3, rfl, a5⟩ := ha
  obtain ⟨ys, b1, b2, b3, rfl, b5⟩ := hb
  have hl : ys.length ≤ xs.length := by
    apply Classical.byContradiction
    intro hc
    have := Dg.val_lt_of_len (show (1 : Int) < BN by decide) a2 b2 b3 (by omega)
    omega
  exact (subN_any va vb xs ys w a1 b1 a2 b2 hl hle (by omega)).mono fun e w' ⟨hb, v', he, hn⟩ => ⟨hb, v', he, hn.mono (by omega)⟩
theorem mulN_num {La Lb : Nat} {va vb : Value} {m n : Int} {w : World} (ha : NumR La w va m) (hb : NumR Lb w vb n) (h1 : La ≤ 1099511627776) (h2 : Lb ≤ 1099511627776) :
    Calls Tryz.prog 100 #[va, vb] w (RetR (La + Lb) w (m * n)) := by
  obtain ⟨xs, a1, a2, a3, rfl, a5⟩ := ha
  obtain ⟨ys, b1, b2, b3, rfl, b5⟩ := hb
  exact (mulN_any va vb xs ys w a1 b1 a2 b2 (by omega) (by omega)).mono fun e w' ⟨hb, v', he, hn⟩ => ⟨hb, v', he, hn.mono (by omega)⟩
theorem cmpN_num {La Lb : Nat} {va vb : Value} {m n : Int} {w : World} (ha : NumR La w va m) (hb : NumR Lb w vb n) :
    Calls Tryz.prog 87 #[va, vb] w (RetV w (.int .i64 (Dg.sg m n))) := by
  obtain ⟨xs, a1, a2, a3, rfl, a5⟩ := ha
  obtain ⟨ys, b1, b2, b3, rfl, b5⟩ := hb
  exact cmpN_any a1 b1 a2 b2 a3 b3
end Go.Proofs.YtblbheilddafbaaGreatDoor
