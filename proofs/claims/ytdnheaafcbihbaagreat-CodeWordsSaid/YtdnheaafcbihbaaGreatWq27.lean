/-
  Texts of the proof, merged by program: Rs2 Rth Rt2 Rwm.
-/
import Derived.Test.YtdnheaafcbihbaaGreatWq26
set_option linter.unusedSimpArgs false
set_option linter.unusedVariables false
set_option maxHeartbeats 16000000
namespace Go.Proofs.YtdnheaafcbihbaaGreat
open Go Go.RowKit Go.Deep
open FFld (ints)
theorem mine_trm {B : Nat} {w : World} {ao : Option Addr} {cap : Nat} {l : List Nat} (h : Mine 3 .i64 B w (.slice ao l.length cap) (ints l)) : Mine 3 .i64 B w (.slice ao (FFld.trm l).length cap) (ints (FFld.trm l)) := by
 have hle := FFld.trm_len_le l
 rcases h with ⟨he, hx⟩ | ⟨g, cap', cur, e, hB, hg, hn, hc, hm, ht⟩
 ·simp only [Value.slice.injEq] at he
  obtain ⟨rfl, h0, rfl⟩ := he
  obtain rfl := List.length_eq_zero_iff.1 h0
  exact .inl ⟨rfl, rfl⟩
 ·simp only [Value.slice.injEq] at e
  obtain ⟨rfl, _, rfl⟩ := e
  rw [FFld.ints_len] at hn ht
  refine .inr ⟨g, cap, cur, by rw [FFld.ints_len], hB, hg, by rw [FFld.ints_len]; omega, hc, hm, ?_⟩
  rw [FFld.ints_len]
  have h2 : cur.toList.take (FFld.trm l).length = (cur.toList.take l.length).take (FFld.trm l).length := by rw [List.take_take, Nat.min_eq_left hle]
  have h3 : FFld.trm l = l.take (FFld.trm l).length := by
   unfold FFld.trm
   rw [List.length_take, Nat.min_eq_left (FFld.trmN_le l _)]
  rw [h2, ht, <- List.map_take]
  congr 1
  rw [FFld.ints_take, <- h3]
set_option maxRecDepth 20000 in
theorem rpsum2_any {D : FFld.FD} (hD : D.Ok) (vp vq : Value) (pl ql : List Nat) (w : World) (hp : Sl .i64 w vp (ints pl)) (hq : Sl .i64 w vq (ints ql)) (hpq : ∀ a ∈ pl, a < D.p ^ D.k) (hqq : ∀ a ∈ ql, a < D.p ^ D.k) (hpl : pl.length <= 1000) (hqll : ql.length <= 1000) :
 Calls Tryz.prog 221 #[rfv D.q D.p D.k D.m, vp, vq] w (fun e w' => Below w.heap.size w w' /\ ∃ v, e = .returned v /\ Mine 3 .i64 w.heap.size w' v (ints (FFld.trm (FFld.sumL D pl ql)))) := by
 obtain ⟨ap, cp, hvp, hcp, hmp⟩ := hp.form
 obtain ⟨aq, cq, hvq, hcq, hmq⟩ := hq.form
 subst hvp hvq
 have hk := hD.pre.pk
 have HX0 : Kept (Bxs w [rbox D.q D.p D.k D.m] (w.alloc (rbox D.q D.p D.k D.m))) := ⟨(Bxs.start w).alloc (by simp) _⟩
 have hq6 : D.p ^ D.k <= 65536 := hD.pre.small
 have HPS := Kept.mk hp
 have HQS := Kept.mk hq
 have HPQ := Kept.mk hpq
 have HQQ := Kept.mk hqq
 obtain ⟨np, hnp⟩ : ∃ n, pl.length = n := ⟨_, rfl⟩
 obtain ⟨nq, hnq⟩ : ∃ n, ql.length = n := ⟨_, rfl⟩
 rw [FFld.ints_len, hnp] at hcp HPS ⊢
 rw [FFld.ints_len, hnq] at hcq HQS ⊢
 rw [hnp] at hpl
 rw [hnq] at hqll
 have HNP := Kept.mk hnp
 have HNQ := Kept.mk hnq
 have HA := Kept.mk (fun W a b (ha : a < D.p ^ D.k) (hb : b < D.p ^ D.k) => radd_any D.q D.p D.k D.m a b W hk.p2 hk.k1 ha hb hq6)
 obtain ⟨n, hn⟩ : ∃ n, max np nq = n := ⟨_, rfl⟩
 have HT : Kept (FFld.sumL D pl ql = (List.range n).map (fun i => FFld.padd D.p D.k (pl[i]?.getD 0) (ql[i]?.getD 0))) := ⟨by unfold FFld.sumL; rw [HNP.out, HNQ.out, hn]⟩
 have hn1 : np <= n := by omega
 have hn2 : nq <= n := by omega
 have hn3 : ∀ i, ¬ i < np -> ¬ i < nq -> n <= i := fun i h1 h2 => by omega
 have HN3 := Kept.mk hn3
 have hnn : n <= 1000 := by omega
 have HZ := Kept.mk (Nat.pow_pos (n := D.k) hk.p0)
 clear hp hq hpq hqq hnp hnq hq6 hn hn3
 go_enter Tryz.func221, Tryz.ntmps221
 go_wp2
 go_loopw [7, 8] (fun ov iv wr => ∃ (i : Nat) (l : List Nat), i <= n /\ iv = .int .i64 i /\ l.length = i /\ Kept ((List.range i).map (fun i => FFld.padd D.p D.k (pl[i]?.getD 0) (ql[i]?.getD 0)) = l) /\ Kept (Mine 3 .i64 (w.heap.size + 1) wr ov (ints l)) /\ Kept (Bxs w [rbox D.q D.p D.k D.m] wr)) (fun _ iv _ => n - (intOf iv).toNat)
 case atStart => exact ⟨0, [], Nat.zero_le _, rfl, rfl, ⟨rfl⟩, ⟨Mine.nil _ _ _ _⟩, HX0⟩
 case round =>
  obtain ⟨i, l, hik, rfl, hll, hat, hmn, hbx⟩ := hrel
  obtain ⟨ov0, oc, rfl, hoc, hom⟩ := hmn.out.sl.form
  rw [FFld.ints_len, hll] at hoc hmn ⊢
  obtain ⟨x, hx⟩ : ∃ x, pl[i]?.getD 0 = x := ⟨_, rfl⟩
  obtain ⟨y, hy⟩ : ∃ y, ql[i]?.getD 0 = y := ⟨_, rfl⟩
  have hxq : x < D.p ^ D.k := by rw [<- hx]; exact FFld.getD_lt (Nat.pow_pos hk.p0) HPQ.out i
  have hyq : y < D.p ^ D.k := by rw [<- hy]; exact FFld.getD_lt (Nat.pow_pos hk.p0) HQQ.out i
  obtain ⟨v, hv⟩ : ∃ v, FFld.padd D.p D.k x y = v := ⟨_, rfl⟩
  have HLV := Kept.mk (sumL_next hat.out (v := v) (by rw [hx, hy]; exact hv))
  have H1 := Kept.mk (show ((ints l).length + [(v : Int)].length) * 8 <= 140737488355328 by rw [FFld.ints_len, hll]; simp; omega)
  have H2 := Kept.mk (show (ints l).length + [(v : Int)].length <= maxLen by rw [FFld.ints_len, hll]; unfold maxLen; simp; omega)
  obtain ⟨i0, i1, i2, i3⟩ := four_cells hbx.out.b0
  have hA := Kept.mk (fun W => HA.out W x y hxq hyq)
  rw [hv] at hA
  by_cases hlp : i < np
  ·have hin : i < n := by omega
   obtain ⟨bp, op, rfl, hbp, ip⟩ := (HPS.out.below hbx.out.1).news_at i (by rw [FFld.ints_len, HNP.out]; exact hlp)
   rw [FFld.ints_get, hx] at ip
   by_cases hlq : i < nq
   ·obtain ⟨bq, oq, rfl, hbq, iq⟩ := (HQS.out.below hbx.out.1).news_at i (by rw [FFld.ints_len, HNQ.out]; exact hlq)
    rw [FFld.ints_get, hy] at iq
    clear hx hy hxq hyq hv
    go_wp2
    go_region_held3 (fun w' => w'.cell? ⟨w.heap.size, 0, none⟩ = some (.int .i64 D.q) /\ w'.cell? ⟨w.heap.size, 1, none⟩ = some (.int .i64 D.p) /\ w'.cell? ⟨w.heap.size, 2, none⟩ = some (.int .i64 D.k) /\ w'.cell? ⟨w.heap.size, 3, none⟩ = some (.int .i64 D.m) /\ w'.cell? ⟨bq, oq + i, none⟩ = some (.int .i64 y))
     (first | exact ⟨j0, j1, j2, j3, jq⟩ | exact ⟨i0, i1, i2, i3, iq⟩ | go_keep)
     ((first
       | (go_at_call 108; (with_reducible refine (hA.out _).mono ?_); rintro e w3 ⟨hb3, rfl⟩; have HWW := Kept.mk (bstep (show Below wr.heap.size wr _ from (by first | exact Below.refl _ _ | exact (Below.refl _ _).drew)) hb3); clear hb3; have j0 := belowCell HWW.out i0; have j1 := belowCell HWW.out i1; have j2 := belowCell HWW.out i2; have j3 := belowCell HWW.out i3; have jq := belowCell HWW.out iq)))
    have hal : Below w3.heap.size w3 (w3.alloc (.cells #[.int .i64 (v : Int)] 3)) := (Below.refl _ _).alloc (Nat.le_refl _) _
    have HM3 := Kept.mk ((hmn.out.below HWW.out).alloc (.cells #[.int .i64 (v : Int)] 3))
    have HNW := Kept.mk (new_one (K := .i64) (x := (v : Int)) (w := w3.alloc (.cells #[.int .i64 (v : Int)] 3)) (b := w3.heap.size) (o := 0) (by exact (Row.new (E := 3) (K := .i64) w3 [(v : Int)]).cell (i := 0) (by simp)))
    have hX3 := hbx.out.below HWW.out
    have HBB := Kept.mk (show w.heap.size + 1 <= (w3.alloc (.cells #[.int .i64 (v : Int)] 3)).heap.size by have := hX3.l1; simp; omega)
    have HXA := Kept.mk (hX3.below hal)
    have HOW := Kept.mk HM3.out.own
    clear hX3 hal
    go_wp2_with (at_builtin; refine wpList_append_mine _ rfl _ _ 22 (by rfl) 3 .i64 8 Tryz.underlying22 info_i64 (w.heap.size + 1) (.slice ov0 i oc) (ints l) (by rfl) HM3.out HBB.out ⟨w3.heap.size, 0, none⟩ 1 1 [(v : Int)] (by rfl) rfl HNW.out H1.out H2.out ?_)
    intro v' w5 hm5 hg5 hn5
    have HM5 := Kept.mk hm5
    have HX5 := Kept.mk (HXA.out.grown hg5 (fun j hj => (HOW.out j hj).1))
    clear hm5 hg5 hn5
    go_wp2
    go_roundw
    case rel => exact ⟨i + 1, l ++ [v], by omega, by go_num, by simp [hll], HLV, ⟨by rw [FFld.ints_append]; exact HM5.out⟩, HX5⟩
    case measure => simp [intOf] <;> omega
   ·have hy0 : y = 0 := by rw [<- hy, List.getElem?_eq_none (by rw [HNQ.out]; omega)]; rfl
    have hvx : v = x := by rw [<- hv, hy0]; exact FFld.padd_zero hk _ hxq
    subst hvx
    have HWW := Kept.mk (Below.refl wr.heap.size wr)
    clear hx hy hxq hyq hv i0 i1 i2 i3 hA hy0
    have hal : Below wr.heap.size wr (wr.alloc (.cells #[.int .i64 (v : Int)] 3)) := (Below.refl _ _).alloc (Nat.le_refl _) _
    have HM3 := Kept.mk ((hmn.out.below HWW.out).alloc (.cells #[.int .i64 (v : Int)] 3))
    have HNW := Kept.mk (new_one (K := .i64) (x := (v : Int)) (w := wr.alloc (.cells #[.int .i64 (v : Int)] 3)) (b := wr.heap.size) (o := 0) (by exact (Row.new (E := 3) (K := .i64) wr [(v : Int)]).cell (i := 0) (by simp)))
    have hX3 := hbx.out.below HWW.out
    have HBB := Kept.mk (show w.heap.size + 1 <= (wr.alloc (.cells #[.int .i64 (v : Int)] 3)).heap.size by have := hX3.l1; simp; omega)
    have HXA := Kept.mk (hX3.below hal)
    have HOW := Kept.mk HM3.out.own
    clear hX3 hal
    go_wp2_with (at_builtin; refine wpList_append_mine _ rfl _ _ 22 (by rfl) 3 .i64 8 Tryz.underlying22 info_i64 (w.heap.size + 1) (.slice ov0 i oc) (ints l) (by rfl) HM3.out HBB.out ⟨wr.heap.size, 0, none⟩ 1 1 [(v : Int)] (by rfl) rfl HNW.out H1.out H2.out ?_)
    intro v' w5 hm5 hg5 hn5
    have HM5 := Kept.mk hm5
    have HX5 := Kept.mk (HXA.out.grown hg5 (fun j hj => (HOW.out j hj).1))
    clear hm5 hg5 hn5
    go_wp2
    go_roundw
    case rel => exact ⟨i + 1, l ++ [v], by omega, by go_num, by simp [hll], HLV, ⟨by rw [FFld.ints_append]; exact HM5.out⟩, HX5⟩
    case measure => simp [intOf] <;> omega
  ·by_cases hlq : i < nq
   ·have hin : i < n := by omega
    obtain ⟨bq, oq, rfl, hbq, iq⟩ := (HQS.out.below hbx.out.1).news_at i (by rw [FFld.ints_len, HNQ.out]; exact hlq)
    rw [FFld.ints_get, hy] at iq
    have hx0 : x = 0 := by rw [<- hx, List.getElem?_eq_none (by rw [HNP.out]; omega)]; rfl
    subst hx0
    have hA0 : Kept (∀ W, Calls Tryz.prog 108 #[rfv D.q D.p D.k D.m, .int .i64 0, .int .i64 y] W (RB W (.int .i64 (v : Nat)))) := ⟨fun W => hA.out W⟩
    clear hx hy hxq hyq hv hA
    have hA := hA0
    clear hA0
    go_wp2
    go_region_held3 (fun w' => w'.cell? ⟨w.heap.size, 0, none⟩ = some (.int .i64 D.q) /\ w'.cell? ⟨w.heap.size, 1, none⟩ = some (.int .i64 D.p) /\ w'.cell? ⟨w.heap.size, 2, none⟩ = some (.int .i64 D.k) /\ w'.cell? ⟨w.heap.size, 3, none⟩ = some (.int .i64 D.m) /\ w'.cell? ⟨bq, oq + i, none⟩ = some (.int .i64 y))
     (first | exact ⟨j0, j1, j2, j3, jq⟩ | exact ⟨i0, i1, i2, i3, iq⟩ | go_keep)
     ((first
       | (go_at_call 108; (with_reducible refine (hA.out _).mono ?_); rintro e w3 ⟨hb3, rfl⟩; have HWW := Kept.mk (bstep (show Below wr.heap.size wr _ from (by first | exact Below.refl _ _ | exact (Below.refl _ _).drew)) hb3); clear hb3; have j0 := belowCell HWW.out i0; have j1 := belowCell HWW.out i1; have j2 := belowCell HWW.out i2; have j3 := belowCell HWW.out i3; have jq := belowCell HWW.out iq)))
    have hal : Below w3.heap.size w3 (w3.alloc (.cells #[.int .i64 (v : Int)] 3)) := (Below.refl _ _).alloc (Nat.le_refl _) _
    have HM3 := Kept.mk ((hmn.out.below HWW.out).alloc (.cells #[.int .i64 (v : Int)] 3))
    have HNW := Kept.mk (new_one (K := .i64) (x := (v : Int)) (w := w3.alloc (.cells #[.int .i64 (v : Int)] 3)) (b := w3.heap.size) (o := 0) (by exact (Row.new (E := 3) (K := .i64) w3 [(v : Int)]).cell (i := 0) (by simp)))
    have hX3 := hbx.out.below HWW.out
    have HBB := Kept.mk (show w.heap.size + 1 <= (w3.alloc (.cells #[.int .i64 (v : Int)] 3)).heap.size by have := hX3.l1; simp; omega)
    have HXA := Kept.mk (hX3.below hal)
    have HOW := Kept.mk HM3.out.own
    clear hX3 hal
    go_wp2_with (at_builtin; refine wpList_append_mine _ rfl _ _ 22 (by rfl) 3 .i64 8 Tryz.underlying22 info_i64 (w.heap.size + 1) (.slice ov0 i oc) (ints l) (by rfl) HM3.out HBB.out ⟨w3.heap.size, 0, none⟩ 1 1 [(v : Int)] (by rfl) rfl HNW.out H1.out H2.out ?_)
    intro v' w5 hm5 hg5 hn5
    have HM5 := Kept.mk hm5
    have HX5 := Kept.mk (HXA.out.grown hg5 (fun j hj => (HOW.out j hj).1))
    clear hm5 hg5 hn5
    go_wp2
    go_roundw
    case rel => exact ⟨i + 1, l ++ [v], by omega, by go_num, by simp [hll], HLV, ⟨by rw [FFld.ints_append]; exact HM5.out⟩, HX5⟩
    case measure => simp [intOf] <;> omega
   ·obtain rfl : i = n := Nat.le_antisymm hik (HN3.out i hlp hlq)
    have HE : Kept (FFld.sumL D pl ql = l) := ⟨by rw [HT.out]; exact hat.out⟩
    have hs := hmn.out.sl
    have HSL := Kept.mk hs
    have HTR := Kept.mk (fun W (hW : Sl .i64 W (.slice ov0 i oc) (ints l)) => rtrim_any l ov0 oc W (by rw [hll]; exact hW) (by omega))
    rw [hll] at HTR
    have HTS : Kept (Mine 3 .i64 w.heap.size wr (.slice ov0 (FFld.trm l).length oc) (ints (FFld.trm l))) := ⟨mine_trm (by rw [hll]; exact hmn.out.lower (by omega))⟩
    clear hs hx hy hxq hyq hv i0 i1 i2 i3 hA HLV
    go_wp2_with fail
    refine (HTR.out _ HSL.out).mono ?_
    rintro e w2 ⟨rfl, rfl⟩
    go_wp2
    go_ret
    exact ⟨hbx.out.1, _, rfl, by rw [HE.out]; exact HTS.out⟩

set_option maxRecDepth 20000 in
theorem rthrough2_any {D : FFld.FD} (hD : D.Ok) (vx vy : Value) (xs ys : List Nat) (n : Nat) (w : World) (hx : Sl .i64 w vx (ints xs)) (hy : Sl .i64 w vy (ints ys)) (hxq : ∀ a ∈ xs, a < D.p ^ D.k) (hyq : ∀ a ∈ ys, a < D.p ^ D.k) (lx : xs.length = n) (ly : ys.length = n) (hn : n <= 200) :
 Calls Tryz.prog 172 #[rfv D.q D.p D.k D.m, vx, vy] w (fun e w' => Below w.heap.size w w' /\ ∃ v, e = .returned v /\ Mine 3 .i64 w.heap.size w' v (ints (FFld.lgO D hD.pre.pk xs ys n n))) := by
 obtain ⟨ax, cx, hvx, hcx, hmx⟩ := hx.form
 obtain ⟨ay, cy, hvy, hcy, hmy⟩ := hy.form
 subst hvx hvy
 have hk := hD.pre.pk
 have HX0 : Kept (Bxs w [rbox D.q D.p D.k D.m] (w.alloc (rbox D.q D.p D.k D.m))) := ⟨(Bxs.start w).alloc (by simp) _⟩
 have hq6 : D.p ^ D.k <= 65536 := hD.pre.small
 rw [FFld.ints_len, lx] at hx hcx ⊢
 rw [FFld.ints_len, ly] at hy hcy ⊢
 have HX := Kept.mk hx
 have HY := Kept.mk hy
 have HXQ := Kept.mk hxq
 have HYQ := Kept.mk hyq
 have HLX := Kept.mk lx
 have HLY := Kept.mk ly
 have HN := Kept.mk (fun W a (ha : a < D.p ^ D.k) => rneg_any D.q D.p D.k D.m a W hk.p2 hk.k1 ha hq6)
 have HS := Kept.mk (fun W a c (ha : a < D.p ^ D.k) (hc : c < D.p ^ D.k) => rsub_any D.q D.p D.k D.m a c W hk ha hc hq6)
 have HI := Kept.mk (fun W a (ha : a < D.p ^ D.k) => rinv_any D.q D.p D.k D.m a W hk ha rfl hq6 (md_ok hD))
 have HPD := Kept.mk (fun vp vq pl ql W h1 h2 h3 h4 h5 h6 => rproductp_any hD vp vq pl ql W h1 h2 h3 h4 h5 h6)
 have HQ6 := Kept.mk hq6
 have hal : ∀ (z : Nat) (W : World), Below W.heap.size W (W.alloc (.cells #[.int .i64 (z : Int), .int .i64 1] 3)) := fun z W => (Below.refl _ _).alloc (Nat.le_refl _) _
 have HAL := Kept.mk hal
 clear hx hy hxq hyq lx ly hq6 hal
 go_enter Tryz.func172, Tryz.ntmps172
 go_wp2
 go_loopw [7, 8] (fun ov iv wr => ∃ (i : Nat), i <= n /\ iv = .int .i64 i /\ Kept (Mine 3 .i64 w.heap.size wr ov (ints (FFld.lgO D hk xs ys n i))) /\ Kept (Bxs w [rbox D.q D.p D.k D.m] wr)) (fun _ iv _ => n - (intOf iv).toNat)
 case atStart => exact ⟨0, Nat.zero_le _, rfl, ⟨Mine.nil _ _ _ _⟩, HX0⟩
 case round =>
  obtain ⟨i, hin, rfl, hso0, hbx0⟩ := hrel
  have hso1 := hso0.out.sl
  obtain ⟨ao, co, rfl, hco, hmo⟩ := hso1.form
  rw [FFld.ints_len] at hco hso0 ⊢
  obtain ⟨no, hno⟩ : ∃ x, (FFld.lgO D hk xs ys n i).length = x := ⟨_, rfl⟩
  rw [hno] at hco hso0 ⊢
  have HNO := Kept.mk hno
  have hnon : no <= n := by rw [<- hno]; exact FFld.lgO_len D hk xs ys n i hin
  clear hso1 hno
  by_cases hlt : i < n
  ·obtain ⟨bx, ox, rfl, hbxx, cxi⟩ := (HX.out.below hbx0.out.1).news_at i (by rw [FFld.ints_len, HLX.out]; exact hlt)
   obtain ⟨by_, oy, rfl, hbyy, cyi⟩ := (HY.out.below hbx0.out.1).news_at i (by rw [FFld.ints_len, HLY.out]; exact hlt)
   obtain ⟨xi, hxi⟩ : ∃ x, xs[i]?.getD 0 = x := ⟨_, rfl⟩
   obtain ⟨y, hye⟩ : ∃ y, ys[i]?.getD 0 = y := ⟨_, rfl⟩
   rw [FFld.ints_get, hxi] at cxi
   rw [FFld.ints_get, hye] at cyi
   have hxiq : xi < D.p ^ D.k := by rw [<- hxi]; exact FFld.at_lt hD HXQ.out i
   have hyq : y < D.p ^ D.k := by rw [<- hye]; exact FFld.at_lt hD HYQ.out i
   have HXI := Kept.mk hxi
   have HYE := Kept.mk hye
   have HXIQ := Kept.mk hxiq
   have HYQ2 := Kept.mk hyq
   have hal1 : Below wr.heap.size wr (wr.alloc (.cells #[.int .i64 y] 3)) := (Below.refl _ _).alloc (Nat.le_refl _) _
   have HS1 : Kept (Sl .i64 (wr.alloc (.cells #[.int .i64 y] 3)) (.slice (some ⟨wr.heap.size, 0, none⟩) 1 1) (ints (FFld.lgL D hk xs y i 0))) := ⟨one_sln wr y⟩
   have HB1 := Kept.mk (hbx0.out.below hal1)
   have HO1 := Kept.mk (hso0.out.sl.below hal1)
   have hxi6 : xi <= 65536 := by have := HQ6.out; omega
   have hy6 : y <= 65536 := by have := HQ6.out; omega
   clear hxi hye hxiq hyq hal1 hso0 hbx0 cxi
   obtain ⟨wz, hwz⟩ : ∃ W, W = wr := ⟨_, rfl⟩
   go_wp2
   go_loopw [9, 10] (fun lv kv wr => ∃ (k : Nat), k <= n /\ kv = .int .i64 k /\ Kept (Sl .i64 wr lv (ints (FFld.lgL D hk xs y i k))) /\ Kept (Sl .i64 wr (.slice ao no co) (ints (FFld.lgO D hk xs ys n i))) /\ Kept (Bxs w [rbox D.q D.p D.k D.m] wr)) (fun _ kv _ => n - (intOf kv).toNat)
   case atStart => exact ⟨0, Nat.zero_le _, rfl, HS1, HO1, HB1⟩
   case round =>
    clear HS1 HO1 HB1
    obtain ⟨k, hkn, rfl, hso, hoo, hbx⟩ := hrel
    have hso1 := hso.out
    obtain ⟨al, cl, rfl, hcl, hml⟩ := hso1.form
    rw [FFld.ints_len] at hcl hso ⊢
    obtain ⟨nl, hnl⟩ : ∃ x, (FFld.lgL D hk xs y i k).length = x := ⟨_, rfl⟩
    rw [hnl] at hcl hso ⊢
    have HNL := Kept.mk hnl
    have hnln : nl <= k + 1 := by
     have := FFld.lgL_len D hk xs y i k
     rw [hnl] at this
     split at this <;> omega
    obtain ⟨i0, i1, i2, i3⟩ := four_cells hbx.out.b0
    clear hso1 hnl
    by_cases hlt2 : k < n
    ·by_cases hki : k = i
     ·subst hki
      have ek : ((k : Int) != (k : Int)) = false := by simp
      have HE : Kept (FFld.lgL D hk xs y k (k + 1) = FFld.lgL D hk xs y k k) := ⟨by simp only [FFld.lgL]; rw [if_pos trivial]⟩
      clear i0 i1 i2 i3
      go_wp2
      go_roundw
      case rel => exact ⟨k + 1, by omega, by go_num, ⟨by rw [HE.out]; exact hso.out⟩, hoo, hbx⟩
      case measure => simp [intOf] <;> omega
     ·have ek : ((k : Int) != (i : Int)) = true := by rw [bne_iff_ne]; omega
      obtain ⟨b2, o2, ee, hb22, ca⟩ := (HX.out.below hbx.out.1).news_at k (by rw [FFld.ints_len, HLX.out]; exact hlt2)
      simp only [Option.some.injEq, Addr.mk.injEq, and_true] at ee
      obtain ⟨rfl, rfl⟩ := ee
      obtain ⟨b3, o3, ee, hb33, cb⟩ := (HX.out.below hbx.out.1).news_at i (by rw [FFld.ints_len, HLX.out]; exact hlt)
      simp only [Option.some.injEq, Addr.mk.injEq, and_true] at ee
      obtain ⟨rfl, rfl⟩ := ee
      obtain ⟨xk, hxk⟩ : ∃ x, xs[k]?.getD 0 = x := ⟨_, rfl⟩
      rw [FFld.ints_get, hxk] at ca
      rw [FFld.ints_get, HXI.out] at cb
      have ia := ca
      have ib := cb
      have hxkq : xk < D.p ^ D.k := by rw [<- hxk]; exact FFld.at_lt hD HXQ.out k
      obtain ⟨z, hz⟩ : ∃ z, FFld.pscl D.p D.k (D.p - 1) xk = z := ⟨_, rfl⟩
      obtain ⟨d, hd⟩ : ∃ d, FFld.padd D.p D.k xi z = d := ⟨_, rfl⟩
      have hdq : d < D.p ^ D.k := by rw [<- hd]; exact FFld.padd_lt hk _ _
      obtain ⟨iv, hiv⟩ : ∃ v, FFld.ppow hk d (D.q - 2) = v := ⟨_, rfl⟩
      have hivq : iv < D.p ^ D.k := by rw [<- hiv]; exact FFld.ppow_lt _ _ _
      have HLIN := Kept.mk (FFld.lin_lt hk xk)
      rw [hz] at HLIN
      have hN := Kept.mk (fun W => HN.out W xk hxkq)
      rw [hz] at hN
      have hS := Kept.mk (fun W => HS.out W xi xk HXIQ.out hxkq)
      rw [hz, hd] at hS
      have hI := Kept.mk (fun W => HI.out W d hdq)
      rw [show FFld.ppow hD.pre.pk d (D.q - 2) = iv from hiv] at hI
      obtain ⟨ml, hmul⟩ : ∃ l, FFld.mulL D (FFld.lgL D hk xs y i k) [z, 1] = l := ⟨_, rfl⟩
      have HE : Kept (FFld.lgL D hk xs y i (k + 1) = FFld.trm (FFld.rowMul D ml iv)) := ⟨by simp only [FFld.lgL]; rw [if_neg hki, hxk, HXI.out, hz, hd, hiv, hmul]⟩
      have hmll : ml.length <= 1000 := by
       rw [<- hmul]
       have := FFld.mulL_lin D (FFld.lgL D hk xs y i k) z 1
       rw [HNL.out] at this
       omega
      have HSC := Kept.mk (fun W vo (h : Sl .i64 W vo (ints ml)) => rscale_any hD vo ml iv W h (by rw [<- hmul]; exact FFld.mulL_lt hk _ _) hivq hmll)
      have HLQ := Kept.mk (FFld.lgL_lt hk xs HYQ2.out i k)
      have HLL : Kept ((FFld.lgL D hk xs y i k).length <= 100000) := ⟨by rw [HNL.out]; omega⟩
      obtain ⟨L, hL⟩ : ∃ L, FFld.lgL D hk xs y i k = L := ⟨_, rfl⟩
      rw [hL] at hso HLQ HLL
      have hHPD := Kept.mk (fun vp vq W h1 h2 => HPD.out vp vq L [z, 1] W h1 h2 HLQ.out HLIN.out HLL.out (by simp))
      rw [show FFld.mulL D L [z, 1] = ml from by rw [<- hL]; exact hmul] at hHPD
      have hal := HAL.out z
      have hz6 : z <= 65536 := by have := HQ6.out; have := HLIN.out z List.mem_cons_self; omega
      have hxk6 : xk <= 65536 := by have := HQ6.out; omega
      have hd6 : d <= 65536 := by have := HQ6.out; omega
      have hiv6 : iv <= 65536 := by have := HQ6.out; omega
      clear ca cb hxk hxkq hz hd hdq hiv hivq hmul hmll hL hki
      go_wp2
      go_region_held3 (fun w' => w'.cell? ⟨w.heap.size, 0, none⟩ = some (.int .i64 D.q) /\ w'.cell? ⟨w.heap.size, 1, none⟩ = some (.int .i64 D.p) /\ w'.cell? ⟨w.heap.size, 2, none⟩ = some (.int .i64 D.k) /\ w'.cell? ⟨w.heap.size, 3, none⟩ = some (.int .i64 D.m) /\ w'.cell? ⟨bx, ox + k, none⟩ = some (.int .i64 xk) /\ w'.cell? ⟨bx, ox + i, none⟩ = some (.int .i64 xi))
       (first | exact ⟨q0, q1, q2, q3, qa, qb⟩ | exact ⟨p0, p1, p2, p3, pa, pb⟩ | exact ⟨n0, n1, n2, n3, na, nb⟩ | exact ⟨m0, m1, m2, m3, ma, mb⟩ | exact ⟨l0, l1, l2, l3, la, lb⟩ | exact ⟨j0, j1, j2, j3, ja, jb⟩ | exact ⟨i0, i1, i2, i3, ia, ib⟩ | go_keep)
       ((first
         | (go_at_call 46; (with_reducible refine (hN.out _).mono ?_); rintro e v1 ⟨hb1, rfl⟩; have HC1 := Kept.mk (bstep (show Below wr.heap.size wr _ from (by first | exact Below.refl _ _ | exact (Below.refl _ _).drew)) hb1); have j0 := belowCell HC1.out i0; have j1 := belowCell HC1.out i1; have j2 := belowCell HC1.out i2; have j3 := belowCell HC1.out i3; have ja := belowCell HC1.out ia; have jb := belowCell HC1.out ib; have l0 := belowCell (hal v1) j0; have l1 := belowCell (hal v1) j1; have l2 := belowCell (hal v1) j2; have l3 := belowCell (hal v1) j3; have la := belowCell (hal v1) ja; have lb := belowCell (hal v1) jb; have HC1A := Kept.mk (bstep HC1.out (hal v1)); have HSO := Kept.mk (hso.out.below HC1A.out); have HS2 := Kept.mk (two_sl v1 (z : Int) 1); clear hb1)
         | (go_at_call 45; (refine (hHPD.out _ _ _ HSO.out HS2.out).mono ?_); rintro e v2 ⟨hb2, vo, rfl, hs2⟩; have HC2 := Kept.mk (bstep HC1A.out hb2); have m0 := belowCell HC2.out i0; have m1 := belowCell HC2.out i1; have m2 := belowCell HC2.out i2; have m3 := belowCell HC2.out i3; have ma := belowCell HC2.out ia; have mb := belowCell HC2.out ib; have HSP := Kept.mk hs2; clear hb2 hs2)
         | (go_at_call 120; (with_reducible refine (hS.out _).mono ?_); rintro e v3 ⟨hb3, rfl⟩; have HC3 := Kept.mk (bstep HC2.out hb3); have n0 := belowCell HC3.out i0; have n1 := belowCell HC3.out i1; have n2 := belowCell HC3.out i2; have n3 := belowCell HC3.out i3; have na := belowCell HC3.out ia; have nb := belowCell HC3.out ib; have HSP3 := Kept.mk (HSP.out.below hb3); clear hb3)
         | (go_at_call 119; (with_reducible refine (hI.out _).mono ?_); rintro e v4 ⟨hb4, rfl⟩; have HC4 := Kept.mk (bstep HC3.out hb4); have p0 := belowCell HC4.out i0; have p1 := belowCell HC4.out i1; have p2 := belowCell HC4.out i2; have p3 := belowCell HC4.out i3; have pa := belowCell HC4.out ia; have pb := belowCell HC4.out ib; have HSP4 := Kept.mk (HSP3.out.below hb4); clear hb4)
         | (go_at_call 220; (refine (HSC.out _ vo HSP4.out).mono ?_); rintro e v5 ⟨hb5, vn, rfl, hs5⟩; have HC5 := Kept.mk (bstep HC4.out hb5); have q0 := belowCell HC5.out i0; have q1 := belowCell HC5.out i1; have q2 := belowCell HC5.out i2; have q3 := belowCell HC5.out i3; have qa := belowCell HC5.out ia; have qb := belowCell HC5.out ib; have HSN := Kept.mk hs5; clear hb5 hs5)))
      have HX9 := Kept.mk (hbx.out.below HC5.out)
      have HO9 := Kept.mk (hoo.out.below HC5.out)
      go_wp2
      go_roundw
      case rel => exact ⟨k + 1, by omega, by go_num, ⟨by rw [HE.out]; exact HSN.out⟩, HO9, HX9⟩
      case measure => simp [intOf] <;> omega
    ·obtain rfl : k = n := by omega
     obtain ⟨L, hL⟩ : ∃ L, FFld.lgL D hk xs y i k = L := ⟨_, rfl⟩
     have HE : Kept (FFld.lgO D hk xs ys k (i + 1) = FFld.trm (FFld.sumL D (FFld.lgO D hk xs ys k i) (FFld.trm L))) := ⟨by simp only [FFld.lgO]; rw [HYE.out, hL]⟩
     have HLQ := Kept.mk (FFld.lgL_lt hk xs HYQ2.out i k)
     rw [hL] at hso HLQ HNL
     have HTR := Kept.mk (fun W (hW : Sl .i64 W (.slice al nl cl) (ints L)) => rtrim_any L al cl W (by rw [HNL.out]; exact hW) (by rw [HNL.out]; omega))
     rw [HNL.out] at HTR
     have hst := trm_sl (l := L) (ao := al) (cap := cl) (by rw [HNL.out]; exact hso.out)
     have htl := FFld.trm_len_le L
     rw [HNL.out] at htl
     have HOQ := Kept.mk (FFld.lgO_lt hk xs ys k i)
     have HSU := Kept.mk (fun W (hW : Below wr.heap.size wr W) => (rpsum2_any hD (.slice ao no co) (.slice al (FFld.trm L).length cl) (FFld.lgO D hk xs ys k i) (FFld.trm L) W (hoo.out.below hW) (hst.below hW) HOQ.out (FFld.trm_lt HLQ.out) (by rw [HNO.out]; omega) (by omega)).mono (fun e w' h => (by obtain ⟨h1, v, h2, h3⟩ := h; exact ⟨h1, v, h2, h3.lower (Nat.le_trans hbx.out.1.size hW.size)⟩ : Below W.heap.size W w' /\ ∃ v, e = .returned v /\ Mine 3 .i64 w.heap.size w' v _)))
     clear hL hst htl
     go_wp2
     go_region_held3 (fun w' => w'.cell? ⟨w.heap.size, 0, none⟩ = some (.int .i64 D.q) /\ w'.cell? ⟨w.heap.size, 1, none⟩ = some (.int .i64 D.p) /\ w'.cell? ⟨w.heap.size, 2, none⟩ = some (.int .i64 D.k) /\ w'.cell? ⟨w.heap.size, 3, none⟩ = some (.int .i64 D.m))
      (first | exact ⟨l0, l1, l2, l3⟩ | exact ⟨j0, j1, j2, j3⟩ | exact ⟨i0, i1, i2, i3⟩ | go_keep)
      ((first
        | (go_at_call 43; (refine (HTR.out _ (hso.out.below (by first | exact Below.refl _ _ | exact (Below.refl _ _).drew))).mono ?_); rintro e v1 ⟨rfl, rfl⟩; have j0 := i0; have j1 := i1; have j2 := i2; have j3 := i3)
        | (go_at_call 221; (refine (HSU.out _ (by repeat (first | (with_reducible exact Below.refl _ _) | (with_reducible refine Below.drew ?_)))).mono ?_); rintro e v2 ⟨hb2, vn, rfl, hs2⟩; have HC2 := Kept.mk (bstep (show Below wr.heap.size wr _ from (by first | exact Below.refl _ _ | exact (Below.refl _ _).drew)) hb2); have l0 := belowCell HC2.out i0; have l1 := belowCell HC2.out i1; have l2 := belowCell HC2.out i2; have l3 := belowCell HC2.out i3; have HSN := Kept.mk hs2; clear hb2 hs2)))
     have HX9 := Kept.mk (hbx.out.below HC2.out)
     go_wp2
     go_roundw
     case rel => exact ⟨i + 1, by omega, by go_num, ⟨by rw [HE.out]; exact HSN.out⟩, HX9⟩
     case measure => simp [intOf] <;> omega
  ·obtain rfl : i = n := by omega
   go_wp2
   go_ret
   exact ⟨hbx0.out.1, _, rfl, hso0.out⟩
theorem sl_take2 {w : World} {ao : Option Addr} {n cap k : Nat} {xs : List Int} (h : Sl .i64 w (.slice ao n cap) xs) (hk : k <= xs.length) : Sl .i64 w (.slice ao k cap) (xs.take k) := by
 obtain ⟨ao', cap', e, hc, hm, hx⟩ := h
 simp only [Value.slice.injEq] at e
 obtain ⟨rfl, _, rfl⟩ := e
 refine ⟨ao, cap, by simp [Nat.min_eq_left hk], by simp [Nat.min_eq_left hk]; omega, hm, fun i hi => ?_⟩
 have hi' : i < k := by simpa [Nat.min_eq_left hk] using hi
 obtain ⟨b, o, e, hl, hcell⟩ := hx i (by omega)
 exact ⟨b, o, e, hl, by rw [hcell, List.getElem?_take, if_pos hi']⟩
set_option maxRecDepth 20000 in
theorem rword3_any {D : FFld.FD} (hD : D.Ok) (ax aw : Option Addr) (cx cw n k nw : Nat) (xs : List Nat) (vs : List Int) (w : World) (hx : Sl .i64 w (.slice ax n cx) (ints xs)) (hw : Sl .i64 w (.slice aw nw cw) vs) (hc : CodeV D xs n k) (lw : vs.length = nw) :
 Calls Tryz.prog 35 #[cdv D.q ax n cx k, .slice aw nw cw] w (RB w (.int .i64 (wdE D n vs : Nat))) := by
 have HX0 : Kept (Bxs w [rcdbox D.q ax n cx k] (w.alloc (rcdbox D.q ax n cx k))) := ⟨(Bxs.start w).alloc (by simp) _⟩
 have hq6 : D.p ^ D.k <= 65536 := hD.pre.small
 have hq0 : D.q = D.p ^ D.k := rfl
 have h64 := hc.n64
 have HNW := Kept.mk (fun W => rnew_any (D.q : Int) W (by omega) (by omega))
 have HEL := Kept.mk (fun (W : World) (hW : Below w.heap.size w W) => relements_any D (.slice aw nw cw) vs W (hw.below hW))
 obtain ⟨bb, hbb⟩ : ∃ x, elsB D vs = x := ⟨_, rfl⟩
 have HW : Kept (wdE D n vs = if nw ≠ n then 7 else if bb = false then 1 else 0) := ⟨by unfold wdE; rw [lw, hbb]⟩
 rw [hbb] at HEL
 have hnw : nw <= 9223372036854775807 := by
  obtain ⟨_, _, e, h1, h2, _⟩ := hw
  simp only [Value.slice.injEq] at e
  unfold maxLen at h2
  omega
 have HD := Kept.mk hD
 clear hx hw hc lw hq0 hbb
 go_enter Tryz.func35, Tryz.ntmps35
 obtain ⟨c0, c1, c2, _⟩ := three_cells HX0.out.b0
 go_wp2_with fail
 (with_reducible refine (HNW.out _).mono ?_)
 rintro e w1 ⟨hb1, ⟨D', hD', hq', rfl⟩ | ⟨hno, rfl⟩⟩
 rotate_left
 ·exact absurd ⟨D, HD.out, rfl⟩ hno
 obtain rfl : D' = D := FFld.FD.uniq hD' HD.out (by omega)
 have hal : Below w1.heap.size w1 (w1.alloc (rbox D'.q D'.p D'.k D'.m)) := (Below.refl _ _).alloc (Nat.le_refl _) _
 have hG := heap_alloc_new w1 (rbox D'.q D'.p D'.k D'.m)
 have HX1 := Kept.mk ((HX0.out.below hb1).below hal)
 obtain ⟨g5, hg⟩ : ∃ x, w1.heap.size = x := ⟨_, rfl⟩
 obtain ⟨W2, hW2⟩ : ∃ W, w1.alloc (rbox D'.q D'.p D'.k D'.m) = W := ⟨_, rfl⟩
 rw [hW2, hg] at hG
 rw [hW2] at HX1
 go_upto_region 2 with fail
 try rw [hW2]
 try rw [hg]
 clear hb1 hq' hal hg hW2 hD' HNW c0 c1 c2 HX0
 obtain ⟨c0, c1, c2, _⟩ := three_cells HX1.out.b0
 obtain ⟨i0, i1, i2, i3⟩ := four_cells hG
 have hbx := HX1.out.1
 by_cases hl : nw = n
 ·subst hl
  have e0 : ((nw : Int) != (nw : Int)) = false := by simp
  rw [if_neg (fun e => e rfl)] at HW
  go_wp2_with fail
  (with_reducible refine (HEL.out _ hbx).mono ?_)
  rintro e w3 ⟨hb3, rfl⟩
  have HB := Kept.mk (bstep hbx hb3)
  clear hb3
  cases bb with
  | false =>
    rw [if_pos rfl] at HW
    go_wp2
    go_ret
    exact ⟨HB.out, by rw [HW.out]; try rfl⟩
  | true =>
    rw [if_neg (by simp)] at HW
    go_wp2
    go_ret
    exact ⟨HB.out, by rw [HW.out]; try rfl⟩
 ·have e0 : ((nw : Int) != (n : Int)) = true := by rw [bne_iff_ne]; omega
  rw [if_pos hl] at HW
  clear hl
  go_wp2
  go_ret
  exact ⟨hbx, by rw [HW.out]; try rfl⟩
set_option maxRecDepth 20000 in
theorem rpoly3_any {D : FFld.FD} (hD : D.Ok) (ax aw : Option Addr) (cx cw n k : Nat) (xs ws : List Nat) (w : World) (hx : Sl .i64 w (.slice ax n cx) (ints xs)) (hw : Sl .i64 w (.slice aw n cw) (ints ws)) (hc : CodeV D xs n k) (lw : ws.length = n) (hwq : ∀ a ∈ ws, a < D.p ^ D.k) :
 Calls Tryz.prog 101 #[cdv D.q ax n cx k, .slice aw n cw] w (fun e w' => Below w.heap.size w w' /\ ∃ (a : Option Addr) (c : Nat), e = .returned (.slice a n c) /\ Sl .i64 w' (.slice a n c) (ints (FFld.padF (wdL D hD.pre.pk xs ws n) n))) := by
 have HX0 : Kept (Bxs w [rcdbox D.q ax n cx k] (w.alloc (rcdbox D.q ax n cx k))) := ⟨(Bxs.start w).alloc (by simp) _⟩
 have hq6 : D.p ^ D.k <= 65536 := hD.pre.small
 have hq0 : D.q = D.p ^ D.k := rfl
 have h64 := hc.n64
 have HNW := Kept.mk (fun W => rnew_any (D.q : Int) W (by omega) (by omega))
 have hLn := wdL_len hD xs ws n
 obtain ⟨L, hL⟩ : ∃ L, wdL D hD.pre.pk xs ws n = L := ⟨_, rfl⟩
 rw [hL] at hLn ⊢
 obtain ⟨ll, hll⟩ : ∃ x, L.length = x := ⟨_, rfl⟩
 rw [hll] at hLn
 have HTH : Kept (∀ W, Below w.heap.size w W -> Calls Tryz.prog 172 #[rfv D.q D.p D.k D.m, .slice ax n cx, .slice aw n cw] W (fun e w' => Below W.heap.size W w' /\ ∃ (a : Option Addr) (c : Nat), e = .returned (.slice a ll c) /\ Mine 3 .i64 W.heap.size w' (.slice a ll c) (ints L))) := ⟨fun W hW => (rthrough2_any hD (.slice ax n cx) (.slice aw n cw) xs ws n W (hx.below hW) (hw.below hW) hc.lt hwq hc.len lw (by omega)).mono fun e w' h => by
  obtain ⟨hb, v, rfl, hm⟩ := h
  have hm' : Mine 3 .i64 W.heap.size w' v (ints (wdL D hD.pre.pk xs ws n)) := hm
  rw [hL] at hm'
  obtain ⟨a, c, rfl, _, _⟩ := hm'.sl.form
  rw [FFld.ints_len, hll] at hm' ⊢
  exact ⟨hb, a, c, rfl, hm'⟩⟩
 have HLL := Kept.mk hll
 have HD := Kept.mk hD
 clear hx hw hc lw hwq hq0 hL hll
 go_enter Tryz.func101, Tryz.ntmps101
 obtain ⟨c0, c1, c2, _⟩ := three_cells HX0.out.b0
 go_wp2_with fail
 (with_reducible refine (HNW.out _).mono ?_)
 rintro e w1 ⟨hb1, ⟨D', hD', hq', rfl⟩ | ⟨hno, rfl⟩⟩
 rotate_left
 ·exact absurd ⟨D, HD.out, rfl⟩ hno
 obtain rfl : D' = D := FFld.FD.uniq hD' HD.out (by omega)
 have hal : Below w1.heap.size w1 (w1.alloc (rbox D'.q D'.p D'.k D'.m)) := (Below.refl _ _).alloc (Nat.le_refl _) _
 have hG := heap_alloc_new w1 (rbox D'.q D'.p D'.k D'.m)
 have HX1 := Kept.mk ((HX0.out.below hb1).below hal)
 obtain ⟨g5, hg⟩ : ∃ x, w1.heap.size = x := ⟨_, rfl⟩
 obtain ⟨W2, hW2⟩ : ∃ W, w1.alloc (rbox D'.q D'.p D'.k D'.m) = W := ⟨_, rfl⟩
 rw [hW2, hg] at hG
 rw [hW2] at HX1
 go_upto_region 2 with fail
 try rw [hW2]
 try rw [hg]
 clear hb1 hq' hal hg hW2 hD' HNW c0 c1 c2 HX0
 obtain ⟨c0, c1, c2, _⟩ := three_cells HX1.out.b0
 obtain ⟨i0, i1, i2, i3⟩ := four_cells hG
 have hbx := HX1.out.1
 go_wp2_with fail
 (with_reducible refine (HTH.out _ hbx).mono ?_)
 rintro e w3 ⟨hb3, a, c, rfl, hm3⟩
 have HB3 := Kept.mk hb3
 have HM3 : Kept (Mine 3 .i64 W2.heap.size w3 (.slice a ll c) (ints (FFld.padF L ll))) := ⟨by
  have h : FFld.padF L ll = L := by unfold FFld.padF; rw [HLL.out, Nat.sub_self]; simp
  rw [h]
  exact hm3⟩
 clear hb3 hm3 hbx c0 c1 c2 i0 i1 i2 i3 hG HTH
 go_wp2
 go_loopw [7] (fun pv wr => ∃ (i pc : Nat) (pa : Option Addr), ll <= i /\ i <= n /\ pv = .slice pa i pc /\ Kept (Mine 3 .i64 W2.heap.size wr (.slice pa i pc) (ints (FFld.padF L i))) /\ Kept (Below W2.heap.size W2 wr)) (fun pv _ => n - sliceLen pv)
 case atStart => exact ⟨ll, c, a, Nat.le_refl _, hLn, rfl, HM3, HB3⟩
 case round =>
  clear HM3 HB3
  obtain ⟨i, pc, pa, hli, hin, rfl, hmn, hbw⟩ := hrel
  have HXr := Kept.mk (HX1.out.below hbw.out)
  obtain ⟨c0, c1, c2, _⟩ := three_cells HXr.out.b0
  by_cases hlt : i < n
  ·have hpl : (FFld.padF L i).length = i := FFld.padF_len (by rw [HLL.out]; exact hli)
   have HNX : Kept (FFld.padF L (i + 1) = FFld.padF L i ++ [0]) := ⟨by
    unfold FFld.padF
    rw [HLL.out, show i + 1 - ll = i - ll + 1 by omega, List.replicate_succ', <- List.append_assoc]⟩
   have HM4 := Kept.mk (hmn.out.alloc (.cells #[.int .i64 (0 : Nat)] 3))
   have HNW := Kept.mk (new_one (K := .i64) (x := ((0 : Nat) : Int)) (w := wr.alloc (.cells #[.int .i64 (0 : Nat)] 3)) (b := wr.heap.size) (o := 0) (by exact (Row.new (E := 3) (K := .i64) wr [((0 : Nat) : Int)]).cell (i := 0) (by simp)))
   have hsz := hbw.out.size
   have HBB := Kept.mk (show W2.heap.size <= (wr.alloc (.cells #[.int .i64 (0 : Nat)] 3)).heap.size by simp; omega)
   have HBQ := Kept.mk (hbw.out.alloc hsz (.cells #[.int .i64 (0 : Nat)] 3))
   have HOW := Kept.mk HM4.out.own
   have H1 := Kept.mk (show ((ints (FFld.padF L i)).length + [((0 : Nat) : Int)].length) * 8 <= 140737488355328 by rw [FFld.ints_len, hpl]; simp; omega)
   have H2 := Kept.mk (show (ints (FFld.padF L i)).length + [((0 : Nat) : Int)].length <= maxLen by rw [FFld.ints_len, hpl]; unfold maxLen; simp; omega)
   have HPL := Kept.mk hpl
   clear hpl
   go_wp2_with (at_builtin; refine wpList_append_mine _ rfl _ _ 22 (by rfl) 3 .i64 8 Tryz.underlying22 info_i64 W2.heap.size (.slice pa i pc) (ints (FFld.padF L i)) (by rfl) HM4.out HBB.out ⟨wr.heap.size, 0, none⟩ 1 1 [((0 : Nat) : Int)] (by rfl) rfl HNW.out H1.out H2.out ?_)
   intro v' w5 hm5 hg5 hn5
   have hm6 : Mine 3 .i64 W2.heap.size w5 v' (ints (FFld.padF L (i + 1))) := by rw [HNX.out, FFld.ints_append]; exact hm5
   have HB5 := Kept.mk (HBQ.out.grown hg5 HBB.out (fun j hj => (HOW.out j hj).1))
   obtain ⟨pa5, pc5, rfl, _, _⟩ := hm6.sl.form
   rw [FFld.ints_len, FFld.padF_len (show L.length <= i + 1 by rw [HLL.out]; omega)] at hm6 ⊢
   have HM6 := Kept.mk hm6
   clear hm5 hm6 hg5 hn5
   go_wp2
   go_roundw
   case rel => exact ⟨i + 1, pc5, pa5, by omega, by omega, rfl, HM6, HB5⟩
   case measure => simp [sliceLen] <;> omega
  ·obtain rfl : i = n := by omega
   have HS := Kept.mk hmn.out.sl
   go_wp2
   go_ret
   exact ⟨HXr.out.1, pa, pc, rfl, HS.out⟩
def RmsRet (k : Nat) (L : List Nat) (w : World) (e : Ending) (w' : World) : Prop := Below w.heap.size w w' /\ ((k < L.length /\ e = .returned (.tuple #[nilv, .bool false])) \/ (L.length <= k /\ ∃ (a : Option Addr) (c : Nat), e = .returned (.tuple #[.slice a k c, .bool true]) /\ Sl .i64 w' (.slice a k c) (ints (FFld.padF L k))))
set_option maxRecDepth 20000 in
theorem rmessage3_any {D : FFld.FD} (hD : D.Ok) (ax aw : Option Addr) (cx cw n k : Nat) (xs ws : List Nat) (w : World) (hx : Sl .i64 w (.slice ax n cx) (ints xs)) (hw : Sl .i64 w (.slice aw n cw) (ints ws)) (hc : CodeV D xs n k) (lw : ws.length = n) (hwq : ∀ a ∈ ws, a < D.p ^ D.k) :
 Calls Tryz.prog 36 #[cdv D.q ax n cx k, .slice aw n cw] w (RmsRet k (wdL D hD.pre.pk xs ws n) w) := by
 have HX0 : Kept (Bxs w [rcdbox D.q ax n cx k] (w.alloc (rcdbox D.q ax n cx k))) := ⟨(Bxs.start w).alloc (by simp) _⟩
 have h64 := hc.n64
 have hkn := hc.kn
 have hk1 := hc.k1
 have HPO := Kept.mk (fun (W : World) (hW : Below w.heap.size w W) => rpoly3_any hD ax aw cx cw n k xs ws W (hx.below hW) (hw.below hW) hc lw hwq)
 have hLn := wdL_len hD xs ws n
 have hLt := wdL_tz hD xs ws n
 obtain ⟨L, hL⟩ : ∃ L, wdL D hD.pre.pk xs ws n = L := ⟨_, rfl⟩
 rw [hL] at hLn hLt HPO ⊢
 have HTR : Kept (∀ (a : Option Addr) (c : Nat) (W : World), Sl .i64 W (.slice a n c) (ints (FFld.padF L n)) -> Calls Tryz.prog 43 #[.slice a n c] W (fun e w' => W = w' /\ e = .returned (.slice a L.length c))) := ⟨fun a c W hs => by
  have hpl : (FFld.padF L n).length = n := FFld.padF_len hLn
  have h := rtrim_any (FFld.padF L n) a c W (by rw [hpl]; exact hs) (by omega)
  rw [hpl, trm_pad hLt hLn] at h
  exact h⟩
 obtain ⟨ll, hll⟩ : ∃ x, L.length = x := ⟨_, rfl⟩
 rw [hll] at HTR hLn
 have HLL := Kept.mk hll
 have HPT : Kept (L.length <= k -> (FFld.padF L n).take k = FFld.padF L k) := ⟨fun h => pad_take h hkn⟩
 have HPN : Kept ((FFld.padF L n).length = n) := ⟨FFld.padF_len (by rw [hll]; exact hLn)⟩
 clear hx hw hc lw hwq hL hLt hll
 go_enter Tryz.func36, Tryz.ntmps36
 obtain ⟨c0, c1, c2, _⟩ := three_cells HX0.out.b0
 have hbx := HX0.out.1
 go_wp2_with fail
 (with_reducible refine (HPO.out _ hbx).mono ?_)
 rintro e w1 ⟨hb1, a, c, rfl, hs⟩
 have HX1 := Kept.mk (HX0.out.below hb1)
 have HS1 := Kept.mk hs
 obtain ⟨hc1, hc2⟩ : n <= c /\ c <= 9223372036854775807 := by
  obtain ⟨_, _, e, h1, h2, _⟩ := hs
  simp only [Value.slice.injEq] at e
  obtain ⟨_, e1, e2⟩ := e
  unfold maxLen at h2
  omega
 have HTW := Kept.mk (fun W (hb : Below w1.heap.size w1 W) => HTR.out a c W (hs.below hb))
 clear hb1 hs hbx c0 c1 c2 HX0 HPO HTR
 obtain ⟨c0, c1, c2, _⟩ := three_cells HX1.out.b0
 have hbx := HX1.out.1
 go_upto_region 2 with fail
 by_cases hkl : k < ll
 ·have m1 : (k : Int) < (ll : Int) := by omega
  have HK : Kept (k < L.length) := ⟨by rw [HLL.out]; exact hkl⟩
  go_region_held3 (fun w' => w'.cell? ⟨w.heap.size, 2, none⟩ = some (.int .i64 k)) (first | exact c2 | go_keep)
   ((first
     | (go_at_call 43; (with_reducible refine (HTW.out _ ?h1).mono ?_); (case h1 => first | exact Below.refl _ _ | exact (Below.refl _ _).drew); rintro e v1 ⟨rfl, rfl⟩)))
  go_wp2
  exact bodyPost_ret (v := .tuple #[nilv, .bool false]) (by simp [results, Tryz.results36, go_sem]) rfl ⟨by first | exact hbx | exact hbx.drew, .inl ⟨HK.out, rfl⟩⟩
 ·have m1 : ¬ ((k : Int) < (ll : Int)) := by omega
  have HK : Kept (L.length <= k) := ⟨by rw [HLL.out]; omega⟩
  have HSK : Kept (Sl .i64 w1 (.slice a k c) (ints (FFld.padF L k))) := ⟨by
   have h := sl_take2 HS1.out (k := k) (by rw [FFld.ints_len, HPN.out]; exact hkn)
   rw [FFld.ints_take, HPT.out HK.out] at h
   exact h⟩
  obtain ⟨ga, oa, rfl, _, _⟩ := HS1.out.news_ 0 (by rw [FFld.ints_len, HPN.out]; omega)
  go_region_held3 (fun w' => w'.cell? ⟨w.heap.size, 2, none⟩ = some (.int .i64 k)) (first | exact c2 | go_keep)
   ((first
     | (go_at_call 43; (with_reducible refine (HTW.out _ ?h1).mono ?_); (case h1 => first | exact Below.refl _ _ | exact (Below.refl _ _).drew); rintro e v1 ⟨rfl, rfl⟩)))
  go_wp2
  exact bodyPost_ret (v := .tuple #[.slice (some ⟨ga, oa, none⟩) k c, .bool true]) (by simp [results, Tryz.results36, go_sem]) rfl ⟨by first | exact hbx | exact hbx.drew, .inr ⟨HK.out, _, c, rfl, by first | exact HSK.out | exact HSK.out.below (Below.refl _ _).drew⟩⟩
end Go.Proofs.YtdnheaafcbihbaaGreat
