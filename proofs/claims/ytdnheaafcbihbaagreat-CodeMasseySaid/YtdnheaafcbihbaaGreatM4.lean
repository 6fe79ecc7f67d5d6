/-
  Texts of the proof, merged by program: Rdg Rti Rre Rad Rmm Rpo Rin0 Rge Pf Pp Pw Lg.
-/
import Derived.Test.YtdnheaafcbihbaaGreatM3
import Derived.Test.YtdnheaafcbihbaaGreatM2
import Derived.WalkMore
set_option linter.unusedVariables false
set_option linter.unusedSimpArgs false
namespace Go.Proofs.YtdnheaafcbihbaaGreat
open Go Go.RowKit
open FFld (ints)
/-- The call returns the digits of n in a slice of its own. -/
def DigRet (p n : Nat) (w : World) (e : Ending) (w' : World) : Prop := Below w.heap.size w w' ∧ ∃ v l, e = .returned v ∧ Mine 3 .i64 w.heap.size w' v (ints l) ∧ FFld.Digs p n l
set_option maxRecDepth 20000 in
set_option maxHeartbeats 1000000 in
theorem rdigits_any (n p : Nat) (w : World) (hp : 2 ≤ p) (hp1 : p ≤ 65536) (hn : n < 1099511627776) :
    Calls Tryz.prog 170 #[.int .i64 n, .int .i64 p] w (DigRet p n w) := by
  go_enter Tryz.func170, Tryz.ntmps170
  go_wp2
  go_loopw [0, 5] (fun c o wr => ∃ (cur : Nat) (l : List Nat), c = .int .i64 cur ∧ cur ≤ n ∧ l.length ≤ 41 ∧ Kept (FFld.DgAt p n l cur) ∧ Kept (Mine 3 .i64 w.heap.size wr o (ints l)) ∧ Kept (Below w.heap.size w wr)) (fun c _ _ => (intOf c).toNat)
  case atStart => exact ⟨n, [], rfl, by omega, by simp, ⟨FFld.DgAt.start p n⟩, ⟨Mine.nil _ _ _ _⟩, ⟨Below.refl _ _⟩⟩
  case round =>
    obtain ⟨cur, l, rfl, hc, hl, hat, hm, hbl⟩ := hrel
    by_cases h0 : 0 < cur
    · have hlen : l.length ≤ 40 := FFld.len_of_pow (hat.out.len hp h0) (Nat.le_of_lt hn)
      have HNX := Kept.mk (hat.out.next hp h0)
      obtain ⟨d, hd⟩ : ∃ d, cur % p = d := ⟨_, rfl⟩
      obtain ⟨q, hq⟩ : ∃ q, cur / p = q := ⟨_, rfl⟩
      have hql : q < cur := by rw [← hq]; exact Nat.div_lt_self h0 hp
      have hdz : (cur : Int) % p = (d : Int) := by rw [← hd]; rfl
      have hqz : (cur : Int) / p = (q : Int) := by rw [← hq]; rfl
      rw [hd, hq] at HNX
      clear hd hq
      have HMa := Lib.hid (hm.out.alloc (.cells #[.int .i64 d] 3))
      have HNW := Lib.hid (new_one (K := .i64) (x := (d : Int)) (w := wr.alloc (.cells #[.int .i64 d] 3)) (b := wr.heap.size) (o := 0) (by exact (Row.new (E := 3) (K := .i64) wr [(d : Int)]).cell (i := 0) (by simp)))
      have HBB := Lib.hid (show w.heap.size ≤ (wr.alloc (.cells #[.int .i64 d] 3)).heap.size by have := hbl.out.size; simp; omega)
      have H1 := Lib.hid (show ((ints l).length + [(d : Int)].length) * 8 ≤ 140737488355328 by rw [FFld.ints_len]; simp; omega)
      have H2 := Lib.hid (show (ints l).length + [(d : Int)].length ≤ maxLen by rw [FFld.ints_len]; unfold maxLen; simp; omega)
      have hOwn := Kept.mk hm.out.own
      go_wp2_with (at_builtin; refine wpList_append_mine _ rfl _ _ 22 rfl 3 .i64 8 Tryz.underlying22 info_i64 w.heap.size _ (ints l) rfl HMa.out HBB.out ⟨wr.heap.size, 0, none⟩ 1 1 [(d : Int)] rfl rfl HNW.out H1.out H2.out ?_)
      intro v' w5 hm5 hg5 hn5
      have HM5 := Kept.mk hm5
      have HB5 := Kept.mk (hbl.out.grown (growTrans (World.grownBy_alloc wr (.cells #[.int .i64 d] 3) _) hg5) hbl.out.size (fun j hj => (hOwn.out j hj).1))
      clear hm5 hg5 hn5
      go_wp2
      go_roundw
      case rel => exact ⟨q, l ++ [d], rfl, by omega, by simp; omega, HNX, by rw [FFld.ints_append]; exact HM5, HB5⟩
      case measure => simp [intOf] <;> omega
    · have : cur = 0 := by omega
      subst this
      go_wp2
      go_ret
      exact ⟨hbl.out, _, _, rfl, hm.out, hat.out.done⟩
set_option maxRecDepth 20000 in
set_option maxHeartbeats 1000000 in
theorem rnumber_any (v : Value) (l : List Nat) (p : Nat) (w : World) (hs : Sl .i64 w v (ints l)) (hlt : ∀ c ∈ l, c < p) (hp : 2 ≤ p) (hp1 : p ≤ 65536) (hb : p ^ l.length ≤ 1099511627776) :
    Calls Tryz.prog 171 #[v, .int .i64 p] w (fun e w' => w = w' ∧ e = .returned (.int .i64 (FFld.num p l : Nat))) := by
  obtain ⟨ao, cap, rfl, hcap, hmax, hcell⟩ := hs
  rw [FFld.ints_len] at hcap hcell
  rw [FFld.ints_len]
  have hll : l.length ≤ 40 := FFld.len_of_pow (Nat.pow_le_pow_left hp _) hb
  have HC := Kept.mk hcell
  have HL := Kept.mk hlt
  have HB := Kept.mk hb
  clear hcell hlt hb hmax
  go_enter Tryz.func171, Tryz.ntmps171
  go_wp2
  go_loopw [5, 6] (fun nv iv wr => ∃ (i : Nat) (z : Int) (m : Nat), i ≤ l.length ∧ iv = .int .i64 z ∧ Hid (z + 1 = i) ∧ nv = .int .i64 m ∧ Kept (m = FFld.num p (l.drop i)) ∧ w = wr) (fun _ iv _ => (intOf iv + 1).toNat)
  case atStart => exact ⟨l.length, (l.length : Int) - 1, 0, Nat.le_refl _, rfl, by show (_ : Int) - 1 + 1 = _; omega, rfl, ⟨by simp [FFld.num]⟩, rfl⟩
  case round =>
    obtain ⟨i, z, m, hi, rfl, hz, rfl, hm, rfl⟩ := hrel
    by_cases h0 : 0 < i
    · obtain ⟨i, rfl⟩ : ∃ j, i = j + 1 := ⟨i - 1, by omega⟩
      obtain rfl : z = (i : Int) := by have := hz.out; omega
      clear hz
      obtain ⟨b, o, rfl, hbs, hcl⟩ := HC.out i (by omega)
      rw [FFld.ints_get] at hcl
      have HN := FFld.num_drop (p := p) (l := l) (i := i) (by omega)
      have hlt2 : FFld.num p (l.drop i) < 1099511627776 := by
        refine Nat.lt_of_lt_of_le (FFld.num_drop_lt (by omega) HL.out i) (Nat.le_trans (Nat.pow_le_pow_right (by omega) (by omega)) HB.out)
      rw [← hm.out] at HN
      obtain ⟨d, hd⟩ : ∃ d, l[i]?.getD 0 = d := ⟨_, rfl⟩
      obtain ⟨m', hm'⟩ : ∃ m', FFld.num p (l.drop i) = m' := ⟨_, rfl⟩
      rw [hd] at hcl HN
      rw [hm'] at HN hlt2
      have hmp0 : (0 : Int) ≤ (m : Int) * p := imul_nn (by omega) (by omega)
      have e1 : (m' : Int) = d + (m : Int) * p := by rw [HN, Nat.mul_comm]; simp
      have HM' := Kept.mk hm'.symm
      have e2 : wrap64 ((m : Int) * p) = (m : Int) * p := w64 (by omega) (by omega)
      have e4 : (m : Int) * p + d = m' := by omega
      have e3 : Kept (wrap64 ((m : Int) * p + d) = m') := ⟨by rw [e4]; exact w64 (by omega) (by omega)⟩
      clear e4
      clear hd hm' HN
      clear e1 hmp0
      go_wp2
      go_roundw
      case rel => exact ⟨i, (i : Int) - 1, m', by omega, by go_num, by show (_ : Int) - 1 + 1 = _; omega, congrArg (Value.int .i64) e3.out, HM', trivial⟩
      case measure => simp [intOf] <;> omega
    · have : i = 0 := by omega
      subst this
      obtain rfl : z = -1 := by have := hz.out; omega
      have hme := hm.out
      rw [List.drop_zero] at hme
      clear hz hm
      go_wp2
      go_ret
      exact ⟨rfl, by rw [hme]; rfl⟩
end Go.Proofs.YtdnheaafcbihbaaGreat

set_option linter.unusedVariables false
set_option linter.unusedSimpArgs false
namespace Go.Proofs.YtdnheaafcbihbaaGreat
open Go Go.RowKit
open FFld (ints)
/-- The cells of a slice of numbers, in every later world. -/
def Cells (B : Nat) (ao : Option Addr) (l : List Nat) (w : World) : Prop := ∀ w', Below B w w' → ∀ i, i < l.length → ∃ b o, ao = some ⟨b, o, none⟩ ∧ w'.cell? ⟨b, o + i, none⟩ = some (.int .i64 ((l[i]?.getD 0 : Nat) : Int))
theorem Sl.cells {w : World} {ao : Option Addr} {k cap B : Nat} {l : List Nat} (h : Sl .i64 w (.slice ao k cap) (ints l)) (hB : w.heap.size ≤ B) : Cells B ao l w := by
  obtain ⟨ao', cap', e, hc, hm, hx⟩ := h
  simp only [Value.slice.injEq] at e
  obtain ⟨rfl, e2, rfl⟩ := e
  intro w' hb i hi
  obtain ⟨b, o, e, hl, hcell⟩ := hx i (by rw [FFld.ints_len]; exact hi)
  rw [FFld.ints_get] at hcell
  exact ⟨b, o, e, (hb.cell (p := ⟨b, o + i, none⟩) (Nat.lt_of_lt_of_le hl hB)).trans hcell⟩
theorem Sl.form {w : World} {v : Value} {xs : List Int} (h : Sl .i64 w v xs) : ∃ ao cap, v = .slice ao xs.length cap ∧ xs.length ≤ cap ∧ cap ≤ maxLen := by
  obtain ⟨ao', cap', e, hc, hm, hx⟩ := h
  exact ⟨ao', cap', e, hc, hm⟩
/-- The call returns a number c with P c. -/
def RN (w : World) (P : Nat → Prop) (e : Ending) (w' : World) : Prop := Below w.heap.size w w' ∧ ∃ c : Nat, e = .returned (.int .i64 c) ∧ P c
end Go.Proofs.YtdnheaafcbihbaaGreat

set_option linter.unusedVariables false
set_option linter.unusedSimpArgs false
namespace Go.Proofs.YtdnheaafcbihbaaGreat
open Go Go.RowKit
open FFld (ints)
/-- The cells of a slice of numbers that lies in a block from B on. -/
def Yc (B : Nat) (ao : Option Addr) (l : List Nat) (w : World) : Prop := ∀ i, i < l.length → ∃ b o, ao = some ⟨b, o, none⟩ ∧ B ≤ b ∧ b < w.heap.size ∧ w.cell? ⟨b, o + i, none⟩ = some (.int .i64 ((l[i]?.getD 0 : Nat) : Int))
theorem Yc.set {B : Nat} {ao : Option Addr} {l : List Nat} {w : World} (h : Yc B ao l w) {g : Nat} (hg : g < B) (i : Nat) (v : Value) : Yc B ao l (w.setCell ⟨g, i, none⟩ v) := fun j hj => by
  obtain ⟨b, o, e, h1, h2, h3⟩ := h j hj
  refine ⟨b, o, e, h1, by simpa [World.setCell] using h2, ?_⟩
  rw [← h3]
  exact World.cell?_of_block (heap_setCell_other w ⟨g, i, none⟩ b v (by simp; omega))
theorem Yc.drew {B : Nat} {ao : Option Addr} {l : List Nat} {w : World} (h : Yc B ao l w) : Yc B ao l w.drew := h
theorem Mine.yc {E : TypeId} {B : Nat} {w : World} {ao : Option Addr} {k cap : Nat} {l : List Nat} (h : Mine E .i64 B w (.slice ao k cap) (ints l)) : Yc B ao l w := fun i hi => by
  obtain ⟨g, cap', e, hB, hg, _, _, hc, _, _⟩ := h.at (i := i) (by rw [FFld.ints_len]; exact hi)
  simp only [Value.slice.injEq] at e
  rw [FFld.ints_get] at hc
  exact ⟨g, 0, e.1, hB, hg, by rw [Nat.zero_add]; exact hc⟩
set_option maxRecDepth 20000 in
set_option maxHeartbeats 4000000 in
theorem rrest_any (a m p k n : Nat) (w : World) (hp : 2 ≤ p) (hp1 : p ≤ 65536) (hk : 1 ≤ k) (ha : a < p ^ n) (hm0 : p ^ k ≤ m) (hm1 : m < 2 * p ^ k) (hq : p ^ n ≤ 1099511627776) (hq2 : p ^ k ≤ 524288) :
    Calls Tryz.prog 99 #[.int .i64 a, .int .i64 m, .int .i64 p] w (RB w (.int .i64 (FFld.pmul p k m 1 n a : Nat))) := by
  have hpk : FFld.PK p k m := ⟨hp, hk⟩
  have ha40 : a < 1099511627776 := Nat.lt_of_lt_of_le ha hq
  have hm40 : m < 1099511627776 := by omega
  have HA := Kept.mk ha
  have HM0 := Kept.mk hm0
  have HM1 := Kept.mk hm1
  have HQ := Kept.mk hq
  have hk20 : k ≤ 40 := FFld.len_of_pow (Nat.pow_le_pow_left hp _) (Nat.le_trans hq2 (by omega))
  clear ha hm0 hm1 hq hq2
  go_enter Tryz.func99, Tryz.ntmps99
  go_wp2_with fail
  refine (rdigits_any a p _ hp hp1 ha40).mono ?_
  rintro e w1 ⟨hb1, v1, x0, rfl, hmi1, hd1⟩
  obtain ⟨ax, cx, rfl, hcx, hmx⟩ := hmi1.sl.form
  rw [FFld.ints_len] at hcx hmi1 ⊢
  have HI1 := Kept.mk hmi1
  have HD1 := Kept.mk hd1
  have HB1 := Kept.mk hb1
  clear hmi1 hd1 hb1
  go_wp2_with fail
  refine (rdigits_any m p _ hp hp1 hm40).mono ?_
  rintro e w2 ⟨hb2, v2, y, rfl, hmi2, hd2⟩
  obtain ⟨ay, cy, rfl, hcy, hmy⟩ := hmi2.sl.form
  rw [FFld.ints_len] at hcy hmi2 ⊢
  have HI2 := Kept.mk (HI1.out.below hb2)
  have HYC := Kept.mk hmi2.yc
  have HMON := Kept.mk (hd2.mon hpk HM0.out HM1.out)
  have HB2 := Kept.mk (HB1.out.trans (hb2.mono HB1.out.size))
  have HOWN := Kept.mk HI1.out.own
  have hyl0 : 1 ≤ y.length := by rw [HMON.out.len]; omega
  have hyl9 : y.length ≤ 41 := by rw [HMON.out.len]; omega
  have HRS := Kept.mk (FFld.Digs.rs (n := n) hpk HD1.out HA.out)
  obtain ⟨V, hV⟩ : ∃ V, FFld.pmul p k m 1 n a = V := ⟨_, rfl⟩
  have hVl : V < p ^ k := by rw [← hV]; exact FFld.pmul_lt hpk _ _ _
  have HVL := Kept.mk hVl
  rw [hV] at HRS
  have HVV := Kept.mk hV
  have hwl : w1.heap.size ≤ w2.heap.size := hb2.size
  have hn40 : n ≤ 40 := FFld.len_of_pow (Nat.pow_le_pow_left hp _) HQ.out
  have hx0l : x0.length ≤ 40 := Nat.le_trans (HD1.out.len hp HA.out) hn40
  clear hmi2 hd2 hb2 hV hVl HI1 HB1
  go_wp2
  go_loopw [7] (fun s wr => ∃ (x : List Nat) (ao : Option Addr) (cap : Nat), x.length ≤ x0.length ∧ s = .slice ao x.length cap ∧ cap ≤ maxLen ∧ Kept (Mine 3 .i64 w.heap.size wr (.slice ao x.length cap) (ints x)) ∧ Kept (FFld.RsAt p k m V x) ∧ Kept (Yc w1.heap.size ay y wr) ∧ Kept (Below w.heap.size w wr) ∧ Kept (∀ k, (Value.slice ao x.length cap).ownBlock = some k → w.heap.size ≤ k ∧ k < w1.heap.size)) (fun s _ => sliceLen s)
  case atStart => exact ⟨x0, ax, cx, Nat.le_refl _, rfl, hmx, HI2, HRS, HYC, HB2, HOWN⟩
  case round =>
    obtain ⟨x, ao, cap, hxl, rfl, hcap, hmi, hrs, hyc, hbl, hown⟩ := hrel
    by_cases hlt : y.length ≤ x.length
    · obtain ⟨g, cap', ev, hgB, hgl, hncap, _, hctop, _, _⟩ := hmi.out.at (i := x.length - 1) (by rw [FFld.ints_len]; omega)
      rw [FFld.ints_len] at ev hncap
      simp only [Value.slice.injEq, true_and] at ev
      obtain ⟨rfl, rfl⟩ := ev
      rw [FFld.ints_get] at hctop
      have hgw1 : g < w1.heap.size := (hown.out g (by simp [Value.ownBlock])).2
      have htl := FFld.getD_lt (by omega) hrs.out.lt (x.length - 1)
      obtain ⟨top, htop⟩ : ∃ top, x[x.length - 1]?.getD 0 = top := ⟨_, rfl⟩
      rw [htop] at hctop htl
      obtain ⟨at_, hat⟩ : ∃ at_, x.length - y.length = at_ := ⟨_, rfl⟩
      obtain ⟨c, hc⟩ : ∃ c, p - top = c := ⟨_, rfl⟩
      have HRW := Kept.mk (FFld.RwAt.start hpk hrs.out at_ c y hyl0)
      have HTOP := Kept.mk htop
      have HC := Kept.mk hc
      have hatz : (x.length : Int) - y.length = at_ := by omega
      have hatl : at_ + y.length = x.length := by omega
      have hcp : c ≤ p := by omega
      have hcz : (p : Int) - top = c := by omega
      have HCT := Kept.mk (show x[x.length - 1]?.getD 0 + c = p by rw [htop]; omega)
      clear htop hat hc
      go_wp2
      go_loopw [11] (fun iv wr => ∃ (i : Nat) (z : List Nat), i ≤ y.length ∧ iv = .int .i64 i ∧ Kept (Mine 3 .i64 w.heap.size wr (.slice (some ⟨g, 0, none⟩) x.length cap) (ints z)) ∧ Kept (FFld.RwAt p k m at_ c V y x z i) ∧ Kept (Yc w1.heap.size ay y wr) ∧ Kept (Below w.heap.size w wr)) (fun iv _ => y.length - (intOf iv).toNat)
      case atStart => exact ⟨0, x, Nat.zero_le _, rfl, hmi, HRW, hyc, hbl⟩
      case round =>
        obtain ⟨i, z, hi, rfl, hmi, hrw, hyc, hbl⟩ := hrel
        by_cases hit : i < y.length
        · obtain ⟨by_, oy, rfl, hyB, hyl2, hcy2⟩ := hyc.out i hit
          have hzl : z.length = x.length := hrw.out.len
          obtain ⟨g', cap', ev, _, _, _, _, hcz2, hfz, hset⟩ := hmi.out.at (i := at_ + i) (by rw [FFld.ints_len, hzl]; omega)
          rw [FFld.ints_len, hzl] at ev
          simp only [Value.slice.injEq, Option.some.injEq, Addr.mk.injEq, true_and, and_true] at ev
          obtain ⟨rfl, rfl⟩ := ev
          rw [FFld.ints_get] at hcz2
          have hub := FFld.getD_lt (by omega) hrw.out.lt (at_ + i)
          have htb := FFld.getD_lt (by omega) HMON.out.lt i
          obtain ⟨u, hu⟩ : ∃ u, z[at_ + i]?.getD 0 = u := ⟨_, rfl⟩
          obtain ⟨t, ht⟩ : ∃ t, y[i]?.getD 0 = t := ⟨_, rfl⟩
          obtain ⟨d, hd⟩ : ∃ d, (u + c * t) % p = d := ⟨_, rfl⟩
          have HNX := Kept.mk (hrw.out.next (d := d) hpk hit hatl HCT.out HMON.out.top (by rw [hu, ht]; exact hd))
          have HSET := Kept.mk (show Mine 3 .i64 w.heap.size (wr.setCell ⟨g, at_ + i, none⟩ (.int .i64 d)) (.slice (some ⟨g, 0, none⟩) x.length cap) (ints (z.set (at_ + i) d)) by have := hset (d : Int); rw [FFld.ints_set] at this; exact this)
          rw [hu] at hcz2 hub
          rw [ht] at hcy2 htb
          clear hu ht hset
          have hst0 : (0 : Int) ≤ (c : Int) * t := imul_nn (by omega) (by omega)
          have hst1 : (c : Int) * t ≤ 4294967296 := imul_le (A := 65536) (B := 65536) (by omega) (by omega) (by omega) (by omega)
          have hij : IntKind.i64.wrap ((at_ : Int) + i) = (at_ : Int) + i := wi (by omega) (by omega)
          have hi1 : 0 ≤ (at_ : Int) + i := by omega
          have hi2 : (at_ : Int) + i < ((x.length : Nat) : Int) := by omega
          have hi3 : ((at_ : Int) + i).toNat = at_ + i := by omega
          have e0 : IntKind.i64.wrap ((p : Int) - top) = (c : Int) := by rw [hcz]; exact wi (by omega) (by omega)
          have e1 : IntKind.i64.wrap ((c : Int) * t) = (c : Int) * t := wi (by omega) (by omega)
          have e2 : IntKind.i64.wrap ((u : Int) + (c : Int) * t) = (u : Int) + (c : Int) * t := wi (by omega) (by omega)
          have e3 : ((u : Int) + (c : Int) * t) % p = d := by rw [← hd]; simp
          clear hd hcz hatz hzl hctop
          go_wp2
          go_region
          go_wp2
          go_roundw
          case rel => exact ⟨i + 1, _, by omega, by go_num, ⟨HSET.out.below (belowDrew _)⟩, HNX, ⟨(hyc.out.set hgw1 _ _).drew⟩, ⟨(hbl.out.setCell (p := ⟨g, at_ + i, none⟩) hgB _).drew⟩⟩
          case measure => simp [intOf] <;> omega
        · obtain rfl : i = y.length := by omega
          have HRS2 := Kept.mk (hrw.out.done hpk HMON.out.zero HVL.out)
          have hzl : z.length = x.length := hrw.out.len
          have HZ0 := Kept.mk (hrw.out.top rfl)
          clear hatz hcz hctop
          go_wp2
          go_loopw [7] (fun s wr' => ∃ (j : Nat), j ≤ x.length ∧ s = .slice (some ⟨g, 0, none⟩) j cap ∧ Kept (FFld.RsAt p k m V (z.take j)) ∧ Kept (∀ i, j ≤ i → z[i]?.getD 0 = 0) ∧ wr = wr') (fun s _ => sliceLen s)
          case atStart => exact ⟨x.length, Nat.le_refl _, rfl, ⟨by rw [← hzl, List.take_length]; exact HRS2.out⟩, ⟨fun i hi => by simp [show z.length ≤ i by omega]⟩, rfl⟩
          case round =>
            obtain ⟨j, hj, rfl, hrj, hzj, rfl⟩ := hrel
            by_cases h0 : 0 < j
            · obtain ⟨j, rfl⟩ : ∃ j', j = j' + 1 := ⟨j - 1, by omega⟩
              obtain ⟨g', cap', ev, _, _, _, _, hcj, _, _⟩ := hmi.out.at (i := j) (by rw [FFld.ints_len, hzl]; omega)
              rw [FFld.ints_len, hzl] at ev
              simp only [Value.slice.injEq, Option.some.injEq, Addr.mk.injEq, true_and, and_true] at ev
              obtain ⟨rfl, rfl⟩ := ev
              rw [FFld.ints_get] at hcj
              obtain ⟨u, hu⟩ : ∃ u, z[j]?.getD 0 = u := ⟨_, rfl⟩
              rw [hu] at hcj
              by_cases hu0 : u = 0
              · subst hu0
                have HR := Kept.mk (hrj.out.cut hpk (n := j) (by rw [List.length_take]; omega) (by rw [List.getElem?_take, if_pos (by omega)]; exact hu))
                have HZ := Kept.mk (show ∀ i, j ≤ i → z[i]?.getD 0 = 0 from fun i hi => by
                  by_cases e : i = j
                  · subst e; exact hu
                  · exact hzj.out i (by omega))
                clear hu hzl
                go_wp2
                go_roundw
                case rel => exact ⟨j, by omega, rfl, ⟨by have := HR.out; rw [List.take_take, Nat.min_eq_left (by omega)] at this; exact this⟩, HZ, trivial⟩
                case measure => simp [sliceLen] <;> omega
              · have hub : ((u : Int) == 0) = false := by rw [beq_eq_false_iff_ne]; omega
                have hjx : j + 1 < x.length := by
                  rcases Nat.lt_or_ge (j + 1) x.length with h | h
                  · exact h
                  · exact absurd (by rw [← hu, show j = x.length - 1 from by omega]; exact HZ0.out) hu0
                have HMI := Kept.mk (Mine.upto (n := j + 1) (xs := ints z) (by rw [FFld.ints_len, hzl]; exact hmi.out) (by rw [FFld.ints_len]; omega))
                rw [FFld.ints_take] at HMI
                have hlj : (z.take (j + 1)).length = j + 1 := by rw [List.length_take]; omega
                have HLJ := Kept.mk hlj
                clear hu hzl hlj
                go_wp2
                go_roundw
                case rel => exact ⟨z.take (j + 1), some ⟨g, 0, none⟩, cap, by rw [HLJ.out]; omega, by rw [HLJ.out], hcap, ⟨by rw [HLJ.out]; exact HMI.out⟩, hrj, hyc, hbl, ⟨fun k hk => hown.out k (by simpa [Value.ownBlock] using hk)⟩⟩
                case measure => simp [sliceLen] <;> omega
            · obtain rfl : j = 0 := by omega
              have HMI := Kept.mk (Mine.upto (n := 0) (xs := ints z) (by rw [FFld.ints_len, hzl]; exact hmi.out) (by omega))
              rw [FFld.ints_take] at HMI
              clear hzl
              go_wp2
              go_roundw
              case rel => exact ⟨[], some ⟨g, 0, none⟩, cap, by simp, rfl, hcap, HMI, ⟨by have := hrj.out; rw [List.take_zero] at this; exact this⟩, hyc, hbl, ⟨fun k hk => hown.out k (by simpa [Value.ownBlock] using hk)⟩⟩
              case measure => simp [sliceLen] <;> omega
    · have HN := Kept.mk (hrs.out.done hpk (by have := HMON.out.len; omega))
      have HSL := Kept.mk hmi.out.sl
      have HLT := Kept.mk hrs.out.lt
      have HPW := Kept.mk (show p ^ x.length ≤ 1099511627776 from Nat.le_trans (Nat.pow_le_pow_right (by omega) (Nat.le_trans hxl (HD1.out.len hp HA.out))) HQ.out)
      go_wp2_with fail
      refine (rnumber_any _ x p _ HSL.out HLT.out hp hp1 HPW.out).mono ?_
      rintro e w9 ⟨rfl, rfl⟩
      go_wp2
      go_ret
      exact ⟨hbl.out, by rw [HN.out, HVV.out]; rfl⟩
end Go.Proofs.YtdnheaafcbihbaaGreat

set_option linter.unusedVariables false
set_option linter.unusedSimpArgs false
namespace Go.Proofs.YtdnheaafcbihbaaGreat
open Go Go.RowKit
open FFld (ints)
theorem four_cells {w : World} {g : Nat} {a b c d : Value} {T : TypeId} (h : w.heap[g]? = some (.cells #[a, b, c, d] T (0, 0))) :
    w.cell? ⟨g, 0, none⟩ = some a ∧ w.cell? ⟨g, 1, none⟩ = some b ∧ w.cell? ⟨g, 2, none⟩ = some c ∧ w.cell? ⟨g, 3, none⟩ = some d :=
  ⟨by rw [cell_of_row w g 0 _ T (0, 0) h]; rfl, by rw [cell_of_row w g 1 _ T (0, 0) h]; rfl, by rw [cell_of_row w g 2 _ T (0, 0) h]; rfl, by rw [cell_of_row w g 3 _ T (0, 0) h]; rfl⟩
/-- The reference's field. -/
abbrev rfv (q p k m : Nat) : Value := .agg #[.int .i64 q, .int .i64 p, .int .i64 k, .int .i64 m]
end Go.Proofs.YtdnheaafcbihbaaGreat

set_option linter.unusedVariables false
set_option linter.unusedSimpArgs false
namespace Go.Proofs.YtdnheaafcbihbaaGreat
open Go Go.RowKit
open FFld (ints)
/-- What is asked of the modulus' number. -/
structure MdOk (p k m : Nat) : Prop where
  one : k = 1 → m = p
  more : 2 ≤ k → p ^ k ≤ m ∧ m < 2 * p ^ k
end Go.Proofs.YtdnheaafcbihbaaGreat

set_option linter.unusedVariables false
set_option linter.unusedSimpArgs false
namespace Go.Proofs.YtdnheaafcbihbaaGreat
open Go Go.RowKit
open FFld (ints)
abbrev rbox (q p k m : Nat) : Obj := .cells #[.int .i64 q, .int .i64 p, .int .i64 k, .int .i64 m] 47
end Go.Proofs.YtdnheaafcbihbaaGreat

set_option linter.unusedVariables false
set_option linter.unusedSimpArgs false
namespace Go.Proofs.YtdnheaafcbihbaaGreat
open Go Go.RowKit
open FFld (ints)
end Go.Proofs.YtdnheaafcbihbaaGreat

set_option linter.unusedVariables false
set_option linter.unusedSimpArgs false
namespace Go.Proofs.YtdnheaafcbihbaaGreat
open Go Go.RowKit
open FFld (ints)
/-- How far the inner search has come: all numbers below r pass, or one fails. -/
def GrAt (D : FFld.FD) (h : FFld.PK D.p D.k D.m) (a r : Nat) (ok : Bool) : Prop := if ok then ∀ i, 2 ≤ i → i < r → FFld.GTest D h a i else ∃ i, 2 ≤ i ∧ i < D.p ^ D.k ∧ ¬ FFld.GTest D h a i
end Go.Proofs.YtdnheaafcbihbaaGreat

set_option linter.unusedVariables false
set_option linter.unusedSimpArgs false
namespace Go.Proofs.YtdnheaafcbihbaaGreat
open Go Go.RowKit
open FFld (ints)
set_option maxRecDepth 20000 in
set_option maxHeartbeats 1000000 in
theorem fdigits_any (n p : Nat) (w : World) (hp : 2 ≤ p) (hp1 : p ≤ 65536) (hn : n < 1099511627776) :
    Calls Tryz.prog 211 #[.int .i64 n, .int .i64 p] w (DigRet p n w) := by
  go_enter Tryz.func211, Tryz.ntmps211
  go_wp2
  go_loopw [0, 5] (fun c o wr => ∃ (cur : Nat) (l : List Nat), c = .int .i64 cur ∧ cur ≤ n ∧ l.length ≤ 41 ∧ Kept (FFld.DgAt p n l cur) ∧ Kept (Mine 3 .i64 w.heap.size wr o (ints l)) ∧ Kept (Below w.heap.size w wr)) (fun c _ _ => (intOf c).toNat)
  case atStart => exact ⟨n, [], rfl, by omega, by simp, ⟨FFld.DgAt.start p n⟩, ⟨Mine.nil _ _ _ _⟩, ⟨Below.refl _ _⟩⟩
  case round =>
    obtain ⟨cur, l, rfl, hc, hl, hat, hm, hbl⟩ := hrel
    by_cases h0 : 0 < cur
    · have hlen : l.length ≤ 40 := FFld.len_of_pow (hat.out.len hp h0) (Nat.le_of_lt hn)
      have HNX := Kept.mk (hat.out.next hp h0)
      obtain ⟨d, hd⟩ : ∃ d, cur % p = d := ⟨_, rfl⟩
      obtain ⟨q, hq⟩ : ∃ q, cur / p = q := ⟨_, rfl⟩
      have hql : q < cur := by rw [← hq]; exact Nat.div_lt_self h0 hp
      have hdz : (cur : Int) % p = (d : Int) := by rw [← hd]; rfl
      have hqz : (cur : Int) / p = (q : Int) := by rw [← hq]; rfl
      rw [hd, hq] at HNX
      clear hd hq
      have HMa := Lib.hid (hm.out.alloc (.cells #[.int .i64 d] 3))
      have HNW := Lib.hid (new_one (K := .i64) (x := (d : Int)) (w := wr.alloc (.cells #[.int .i64 d] 3)) (b := wr.heap.size) (o := 0) (by exact (Row.new (E := 3) (K := .i64) wr [(d : Int)]).cell (i := 0) (by simp)))
      have HBB := Lib.hid (show w.heap.size ≤ (wr.alloc (.cells #[.int .i64 d] 3)).heap.size by have := hbl.out.size; simp; omega)
      have H1 := Lib.hid (show ((ints l).length + [(d : Int)].length) * 8 ≤ 140737488355328 by rw [FFld.ints_len]; simp; omega)
      have H2 := Lib.hid (show (ints l).length + [(d : Int)].length ≤ maxLen by rw [FFld.ints_len]; unfold maxLen; simp; omega)
      have hOwn := Kept.mk hm.out.own
      go_wp2_with (at_builtin; refine wpList_append_mine _ rfl _ _ 22 rfl 3 .i64 8 Tryz.underlying22 info_i64 w.heap.size _ (ints l) rfl HMa.out HBB.out ⟨wr.heap.size, 0, none⟩ 1 1 [(d : Int)] rfl rfl HNW.out H1.out H2.out ?_)
      intro v' w5 hm5 hg5 hn5
      have HM5 := Kept.mk hm5
      have HB5 := Kept.mk (hbl.out.grown (growTrans (World.grownBy_alloc wr (.cells #[.int .i64 d] 3) _) hg5) hbl.out.size (fun j hj => (hOwn.out j hj).1))
      clear hm5 hg5 hn5
      go_wp2
      go_roundw
      case rel => exact ⟨q, l ++ [d], rfl, by omega, by simp; omega, HNX, by rw [FFld.ints_append]; exact HM5, HB5⟩
      case measure => simp [intOf] <;> omega
    · have : cur = 0 := by omega
      subst this
      go_wp2
      go_ret
      exact ⟨hbl.out, _, _, rfl, hm.out, hat.out.done⟩
/-- The call returns the primes that divide n in a slice of its own. -/
def PfRet (n : Nat) (w : World) (e : Ending) (w' : World) : Prop := Below w.heap.size w w' ∧ ∃ v l, e = .returned v ∧ Mine 3 .i64 w.heap.size w' v (ints l) ∧ FFld.Facs n l
set_option maxRecDepth 20000 in
set_option maxHeartbeats 2000000 in
theorem factors_any (n0 : Nat) (w : World) (hn0 : 1 ≤ n0) (hn6 : n0 ≤ 65536) :
    Calls Tryz.prog 203 #[.int .i64 n0] w (PfRet n0 w) := by
  go_enter Tryz.func203, Tryz.ntmps203
  go_wp2
  go_loopw [0, 3, 4] (fun nv fv dv wr => ∃ (n d : Nat) (l : List Nat), n ≤ 65536 ∧ 2 ≤ d ∧ d ≤ 257 ∧ nv = .int .i64 n ∧ dv = .int .i64 d ∧ l.length ≤ 256 ∧ Kept (FFld.PfAt n0 d n l) ∧ Kept (Mine 3 .i64 w.heap.size wr fv (ints l)) ∧ Kept (Below w.heap.size w wr)) (fun _ _ dv _ => 258 - (intOf dv).toNat)
  case atStart => exact ⟨n0, 2, [], hn6, Nat.le_refl _, by omega, rfl, rfl, by simp, ⟨FFld.PfAt.start hn0⟩, ⟨Mine.nil _ _ _ _⟩, ⟨Below.refl _ _⟩⟩
  case round =>
    obtain ⟨n, d, l, hn6, hd2, hd7, rfl, rfl, hll, hat, hm, hbl⟩ := hrel
    obtain ⟨dd, hdd⟩ : ∃ dd, d * d = dd := ⟨_, rfl⟩
    have hddl : dd ≤ 66049 := by rw [← hdd]; exact nmul_le (A := 257) (B := 257) hd7 hd7
    have edd : wrap64 ((d : Int) * d) = dd := wmul hdd (by omega)
    by_cases hle : dd ≤ n
    · have hd6 : d ≤ 256 := by
        rcases Nat.lt_or_ge 256 d with h | h
        · have := nmul_le (A := d) (B := d) (a := 257) (b := 257) h h
          omega
        · exact h
      obtain ⟨s, hs⟩ : ∃ s, n % d = s := ⟨_, rfl⟩
      have es : (n : Int) % d = s := by rw [← hs]; rfl
      by_cases hs0 : s = 0
      · subst hs0
        have hdv : d ∣ n := Nat.dvd_of_mod_eq_zero hs
        have HPG := Kept.mk (hat.out.put hd2 hdv)
        have ez : (((0 : Nat) : Int) == 0) = true := rfl
        have hl9 : l.length ≤ 255 := by have := hat.out.len; omega
        clear hs hdv hdd
        have HMa := Lib.hid (hm.out.alloc (.cells #[.int .i64 d] 3))
        have HNW := Lib.hid (new_one (K := .i64) (x := (d : Int)) (w := wr.alloc (.cells #[.int .i64 d] 3)) (b := wr.heap.size) (o := 0) (by exact (Row.new (E := 3) (K := .i64) wr [(d : Int)]).cell (i := 0) (by simp)))
        have HBB := Lib.hid (show w.heap.size ≤ (wr.alloc (.cells #[.int .i64 d] 3)).heap.size by have := hbl.out.size; simp; omega)
        have H1 := Lib.hid (show ((ints l).length + [(d : Int)].length) * 8 ≤ 140737488355328 by rw [FFld.ints_len]; simp; omega)
        have H2 := Lib.hid (show (ints l).length + [(d : Int)].length ≤ maxLen by rw [FFld.ints_len]; unfold maxLen; simp; omega)
        have hOwn := Kept.mk hm.out.own
        go_wp2_with (at_builtin; refine wpList_append_mine _ rfl _ _ 22 rfl 3 .i64 8 Tryz.underlying22 info_i64 w.heap.size _ (ints l) rfl HMa.out HBB.out ⟨wr.heap.size, 0, none⟩ 1 1 [(d : Int)] rfl rfl HNW.out H1.out H2.out ?_)
        intro v' w5 hm5 hg5 hn5
        have HM5 := Kept.mk hm5
        have HB5 := Kept.mk (hbl.out.grown (growTrans (World.grownBy_alloc wr (.cells #[.int .i64 d] 3) _) hg5) hbl.out.size (fun j hj => (hOwn.out j hj).1))
        clear hm5 hg5 hn5
        go_wp2
        go_loopw [0] (fun nv wr' => ∃ (n' : Nat), n' ≤ n ∧ nv = .int .i64 n' ∧ Kept (FFld.PgAt n0 d n' (l ++ [d])) ∧ w5 = wr') (fun nv _ => (intOf nv).toNat)
        case atStart => exact ⟨n, Nat.le_refl _, rfl, HPG, rfl⟩
        case round =>
          obtain ⟨n', hn', rfl, hpg, rfl⟩ := hrel
          obtain ⟨t, ht⟩ : ∃ t, n' % d = t := ⟨_, rfl⟩
          have et : (n' : Int) % d = t := by rw [← ht]; rfl
          by_cases ht0 : t = 0
          · subst ht0
            obtain ⟨q, hq⟩ : ∃ q, n' / d = q := ⟨_, rfl⟩
            have eq : (n' : Int) / d = q := by rw [← hq]; rfl
            have hlt : q < n' := by rw [← hq]; exact Nat.div_lt_self hpg.out.n1 hd2
            have HPN := Kept.mk (hpg.out.next hd2 (Nat.dvd_of_mod_eq_zero ht))
            rw [hq] at HPN
            have ez2 : (((0 : Nat) : Int) == 0) = true := rfl
            clear ht hq
            go_wp2
            go_roundw
            case rel => exact ⟨q, by omega, rfl, HPN, trivial⟩
            case measure => simp [intOf] <;> omega
          · have HPD := Kept.mk (hpg.out.done (fun h => ht0 (by rw [← ht]; exact Nat.mod_eq_zero_of_dvd h)))
            have ez2 : ((t : Int) == 0) = false := by rw [beq_eq_false_iff_ne]; omega
            clear ht ht0
            go_wp2
            go_roundw
            case rel => exact ⟨n', d + 1, l ++ [d], by omega, by omega, by omega, rfl, by go_num, by simp; omega, HPD, ⟨by rw [FFld.ints_append]; exact HM5.out⟩, HB5⟩
            case measure => simp [intOf] <;> omega
      · have ez : ((s : Int) == 0) = false := by rw [beq_eq_false_iff_ne]; omega
        have HPG := Kept.mk (hat.out.skip (fun h => hs0 (by rw [← hs]; exact Nat.mod_eq_zero_of_dvd h)))
        have hl9 : l.length ≤ 255 := by have := hat.out.len; omega
        clear hs hs0 hdd
        go_wp2
        go_loopw [0] (fun nv wr' => ∃ (n' : Nat), n' ≤ n ∧ nv = .int .i64 n' ∧ Kept (FFld.PgAt n0 d n' (l)) ∧ wr = wr') (fun nv _ => (intOf nv).toNat)
        case atStart => exact ⟨n, Nat.le_refl _, rfl, HPG, rfl⟩
        case round =>
          obtain ⟨n', hn', rfl, hpg, rfl⟩ := hrel
          obtain ⟨t, ht⟩ : ∃ t, n' % d = t := ⟨_, rfl⟩
          have et : (n' : Int) % d = t := by rw [← ht]; rfl
          by_cases ht0 : t = 0
          · subst ht0
            obtain ⟨q, hq⟩ : ∃ q, n' / d = q := ⟨_, rfl⟩
            have eq : (n' : Int) / d = q := by rw [← hq]; rfl
            have hlt : q < n' := by rw [← hq]; exact Nat.div_lt_self hpg.out.n1 hd2
            have HPN := Kept.mk (hpg.out.next hd2 (Nat.dvd_of_mod_eq_zero ht))
            rw [hq] at HPN
            have ez2 : (((0 : Nat) : Int) == 0) = true := rfl
            clear ht hq
            go_wp2
            go_roundw
            case rel => exact ⟨q, by omega, rfl, HPN, trivial⟩
            case measure => simp [intOf] <;> omega
          · have HPD := Kept.mk (hpg.out.done (fun h => ht0 (by rw [← ht]; exact Nat.mod_eq_zero_of_dvd h)))
            have ez2 : ((t : Int) == 0) = false := by rw [beq_eq_false_iff_ne]; omega
            clear ht ht0
            go_wp2
            go_roundw
            case rel => exact ⟨n', d + 1, l, by omega, by omega, by omega, rfl, by go_num, by omega, HPD, hm, hbl⟩
            case measure => simp [intOf] <;> omega
    · have hlt : n < d * d := by omega
      by_cases hn1 : 1 < n
      · have HF := Kept.mk (hat.out.last hd2 hlt hn1 (by omega))
        clear hlt hdd
        have HMa := Lib.hid (hm.out.alloc (.cells #[.int .i64 n] 3))
        have HNW := Lib.hid (new_one (K := .i64) (x := (n : Int)) (w := wr.alloc (.cells #[.int .i64 n] 3)) (b := wr.heap.size) (o := 0) (by exact (Row.new (E := 3) (K := .i64) wr [(n : Int)]).cell (i := 0) (by simp)))
        have HBB := Lib.hid (show w.heap.size ≤ (wr.alloc (.cells #[.int .i64 n] 3)).heap.size by have := hbl.out.size; simp; omega)
        have H1 := Lib.hid (show ((ints l).length + [(n : Int)].length) * 8 ≤ 140737488355328 by rw [FFld.ints_len]; simp; omega)
        have H2 := Lib.hid (show (ints l).length + [(n : Int)].length ≤ maxLen by rw [FFld.ints_len]; unfold maxLen; simp; omega)
        have hOwn := Kept.mk hm.out.own
        go_wp2_with (at_builtin; refine wpList_append_mine _ rfl _ _ 22 rfl 3 .i64 8 Tryz.underlying22 info_i64 w.heap.size _ (ints l) rfl HMa.out HBB.out ⟨wr.heap.size, 0, none⟩ 1 1 [(n : Int)] rfl rfl HNW.out H1.out H2.out ?_)
        intro v' w5 hm5 hg5 hn5
        have HM5 := Kept.mk hm5
        have HB5 := Kept.mk (hbl.out.grown (growTrans (World.grownBy_alloc wr (.cells #[.int .i64 n] 3) _) hg5) hbl.out.size (fun j hj => (hOwn.out j hj).1))
        clear hm5 hg5 hn5
        go_wp2
        go_ret
        exact ⟨HB5.out, _, _, rfl, by rw [FFld.ints_append]; exact HM5.out, HF.out⟩
      · obtain rfl : n = 1 := by have := hat.out.n1; omega
        have HF := Kept.mk (hat.out.full (by omega))
        clear hlt hdd
        go_wp2
        go_ret
        exact ⟨hbl.out, _, _, rfl, hm.out, HF.out⟩
end Go.Proofs.YtdnheaafcbihbaaGreat

set_option linter.unusedVariables false
set_option linter.unusedSimpArgs false
namespace Go.Proofs.YtdnheaafcbihbaaGreat
open Go Go.RowKit
open FFld (ints)
/-- What primePower returns. -/
def PpRet (q : Int) (w : World) (e : Ending) (w' : World) : Prop := Below w.heap.size w w' ∧
  ((∃ p k : Nat, FFld.Prime p ∧ 1 ≤ k ∧ q = ((p ^ k : Nat) : Int) ∧ p ^ k ≤ 65536 ∧ e = .returned (.tuple #[.int .i64 p, .int .i64 k, .bool true])) ∨ (¬ FFld.Fit q ∧ e = .returned (.tuple #[.int .i64 0, .int .i64 0, .bool false])))
set_option maxRecDepth 20000 in
set_option maxHeartbeats 2000000 in
theorem primePower_any (q : Int) (w : World) (hr0 : -9223372036854775808 ≤ q) (hr1 : q ≤ 9223372036854775807) :
    Calls Tryz.prog 145 #[.int .i64 q] w (PpRet q w) := by
  by_cases hin : 2 ≤ q ∧ q ≤ 65536
  · obtain ⟨n0, rfl⟩ : ∃ n0 : Nat, q = n0 := ⟨q.toNat, by omega⟩
    have h2 : 2 ≤ n0 := by omega
    have h6 : n0 ≤ 65536 := by omega
    clear hin hr0 hr1
    go_enter Tryz.func145, Tryz.ntmps145
    go_wp2_with fail
    refine (factors_any n0 _ (by omega) h6).mono ?_
    rintro e w1 ⟨hb1, v1, l, rfl, hm1, hf1⟩
    obtain ⟨a1, c1, rfl, hc1, hx1⟩ := hm1.sl.form
    rw [FFld.ints_len] at hc1 hm1 ⊢
    have hl3 := hf1.len
    have HB1 := Kept.mk hb1
    have HM1 := Kept.mk hm1
    have HF1 := Kept.mk hf1
    clear hb1 hm1 hf1
    rcases l with _ | ⟨p, _ | ⟨p2, l⟩⟩
    · exact absurd HF1.out (fun h => h.nil h2)
    · obtain ⟨hp, hd, hu⟩ := HF1.out.one
      have hp2 := hp.1
      have HP := Kept.mk hp
      have HD := Kept.mk hd
      have HU := Kept.mk hu
      obtain ⟨g, cap', ev, hgB, hgl, _, _, hcell, _, _⟩ := HM1.out.at (i := 0) (by simp [ints])
      rw [FFld.ints_len] at ev
      simp only [Value.slice.injEq, true_and] at ev
      obtain ⟨rfl, rfl⟩ := ev
      rw [FFld.ints_get] at hcell
      have hcell' : w1.cell? ⟨g, 0, none⟩ = some (.int .i64 p) := hcell
      simp only [List.length_singleton] at hc1 HM1 ⊢
      have hpl : p ≤ n0 := Nat.le_of_dvd (by omega) hd
      clear hcell hp hd hu
      go_wp2
      go_loopw [0, 3] (fun nv kv wr => ∃ (n k : Nat), 1 ≤ n ∧ n ≤ 65536 ∧ k ≤ 16 ∧ kv = .int .i64 k ∧ nv = .int .i64 n ∧ Kept (n * p ^ k = n0) ∧ w1 = wr) (fun nv _ _ => (intOf nv).toNat)
      case atStart => exact ⟨n0, 0, by omega, h6, by omega, rfl, rfl, ⟨by simp⟩, rfl⟩
      case round =>
        obtain ⟨n, k, hn1, hn6, hk16, rfl, rfl, hnk, rfl⟩ := hrel
        by_cases h1 : 1 < n
        · obtain ⟨n', hn'⟩ : ∃ n', n / p = n' := ⟨_, rfl⟩
          have en : (n : Int) / p = n' := by rw [← hn']; rfl
          have hpn : p ∣ n := by
            obtain ⟨f, hf, hfd⟩ := FFld.exists_prime n h1
            rw [← HU.out f hf (Nat.dvd_trans hfd ⟨p ^ k, hnk.out.symm⟩)]
            exact hfd
          have hnn : n = p * n' := by rw [← hn']; exact (Nat.mul_div_cancel' hpn).symm
          have hlt : n' < n := by rw [← hn']; exact Nat.div_lt_self (by omega) hp2
          have hn'1 : 1 ≤ n' := by
            rcases Nat.eq_zero_or_pos n' with h | h
            · subst h; omega
            · exact h
          have HNK : Kept (n' * p ^ (k + 1) = n0) := ⟨by rw [← hnk.out, hnn, Nat.pow_succ, Nat.mul_comm p n', Nat.mul_assoc, Nat.mul_comm p]⟩
          have hk15 : k + 1 ≤ 16 := by
            have h3 : p ^ (k + 1) ≤ n0 := by rw [← HNK.out]; exact Nat.le_mul_of_pos_left _ hn'1
            rcases Nat.lt_or_ge 16 (k + 1) with h | h
            · have h4 : 2 ^ 17 ≤ p ^ (k + 1) := Nat.le_trans (Nat.pow_le_pow_right (by omega) h) (Nat.pow_le_pow_left hp2 _)
              rw [show (2 : Nat) ^ 17 = 131072 from rfl] at h4
              generalize p ^ (k + 1) = z at *
              omega
            · exact h
          clear hn' hpn hnn hnk
          go_wp2
          go_roundw
          case rel => exact ⟨n', k + 1, hn'1, by omega, hk15, by go_num, rfl, HNK, trivial⟩
          case measure => simp [intOf] <;> omega
        · obtain rfl : n = 1 := by omega
          have hqk : p ^ k = n0 := by have := hnk.out; rw [Nat.one_mul] at this; exact this
          have hk1 : 1 ≤ k := by
            rcases Nat.eq_zero_or_pos k with h | h
            · subst h; rw [Nat.pow_zero] at hqk; omega
            · exact h
          have HQK := Kept.mk hqk
          clear hnk hqk
          go_wp2
          go_ret3
          exact ⟨HB1.out, .inl ⟨p, k, HP.out, hk1, by rw [HQK.out], by rw [HQK.out]; exact h6, rfl⟩⟩
    · have hnf : Kept (¬ FFld.Fit (n0 : Int)) := ⟨HF1.out.two⟩
      have hlen : ((p :: p2 :: l).length : Int) > 1 := by simp; omega
      obtain ⟨L, hL⟩ : ∃ L, (p :: p2 :: l).length = L := ⟨_, rfl⟩
      have hl1 : 1 < L := by rw [← hL]; simp
      rw [hL]
      clear hlen HM1 HF1 hL
      go_wp2
      go_ret3
      exact ⟨HB1.out, .inr ⟨hnf.out, rfl⟩⟩
  · have hnf : Kept (¬ FFld.Fit q) := ⟨fun h => hin h.range⟩
    have htest : q < 2 ∨ (¬ q < 2 ∧ 65536 < q) := by omega
    clear hin
    go_enter Tryz.func145, Tryz.ntmps145
    rcases htest with h | ⟨h, h'⟩
    all_goals
      go_wp2
      go_ret3
      exact ⟨Below.refl _ _, .inr ⟨hnf.out, rfl⟩⟩
end Go.Proofs.YtdnheaafcbihbaaGreat

set_option linter.unusedVariables false
set_option linter.unusedSimpArgs false
namespace Go.Proofs.YtdnheaafcbihbaaGreat
open Go Go.RowKit
open FFld (ints)
set_option maxRecDepth 20000 in
set_option maxHeartbeats 2000000 in
theorem power_rem (p k m : Nat) (hpk : FFld.PK p k m) (rv : Value) (a n : Nat) (w : World) (ha : a < p ^ k) (hn : n ≤ 70000)
    (hP : ∀ W (x y : Nat), x < p ^ k → y < p ^ k → Calls Tryz.prog 205 #[rv, .int .i64 x, .int .i64 y] W (RB W (.int .i64 (FFld.pmul p k m x k y : Nat)))) :
    Calls Tryz.prog 246 #[.int .i64 a, .int .i64 n, .func (.func 205) #[rv] #[]] w (RB w (.int .i64 (FFld.ppow hpk a n : Nat))) := by
  obtain ⟨V, hV⟩ : ∃ V, FFld.ppow hpk a n = V := ⟨_, rfl⟩
  have HPW : Kept (FFld.PwAt p k m hpk V 1 a n) := ⟨hV ▸ FFld.PwAt.start hpk a n ha⟩
  rw [hV]
  have hMul := Kept.mk hP
  clear hV ha hP
  go_enter Tryz.func246, Tryz.ntmps246
  go_wp2
  go_loopw [0, 1, 7] (fun av nv rv wr => ∃ (x n r : Nat), n ≤ 70000 ∧ av = .int .i64 x ∧ nv = .int .i64 n ∧ rv = .int .i64 r ∧ Kept (FFld.PwAt p k m hpk V r x n) ∧ Kept (Below w.heap.size w wr)) (fun _ nv _ _ => (intOf nv).toNat)
  case atStart => exact ⟨a, n, 1, hn, rfl, rfl, rfl, HPW, ⟨Below.refl _ _⟩⟩
  case round =>
    obtain ⟨x, n, r, hn, rfl, rfl, rfl, hpw, hbx⟩ := hrel
    by_cases h0 : 0 < n
    · obtain ⟨n', hn'⟩ : ∃ n', n / 2 = n' := ⟨_, rfl⟩
      have en : (n : Int) / 2 = n' := by rw [← hn']; rfl
      have hlt : n' < n := by omega
      by_cases h1 : n % 2 = 1
      · have HP := Kept.mk (hpw.out.odd h1)
        rw [hn'] at HP
        have e1 : ((n : Int) % 2 == 1) = true := by rw [beq_iff_eq]; omega
        have HR := Kept.mk hpw.out.rl
        have HA := Kept.mk hpw.out.al
        clear hn' h1
        go_wp2_with fail
        refine (hMul.out _ r x HR.out HA.out).mono ?_
        rintro e w2 ⟨hb2, rfl⟩
        have HX2 := Kept.mk (hbx.out.trans (hb2.mono hbx.out.size))
        clear hb2
        go_wp2_with fail
        refine (hMul.out _ x x HA.out HA.out).mono ?_
        rintro e w3 ⟨hb3, rfl⟩
        have HX3 := Kept.mk (HX2.out.trans (hb3.mono HX2.out.size))
        clear hb3
        go_wp2
        go_roundw
        case rel => exact ⟨_, n', _, by omega, rfl, rfl, rfl, HP, HX3⟩
        case measure => simp [intOf] <;> omega
      · have HP := Kept.mk (hpw.out.even (by omega))
        rw [hn'] at HP
        have e1 : ((n : Int) % 2 == 1) = false := by rw [beq_eq_false_iff_ne]; omega
        have HA := Kept.mk hpw.out.al
        clear hn' h1
        go_wp2_with fail
        refine (hMul.out _ x x HA.out HA.out).mono ?_
        rintro e w3 ⟨hb3, rfl⟩
        have HX3 := Kept.mk (hbx.out.trans (hb3.mono hbx.out.size))
        clear hb3
        go_wp2
        go_roundw
        case rel => exact ⟨_, n', _, by omega, rfl, rfl, rfl, HP, HX3⟩
        case measure => simp [intOf] <;> omega
    · obtain rfl : n = 0 := by omega
      have HR := Kept.mk hpw.out.done
      go_wp2
      go_ret
      exact ⟨hbx.out, by rw [HR.out]; rfl⟩
set_option maxRecDepth 20000 in
set_option maxHeartbeats 2000000 in
theorem power_res (p k m : Nat) (hpk : FFld.PK p k m) (rv : Value) (a n : Nat) (w : World) (ha : a < p ^ k) (hn : n ≤ 70000)
    (hP : ∀ W (x y : Nat), x < p ^ k → y < p ^ k → Calls Tryz.prog 208 #[rv, .int .i64 x, .int .i64 y] W (RB W (.int .i64 (FFld.pmul p k m x k y : Nat)))) :
    Calls Tryz.prog 246 #[.int .i64 a, .int .i64 n, .func (.func 208) #[rv] #[]] w (RB w (.int .i64 (FFld.ppow hpk a n : Nat))) := by
  obtain ⟨V, hV⟩ : ∃ V, FFld.ppow hpk a n = V := ⟨_, rfl⟩
  have HPW : Kept (FFld.PwAt p k m hpk V 1 a n) := ⟨hV ▸ FFld.PwAt.start hpk a n ha⟩
  rw [hV]
  have hMul := Kept.mk hP
  clear hV ha hP
  go_enter Tryz.func246, Tryz.ntmps246
  go_wp2
  go_loopw [0, 1, 7] (fun av nv rv wr => ∃ (x n r : Nat), n ≤ 70000 ∧ av = .int .i64 x ∧ nv = .int .i64 n ∧ rv = .int .i64 r ∧ Kept (FFld.PwAt p k m hpk V r x n) ∧ Kept (Below w.heap.size w wr)) (fun _ nv _ _ => (intOf nv).toNat)
  case atStart => exact ⟨a, n, 1, hn, rfl, rfl, rfl, HPW, ⟨Below.refl _ _⟩⟩
  case round =>
    obtain ⟨x, n, r, hn, rfl, rfl, rfl, hpw, hbx⟩ := hrel
    by_cases h0 : 0 < n
    · obtain ⟨n', hn'⟩ : ∃ n', n / 2 = n' := ⟨_, rfl⟩
      have en : (n : Int) / 2 = n' := by rw [← hn']; rfl
      have hlt : n' < n := by omega
      by_cases h1 : n % 2 = 1
      · have HP := Kept.mk (hpw.out.odd h1)
        rw [hn'] at HP
        have e1 : ((n : Int) % 2 == 1) = true := by rw [beq_iff_eq]; omega
        have HR := Kept.mk hpw.out.rl
        have HA := Kept.mk hpw.out.al
        clear hn' h1
        go_wp2_with fail
        refine (hMul.out _ r x HR.out HA.out).mono ?_
        rintro e w2 ⟨hb2, rfl⟩
        have HX2 := Kept.mk (hbx.out.trans (hb2.mono hbx.out.size))
        clear hb2
        go_wp2_with fail
        refine (hMul.out _ x x HA.out HA.out).mono ?_
        rintro e w3 ⟨hb3, rfl⟩
        have HX3 := Kept.mk (HX2.out.trans (hb3.mono HX2.out.size))
        clear hb3
        go_wp2
        go_roundw
        case rel => exact ⟨_, n', _, by omega, rfl, rfl, rfl, HP, HX3⟩
        case measure => simp [intOf] <;> omega
      · have HP := Kept.mk (hpw.out.even (by omega))
        rw [hn'] at HP
        have e1 : ((n : Int) % 2 == 1) = false := by rw [beq_eq_false_iff_ne]; omega
        have HA := Kept.mk hpw.out.al
        clear hn' h1
        go_wp2_with fail
        refine (hMul.out _ x x HA.out HA.out).mono ?_
        rintro e w3 ⟨hb3, rfl⟩
        have HX3 := Kept.mk (hbx.out.trans (hb3.mono hbx.out.size))
        clear hb3
        go_wp2
        go_roundw
        case rel => exact ⟨_, n', _, by omega, rfl, rfl, rfl, HP, HX3⟩
        case measure => simp [intOf] <;> omega
    · obtain rfl : n = 0 := by omega
      have HR := Kept.mk hpw.out.done
      go_wp2
      go_ret
      exact ⟨hbx.out, by rw [HR.out]; rfl⟩
end Go.Proofs.YtdnheaafcbihbaaGreat

set_option linter.unusedVariables false
set_option linter.unusedSimpArgs false
namespace Go.Proofs.YtdnheaafcbihbaaGreat
open Go Go.RowKit
open FFld (ints)
set_option maxRecDepth 20000 in
set_option maxHeartbeats 4000000 in
theorem leastgen_rem (D : FFld.FD) (hD : D.Ok) (rv : Value) (w : World)
    (hP : ∀ W (x y : Nat), x < D.p ^ D.k → y < D.p ^ D.k → Calls Tryz.prog 205 #[rv, .int .i64 x, .int .i64 y] W (RB W (.int .i64 (FFld.pmul D.p D.k D.m x D.k y : Nat)))) :
    Calls Tryz.prog 204 #[.int .i64 D.q, .func (.func 205) #[rv] #[]] w (RB w (.int .i64 (D.g : Nat))) := by
  obtain ⟨q, hqd⟩ : ∃ q, D.p ^ D.k = q := ⟨_, rfl⟩
  have hqq : D.q = q := hqd
  have hpk := hD.pre.pk
  have hq1 : 1 < q := by rw [← hqd]; exact hpk.one_lt
  have hq2 : q ≤ 65536 := by have := hD.pre.small; rw [hqq] at this; exact this
  have hgq : D.g < q := by rw [← hqd]; exact hD.gq
  have hPow := Kept.mk (fun W (a n : Nat) (ha : a < q) (hn : n ≤ 70000) => power_rem D.p D.k D.m hpk rv a n W (by rw [hqd]; exact ha) hn hP)
  have HG := Kept.mk (fun (a : Nat) (h1 : 1 ≤ a) (hg : a ≤ D.g) (ht : ∀ r, 2 ≤ r → r < q → FFld.GTest D hpk a r) => hD.gen h1 hg (by rw [hqd]; exact ht))
  have HNG := Kept.mk (fun (a r : Nat) (hg : a ≤ D.g) (h2 : 2 ≤ r) (hr : r < q) (ht : ¬ FFld.GTest D hpk a r) => hD.not_gen hg h2 (by rw [hqd]; exact hr) ht)
  have HQ := Kept.mk hqd
  rw [hqq]
  obtain ⟨q1, hq1e⟩ : ∃ q1, q - 1 = q1 := ⟨_, rfl⟩
  have e0 : (q : Int) - 1 = (q1 : Int) := by omega
  clear hqd hqq hP
  go_enter Tryz.func204, Tryz.ntmps204
  go_wp2
  go_step3
  go_wp2_with fail
  refine (factors_any q1 _ (by omega) (by omega)).mono ?_
  rintro e w1 ⟨hb1, v1, l, rfl, hm1, hf1⟩
  obtain ⟨a1, c1, rfl, hc1, hx1⟩ := hm1.sl.form
  rw [FFld.ints_len] at hc1 hm1 ⊢
  have hl3 := hf1.len
  have HB1 := Kept.mk hb1
  have HC1 := Kept.mk (hm1.sl.cells (Nat.le_refl _))
  have HF1 := Kept.mk hf1
  have HQ1 := Kept.mk hq1e
  clear hb1 hm1 hf1 hq1e
  go_wp2
  go_step3
  go_wp2
  go_loopw [6] (fun gv wr => ∃ (a : Nat), 1 ≤ a ∧ a ≤ D.g ∧ gv = .int .i64 a ∧ Kept (Below w1.heap.size w1 wr)) (fun gv _ => q - (intOf gv).toNat)
  case atStart => exact ⟨1, Nat.le_refl _, hD.g1, rfl, ⟨Below.refl _ _⟩⟩
  case round =>
    obtain ⟨a, ha1, hag, rfl, hbx⟩ := hrel
    go_wp2
    go_loopw [16] (fun iv wr => ∃ (i : Nat), iv = .int .i64 i ∧ i ≤ l.length ∧ Kept (∀ j, j < i → FFld.GTest D hpk a (l[j]?.getD 0)) ∧ Kept (Below w1.heap.size w1 wr)) (fun iv _ => l.length - (intOf iv).toNat)
    case atStart => exact ⟨0, rfl, Nat.zero_le _, ⟨fun j hj => by omega⟩, hbx⟩
    case round =>
      obtain ⟨i, rfl, hil, hat, hbx⟩ := hrel
      by_cases hlt : i < l.length
      · obtain ⟨b, o, rfl, hcell⟩ := HC1.out _ hbx.out i hlt
        obtain ⟨r, hr⟩ : ∃ r, l[i]?.getD 0 = r := ⟨_, rfl⟩
        rw [hr] at hcell
        have hrm : r ∈ l := by rw [← hr]; simp [hlt]
        obtain ⟨hpr, hdv⟩ := (HF1.out.mem r).1 hrm
        have hr2 := hpr.1
        have hrl := Nat.le_of_dvd (by omega) hdv
        obtain ⟨d, hd⟩ : ∃ d, q1 / r = d := ⟨_, rfl⟩
        have hdl : d ≤ 70000 := by rw [← hd]; exact Nat.le_trans (Nat.div_le_self _ _) (by omega)
        have ed : (q1 : Int) / r = d := by rw [← hd]; rfl
        obtain ⟨v, hv⟩ : ∃ v, FFld.ppow hpk a d = v := ⟨_, rfl⟩
        have hPo := Kept.mk (fun W => hPow.out W a d (by omega) hdl)
        rw [hv] at hPo
        have HT : Kept (FFld.GTest D hpk a r ↔ v ≠ 1) := ⟨by
          unfold FFld.GTest
          rw [HQ.out, HQ1.out, hd, hv]
          exact ⟨fun h => h hdv hpr, fun h _ _ => h⟩⟩
        have HR := Kept.mk hr
        clear hr hrm hpr hdv hd hv
        by_cases hv1 : v = 1
        · subst hv1
          have ev : (((1 : Nat) : Int) == 1) = true := rfl
          have hN := HNG.out a r hag hr2 (by omega) (fun h => HT.out.1 h rfl)
          go_wp2_with fail
          refine (hPo.out _).mono ?_
          rintro e w3 ⟨hb3, rfl⟩
          have HX3 := Kept.mk (hbx.out.trans (hb3.mono hbx.out.size))
          clear hb3
          go_wp2
          go_roundw
          case rel => exact ⟨a + 1, by omega, hN, by go_num, HX3⟩
          case measure => simp [intOf] <;> omega
        · have ev : ((v : Int) == 1) = false := by rw [beq_eq_false_iff_ne]; omega
          have HN2 := Kept.mk (show ∀ j, j < i + 1 → FFld.GTest D hpk a (l[j]?.getD 0) from fun j hj => by
            by_cases e : j = i
            · subst e; rw [HR.out]; exact HT.out.2 hv1
            · exact hat.out j (by omega))
          go_wp2_with fail
          refine (hPo.out _).mono ?_
          rintro e w3 ⟨hb3, rfl⟩
          have HX3 := Kept.mk (hbx.out.trans (hb3.mono hbx.out.size))
          clear hb3
          go_wp2
          go_roundw
          case rel => exact ⟨i + 1, by go_num, by omega, HN2, HX3⟩
          case measure => simp [intOf] <;> omega
      · obtain rfl : i = l.length := by omega
        have hN := HG.out a ha1 hag (fun r h2 hr hd hp => by
          have hm := (HF1.out.mem r).2 ⟨hp, by rw [HQ.out, HQ1.out] at hd; exact hd⟩
          obtain ⟨j, hj, e⟩ := List.getElem_of_mem hm
          have := hat.out j hj
          rw [List.getElem?_eq_getElem hj, Option.getD_some, e] at this
          exact this hd hp)
        go_wp2
        go_ret
        exact ⟨HB1.out.trans (hbx.out.mono HB1.out.size), by rw [← hN]; rfl⟩
set_option maxRecDepth 20000 in
set_option maxHeartbeats 4000000 in
theorem leastgen_res (D : FFld.FD) (hD : D.Ok) (rv : Value) (w : World)
    (hP : ∀ W (x y : Nat), x < D.p ^ D.k → y < D.p ^ D.k → Calls Tryz.prog 208 #[rv, .int .i64 x, .int .i64 y] W (RB W (.int .i64 (FFld.pmul D.p D.k D.m x D.k y : Nat)))) :
    Calls Tryz.prog 204 #[.int .i64 D.q, .func (.func 208) #[rv] #[]] w (RB w (.int .i64 (D.g : Nat))) := by
  obtain ⟨q, hqd⟩ : ∃ q, D.p ^ D.k = q := ⟨_, rfl⟩
  have hqq : D.q = q := hqd
  have hpk := hD.pre.pk
  have hq1 : 1 < q := by rw [← hqd]; exact hpk.one_lt
  have hq2 : q ≤ 65536 := by have := hD.pre.small; rw [hqq] at this; exact this
  have hgq : D.g < q := by rw [← hqd]; exact hD.gq
  have hPow := Kept.mk (fun W (a n : Nat) (ha : a < q) (hn : n ≤ 70000) => power_res D.p D.k D.m hpk rv a n W (by rw [hqd]; exact ha) hn hP)
  have HG := Kept.mk (fun (a : Nat) (h1 : 1 ≤ a) (hg : a ≤ D.g) (ht : ∀ r, 2 ≤ r → r < q → FFld.GTest D hpk a r) => hD.gen h1 hg (by rw [hqd]; exact ht))
  have HNG := Kept.mk (fun (a r : Nat) (hg : a ≤ D.g) (h2 : 2 ≤ r) (hr : r < q) (ht : ¬ FFld.GTest D hpk a r) => hD.not_gen hg h2 (by rw [hqd]; exact hr) ht)
  have HQ := Kept.mk hqd
  rw [hqq]
  obtain ⟨q1, hq1e⟩ : ∃ q1, q - 1 = q1 := ⟨_, rfl⟩
  have e0 : (q : Int) - 1 = (q1 : Int) := by omega
  clear hqd hqq hP
  go_enter Tryz.func204, Tryz.ntmps204
  go_wp2
  go_step3
  go_wp2_with fail
  refine (factors_any q1 _ (by omega) (by omega)).mono ?_
  rintro e w1 ⟨hb1, v1, l, rfl, hm1, hf1⟩
  obtain ⟨a1, c1, rfl, hc1, hx1⟩ := hm1.sl.form
  rw [FFld.ints_len] at hc1 hm1 ⊢
  have hl3 := hf1.len
  have HB1 := Kept.mk hb1
  have HC1 := Kept.mk (hm1.sl.cells (Nat.le_refl _))
  have HF1 := Kept.mk hf1
  have HQ1 := Kept.mk hq1e
  clear hb1 hm1 hf1 hq1e
  go_wp2
  go_step3
  go_wp2
  go_loopw [6] (fun gv wr => ∃ (a : Nat), 1 ≤ a ∧ a ≤ D.g ∧ gv = .int .i64 a ∧ Kept (Below w1.heap.size w1 wr)) (fun gv _ => q - (intOf gv).toNat)
  case atStart => exact ⟨1, Nat.le_refl _, hD.g1, rfl, ⟨Below.refl _ _⟩⟩
  case round =>
    obtain ⟨a, ha1, hag, rfl, hbx⟩ := hrel
    go_wp2
    go_loopw [16] (fun iv wr => ∃ (i : Nat), iv = .int .i64 i ∧ i ≤ l.length ∧ Kept (∀ j, j < i → FFld.GTest D hpk a (l[j]?.getD 0)) ∧ Kept (Below w1.heap.size w1 wr)) (fun iv _ => l.length - (intOf iv).toNat)
    case atStart => exact ⟨0, rfl, Nat.zero_le _, ⟨fun j hj => by omega⟩, hbx⟩
    case round =>
      obtain ⟨i, rfl, hil, hat, hbx⟩ := hrel
      by_cases hlt : i < l.length
      · obtain ⟨b, o, rfl, hcell⟩ := HC1.out _ hbx.out i hlt
        obtain ⟨r, hr⟩ : ∃ r, l[i]?.getD 0 = r := ⟨_, rfl⟩
        rw [hr] at hcell
        have hrm : r ∈ l := by rw [← hr]; simp [hlt]
        obtain ⟨hpr, hdv⟩ := (HF1.out.mem r).1 hrm
        have hr2 := hpr.1
        have hrl := Nat.le_of_dvd (by omega) hdv
        obtain ⟨d, hd⟩ : ∃ d, q1 / r = d := ⟨_, rfl⟩
        have hdl : d ≤ 70000 := by rw [← hd]; exact Nat.le_trans (Nat.div_le_self _ _) (by omega)
        have ed : (q1 : Int) / r = d := by rw [← hd]; rfl
        obtain ⟨v, hv⟩ : ∃ v, FFld.ppow hpk a d = v := ⟨_, rfl⟩
        have hPo := Kept.mk (fun W => hPow.out W a d (by omega) hdl)
        rw [hv] at hPo
        have HT : Kept (FFld.GTest D hpk a r ↔ v ≠ 1) := ⟨by
          unfold FFld.GTest
          rw [HQ.out, HQ1.out, hd, hv]
          exact ⟨fun h => h hdv hpr, fun h _ _ => h⟩⟩
        have HR := Kept.mk hr
        clear hr hrm hpr hdv hd hv
        by_cases hv1 : v = 1
        · subst hv1
          have ev : (((1 : Nat) : Int) == 1) = true := rfl
          have hN := HNG.out a r hag hr2 (by omega) (fun h => HT.out.1 h rfl)
          go_wp2_with fail
          refine (hPo.out _).mono ?_
          rintro e w3 ⟨hb3, rfl⟩
          have HX3 := Kept.mk (hbx.out.trans (hb3.mono hbx.out.size))
          clear hb3
          go_wp2
          go_roundw
          case rel => exact ⟨a + 1, by omega, hN, by go_num, HX3⟩
          case measure => simp [intOf] <;> omega
        · have ev : ((v : Int) == 1) = false := by rw [beq_eq_false_iff_ne]; omega
          have HN2 := Kept.mk (show ∀ j, j < i + 1 → FFld.GTest D hpk a (l[j]?.getD 0) from fun j hj => by
            by_cases e : j = i
            · subst e; rw [HR.out]; exact HT.out.2 hv1
            · exact hat.out j (by omega))
          go_wp2_with fail
          refine (hPo.out _).mono ?_
          rintro e w3 ⟨hb3, rfl⟩
          have HX3 := Kept.mk (hbx.out.trans (hb3.mono hbx.out.size))
          clear hb3
          go_wp2
          go_roundw
          case rel => exact ⟨i + 1, by go_num, by omega, HN2, HX3⟩
          case measure => simp [intOf] <;> omega
      · obtain rfl : i = l.length := by omega
        have hN := HG.out a ha1 hag (fun r h2 hr hd hp => by
          have hm := (HF1.out.mem r).2 ⟨hp, by rw [HQ.out, HQ1.out] at hd; exact hd⟩
          obtain ⟨j, hj, e⟩ := List.getElem_of_mem hm
          have := hat.out j hj
          rw [List.getElem?_eq_getElem hj, Option.getD_some, e] at this
          exact this hd hp)
        go_wp2
        go_ret
        exact ⟨HB1.out.trans (hbx.out.mono HB1.out.size), by rw [← hN]; rfl⟩
end Go.Proofs.YtdnheaafcbihbaaGreat
