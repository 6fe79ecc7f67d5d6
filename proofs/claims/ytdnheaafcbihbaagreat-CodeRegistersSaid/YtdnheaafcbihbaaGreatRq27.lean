/-
  Texts of the proof, merged by program: Lea Lms Ftn.
-/
import Derived.Test.YtdnheaafcbihbaaGreatRq26
set_option linter.unusedSectionVars false
set_option linter.unusedSimpArgs false
set_option linter.unusedVariables false
set_option maxHeartbeats 16000000
namespace Go.Proofs.YtdnheaafcbihbaaGreat
open Go Go.RowKit Go.Deep
open FFld (ints)
structure LsAt (D : FFld.FD) (ss : List Nat) (l n B jn : Nat) (mv bv : Value) (L : List (Value × List Int)) (W : World) : Prop where
 rw : Rws B W mv L
 eq : L.map (·.2) = ((lsM ss l n).take jn).map ints
 mb : Mine 3 .i64 B W bv (ints ((lsB D ss l n).take jn))
 ap1 : ∀ g, bv.ownBlock = some g -> mv.ownBlock ≠ some g
 ap2 : ∀ r ∈ L, ∀ g, r.1.ownBlock = some g -> bv.ownBlock ≠ some g
section
variable {D : FFld.FD} {ss : List Nat} {l n B jn : Nat} {mv bv mv' bv' rv : Value} {L : List (Value × List Int)} {W W' : World}
theorem LsAt.start : LsAt D ss l n B 0 (.slice none 0 0) (.slice none 0 0) [] W :=
 ⟨Rws.nil _ _, rfl, Mine.nil _ _ _ _, (fun g h => by cases h), (fun r h => by cases h)⟩
theorem LsAt.below (h : LsAt D ss l n B jn mv bv L W) (hb : Below W.heap.size W W') : LsAt D ss l n B jn mv bv L W' :=
 ⟨h.rw.below hb, h.eq, h.mb.below hb, h.ap1, h.ap2⟩
theorem take_next2 {α : Type} {xs : List α} {i : Nat} {d : α} (h : i < xs.length) : xs.take (i + 1) = xs.take i ++ [xs[i]?.getD d] := by
 rw [List.take_add_one, List.getElem?_eq_getElem h]
 rfl
structure LsMid (D : FFld.FD) (ss : List Nat) (l n B jn : Nat) (mv bv : Value) (L : List (Value × List Int)) (W : World) : Prop where
 rw : Rws B W mv L
 eq : L.map (·.2) = ((lsM ss l n).take (jn + 1)).map ints
 mb : Mine 3 .i64 B W bv (ints ((lsB D ss l n).take jn))
 ap1 : ∀ g, bv.ownBlock = some g -> mv.ownBlock ≠ some g
 ap2 : ∀ r ∈ L, ∀ g, r.1.ownBlock = some g -> bv.ownBlock ≠ some g
theorem LsMid.below (h : LsMid D ss l n B jn mv bv L W) (hb : Below W.heap.size W W') : LsMid D ss l n B jn mv bv L W' :=
 ⟨h.rw.below hb, h.eq, h.mb.below hb, h.ap1, h.ap2⟩
theorem LsAt.pushRow {B0 : Nat} (h : LsAt D ss l n B jn mv bv L W) (hj : jn < n - l) (hr : Mine 3 .i64 B W rv (ints (lsRow ss l (l + jn)))) (hnew : ∀ g, rv.ownBlock = some g -> B0 <= g) (hold : (∀ g, mv.ownBlock = some g -> g < B0) /\ ∀ g, bv.ownBlock = some g -> g < B0)
 (ho : OwnV 22 B W' mv' (L.map (·.1) ++ [rv])) (hg : W.grownBy W' mv.ownBlock) (hv : mv'.ownBlock = mv.ownBlock \/ Frm W.heap.size mv') : LsMid D ss l n B jn mv' bv (L ++ [(rv, ints (lsRow ss l (l + jn)))]) W' := by
 refine ⟨h.rw.push hr (fun g hgb e => by have h1 := hnew g hgb; have h2 := hold.1 g e; omega) ho hg hv, ?_, h.mb.kept hg ?_, fun g hgb e => ?_, fun r hrm g hgb e => ?_⟩
 ·rw [List.map_append, h.eq, take_next2 (d := []) (by rw [lsM_len]; exact hj), List.map_append]
  have e : (lsM ss l n)[jn]?.getD [] = lsRow ss l (l + jn) := by
   unfold lsM
   rw [List.getElem?_map, List.getElem?_range hj]
   rfl
  rw [e]
  rfl
 ·cases hb : bv.ownBlock with
  | none => exact .inl rfl
  | some g => exact .inr (fun e => h.ap1 g hb e.symm)
 ·rcases hv with h1 | h1
  ·rw [h1] at e
   exact h.ap1 g hgb e
  ·have h2 := h1 g e
   have h3 := (h.mb.own g hgb).2
   omega
 ·rcases List.mem_append.1 hrm with h1 | h1
  ·exact h.ap2 r h1 g hgb e
  ·obtain rfl := List.mem_singleton.1 h1
   have h2 := hnew g hgb
   have h3 := hold.2 g e
   omega
theorem LsMid.pushB {x : Nat} (h : LsMid D ss l n B jn mv bv L W) (hj : jn < n - l) (hx : (lsB D ss l n)[jn]?.getD 0 = x)
 (hm : Mine 3 .i64 B W' bv' (ints ((lsB D ss l n).take jn) ++ [(x : Int)])) (hg : W.grownBy W' bv.ownBlock) (hv : bv'.ownBlock = bv.ownBlock \/ Frm W.heap.size bv') : LsAt D ss l n B (jn + 1) mv bv' L W' := by
 have hk : ∀ v : Value, (∀ g, v.ownBlock = some g -> bv.ownBlock ≠ some g) -> (v.ownBlock = none \/ v.ownBlock ≠ bv.ownBlock) := fun v hv => by
  cases hb : v.ownBlock with
  | none => exact .inl rfl
  | some g => exact .inr (fun e => hv g hb e.symm)
 have hmv : ∀ g, mv.ownBlock = some g -> bv.ownBlock ≠ some g := fun g h1 h2 => h.ap1 g h2 h1
 refine ⟨⟨h.rw.own.kept hg (hk mv hmv), fun r hr => (h.rw.ok r hr).kept hg (hk r.1 (h.ap2 r hr)), h.rw.ne⟩, h.eq, ?_, fun g hgb e => ?_, fun r hr g hgb e => ?_⟩
 ·rw [take_next2 (d := 0) (by rw [lsB_len]; exact hj), hx, FFld.ints_append]
  exact hm
 ·rcases hv with h1 | h1
  ·rw [h1] at hgb
   exact h.ap1 g hgb e
  ·have h2 := h1 g hgb
   have h3 := (h.rw.own.own g e).2
   omega
 ·rcases hv with h1 | h1
  ·rw [h1] at e
   exact h.ap2 r hr g hgb e
  ·have h2 := h1 g e
   have h3 := ((h.rw.ok r hr).own g hgb).2
   omega
end
set_option maxRecDepth 20000 in
theorem rleast_any {D : FFld.FD} (hD : D.Ok) (as_ : Option Addr) (cs n : Nat) (ss : List Nat) (w : World) (hs : Sl .i64 w (.slice as_ n cs) (ints ss)) (ls : ss.length = n) (hsq : ∀ a ∈ ss, a < D.p ^ D.k) (hn : n <= 60) :
 Calls Tryz.prog 64 #[.int .i64 D.q, .slice as_ n cs] w (RB w (.int .i64 ((FFld.bmF D hD.pre.pk ss n).len : Nat))) := by
 have hq6 : D.p ^ D.k <= 65536 := hD.pre.small
 have hq0 : D.q = D.p ^ D.k := rfl
 have hk := hD.pre.pk
 have HNW : Kept (∀ W, Calls Tryz.prog 31 #[.int .i64 D.q] W (RB W (.tuple #[rfv D.q D.p D.k D.m, .bool true]))) := ⟨fun W => (rnew_any (D.q : Int) W (by omega) (by omega)).mono fun e w' h => by
  obtain ⟨hb, ⟨D', hD', hq', rfl⟩ | ⟨hno, rfl⟩⟩ := h
  ·obtain rfl : D' = D := FFld.FD.uniq hD' hD (by omega)
   exact ⟨hb, rfl⟩
  ·exact absurd ⟨D, hD, rfl⟩ hno⟩
 have HNEG := Kept.mk (fun W x (hx : x < D.p ^ D.k) => rneg_any D.q D.p D.k D.m x W hk.p2 hk.k1 hx hq6)
 obtain ⟨Lf, hLf⟩ : ∃ f, (FFld.bmF D hD.pre.pk ss n).len = f := ⟨_, rfl⟩
 have hLn : Lf <= n := by rw [<- hLf]; exact (FFld.bm_ok hD.pre.pk ss n).li
 -- what Solve answers of the equations for l taps
 have HSV : Kept (∀ (l : Nat) (W : World) (ma : Option Addr) (mc : Nat) (bv : Value), l < n -> l <= Lf -> Sls W ma ((lsM ss l n).map ints) -> n - l <= mc -> mc <= maxLen -> Sl .i64 W bv (ints (lsB D ss l n)) -> Calls Tryz.prog 104 #[rfv D.q D.p D.k D.m, .slice ma (n - l) mc, bv] W (fun e w' => Below W.heap.size W w' /\ ∃ (vx : Value) (bb : Bool), e = .returned (.tuple #[vx, .bool bb]) /\ (bb = true ↔ l = Lf))) := ⟨fun l W ma mc bv hl hlL hm h1 h2 hb => by
  refine (rsolve_any hD (lsM ss l n) ma mc bv (lsB D ss l n) l (n - l) (l + 1) W hm h1 h2 hb (lsM_len _ _ _) (by omega) (lsM_wf hsq hk) (by omega) (fun h => by omega) (lsB_len _ _ _ _) (lsB_lt hk) (fun h => by omega) (fun _ => rfl)).mono fun e w' h => ?_
  obtain ⟨hb', ⟨i, hi, hil, rfl⟩ | ⟨hall, vx, rfl, _⟩⟩ := h
  ·refine ⟨hb', _, false, rfl, (fun e => by cases e), fun e => ?_⟩
   subst e
   have h3 := ls_no hD hsq (l := l) (n := n) (bmT_lt hD ss n) (by rw [bmT_len hD]; exact hLf) (bm_makes hD hsq n) i hi
   omega
  ·refine ⟨hb', vx, true, rfl, fun _ => ?_, fun _ => rfl⟩
   obtain ⟨ts, htl, htq, htm⟩ := ls_yes hD hsq hall
   have h3 := bm_least hD hsq htq htm n (Nat.le_refl _)
   omega⟩
 have HS := Kept.mk hs
 have HLS := Kept.mk ls
 have HSQ := Kept.mk hsq
 have HD := Kept.mk hD
 rw [hLf]
 clear hs ls hsq hLf hq0
 go_enter Tryz.func64, Tryz.ntmps64
 go_wp2_with fail
 (with_reducible refine (HNW.out _).mono ?_)
 rintro e w1 ⟨hb1, rfl⟩
 have hal : Below w1.heap.size w1 (w1.alloc (rbox D.q D.p D.k D.m)) := (Below.refl _ _).alloc (Nat.le_refl _) _
 have hG := heap_alloc_new w1 (rbox D.q D.p D.k D.m)
 have hb2 := bstep hb1 hal
 obtain ⟨g5, hg⟩ : ∃ x, w1.heap.size = x := ⟨_, rfl⟩
 obtain ⟨W2, hW2⟩ : ∃ W, w1.alloc (rbox D.q D.p D.k D.m) = W := ⟨_, rfl⟩
 rw [hW2, hg] at hG
 rw [hW2] at hb2
 have hg2 : g5 < W2.heap.size := (Array.getElem?_eq_some_iff.1 hG).1
 have HB2 := Kept.mk hb2
 have HG := Kept.mk hG
 go_upto_region 2 with fail
 try rw [hW2]
 try rw [hg]
 clear hb1 hal hg hW2 hG hb2 HNW
 go_wp2
 go_loopw [7] (fun lv wr => ∃ (l : Nat), l <= Lf /\ lv = .int .i64 l /\ Kept (Below W2.heap.size W2 wr)) (fun lv _ => n + 1 - (intOf lv).toNat)
 case atStart => exact ⟨0, Nat.zero_le _, rfl, ⟨Below.refl _ _⟩⟩
 case round =>
  obtain ⟨l, hlL, rfl, hbw⟩ := hrel
  obtain ⟨wz, hwz⟩ : ∃ W, W = wr := ⟨_, rfl⟩
  go_wp2
  go_loopw [8, 9, 10] (fun mv bv iv wr => ∃ (jn : Nat) (L : List (Value × List Int)), jn <= n - l /\ iv = .int .i64 ((l + jn : Nat) : Int) /\ L.length = jn /\ Kept (LsAt D ss l n W2.heap.size jn mv bv L wr) /\ Kept (Below W2.heap.size W2 wr)) (fun _ _ iv _ => n - (intOf iv).toNat)
  case atStart => exact ⟨0, [], Nat.zero_le _, by simp, rfl, ⟨LsAt.start⟩, hbw⟩
  case round =>
   clear hbw hwz wz
   obtain ⟨jn, L, hjn, rfl, hLl, hla, hbw⟩ := hrel
   obtain ⟨ma, mc, rfl, hmc1, hmc2⟩ := hla.out.rw.own.form
   obtain ⟨ba2, bc2, rfl, hbc1, hbc2⟩ := hla.out.mb.sl.form
   rw [List.length_map, hLl] at hmc1 hla ⊢
   have htb : ((lsB D ss l n).take jn).length = jn := by rw [List.length_take, lsB_len]; omega
   rw [FFld.ints_len, htb] at hbc1 hla ⊢
   obtain ⟨i, hi⟩ : ∃ i, l + jn = i := ⟨_, rfl⟩
   rw [hi]
   have HI := Kept.mk hi
   have hli : l <= i := by omega
   have hin : i <= n := by omega
   have hjni : jn = i - l := by omega
   have hjni2 := Kept.mk hjni
   clear hi hjni
   by_cases hlt : i < n
   ·-- a row
    have hjl : jn < n - l := by have := hjni2.out; omega
    have HLA0 := Kept.mk hla.out
    have HBW0 := Kept.mk hbw.out
    have hwsz := hbw.out.size
    obtain ⟨WR, hWR⟩ : ∃ W, wr = W := ⟨_, rfl⟩
    rw [hWR] at HLA0 HBW0 hwsz
    have hla2 := HLA0.out
    go_wp2
    go_loopw [11, 12] (fun rv kv wr => ∃ (k : Nat) (rl : List Nat), k <= l /\ kv = .int .i64 k /\ rl.length = k /\ Kept ((lsRow ss l i).take k = rl) /\ Kept (Mine 3 .i64 WR.heap.size wr rv (ints rl)) /\ Kept (Below WR.heap.size WR wr)) (fun _ kv _ => l - (intOf kv).toNat)
    case atStart => exact ⟨0, [], Nat.zero_le _, rfl, rfl, ⟨rfl⟩, ⟨Mine.nil _ _ _ _⟩, ⟨by rw [<- hWR]; exact Below.refl _ _⟩⟩
    case round =>
     clear hla hbw hla2
     obtain ⟨k, rl, hkl, rfl, hrl, hat, hmn, hbk⟩ := hrel
     obtain ⟨ra, rc, rfl, hrc1, hrc2⟩ := hmn.out.sl.form
     rw [FFld.ints_len, hrl] at hrc1 hmn ⊢
     by_cases hkl2 : k < l
     ·obtain ⟨x, hx⟩ : ∃ x, ss[i - 1 - k]?.getD 0 = x := ⟨_, rfl⟩
      have HBS := Kept.mk (HB2.out.trans ((HBW0.out.trans (hbk.out.mono hwsz)).mono HB2.out.size))
      obtain ⟨ba, oa, rfl, hba, cx⟩ := (HS.out.below HBS.out).news_ (i - 1 - k) (by rw [FFld.ints_len, HLS.out]; omega)
      rw [FFld.ints_get, hx] at cx
      have ei1 : (i : Int) - 1 = ((i - 1 : Nat) : Int) := by omega
      have ei2 : ((i - 1 : Nat) : Int) - (k : Int) = ((i - 1 - k : Nat) : Int) := by omega
      have hik : i - 1 - k < n := by omega
      have HL : Kept ((lsRow ss l i).take (k + 1) = rl ++ [x]) := ⟨by
       rw [take_next2 (d := 0) (by rw [lsRow_len]; exact hkl2), hat.out]
       unfold lsRow
       rw [List.getElem?_map, List.getElem?_range hkl2]
       show rl ++ [ss[i - 1 - k]?.getD 0] = _
       rw [hx]⟩
      have hal : Below wr.heap.size wr (wr.alloc (.cells #[.int .i64 (x : Nat)] 3)) := (Below.refl _ _).alloc (Nat.le_refl _) _
      have HM3 := Kept.mk (hmn.out.alloc (.cells #[.int .i64 (x : Nat)] 3))
      have HNW := Kept.mk (new_one (K := .i64) (x := ((x : Nat) : Int)) (w := wr.alloc (.cells #[.int .i64 (x : Nat)] 3)) (b := wr.heap.size) (o := 0) (by exact (Row.new (E := 3) (K := .i64) wr [((x : Nat) : Int)]).cell (i := 0) (by simp)))
      have hsz := hbk.out.size
      have HBB := Kept.mk (show WR.heap.size <= (wr.alloc (.cells #[.int .i64 (x : Nat)] 3)).heap.size by simp; omega)
      have HBQ := Kept.mk (hbk.out.alloc hsz (.cells #[.int .i64 (x : Nat)] 3))
      have HOW := Kept.mk HM3.out.own
      have H1 := Kept.mk (show ((ints rl).length + [((x : Nat) : Int)].length) * 8 <= 140737488355328 by rw [FFld.ints_len, hrl]; simp; omega)
      have H2 := Kept.mk (show (ints rl).length + [((x : Nat) : Int)].length <= maxLen by rw [FFld.ints_len, hrl]; unfold maxLen; simp; omega)
      clear hal hx
      go_wp2_with (at_builtin; refine wpList_append_mine _ rfl _ _ 22 (by rfl) 3 .i64 8 Tryz.underlying22 info_i64 WR.heap.size (.slice ra k rc) (ints rl) (by rfl) HM3.out HBB.out ⟨wr.heap.size, 0, none⟩ 1 1 [((x : Nat) : Int)] (by rfl) rfl HNW.out H1.out H2.out ?_)
      intro v' w5 hm5 hg5 hn5
      have HM5 := Kept.mk hm5
      have HB5 := Kept.mk (HBQ.out.grown hg5 HBB.out (fun j hj => (HOW.out j hj).1))
      clear hm5 hg5 hn5
      go_wp2
      go_roundw
      case rel => exact ⟨k + 1, rl ++ [x], by omega, by go_num, by simp [hrl], HL, ⟨by rw [FFld.ints_append]; exact HM5.out⟩, HB5⟩
      case measure => simp [intOf] <;> omega
     ·obtain rfl : k = l := by omega
      have HRL : Kept (rl = lsRow ss k i) := ⟨by rw [<- hat.out, List.take_of_length_le (by rw [lsRow_len]; exact Nat.le_refl _)]⟩
      have HAK := Kept.mk (HLA0.out.below hbk.out)
      have hal2 : Below wr.heap.size wr (wr.alloc (.cells #[.slice ra k rc] 22)) := (Below.refl _ _).alloc (Nat.le_refl _) _
      have hszk := hbk.out.size
      have HW4 := Kept.mk (HAK.out.below hal2)
      have HB4 := Kept.mk (bstep (HBW0.out.trans (hbk.out.mono hwsz)) hal2)
      have HM4 := Kept.mk ((hmn.out.below hal2).lower hwsz)
      have HMO := Kept.mk hmn.out.own
      have HON := Kept.mk HW4.out.rw.own
      have HNW := Kept.mk (rows_one (W := wr) (rv := .slice ra k rc))
      have H0 := Kept.mk hmn.out.one
      have H1 : Kept ((L.map (·.1)).length = jn) := ⟨by rw [List.length_map, hLl]⟩
      have HBB : Kept (W2.heap.size <= (wr.alloc (.cells #[.slice ra k rc] 22)).heap.size) := ⟨by simp; omega⟩
      have HOLD : Kept ((∀ g, (Value.slice ma jn mc).ownBlock = some g -> g < WR.heap.size) /\ ∀ g, (Value.slice ba2 jn bc2).ownBlock = some g -> g < WR.heap.size) := ⟨⟨fun g h => (HLA0.out.rw.own.own g h).2, fun g h => (HLA0.out.mb.own g h).2⟩⟩
      clear hal2 hat hmn hbk
      go_wp2_with (at_builtin; refine wpList_append_w _ rfl _ _ 39 (by rfl) 22 (.slice none 0 0) 24 Tryz.underlying39 info_rows (by rfl) W2.heap.size (.slice ma jn mc) (L.map (·.1)) (by rfl) HON.out HBB.out ⟨wr.heap.size, 0, none⟩ 1 (.slice ra k rc) (by rfl) HNW.out H0.out jn H1.out (by omega) (by omega) ?_)
      intro v' w5 ho5 hg5 hv5
      have HLA1 := Kept.mk (HW4.out.pushRow (B0 := WR.heap.size) (rv := .slice ra k rc) hjl (by rw [HI.out, <- HRL.out]; exact HM4.out) (fun g h => (HMO.out g h).1) HOLD.out ho5 hg5 (by simpa using hv5))
      have hown := HON.out.own
      have HBWA1 := Kept.mk (HB4.out.grown hg5 HBB.out (fun j hj => (hown j hj).1))
      obtain ⟨ma2, mc2, rfl, _, _⟩ := HLA1.out.rw.own.form
      rw [List.length_map, List.length_append, hLl] at HLA1 ⊢
      clear ho5 hg5 hv5 hown HW4 HB4 HM4 HMO HON HNW H0 H1 HBB HOLD HAK HLA0 HBW0
      obtain ⟨WA, hWA⟩ : ∃ W, w5 = W := ⟨_, rfl⟩
      rw [hWA] at HLA1 HBWA1 ⊢
      have HLA := HLA1
      have HBWA := HBWA1
      clear hWA HLA1 HBWA1
      obtain ⟨x, hx⟩ : ∃ x, ss[i]?.getD 0 = x := ⟨_, rfl⟩
      have hxq : x < D.p ^ D.k := by rw [<- hx]; exact FFld.getD_lt (Nat.pow_pos hk.p0) HSQ.out i
      obtain ⟨r, hr⟩ : ∃ r, FFld.pscl D.p D.k (D.p - 1) x = r := ⟨_, rfl⟩
      have HNG := Kept.mk (fun W => HNEG.out W x hxq)
      rw [hr] at HNG
      have HRR : Kept ((lsB D ss k n)[jn]?.getD 0 = r) := ⟨by
       unfold lsB
       rw [List.getElem?_map, List.getElem?_range hjl]
       show FFld.pscl D.p D.k (D.p - 1) (ss[k + jn]?.getD 0) = r
       rw [HI.out, hx, hr]⟩
      obtain ⟨ba, oa, rfl, hba, i4⟩ := (HS.out.below (HB2.out.trans (HBWA.out.mono HB2.out.size))).news_ i (by rw [FFld.ints_len, HLS.out]; exact hlt)
      rw [FFld.ints_get, hx] at i4
      have hbaW : ba < W2.heap.size := by
       obtain ⟨_, _, e9, h9, _⟩ := (HS.out.below HB2.out).news_ i (by rw [FFld.ints_len, HLS.out]; exact hlt)
       simp only [Option.some.injEq, Addr.mk.injEq, and_true] at e9
       rw [e9.1]
       exact h9
      obtain ⟨i0, i1, i2, i3⟩ := four_cells ((HBWA.out.block _ (Array.getElem?_eq_some_iff.1 HG.out).1).trans HG.out)
      have H1 := Kept.mk (show ((ints ((lsB D ss k n).take jn)).length + [(r : Int)].length) * 8 <= 140737488355328 by rw [FFld.ints_len, htb]; simp; omega)
      have H2 := Kept.mk (show (ints ((lsB D ss k n).take jn)).length + [(r : Int)].length <= maxLen by rw [FFld.ints_len, htb]; unfold maxLen; simp; omega)
      have hwa := HBWA.out.size
      have hal : ∀ W : World, Below W.heap.size W (W.alloc (.cells #[.int .i64 (r : Int)] 3)) := fun W => (Below.refl _ _).alloc (Nat.le_refl _) _
      clear hx hr hxq
      go_wp2_with fail
      go_upto_region 15 with fail
      go_region_held3 (fun w' => w'.cell? ⟨g5, 0, none⟩ = some (.int .i64 D.q) /\ w'.cell? ⟨g5, 1, none⟩ = some (.int .i64 D.p) /\ w'.cell? ⟨g5, 2, none⟩ = some (.int .i64 D.k) /\ w'.cell? ⟨g5, 3, none⟩ = some (.int .i64 D.m) /\ w'.cell? ⟨ba, oa + i, none⟩ = some (.int .i64 (x : Nat)))
       (first | exact ⟨m0, m1, m2, m3, m4⟩ | exact ⟨k0, k1, k2, k3, k4⟩ | exact ⟨j0, j1, j2, j3, j4⟩ | exact ⟨i0, i1, i2, i3, i4⟩ | go_keep)
       ((first
         | (go_at_call 46; (with_reducible refine (HNG.out _).mono ?_); rintro e w3 ⟨hb3, rfl⟩; have HB3 := Kept.mk (bstep (show Below WA.heap.size WA _ from (by first | exact Below.refl _ _ | exact (Below.refl _ _).drew)) hb3); clear hb3; have j0 := belowCell HB3.out i0; have j1 := belowCell HB3.out i1; have j2 := belowCell HB3.out i2; have j3 := belowCell HB3.out i3; have j4 := belowCell HB3.out i4; have k0 := belowCell (hal w3) j0; have k1 := belowCell (hal w3) j1; have k2 := belowCell (hal w3) j2; have k3 := belowCell (hal w3) j3; have k4 := belowCell (hal w3) j4; have HS3 := Kept.mk ((HLA.out.below HB3.out).below (hal w3)); have hs3 := HB3.out.size; have HM3 := Kept.mk HS3.out.mb; have HNW := Kept.mk (new_one (K := .i64) (x := (r : Int)) (w := w3.alloc (.cells #[.int .i64 (r : Int)] 3)) (b := w3.heap.size) (o := 0) (by exact (Row.new (E := 3) (K := .i64) w3 [(r : Int)]).cell (i := 0) (by simp))); have HBB := Kept.mk (show W2.heap.size <= (w3.alloc (.cells #[.int .i64 (r : Int)] 3)).heap.size by simp; omega); have HBA := Kept.mk (bstep (bstep HBWA.out HB3.out) (hal w3)); have HOW := Kept.mk HM3.out.own)
         | ((refine step_append_mine _ (by rfl) _ _ 22 (by rfl) 3 .i64 8 Tryz.underlying22 info_i64 W2.heap.size (.slice ba2 jn bc2) (ints ((lsB D ss k n).take jn)) (by rfl) HM3.out HBB.out ⟨w3.heap.size, 0, none⟩ 1 1 [(r : Int)] (by rfl) (by rfl) HNW.out H1.out H2.out ?_); intro v' w5 hM5 hg5 hn5; have HM5 := Kept.mk hM5; have m0 := (hg5.cell (a := ⟨g5, 0, none⟩) k0 (fun e => by have := HOW.out _ e.symm; simp at this; omega)); have m1 := (hg5.cell (a := ⟨g5, 1, none⟩) k1 (fun e => by have := HOW.out _ e.symm; simp at this; omega)); have m2 := (hg5.cell (a := ⟨g5, 2, none⟩) k2 (fun e => by have := HOW.out _ e.symm; simp at this; omega)); have m3 := (hg5.cell (a := ⟨g5, 3, none⟩) k3 (fun e => by have := HOW.out _ e.symm; simp at this; omega)); have m4 := (hg5.cell (a := ⟨ba, oa + i, none⟩) k4 (fun e => by have := HOW.out _ e.symm; simp at this; omega)))))
      have HL5 := Kept.mk (HS3.out.pushB hjl HRR.out HM5.out hg5 hn5)
      have HB5 := Kept.mk (HBA.out.grown hg5 HBB.out (fun j hj => (HOW.out j hj).1))
      go_wp2
      go_roundw
      case rel => exact ⟨jn + 1, _, by omega, by rw [<- HI.out]; go_num, by rw [List.length_append, hLl]; rfl, HL5, HB5⟩
      case measure => simp [intOf] <;> omega
   ·obtain rfl : i = n := by omega
    have HLA := Kept.mk hla.out
    have HBW := Kept.mk hbw.out
    have hjl : jn = i - l := hjni2.out
    clear hla hbw HI hjni2
    by_cases hln : l = i
    ·subst hln
     have HE : Kept (Lf = l) := ⟨by omega⟩
     have e0 : (l : Int) <= (l : Int) := by omega
     have e1 : ¬ ((l : Int) < (l : Int)) := by omega
     have HBZ := Kept.mk (HB2.out.trans (HBW.out.mono HB2.out.size))
     go_wp2
     go_ret
     exact ⟨HBZ.out, by rw [HE.out]; try rfl⟩
    ·have hln2 : l < i := by omega
     have e0 : ¬ ((i : Int) <= (l : Int)) := by omega
     have e1 : (l : Int) < (i : Int) := by omega
     obtain ⟨ma', mc', he, hm1, hm2, hsl⟩ := HLA.out.rw.sls
     simp only [Value.slice.injEq] at he
     obtain ⟨rfl, h9, rfl⟩ := he
     clear h9
     have heq := HLA.out.eq
     rw [List.take_of_length_le (by rw [lsM_len]; omega)] at heq
     rw [heq] at hsl
     have hmb := HLA.out.mb.sl
     rw [List.take_of_length_le (by rw [lsB_len]; omega)] at hmb
     have hso := HSV.out l _ ma mc (.slice ba2 jn bc2) hln2 hlL hsl (by omega) hmc2 hmb
     rw [<- hjl] at hso
     have HSO := Kept.mk hso
     clear hso hjl
     obtain ⟨i0, i1, i2, i3⟩ := four_cells ((HBW.out.block _ (Array.getElem?_eq_some_iff.1 HG.out).1).trans HG.out)
     clear heq hsl hmb hm1 hm2 hLl htb
     go_wp2_with fail
     (with_reducible refine HSO.out.mono ?_)
     rintro e w6 ⟨hb6, vx, bb, rfl, hbb⟩
     have HB6 := Kept.mk (bstep HBW.out hb6)
     clear hb6
     by_cases hlf : l = Lf
     ·obtain rfl : bb = true := hbb.2 hlf
      have HE : Kept (Lf = l) := ⟨hlf.symm⟩
      have HBZ := Kept.mk (HB2.out.trans (HB6.out.mono HB2.out.size))
      clear hlf hbb
      go_wp2
      go_ret
      exact ⟨HBZ.out, by rw [HE.out]; try rfl⟩
     ·obtain rfl : bb = false := by
       cases bb with
       | false => rfl
       | true => exact absurd (hbb.1 rfl) hlf
      have hl1 : l + 1 <= Lf := by omega
      clear hlf hbb
      go_wp2
      go_roundw
      case rel => exact ⟨l + 1, hl1, by go_num, HB6⟩
      case measure => simp [intOf] <;> omega
theorem sl_take {w : World} {ao : Option Addr} {n cap k : Nat} {xs : List Int} (h : Sl .i64 w (.slice ao n cap) xs) (hk : k <= xs.length) : Sl .i64 w (.slice ao k k) (xs.take k) := by
 obtain ⟨ao', cap', e, hc, hm, hx⟩ := h
 simp only [Value.slice.injEq] at e
 obtain ⟨rfl, _, rfl⟩ := e
 exact Sl.cut_of hk (by omega) hx
theorem els_list {D : FFld.FD} {A : List Int} (h : elsB D A = true) : ∃ xs : List Nat, A = ints xs /\ ∀ a ∈ xs, a < D.p ^ D.k := by
 unfold elsB at h
 rw [List.all_eq_true] at h
 refine ⟨A.map Int.toNat, ?_, fun a ha => ?_⟩
 ·unfold FFld.ints
  rw [List.map_map]
  conv => lhs; rw [<- List.map_id A]
  refine List.map_congr_left fun x hx => ?_
  have := of_decide_eq_true (h x hx)
  show x = ((x.toNat : Nat) : Int)
  omega
 ·obtain ⟨x, hx, rfl⟩ := List.mem_map.1 ha
  have := of_decide_eq_true (h x hx)
  unfold FFld.FD.q at this
  omega
section
variable {D : FFld.FD} {b : Nat} (vx vy : Value) (A B : List Int) (w : World) (hf : FldB D w b) (hx : Sl .i64 w vx A) (hy : Sl .i64 w vy B)
include hf hx hy
end
end Go.Proofs.YtdnheaafcbihbaaGreat
