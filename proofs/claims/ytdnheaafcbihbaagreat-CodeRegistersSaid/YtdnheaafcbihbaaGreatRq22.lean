/-
  Texts of the proof, merged by program: Cpr Csh Csi Csj Apd Gao Cvn Mu2 Rtq Rtc1 Rtm.
-/
import Derived.Test.YtdnheaafcbihbaaGreatRq21
set_option linter.unusedSectionVars false
set_option linter.unusedSimpArgs false
set_option linter.unusedVariables false
set_option maxHeartbeats 16000000
namespace Go.Proofs.YtdnheaafcbihbaaGreat
open Go Go.RowKit Go.Deep
open FFld (ints)
namespace FFld
def prodF (D : FD) (fs : List (List Nat)) : Nat -> List Nat
 | 0 => [1]
 | i + 1 => mulL D (prodF D fs i) (fs[i]?.getD [])
theorem prodF_lt {D : FD} (hk : PK D.p D.k D.m) (fs : List (List Nat)) : ∀ i, ∀ a ∈ prodF D fs i, a < D.p ^ D.k
 | 0 => fun a ha => by rw [List.mem_singleton.1 ha]; exact hk.one_lt
 | i + 1 => mulL_lt hk _ _
theorem get_mem {α : Type} {l : List α} {i : Nat} {d : α} (h : i < l.length) : l[i]?.getD d ∈ l := by
 rw [List.getElem?_eq_getElem h]
 exact List.getElem_mem h
theorem prodF_tz {D : FD} (hD : D.Ok) {fs : List (List Nat)} (hq : ∀ l ∈ fs, ∀ a ∈ l, a < D.p ^ D.k) (hz : ∀ l ∈ fs, Tz l) : ∀ i, i <= fs.length -> Tz (prodF D fs i)
 | 0, _ => .inr (by show (1 : Nat) ≠ 0; decide)
 | i + 1, hi => mulL_tz hD (prodF_lt hD.pre.pk fs i) (hq _ (get_mem (by omega))) (prodF_tz hD hq hz i (by omega)) (hz _ (get_mem (by omega)))
end FFld
theorem cone_sl (W : World) (x : Int) : Sl .i64 (W.alloc (.cells #[.int .i64 x] 3)) (.slice (some ⟨W.heap.size, 0, none⟩) 1 1) [x] := by
 refine ⟨_, 1, rfl, Nat.le_refl _, by unfold maxLen; omega, fun i hi => ⟨W.heap.size, 0, rfl, by simp, ?_⟩⟩
 obtain rfl : i = 0 := by simpa using hi
 exact (Row.new (E := 3) (K := .i64) W [x]).cell (i := 0) (by simp)
set_option maxRecDepth 20000 in
theorem cproduct_any {D : FFld.FD} {b : Nat} (hD : D.Ok) (af : Option Addr) (cf : Nat) (fs : List (List Nat)) (w : World) (hf : FldB D w b) (h : Sls w af (fs.map ints)) (hc : fs.length <= cf) (hcm : cf <= maxLen) (hq : ∀ l ∈ fs, ∀ a ∈ l, a < D.p ^ D.k) (hz : ∀ l ∈ fs, FFld.Tz l) (hl : ∀ l ∈ fs, l.length <= 200) (hpl : ∀ i, i <= fs.length -> (FFld.prodF D fs i).length <= 200) (hfl : fs.length <= 1000) :
 Calls Tryz.prog 166 #[.pointer (some ⟨b, 0, none⟩), .slice af fs.length cf] w (fun e w' => Below w.heap.size w w' /\ ∃ v, e = .returned v /\ Sl .i64 w' v (ints (FFld.prodF D fs fs.length))) := by
 have HP := Kept.mk (fun (W : World) (hW : Below w.heap.size w W) (i : Nat) (hi : i < fs.length) (va vb : Value) (ha : Sl .i64 W va (ints (FFld.prodF D fs i))) (hb : Sl .i64 W vb (ints (fs[i]?.getD []))) =>
  fpproduct_any va vb (FFld.prodF D fs i) (fs[i]?.getD []) W (hf.below hW) ha hb (cErr_poly (FFld.prodF_lt hD.pre.pk fs i) (FFld.prodF_tz hD hq hz i (by omega)) (hpl i (by omega))) (cErr_poly (hq _ (FFld.get_mem hi)) (hz _ (FFld.get_mem hi)) (hl _ (FFld.get_mem hi))) hD (FFld.prodF_lt hD.pre.pk fs i) (hq _ (FFld.get_mem hi)) (by have := hpl i (by omega); omega) (by have := hl _ (FFld.get_mem (d := []) hi); omega))
 have HS := Kept.mk h
 obtain ⟨n, hn⟩ : ∃ n, fs.length = n := ⟨_, rfl⟩
 rw [hn] at HP hc hfl ⊢
 have HN := Kept.mk hn
 unfold maxLen at hcm
 have h0 : Below w.heap.size w (w.alloc (.cells #[.int .i64 1] 3)) := (Below.refl _ _).alloc (Nat.le_refl _) _
 have HB0 := Kept.mk h0
 have HS0 : Kept (Sl .i64 (w.alloc (.cells #[.int .i64 1] 3)) (.slice (some ⟨w.heap.size, 0, none⟩) 1 1) (ints (FFld.prodF D fs 0))) := ⟨cone_sl w 1⟩
 clear hf h hq hz hl hpl hn h0
 go_enter Tryz.func166, Tryz.ntmps166
 go_wp2
 go_loopw [5, 11] (fun rv iv wr => ∃ (i : Nat) (ra : Option Addr) (rn rc : Nat), i <= n /\ iv = .int .i64 i /\ rv = .slice ra rn rc /\ Kept (Below w.heap.size w wr) /\ Kept (Sl .i64 wr (.slice ra rn rc) (ints (FFld.prodF D fs i)))) (fun _ iv _ => n - (intOf iv).toNat)
 case atStart => exact ⟨0, _, _, _, Nat.zero_le _, rfl, rfl, HB0, HS0⟩
 case round =>
  obtain ⟨i, ra, rn, rc, hin, rfl, rfl, hbw, hs⟩ := hrel
  by_cases hlt : i < n
  ·obtain ⟨g, o, fv, rfl, hg, hcell, hfs⟩ := (HS.out.below hbw.out) i (by rw [List.length_map, HN.out]; exact hlt)
   have e1 : (fs.map ints)[i]?.getD [] = ints (fs[i]?.getD []) := by
    rw [List.getElem?_map]
    cases fs[i]? with
    | none => rfl
    | some l => rfl
   rw [e1] at hfs
   obtain ⟨fa, fc, rfl, hfc, hfm⟩ := hfs.form
   rw [FFld.ints_len] at hcell hfs hfc
   have HC := Kept.mk (HP.out wr hbw.out i hlt _ _ hs.out hfs)
   obtain ⟨fl, hfl2⟩ : ∃ m, (fs[i]?.getD []).length = m := ⟨_, rfl⟩
   rw [hfl2] at hcell HC
   clear hfs hfc hfl2 e1
   go_wp2_with fail
   refine HC.out.mono ?_
   rintro e w2 ⟨hb2, v2, rfl, hs2⟩
   obtain ⟨a2, c2, rfl, _, _⟩ := hs2.form
   have HB2 := Kept.mk (bstep hbw.out hb2)
   have HS2 := Kept.mk hs2
   clear hb2 hs2
   go_wp2
   go_roundw
   case rel => exact ⟨i + 1, _, _, _, by omega, by go_num, rfl, HB2, HS2⟩
   case measure => simp [intOf] <;> omega
  ·obtain rfl : i = n := by omega
   go_wp2
   go_ret
   exact ⟨hbw.out, _, rfl, hs.out⟩
end Go.Proofs.YtdnheaafcbihbaaGreat
namespace Go.Proofs.YtdnheaafcbihbaaGreat
open Go Go.RowKit Go.Deep
open FFld (ints)
theorem live_lt {w : World} {v : Value} {xs : List Int} (h : Sl .i64 w v xs) {k : Nat} (hk : live v = some k) : k < w.heap.size := by
 obtain ⟨ao, cap, rfl, hc, hm, hx⟩ := h
 by_cases h0 : 0 < xs.length
 ·obtain ⟨b, o, rfl, hb, _⟩ := hx 0 h0
  have := live_own hk
  simp [Value.ownBlock] at this
  omega
 ·have : xs.length = 0 := by omega
  rw [this] at hk
  cases ao <;> simp [live] at hk
theorem CapAt.lt {b g : Nat} {oa : Option Addr} {on oc last : Nat} {since : Int} {w : World} (h : CapAt b g oa on oc last since w) : g + 3 < w.heap.size := (Array.getElem?_eq_some_iff.1 h.since).1
theorem CapAt.kept {b g : Nat} {oa : Option Addr} {on oc last : Nat} {since : Int} {w w' : World} {row : Option Nat} (h : CapAt b g oa on oc last since w) (hg : w.grownBy w' row) (hne : ∀ k, row = some k -> ¬ (g <= k /\ k <= g + 3)) : CapAt b g oa on oc last since w' := by
 have hl := h.lt
 have key : ∀ j, j <= 3 -> w'.heap[g + j]? = w.heap[g + j]? := fun j hj => hg.block _ (by omega) (fun e => hne (g + j) e.symm (by omega))
 exact ⟨(key 0 (by omega)).trans h.f, (key 1 (by omega)).trans h.old, (key 2 (by omega)).trans h.last, (key 3 (by omega)).trans h.since⟩
structure BmAt (b B g : Nat) (pv rv : Value) (oa : Option Addr) (oc : Nat) (st : FFld.Bm) (w : World) : Prop where
 prof : Mine 3 .i64 B w pv (ints st.prof)
 reg : Sl .i64 w rv (ints st.reg)
 old : Sl .i64 w (.slice oa st.old.length oc) (ints st.old)
 cap : CapAt b g oa st.old.length oc st.last st.since w
 lo : B <= g
 n1 : ∀ k, pv.ownBlock = some k -> live rv ≠ some k /\ live (.slice oa st.old.length oc) ≠ some k /\ ¬ (g <= k /\ k <= g + 3)
theorem BmAt.below {b B g : Nat} {pv rv : Value} {oa : Option Addr} {oc : Nat} {st : FFld.Bm} {w w' : World} (h : BmAt b B g pv rv oa oc st w) (hb : Below w.heap.size w w') : BmAt b B g pv rv oa oc st w' :=
 ⟨h.prof.below hb, h.reg.below hb, h.old.below hb, h.cap.below hb, h.lo, h.n1⟩
theorem BmAt.push {b B g : Nat} {pv pv' rv : Value} {oa : Option Addr} {oc x : Nat} {st : FFld.Bm} {w w' : World} (h : BmAt b B g pv rv oa oc st w) (hm : Mine 3 .i64 B w' pv' (ints (st.prof ++ [x]))) (hg : w.grownBy w' pv.ownBlock) (hn : pv'.ownBlock = pv.ownBlock \/ Frm w.heap.size pv') :
 BmAt b B g pv' rv oa oc ⟨st.reg, st.len, st.old, st.last, st.since, st.prof ++ [x]⟩ w' := by
 refine ⟨hm, h.reg.kept hg fun k hk e => (h.n1 k e).1 hk, h.old.kept hg fun k hk e => (h.n1 k e).2.1 hk, h.cap.kept hg fun k e => (h.n1 k e).2.2, h.lo, fun k hk => ?_⟩
 rcases hn with e | e
 ·exact h.n1 k (e ▸ hk)
 ·have h1 := e k hk
  refine ⟨fun hl => ?_, fun hl => ?_, fun hl => ?_⟩
  ·have := live_lt h.reg hl
   omega
  ·have := live_lt h.old hl
   omega
  ·have := h.cap.lt
   omega
theorem BmAt.turn {b B g : Nat} {pv rv rv' : Value} {oa : Option Addr} {oc : Nat} {st : FFld.Bm} {rl : List Nat} {w w' : World} (h : BmAt b B g pv rv oa oc st w) (hb : Below w.heap.size w w') (hs : Sl .i64 w' rv' (ints rl)) (hf : ∀ k, live rv' = some k -> w.heap.size <= k) :
 BmAt b B g pv rv' oa oc ⟨rl, st.len, st.old, st.last, st.since, st.prof⟩ w' :=
 ⟨h.prof.below hb, hs, h.old.below hb, h.cap.below hb, h.lo, fun k hk => ⟨fun hl => (by have := hf k hl; have := (h.prof.own k hk).2; omega), (h.n1 k hk).2⟩⟩
theorem BmAt.swap {b B g : Nat} {pv rv : Value} {oa ra : Option Addr} {oc rc d : Nat} {i : Int} {st st0 : FFld.Bm} {L : Nat} {w0 w w' : World} (h0 : BmAt b B g pv (.slice ra st0.reg.length rc) oa oc st0 w0) (h : BmAt b B g pv rv oa oc st w) (hb0 : Below w0.heap.size w0 w) (hb : Below w.heap.size w w') (hB : B <= w.heap.size) (hc : CapAt b w.heap.size ra st0.reg.length rc d i w') :
 BmAt b B w.heap.size pv rv ra rc ⟨st.reg, L, st0.reg, d, i, st.prof⟩ w' :=
 ⟨h.prof.below hb, h.reg.below hb, (h0.reg.below hb0).below hb, hc, hB, fun k hk => ⟨(h.n1 k hk).1, (h0.n1 k hk).1, fun hl => (by have := (h.prof.own k hk).2; omega)⟩⟩
theorem wv_drop {w : World} {g m : Nat} {l : List Nat} (h : Wv w g l) (hl : l.length = m + 1) (hm : m <= 1000) : Sl .i64 w (.slice (some ⟨g, 1, none⟩) m m) (ints (l.drop 1)) := by
 have e : (ints (l.drop 1)).length = m := by rw [FFld.ints_len, List.length_drop]; omega
 refine ⟨_, m, by rw [e], by rw [e]; exact Nat.le_refl _, by unfold maxLen; omega, fun i hi => ⟨g, 1, rfl, h.lt, ?_⟩⟩
 rw [e] at hi
 have hc := h.cell (i := 1 + i) (by omega)
 rw [hc, FFld.ints_get, List.getElem?_drop]
set_option maxRecDepth 20000 in
theorem cshort_any {D : FFld.FD} {b : Nat} (hD : D.Ok) (as_ : Option Addr) (cs n : Nat) (sl : List Nat) (w : World) (hf : FldB D w b) (hs : Sl .i64 w (.slice as_ n cs) (ints sl)) (hn : sl.length = n) (hsq : ∀ a ∈ sl, a < D.p ^ D.k) (hn2 : n <= 200) :
 Calls Tryz.prog 127 #[.pointer (some ⟨b, 0, none⟩), .slice as_ n cs] w (fun e w' => Below w.heap.size w w' /\ ∃ vt vp, e = .returned (.tuple #[vt, vp]) /\ Sl .i64 w' vt (ints ((FFld.padF (FFld.bmF D hD.pre.pk sl n).reg ((FFld.bmF D hD.pre.pk sl n).len + 1)).drop 1)) /\ Sl .i64 w' vp (ints (FFld.bmF D hD.pre.pk sl n).prof)) := by
 have hq6 : D.p ^ D.k <= 65536 := hD.pre.small
 have HOK := Kept.mk (FFld.bm_ok hD.pre.pk sl)
 have HDF := Kept.mk (fun (W : World) (hW : Below w.heap.size w W) (ra : Option Addr) (rc i : Nat) (rl : List Nat) (h : Sl .i64 W (.slice ra rl.length rc) (ints rl)) (hq : ∀ a ∈ rl, a < D.p ^ D.k) (h1 : rl.length <= i + 1) (h2 : i < sl.length) => cdifference_any hD ra as_ rc cs i rl sl W (hf.below hW) h (by rw [hn]; exact hs.below hW) hq hsq h1 h2 (by omega))
 rw [hn] at HDF
 have HC1 := Kept.mk (fun (W : World) (hW : Below w.heap.size w W) (g : Nat) (ra oa : Option Addr) (rc on oc last df sh : Nat) (since at_ : Int) (rl ol : List Nat) => ccorr1_any (D := D) (b := b) (g := g) hD ra oa rc on oc last df sh since at_ rl ol W (hf.below hW))
 have HCO := Kept.mk (fun (W : World) (oa : Option Addr) (on oc last : Nat) (since : Int) => ccorr_any b oa on oc last since W)
 have HC0 : Kept (∀ W oa, Calls Tryz.prog 189 #[.pointer (some ⟨b, 0, none⟩), .slice oa 1 1, .int .i64 1, .int .i64 (-1)] W (fun e w' => Below W.heap.size W w' /\ e = .returned (cofn W.heap.size) /\ CapAt b W.heap.size oa 1 1 1 (-1) w')) := ⟨fun W oa => ccorr_any b oa 1 1 1 (-1) W⟩
 have hal1 : Below w.heap.size w (w.alloc (.cells #[.int .i64 1] 3)) := (Below.refl _ _).alloc (Nat.le_refl _) _
 have hal2 : Below w.heap.size w ((w.alloc (.cells #[.int .i64 1] 3)).alloc (.cells #[.int .i64 1] 3)) := hal1.alloc (by simp) _
 have hr0 : Sl .i64 ((w.alloc (.cells #[.int .i64 1] 3)).alloc (.cells #[.int .i64 1] 3)) (.slice (some ⟨w.heap.size, 0, none⟩) 1 1) (ints [1]) := (cone_sl w 1).below ((Below.refl _ _).alloc (Nat.le_refl _) _)
 have ho0 : Sl .i64 ((w.alloc (.cells #[.int .i64 1] 3)).alloc (.cells #[.int .i64 1] 3)) (.slice (some ⟨w.heap.size + 1, 0, none⟩) 1 1) (ints [1]) := by
  have h := cone_sl (w.alloc (.cells #[.int .i64 1] 3)) 1
  have e : (w.alloc (.cells #[.int .i64 1] 3)).heap.size = w.heap.size + 1 := by simp
  rw [e] at h
  exact h
 have HR0 := Kept.mk hr0
 have HO0 := Kept.mk ho0
 have HAL := Kept.mk hal2
 have hs2 : ((w.alloc (.cells #[.int .i64 1] 3)).alloc (.cells #[.int .i64 1] 3)).heap.size = w.heap.size + 2 := by simp
 clear hf hs hsq hal1 hal2 hr0 ho0
 have HN := Kept.mk hn
 clear hn
 go_enter Tryz.func127, Tryz.ntmps127
 go_wp2_with fail
 (with_reducible refine (HC0.out _ _).mono ?_)
 rintro e w1 ⟨hb1, rfl, hcap⟩
 have HB1 := Kept.mk (bstep HAL.out hb1)
 have HAT1 : Kept (BmAt b w.heap.size ((w.alloc (.cells #[.int .i64 1] 3)).alloc (.cells #[.int .i64 1] 3)).heap.size (.slice none 0 0) (.slice (some ⟨w.heap.size, 0, none⟩) 1 1) (some ⟨w.heap.size + 1, 0, none⟩) 1 ⟨[1], 0, [1], 1, -1, []⟩ w1) := ⟨⟨Mine.nil _ _ _ _, HR0.out.below hb1, HO0.out.below hb1, hcap, by rw [hs2]; omega, fun k hk => (by simp [Value.ownBlock] at hk)⟩⟩
 rw [hs2] at HAT1
 clear hb1 hcap HR0 HO0 HAL HC0
 go_wp2
 go_loopw [5, 6, 7, 8, 18] (fun pv rv lv cv iv wr => ∃ (i g rn L : Nat) (st : FFld.Bm) (ra oa : Option Addr) (rc oc : Nat), i <= n /\ iv = .int .i64 i /\ lv = .int .i64 L /\ cv = cofn g /\ rv = .slice ra rn rc /\ Kept (FFld.bmF D hD.pre.pk sl i = st) /\ Kept (st.reg.length = rn /\ st.len = L) /\ Kept (BmAt b w.heap.size g pv (.slice ra rn rc) oa oc st wr) /\ Kept (Below w.heap.size w wr)) (fun _ _ _ _ iv _ => n - (intOf iv).toNat)
 case atStart => exact ⟨0, _, 1, 0, ⟨[1], 0, [1], 1, -1, []⟩, _, _, 1, 1, Nat.zero_le _, rfl, rfl, rfl, rfl, ⟨rfl⟩, ⟨rfl, rfl⟩, HAT1, HB1⟩
 case round =>
  clear HAT1 HB1
  obtain ⟨i, g, rn, L, st, ra, oa, rc, oc, hin, rfl, rfl, rfl, rfl, hst, hlen, hat, hbw⟩ := hrel
  have hok := HOK.out i
  rw [hst.out] at hok
  obtain ⟨pa, pc, rfl, _, _⟩ := hat.out.prof.sl.form
  have HPLN : Kept (st.prof.length = i) := ⟨hok.pl⟩
  rw [FFld.ints_len, HPLN.out] at hat
  try rw [FFld.ints_len, HPLN.out]
  have hL : L <= i := by have := hok.li; have := hlen.out.2; omega
  have HOKI := Kept.mk hok
  have hrl : rn <= L + 1 := by have := hok.rl; have := hlen.out; omega
  clear hok
  by_cases hlt : i < n
  ·have HNX : Kept (FFld.bmF D hD.pre.pk sl (i + 1) = FFld.bmStep D hD.pre.pk sl i st) := ⟨by show FFld.bmStep D hD.pre.pk sl i (FFld.bmF D hD.pre.pk sl i) = _; rw [hst.out]⟩
   have hdf := HDF.out wr hbw.out ra rc i st.reg (by rw [hlen.out.1]; exact hat.out.reg) HOKI.out.rq (by rw [hlen.out.1]; omega) hlt
   obtain ⟨d, hd⟩ : ∃ d, FFld.bmD D sl i st = d := ⟨_, rfl⟩
   have hdq : d < D.p ^ D.k := by rw [<- hd]; exact FFld.difF_lt hD.pre.pk _ _ _ _
   have hd' : FFld.difF D st.reg sl i st.reg.length = d := hd
   rw [hd', hlen.out.1] at hdf
   have HDFI := Kept.mk hdf
   have HDD := Kept.mk hd
   clear hdf hd hd'
   go_wp2_with fail
   (with_reducible refine HDFI.out.mono ?_)
   rintro e w2 ⟨hb2, rfl⟩
   have HAT2 := Kept.mk (hat.out.below hb2)
   have HB2 := Kept.mk (bstep hbw.out hb2)
   clear hb2 hat hbw HDFI
   by_cases h0 : d = 0
   ·subst h0
    have HST : Kept (FFld.bmF D hD.pre.pk sl (i + 1) = ⟨st.reg, st.len, st.old, st.last, st.since, st.prof ++ [L]⟩) := ⟨by rw [HNX.out]; unfold FFld.bmStep; rw [if_pos HDD.out, hlen.out.2]⟩
    have HM3 := Kept.mk (HAT2.out.prof.alloc (.cells #[.int .i64 (L : Nat)] 3))
    have HNW := Kept.mk (new_one (K := .i64) (x := ((L : Nat) : Int)) (w := w2.alloc (.cells #[.int .i64 (L : Nat)] 3)) (b := w2.heap.size) (o := 0) (by exact (Row.new (E := 3) (K := .i64) w2 [((L : Nat) : Int)]).cell (i := 0) (by simp)))
    have hsz := HB2.out.size
    have HBB := Kept.mk (show w.heap.size <= (w2.alloc (.cells #[.int .i64 (L : Nat)] 3)).heap.size by simp; omega)
    have HBQ := Kept.mk (HB2.out.alloc hsz (.cells #[.int .i64 (L : Nat)] 3))
    have HOW := Kept.mk HM3.out.own
    have HATA := Kept.mk (HAT2.out.below ((Below.refl w2.heap.size w2).alloc (Nat.le_refl _) (.cells #[.int .i64 (L : Nat)] 3)))
    have H1 := Kept.mk (show ((ints (st).prof).length + [((L : Nat) : Int)].length) * 8 <= 140737488355328 by rw [FFld.ints_len, HPLN.out]; simp; omega)
    have H2 := Kept.mk (show (ints (st).prof).length + [((L : Nat) : Int)].length <= maxLen by rw [FFld.ints_len, HPLN.out]; unfold maxLen; simp; omega)
    go_wp2_with (at_builtin; refine wpList_append_mine _ rfl _ _ 22 (by rfl) 3 .i64 8 Tryz.underlying22 info_i64 w.heap.size (.slice pa i pc) (ints (st).prof) (by rfl) HM3.out HBB.out ⟨w2.heap.size, 0, none⟩ 1 1 [((L : Nat) : Int)] (by rfl) rfl HNW.out H1.out H2.out ?_)
    intro v' w9 hm9 hg9 hn9
    have eSZ : (w2.alloc (.cells #[.int .i64 (L : Nat)] 3)).heap.size = w2.heap.size + 1 := by simp
    have HAT9 := Kept.mk (HATA.out.push (x := L) (by rw [FFld.ints_append]; exact hm9) hg9 (by rw [eSZ]; exact hn9))
    clear eSZ
    have HB9 := Kept.mk (HBQ.out.grown hg9 HBB.out (fun j hj => (HOW.out j hj).1))
    clear hm9 hg9 hn9
    go_wp2
    go_roundw
    case rel => exact ⟨i + 1, g, rn, L, _, ra, oa, rc, oc, by omega, by go_num, rfl, rfl, rfl, HST, hlen, HAT9, HB9⟩
    case measure => simp [intOf] <;> omega
   ·have e0 : ((d : Int) != 0) = true := by rw [bne_iff_ne]; omega
    obtain ⟨sh, hsh⟩ : ∃ sh : Nat, (i : Int) - st.since = sh := ⟨((i : Int) - st.since).toNat, by have := HOKI.out.s1; omega⟩
    have h1 := HC1.out w2 HB2.out g ra oa rc st.old.length oc st.last d sh st.since (i : Int) st.reg st.old HAT2.out.cap (by rw [hlen.out.1]; exact HAT2.out.reg) HAT2.out.old rfl HOKI.out.rq HOKI.out.oq HOKI.out.ls HOKI.out.l0 hdq hsh (by omega) (by omega) HOKI.out.s0 (by have := HOKI.out.s1; omega) (by rw [hlen.out.1]; omega) (by have := HOKI.out.ol; have := HOKI.out.s0; omega)
    have hR : FFld.plusF D st.reg st.old (FFld.padd D.p D.k 0 (FFld.pscl D.p D.k (D.p - 1) (FFld.pmul D.p D.k D.m d D.k (FFld.ppow hD.pre.pk st.last (D.q - 2))))) sh = FFld.bmR D hD.pre.pk sl i st := by unfold FFld.bmR; rw [HDD.out, hsh]; rfl
    rw [hR, hlen.out.1] at h1
    have HCI := Kept.mk h1
    obtain ⟨R, hRR⟩ : ∃ l, FFld.bmR D hD.pre.pk sl i st = l := ⟨_, rfl⟩
    rw [hRR] at HCI
    have HRR := Kept.mk hRR
    clear h1 hR hRR hsh
    go_wp2_with fail
    (with_reducible refine HCI.out.mono ?_)
    rintro e w3 ⟨hb3, vr, rfl, hsr, hfr⟩
    obtain ⟨ra3, rc3, rfl, _, _⟩ := hsr.form
    rw [FFld.ints_len] at hsr hfr ⊢
    have HAT3 := Kept.mk (HAT2.out.turn hb3 hsr hfr)
    have HB3 := Kept.mk (bstep HB2.out hb3)
    have HBA := Kept.mk hb3
    obtain ⟨rn3, hrn3⟩ : ∃ x, R.length = x := ⟨_, rfl⟩
    have HRN := Kept.mk hrn3
    rw [hrn3] at HAT3 ⊢
    clear hb3 hsr hfr hrn3 HCI
    have hw2 : IntKind.i64.wrap (2 * (L : Int)) = 2 * (L : Int) := wi (by omega) (by omega)
    by_cases h2 : 2 * L <= i
    ·have d2 : decide (2 * (L : Int) <= i) = true := decide_eq_true (by omega)
     have HCC := Kept.mk (HCO.out w3 ra rn rc d (i : Int))
     obtain ⟨M, hM⟩ : ∃ M, i + 1 - L = M := ⟨_, rfl⟩
     have eM : (i : Int) + 1 - (L : Int) = M := by omega
     have HST : Kept (FFld.bmF D hD.pre.pk sl (i + 1) = ⟨R, M, st.reg, d, i, st.prof ++ [M]⟩) := ⟨by rw [HNX.out]; unfold FFld.bmStep; rw [if_neg (by rw [HDD.out]; exact h0), if_pos (by rw [hlen.out.2]; exact h2), HRR.out, HDD.out, hlen.out.2, hM]⟩
     go_wp2_with fail
     (with_reducible refine HCC.out.mono ?_)
     rintro e w4 ⟨hb4, rfl, hcap4⟩
     have hat2 := HAT2.out
     have HAT4 := Kept.mk (BmAt.swap (L := M) (st0 := st) (ra := ra) (rc := rc) (d := d) (i := (i : Int)) (by rw [hlen.out.1]; exact hat2) HAT3.out HBA.out hb4 HB3.out.size (by rw [hlen.out.1]; exact hcap4))
     have HB4 := Kept.mk (bstep HB3.out hb4)
     obtain ⟨g4, hg4⟩ : ∃ x, w3.heap.size = x := ⟨_, rfl⟩
     rw [hg4] at HAT4 ⊢
     clear hb4 hcap4 hat2 hg4 HCC
     have HM3 := Kept.mk (HAT4.out.prof.alloc (.cells #[.int .i64 (M : Nat)] 3))
     have HNW := Kept.mk (new_one (K := .i64) (x := ((M : Nat) : Int)) (w := w4.alloc (.cells #[.int .i64 (M : Nat)] 3)) (b := w4.heap.size) (o := 0) (by exact (Row.new (E := 3) (K := .i64) w4 [((M : Nat) : Int)]).cell (i := 0) (by simp)))
     have hsz := HB4.out.size
     have HBB := Kept.mk (show w.heap.size <= (w4.alloc (.cells #[.int .i64 (M : Nat)] 3)).heap.size by simp; omega)
     have HBQ := Kept.mk (HB4.out.alloc hsz (.cells #[.int .i64 (M : Nat)] 3))
     have HOW := Kept.mk HM3.out.own
     have HATA := Kept.mk (HAT4.out.below ((Below.refl w4.heap.size w4).alloc (Nat.le_refl _) (.cells #[.int .i64 (M : Nat)] 3)))
     have H1 := Kept.mk (show ((ints ((⟨R, M, st.reg, d, i, st.prof⟩ : FFld.Bm)).prof).length + [((M : Nat) : Int)].length) * 8 <= 140737488355328 by rw [FFld.ints_len, HPLN.out]; simp; omega)
     have H2 := Kept.mk (show (ints ((⟨R, M, st.reg, d, i, st.prof⟩ : FFld.Bm)).prof).length + [((M : Nat) : Int)].length <= maxLen by rw [FFld.ints_len, HPLN.out]; unfold maxLen; simp; omega)
     go_wp2_with (at_builtin; refine wpList_append_mine _ rfl _ _ 22 (by rfl) 3 .i64 8 Tryz.underlying22 info_i64 w.heap.size (.slice pa i pc) (ints ((⟨R, M, st.reg, d, i, st.prof⟩ : FFld.Bm)).prof) (by rfl) HM3.out HBB.out ⟨w4.heap.size, 0, none⟩ 1 1 [((M : Nat) : Int)] (by rfl) rfl HNW.out H1.out H2.out ?_)
     intro v' w9 hm9 hg9 hn9
     have eSZ : (w4.alloc (.cells #[.int .i64 (M : Nat)] 3)).heap.size = w4.heap.size + 1 := by simp
     have HAT9 := Kept.mk (HATA.out.push (x := M) (by rw [FFld.ints_append]; exact hm9) hg9 (by rw [eSZ]; exact hn9))
     clear eSZ
     have HB9 := Kept.mk (HBQ.out.grown hg9 HBB.out (fun j hj => (HOW.out j hj).1))
     clear hm9 hg9 hn9
     go_wp2
     go_roundw
     case rel => exact ⟨i + 1, g4, rn3, M, _, ra3, ra, rc3, rc, by omega, by go_num, rfl, rfl, rfl, HST, ⟨HRN.out, rfl⟩, HAT9, HB9⟩
     case measure => simp [intOf] <;> omega
    ·have d2 : decide (2 * (L : Int) <= i) = false := decide_eq_false (by omega)
     have HST : Kept (FFld.bmF D hD.pre.pk sl (i + 1) = ⟨R, st.len, st.old, st.last, st.since, st.prof ++ [L]⟩) := ⟨by rw [HNX.out]; unfold FFld.bmStep; rw [if_neg (by rw [HDD.out]; exact h0), if_neg (by rw [hlen.out.2]; exact h2), HRR.out, hlen.out.2]⟩
     have HM3 := Kept.mk (HAT3.out.prof.alloc (.cells #[.int .i64 (L : Nat)] 3))
     have HNW := Kept.mk (new_one (K := .i64) (x := ((L : Nat) : Int)) (w := w3.alloc (.cells #[.int .i64 (L : Nat)] 3)) (b := w3.heap.size) (o := 0) (by exact (Row.new (E := 3) (K := .i64) w3 [((L : Nat) : Int)]).cell (i := 0) (by simp)))
     have hsz := HB3.out.size
     have HBB := Kept.mk (show w.heap.size <= (w3.alloc (.cells #[.int .i64 (L : Nat)] 3)).heap.size by simp; omega)
     have HBQ := Kept.mk (HB3.out.alloc hsz (.cells #[.int .i64 (L : Nat)] 3))
     have HOW := Kept.mk HM3.out.own
     have HATA := Kept.mk (HAT3.out.below ((Below.refl w3.heap.size w3).alloc (Nat.le_refl _) (.cells #[.int .i64 (L : Nat)] 3)))
     have H1 := Kept.mk (show ((ints ((⟨R, st.len, st.old, st.last, st.since, st.prof⟩ : FFld.Bm)).prof).length + [((L : Nat) : Int)].length) * 8 <= 140737488355328 by rw [FFld.ints_len, HPLN.out]; simp; omega)
     have H2 := Kept.mk (show (ints ((⟨R, st.len, st.old, st.last, st.since, st.prof⟩ : FFld.Bm)).prof).length + [((L : Nat) : Int)].length <= maxLen by rw [FFld.ints_len, HPLN.out]; unfold maxLen; simp; omega)
     go_wp2_with (at_builtin; refine wpList_append_mine _ rfl _ _ 22 (by rfl) 3 .i64 8 Tryz.underlying22 info_i64 w.heap.size (.slice pa i pc) (ints ((⟨R, st.len, st.old, st.last, st.since, st.prof⟩ : FFld.Bm)).prof) (by rfl) HM3.out HBB.out ⟨w3.heap.size, 0, none⟩ 1 1 [((L : Nat) : Int)] (by rfl) rfl HNW.out H1.out H2.out ?_)
     intro v' w9 hm9 hg9 hn9
     have eSZ : (w3.alloc (.cells #[.int .i64 (L : Nat)] 3)).heap.size = w3.heap.size + 1 := by simp
     have HAT9 := Kept.mk (HATA.out.push (x := L) (by rw [FFld.ints_append]; exact hm9) hg9 (by rw [eSZ]; exact hn9))
     clear eSZ
     have HB9 := Kept.mk (HBQ.out.grown hg9 HBB.out (fun j hj => (HOW.out j hj).1))
     clear hm9 hg9 hn9
     go_wp2
     go_roundw
     case rel => exact ⟨i + 1, g, rn3, L, _, ra3, oa, rc3, oc, by omega, by go_num, rfl, rfl, rfl, HST, ⟨HRN.out, hlen.out.2⟩, HAT9, HB9⟩
     case measure => simp [intOf] <;> omega
  ·obtain rfl : i = n := by omega
   obtain ⟨M, hM⟩ : ∃ M, L + 1 = M := ⟨_, rfl⟩
   have eM : (L : Int) + 1 = M := by omega
   have hpd := cpadded_any ra rc st.reg M wr (by rw [hlen.out.1]; exact hat.out.reg) (by rw [hlen.out.1]; omega) (by omega)
   rw [hlen.out.1] at hpd
   have HPD := Kept.mk hpd
   clear hpd
   go_wp2_with fail
   (with_reducible refine HPD.out.mono ?_)
   rintro e w2 ⟨hb2, rfl, hw2⟩
   have HB2 := Kept.mk (bstep hbw.out hb2)
   have HPR := Kept.mk ((hat.out.prof.below hb2).sl)
   have HW2 := Kept.mk hw2
   have HPE : Kept (FFld.padF st.reg (st.len + 1) = FFld.padF st.reg M) := ⟨by rw [hlen.out.2, hM]⟩
   have HPF : Kept ((FFld.padF st.reg M).length = M) := ⟨FFld.padF_len (by rw [hlen.out.1]; omega)⟩
   obtain ⟨gr, hgr⟩ : ∃ x, wr.heap.size = x := ⟨_, rfl⟩
   rw [hgr] at HW2
   try rw [hgr]
   clear hb2 hw2 hgr hat hbw HPD
   by_cases hL0 : L = 0
   ·subst hL0
    obtain rfl : M = 1 := by omega
    have HT : Kept (Sl .i64 w2 (.slice (some ⟨gr, 0, none⟩) 0 0) (ints ((FFld.padF st.reg 1).drop 1))) := ⟨by
     have e : (FFld.padF st.reg 1).drop 1 = [] := List.eq_nil_of_length_eq_zero (by rw [List.length_drop, HPF.out])
     rw [e]
     exact ⟨_, 0, rfl, Nat.le_refl _, by unfold maxLen; omega, fun i hi => absurd hi (by simp [ints])⟩⟩
    go_wp2
    exact bodyPost_ret (v := .tuple #[.slice (some ⟨gr, 0, none⟩) 0 0, .slice pa i pc]) (by simp [results, Tryz.results127, go_sem]) rfl ⟨HB2.out, _, _, rfl, by rw [hst.out, HPE.out]; exact HT.out, by rw [hst.out]; exact HPR.out⟩
   ·have HT := Kept.mk (wv_drop (m := L) HW2.out (by rw [HPF.out]; omega) (by omega))
    have hM1 : 1 < M := by omega
    have eM1 : M - 1 = L := by omega
    have eM2 : (M : Int) - 1 = L := by omega
    go_wp2
    exact bodyPost_ret (v := .tuple #[.slice (some ⟨gr, 1, none⟩) L L, .slice pa i pc]) (by simp [results, Tryz.results127, go_sem, eM1]) rfl ⟨HB2.out, _, _, rfl, by rw [hst.out, HPE.out]; exact HT.out, by rw [hst.out]; exact HPR.out⟩
theorem bel_ints {D : FFld.FD} {l : List Nat} (h : ∀ a ∈ l, a < D.p ^ D.k) : belB (D.q : Int) (ints l) = true := by
 unfold belB ints
 rw [List.all_eq_true]
 intro x hx
 obtain ⟨a, ha, rfl⟩ := List.mem_map.1 hx
 have h1 := h a ha
 have h2 : D.q = D.p ^ D.k := rfl
 exact decide_eq_true (by omega)
set_option maxRecDepth 20000 in
theorem cShortest_any {D : FFld.FD} (hD : D.Ok) (as_ : Option Addr) (cs n : Nat) (sl : List Nat) (w : World) (hs : Sl .i64 w (.slice as_ n cs) (ints sl)) (hn : sl.length = n) (hsq : ∀ a ∈ sl, a < D.p ^ D.k) (hn2 : n <= 200) :
 Calls Tryz.prog 62 #[.int .i64 D.q, .slice as_ n cs] w (fun e w' => Below w.heap.size w w' /\ ∃ vt, e = .returned (.tuple #[vt, .int .i64 0]) /\ Sl .i64 w' vt (ints ((FFld.padF (FFld.bmF D hD.pre.pk sl n).reg ((FFld.bmF D hD.pre.pk sl n).len + 1)).drop 1))) := by
 have hq6 : D.p ^ D.k <= 65536 := hD.pre.small
 have hq0 : D.q = D.p ^ D.k := rfl
 have hse : seqE (D.q : Int) (ints sl) = 0 := by
  unfold seqE
  rw [if_pos ⟨D, hD, rfl⟩, if_neg (by rw [FFld.ints_len]; omega), if_neg (by rw [bel_ints hsq]; simp)]
 have hsc := ccheckSeq_any (D.q : Int) as_ cs (ints sl) w (by rw [FFld.ints_len, hn]; exact hs) (by omega) (by omega)
 rw [hse, FFld.ints_len, hn] at hsc
 have HSC : Kept (Calls Tryz.prog 125 #[.int .i64 D.q, .slice as_ n cs] w (RB w (.int .i64 0))) := ⟨hsc⟩
 have HNW := Kept.mk (fun W => fnew_any (D.q : Int) W (by omega) (by omega))
 have HSH := Kept.mk (fun (W : World) (hW : Below w.heap.size w W) (b : Nat) (hf : FldB D W b) => cshort_any hD as_ cs n sl W hf (hs.below hW) hn hsq hn2)
 have HD := Kept.mk hD
 obtain ⟨q, hq⟩ : ∃ q, D.q = q := ⟨_, rfl⟩
 rw [hq] at HSC HNW ⊢
 have HQ := Kept.mk hq
 clear hs hn hsq hse hsc hq hq0
 go_enter Tryz.func62, Tryz.ntmps62
 go_wp2_with fail
 (with_reducible refine HSC.out.mono ?_)
 rintro e w1 ⟨hb1, rfl⟩
 have HB1 := Kept.mk hb1
 clear hb1
 go_wp2_with fail
 (with_reducible refine (HNW.out _).mono ?_)
 rintro e w2 ⟨hb2, ⟨D', b, hq', hle, rfl, hf⟩ | ⟨hno, rfl⟩⟩
 ·obtain rfl : D' = D := FFld.FD.uniq hf.ok HD.out (by have := HQ.out; omega)
  have HB2 := Kept.mk (bstep HB1.out hb2)
  have HS2 := Kept.mk (HSH.out w2 HB2.out b hf)
  clear hb2 hf hq'
  go_wp2_with fail
  (with_reducible refine HS2.out.mono ?_)
  rintro e w3 ⟨hb3, vt, vp, rfl, ht, hp⟩
  have HB3 := Kept.mk (bstep HB2.out hb3)
  have HT := Kept.mk ht
  obtain ⟨ta, tc, rfl, _, _⟩ := ht.form
  obtain ⟨pa, pc, rfl, _, _⟩ := hp.form
  clear hb3 ht hp
  go_wp2
  exact bodyPost_ret (v := .tuple #[.slice ta _ tc, .int .i64 0]) (by simp [results, Tryz.results62, go_sem]) rfl ⟨HB3.out, _, rfl, HT.out⟩
 ·exact absurd ⟨D, HD.out, by have := HQ.out; omega⟩ hno
end Go.Proofs.YtdnheaafcbihbaaGreat
namespace Go.Proofs.YtdnheaafcbihbaaGreat
open Go Go.RowKit Go.Deep
theorem wp_append_parts {P : Program} (w : World) {o : Oper} {a : Act} {K' : Act -> World -> Prop} {Q : Exit -> Act -> World -> Prop} (s x : Operand) (t : TypeId)
 (ho : o.op = .call { callee := .builtin .append, args := #[s, x], argTypes := #[t, t] }) (E : TypeId) (K : IntKind) (bytes : Nat) (ht : P.underlying t = some (.slice E))
 (hinfo : (P.info? E).map (fun i => (i.zero, i.size, i.bytes)) = some (some (.int K 0), 1, bytes)) (B : Nat) (v : Value) (xs : List Int) (hs : a.eval s = v) (hM : Mine E K B w v xs) (hB : B <= w.heap.size)
 (ad : Addr) (m c : Nat) (news : List Int) (hx : a.eval x = .slice (some ad) m c) (hl : news.length = m) (hnews : ∀ j u, (news.map (Value.int K))[j]? = some u -> w.cell? (ad.add j) = some u)
 (hb : (xs.length + news.length) * bytes <= 140737488355328) (hm : xs.length + news.length <= maxLen)
 (h : ∀ va nv vc w', (xs ++ news).length = nv -> Mine E K B w' (.slice va nv vc) (xs ++ news) -> w.grownBy w' v.ownBlock -> ((Value.slice va nv vc).ownBlock = v.ownBlock \/ Frm w.heap.size (.slice va nv vc)) -> K' (a.put o.dst (.slice va nv vc)) w') : o.wp P a w K' Q := by
 refine wp_append_mine w s x t ho E K bytes ht hinfo B v xs hs hM hB ad m c news hx hl hnews hb hm ?_
 intro v' w' h1 h2 h3
 obtain ⟨va, vc, rfl, _⟩ := h1.sl
 exact h va _ vc w' rfl h1 h2 h3
theorem wpList_append_parts {P : Program} (w : World) {ops : Array Oper} {rest : List Oper} {o : Oper} {a : Act} {Q : Exit -> Act -> World -> Prop} (hgd : o.guard = none) (s x : Operand) (t : TypeId)
 (ho : o.op = .call { callee := .builtin .append, args := #[s, x], argTypes := #[t, t] }) (E : TypeId) (K : IntKind) (bytes : Nat) (ht : P.underlying t = some (.slice E))
 (hinfo : (P.info? E).map (fun i => (i.zero, i.size, i.bytes)) = some (some (.int K 0), 1, bytes)) (B : Nat) (v : Value) (xs : List Int) (hs : a.eval s = v) (hM : Mine E K B w v xs) (hB : B <= w.heap.size)
 (ad : Addr) (m c : Nat) (news : List Int) (hx : a.eval x = .slice (some ad) m c) (hl : news.length = m) (hnews : ∀ j u, (news.map (Value.int K))[j]? = some u -> w.cell? (ad.add j) = some u)
 (hb : (xs.length + news.length) * bytes <= 140737488355328) (hm : xs.length + news.length <= maxLen)
 (h : ∀ va nv vc w', (xs ++ news).length = nv -> Mine E K B w' (.slice va nv vc) (xs ++ news) -> w.grownBy w' v.ownBlock -> ((Value.slice va nv vc).ownBlock = v.ownBlock \/ Frm w.heap.size (.slice va nv vc)) -> wpList P ops Q rest (a.put o.dst (.slice va nv vc)) w') : wpList P ops Q (o :: rest) a w := by
 refine wpList_append_mine w hgd s x t ho E K bytes ht hinfo B v xs hs hM hB ad m c news hx hl hnews hb hm ?_
 intro v' w' h1 h2 h3
 obtain ⟨va, vc, rfl, _⟩ := h1.sl
 exact h va _ vc w' rfl h1 h2 h3
end Go.Proofs.YtdnheaafcbihbaaGreat
namespace Go.Proofs.YtdnheaafcbihbaaGreat
namespace FFld
section
variable {D : FD} (hD : D.Ok)
structure GaoOk (xs ys : List Nat) (n : Nat) (bf nw el e : List Nat) : Prop where
 blt : ∀ a ∈ bf, a < D.p ^ D.k
 nlt : ∀ a ∈ nw, a < D.p ^ D.k
 llt : ∀ a ∈ el, a < D.p ^ D.k
 elt : ∀ a ∈ e, a < D.p ^ D.k
 tb : Tz bf
 tn : Tz nw
 tl : Tz el
 te : Tz e
 len : e.length + bf.length = n + 2
 low : nw.length < bf.length
 up : el.length < e.length
 ev1 : ∀ j, j < n -> evE hD bf (plE hD xs j) = (FD.dom hD.nzd).mul (evE hD el (plE hD xs j)) (plE hD ys j)
 ev2 : ∀ j, j < n -> evE hD nw (plE hD xs j) = (FD.dom hD.nzd).mul (evE hD e (plE hD xs j)) (plE hD ys j)
theorem evE_nil (x : El (D.p ^ D.k)) : evE hD [] x = (FD.dom hD.nzd).zero := rfl
theorem evE_one (x : El (D.p ^ D.k)) : evE hD [1] x = (FD.dom hD.nzd).one := thV_one hD (xs := []) (fun a ha => by cases ha) x
theorem GaoOk.start {xs ys nw : List Nat} {n : Nat} (hx : ∀ a ∈ xs, a < D.p ^ D.k) (hn : ∀ a ∈ nw, a < D.p ^ D.k) (tn : Tz nw) (ln : nw.length <= n) (hv : Tz (thV D xs n)) (he : ∀ j, j < n -> evE hD nw (plE hD xs j) = plE hD ys j) : GaoOk hD xs ys n (thV D xs n) nw [] [1] := by
 have hk := hD.pre.pk
 refine ⟨thV_lt hk xs n, hn, fun a ha => (by cases ha), fun a ha => (by rw [List.mem_singleton.1 ha]; exact hk.one_lt), hv, tn, .inl rfl, .inr (by decide), by rw [thV_len]; simp; omega, by rw [thV_len]; omega, by decide, fun j hj => ?_, fun j hj => ?_⟩
 ·rw [evE_nil, Dom.zero_mul]
  exact thV_zero hD hx n j hj
 ·rw [evE_one, Dom.one_mul]
  exact he j hj
theorem GaoOk.next {xs ys bf nw el e : List Nat} {n mi : Nat} (h : GaoOk hD xs ys n bf nw el e) (h0 : nw.length ≠ 0) (hm : mi < D.p ^ D.k) (hmi : toE hD.pre.pk mi = (FD.dom hD.nzd).neg (FD.dom hD.nzd).one) :
 GaoOk hD xs ys n nw (rstF D nw (invT D hD.pre.pk nw) bf) e (plusF D el (mulL D (quoF D nw (invT D hD.pre.pk nw) bf) e) mi 0) := by
 have hk := hD.pre.pk
 have htop : nw[nw.length - 1]?.getD 0 ≠ 0 := by
  rcases h.tn with h1 | h1
  ·exact absurd h1 h0
  ·exact h1
 have hql := quoF_lt (D := D) hk nw (invT D hk nw) bf
 have hqt := quo_tz hD h.nlt h.blt (by omega) htop h.tb
 have hqn := quo_len_is (D := D) (ql := nw) (pl := bf) (invT D hk nw) (by have := h.low; omega)
 have hlow := h.low
 have hup := h.up
 have hpl := mulL_len_is (D := D) (pl := quoF D nw (invT D hk nw) bf) (ql := e) (by omega) (by omega)
 have hpt := mulL_tz hD hql h.elt hqt h.te
 have hp := mulL_lt (D := D) hk (quoF D nw (invT D hk nw) bf) e
 have hm0 : mi ≠ 0 := fun e0 => by
  rw [e0, toE_zero hD] at hmi
  have h1 := (FD.dom hD.nzd).add_neg (FD.dom hD.nzd).one
  rw [<- hmi, (FD.dom hD.nzd).add_zero] at h1
  exact (FD.dom hD.nzd).one_ne h1
 have hlen := plusF_len hD (p := el) hp hpt hm hm0 (by omega)
 refine ⟨h.nlt, rstF_lt hk _ _ h.blt, h.elt, plusF_lt hk h.llt, h.tn, rstF_tz D _ _ h.tb, h.te, plusF_tz _ _ _ _, ?_, ?_, ?_, h.ev2, fun j hj => ?_⟩
 ·rw [hlen, hpl, hqn]
  have := h.len
  omega
 ·have := rst_short hD h.nlt h.blt (by omega) htop
  omega
 ·rw [hlen, hpl, hqn]
  omega
 ·have e1 := div_ev hD (invT D hk nw) h.nlt h.blt (by omega) (plE hD xs j)
  rw [h.ev1 j hj, h.ev2 j hj] at e1
  rw [plusF_ev hD h.llt hp hm, evE_mulL hD hql h.elt, hmi, Dom.pow_zero, Dom.one_mul, Dom.neg_mul, Dom.one_mul, Dom.add_mul, Dom.neg_mul, e1]
  generalize evE hD (quoF D nw (invT D hk nw) bf) (plE hD xs j) = q
  generalize evE hD (rstF D nw (invT D hk nw) bf) (plE hD xs j) = r
  generalize evE hD e (plE hD xs j) = ee
  generalize plE hD ys j = y
  rw [Dom.mul_assoc, Dom.add_assoc, Dom.add_neg, Dom.add_zero]
theorem near {xs ys Q E P : List Nat} {n t : Nat} (hQ : ∀ a ∈ Q, a < D.p ^ D.k) (hE : ∀ a ∈ E, a < D.p ^ D.k) (hP : ∀ a ∈ P, a < D.p ^ D.k) (tQ : Tz Q) (tE : Tz E) (tP : Tz P) (hx : ∀ a ∈ xs, a < D.p ^ D.k) (hE0 : E.length ≠ 0)
 (hd : ∀ a b, a < n -> b < n -> a ≠ b -> xs[a]?.getD 0 ≠ xs[b]?.getD 0) (lQ : Q.length + t <= n) (lE : E.length + P.length + t <= n + 1) (hev : ∀ j, j < n -> evE hD Q (plE hD xs j) = (FD.dom hD.nzd).mul (evE hD E (plE hD xs j)) (plE hD ys j))
 (G : List Nat) (hG : G.Nodup) (hGn : ∀ j ∈ G, j < n) (hGl : n <= G.length + t) (hGe : ∀ j ∈ G, evE hD P (plE hD xs j) = plE hD ys j) : quoF D E (invT D hD.pre.pk E) Q = P /\ rstF D E (invT D hD.pre.pk E) Q = [] := by
 have hk := hD.pre.pk
 have htop : E[E.length - 1]?.getD 0 ≠ 0 := by
  rcases tE with h1 | h1
  ·exact absurd h1 hE0
  ·exact h1
 have hmlt := mulL_lt (D := D) hk E P
 have hlen : (mulL D E P).length + t <= n := by
  by_cases hp0 : P.length = 0
  ·have e : mulL D E P = [] := by unfold mulL; rw [if_pos (.inr hp0)]
   rw [e]
   simp
   omega
  ·rw [mulL_len_is hE0 hp0]
   omega
 have hinj : ∀ a ∈ G, ∀ b ∈ G, a ≠ b -> plE hD xs a ≠ plE hD xs b := fun a ha b hb hab e => hd a b (hGn a ha) (hGn b hb) hab (toE_inj hk (at_lt hD hx a) (at_lt hD hx b) e)
 have hnd : (G.map (plE hD xs)).Nodup := by
  clear hGl hGe hGn
  induction G with
  | nil => exact List.nodup_nil
  | cons a G ih =>
    rw [List.map_cons, List.nodup_cons]
    obtain ⟨h1, h2⟩ := List.nodup_cons.1 hG
    refine ⟨fun hm => ?_, ih h2 fun c hc b hb => hinj c (List.mem_cons_of_mem _ hc) b (List.mem_cons_of_mem _ hb)⟩
    obtain ⟨b, hb, e⟩ := List.mem_map.1 hm
    exact hinj a (List.mem_cons_self ..) b (List.mem_cons_of_mem _ hb) (fun hab => h1 (hab ▸ hb)) e.symm
 have hQE : Q = mulL D E P := interp hD (n := G.length) hQ hmlt tQ (mulL_tz hD hE hP tE tP) (by omega) (by omega) (G.map (plE hD xs)) hnd (by simp) fun r hr => by
  obtain ⟨j, hj, rfl⟩ := List.mem_map.1 hr
  rw [hev j (hGn j hj), evE_mulL hD hE hP, hGe j hj]
 have hser : serL hD Q = (FD.dom hD.nzd).ser.mul (serL hD E) (serL hD P) := by rw [hQE, serL_mulL hD hE hP]
 have hrst : rstF D E (invT D hk E) Q = [] := by
  refine RemIs.uniq hD hE (by omega) htop (f := serL hD Q) (RemIs.of hD hE (by omega) htop hQ tQ (Eqv.refl _)) ⟨fun a ha => (by cases ha), .inl rfl, by simp; omega, ?_⟩
  rw [serL_nil hD (l := []) rfl, hser]
  refine ⟨serL hD P, serL_pl hD P, ?_⟩
  have hnz : (FD.dom hD.nzd).ser.neg (FD.dom hD.nzd).ser.zero = (FD.dom hD.nzd).ser.zero := Dom.neg_zero _
  rw [hnz, (FD.dom hD.nzd).ser.add_zero, (FD.dom hD.nzd).ser.mul_comm]
 refine ⟨?_, hrst⟩
 have h1 := div_ser hD (invT D hk E) hE hQ (by omega)
 rw [hrst, serL_nil hD (l := []) rfl, Dom.zero_add, hser, (FD.dom hD.nzd).ser.mul_comm] at h1
 have hEn : serL hD E ≠ (FD.dom hD.nzd).ser.zero := (serL_dg hD hE hE0 tE).ne
 rw [(FD.dom hD.nzd).ser.mul_comm, (FD.dom hD.nzd).ser.mul_comm _ (serL hD E)] at h1
 have h2 := Dom.mul_left_cancel _ hEn h1
 exact tz_ext (quo_tz hD hE hQ (by omega) htop tQ) tP (ser_get hD (quoF_lt hk _ _ _) hP h2.symm)
end
end FFld
end Go.Proofs.YtdnheaafcbihbaaGreat
namespace Go.Proofs.YtdnheaafcbihbaaGreat
open Go Go.RowKit Go.Deep
open FFld (ints)
namespace FFld
def linF (D : FD) (x : Nat) : List Nat := [padd D.p D.k 0 (pscl D.p D.k (D.p - 1) x), 1]
theorem linF_is {D : FD} (hk : PK D.p D.k D.m) (x : Nat) : linF D x = [pscl D.p D.k (D.p - 1) x, 1] := by
 unfold linF
 rw [padd_comm hk, padd_zero hk _ (pscl_lt hk _ _)]
theorem prod_thV {D : FD} (hk : PK D.p D.k D.m) (xs : List Nat) : ∀ i, i <= xs.length -> prodF D (xs.map (linF D)) i = thV D xs i
 | 0, _ => rfl
 | i + 1, hi => by
   show mulL D (prodF D (xs.map (linF D)) i) ((xs.map (linF D))[i]?.getD []) = mulL D (thV D xs i) [pscl D.p D.k (D.p - 1) (xs[i]?.getD 0), 1]
   rw [prod_thV hk xs i (by omega), List.getElem?_map, List.getElem?_eq_getElem (by omega)]
   show mulL D _ (linF D xs[i]) = mulL D _ [pscl D.p D.k (D.p - 1) xs[i], 1]
   rw [linF_is hk]
theorem linF_lt {D : FD} (hk : PK D.p D.k D.m) (x : Nat) : ∀ a ∈ linF D x, a < D.p ^ D.k := by
 rw [linF_is hk]
 exact lin_lt hk x
theorem thV_tz {D : FD} (hD : D.Ok) {xs : List Nat} {n : Nat} (hn : n <= xs.length) : Tz (thV D xs n) := by
 have hk := hD.pre.pk
 rw [<- prod_thV hk xs n hn]
 exact prodF_tz hD (fun l hl => by obtain ⟨x, _, rfl⟩ := List.mem_map.1 hl; exact linF_lt hk x) (fun l hl => by obtain ⟨x, _, rfl⟩ := List.mem_map.1 hl; exact .inr (by simp [linF])) n (by simpa using hn)
end FFld
theorem crow_mine {E : TypeId} {K : IntKind} {w : World} {g B n : Nat} {xs : List Int} (h : Row E K w g xs) (hn : n = xs.length) (hm : n <= maxLen) (hB : B <= g) : Mine E K B w (.slice (some ⟨g, 0, none⟩) n n) xs := by
 subst hn
 refine .inr ⟨g, _, _, rfl, hB, h, Nat.le_refl _, by simp, hm, ?_⟩
 simp only [List.toList_toArray]
 exact List.take_of_length_le (by simp)
set_option maxRecDepth 20000 in
theorem cvanish_any {D : FFld.FD} {b : Nat} (hD : D.Ok) (ax : Option Addr) (cx : Nat) (xs : List Nat) (w : World) (hf : FldB D w b) (h : Sl .i64 w (.slice ax xs.length cx) (ints xs)) (hxq : ∀ a ∈ xs, a < D.p ^ D.k) (hl : xs.length <= 100) :
 Calls Tryz.prog 163 #[.pointer (some ⟨b, 0, none⟩), .slice ax xs.length cx] w (fun e w' => Below w.heap.size w w' /\ ∃ v, e = .returned v /\ Sl .i64 w' v (ints (FFld.thV D xs xs.length))) := by
 have hq6 : D.p ^ D.k <= 65536 := hD.pre.small
 have hk := hD.pre.pk
 have HSB := Kept.mk (fun (W : World) (hW : Below w.heap.size w W) (x : Nat) (hx : x < D.p ^ D.k) => fsub_any (0 : Int) (x : Int) W (hf.below hW) (by omega) (by omega) (by omega) (by omega) 0 x (by simp) (md_nat hx) (Nat.pow_pos hk.p0) hx)
 have HPL : ∀ i, i <= (xs.map (FFld.linF D)).length -> (FFld.prodF D (xs.map (FFld.linF D)) i).length <= 200 := fun i hi => by
  have hi' : i <= xs.length := by simpa using hi
  rw [FFld.prod_thV hk xs i hi', FFld.thV_len]
  omega
 have HPR := Kept.mk (fun (W : World) (hW : Below w.heap.size w W) (af : Option Addr) (cf : Nat) (hs : Sls W af ((xs.map (FFld.linF D)).map ints)) (h1 : xs.length <= cf) (h2 : cf <= maxLen) => cproduct_any hD af cf (xs.map (FFld.linF D)) W (hf.below hW) hs (by simpa using h1) h2 (fun l hl => by obtain ⟨x, _, rfl⟩ := List.mem_map.1 hl; exact FFld.linF_lt hk x) (fun l hl => by obtain ⟨x, _, rfl⟩ := List.mem_map.1 hl; exact .inr (by simp [FFld.linF])) (fun l hl => by obtain ⟨x, _, rfl⟩ := List.mem_map.1 hl; simp [FFld.linF]) (HPL) (by simp; omega))
 have HPV : Kept (FFld.prodF D (xs.map (FFld.linF D)) (xs.map (FFld.linF D)).length = FFld.thV D xs xs.length) := ⟨by rw [List.length_map]; exact FFld.prod_thV hk xs _ (Nat.le_refl _)⟩
 have HXS := Kept.mk h
 have HXQ := Kept.mk hxq
 rw [HPV.out] at HPR
 simp only [List.length_map] at HPR
 obtain ⟨n, hn⟩ : ∃ n, xs.length = n := ⟨_, rfl⟩
 rw [hn] at HPR HXS hl ⊢
 have HN := Kept.mk hn
 have HPK := Kept.mk hk
 clear hf h hxq hn hk HPL
 go_enter Tryz.func163, Tryz.ntmps163
 go_wp2
 go_loopw [5, 10] (fun ov iv wr => ∃ (i : Nat) (L : List (Value × List Int)) (ov0 : Option Addr) (oc : Nat), i <= n /\ iv = .int .i64 i /\ ov = .slice ov0 i oc /\ L.length = i /\ Kept (L.map (·.2) = ((xs.take i).map (FFld.linF D)).map ints) /\ Kept (Rws w.heap.size wr (.slice ov0 i oc) L) /\ Kept (Below w.heap.size w wr)) (fun _ iv _ => n - (intOf iv).toNat)
 case atStart => exact ⟨0, [], none, 0, Nat.zero_le _, rfl, rfl, rfl, ⟨rfl⟩, ⟨Rws.nil _ _⟩, ⟨Below.refl _ _⟩⟩
 case round =>
  obtain ⟨i, L, ov0, oc, hin, rfl, rfl, hll, HL, hrw, hbw⟩ := hrel
  by_cases hlt : i < n
  ·obtain ⟨ax', cx', e, hcx, hmx, hcc⟩ := HXS.out.below hbw.out
   simp only [Value.slice.injEq] at e
   obtain ⟨rfl, e2, rfl⟩ := e
   clear e2
   obtain ⟨bx, ox, rfl, hbx, hcell⟩ := hcc i (by rw [FFld.ints_len, HN.out]; exact hlt)
   rw [FFld.ints_get] at hcell
   rw [FFld.ints_len, HN.out] at hcx
   have hxlt := FFld.getD_lt (Nat.pow_pos HPK.out.p0) HXQ.out i
   have HT : Kept (((xs.take (i + 1)).map (FFld.linF D)).map ints = L.map (·.2) ++ [ints (FFld.linF D (xs[i]?.getD 0))]) := ⟨by rw [HL.out, map_take_next' (d := 0) (by rw [HN.out]; exact hlt), List.map_append]; rfl⟩
   obtain ⟨x, hx⟩ : ∃ x, xs[i]?.getD 0 = x := ⟨_, rfl⟩
   rw [hx] at hcell hxlt HT
   have HC := Kept.mk (HSB.out wr hbw.out x hxlt)
   have HLE : Kept (ints (FFld.linF D x) = [((FFld.padd D.p D.k 0 (FFld.pscl D.p D.k (D.p - 1) x) : Nat) : Int), 1]) := ⟨rfl⟩
   obtain ⟨y, hy⟩ : ∃ y, FFld.padd D.p D.k 0 (FFld.pscl D.p D.k (D.p - 1) x) = y := ⟨_, rfl⟩
   rw [hy] at HC HLE
   rw [HLE.out] at HT
   clear hx hy hcc hxlt
   go_wp2_with fail
   refine HC.out.mono ?_
   rintro e w3 ⟨hb3, rfl⟩
   have HB3 := Kept.mk (bstep hbw.out hb3)
   have hsz := hbw.out.size
   have hsz3 := hb3.size
   have hal : Below w3.heap.size w3 (w3.alloc (.cells #[.int .i64 (y : Nat), .int .i64 1] 3)) := (Below.refl _ _).alloc (Nat.le_refl _) _
   have hrow : Mine 3 .i64 w.heap.size (w3.alloc (.cells #[.int .i64 (y : Nat), .int .i64 1] 3)) (.slice (some ⟨w3.heap.size, 0, none⟩) 2 2) [((y : Nat) : Int), 1] := crow_mine (Row.new w3 [((y : Nat) : Int), 1]) rfl (by decide) (by omega)
   have HW4 := Kept.mk ((hrw.out.below hb3).below hal)
   have HB4 := Kept.mk (bstep HB3.out hal)
   have HM4 := Kept.mk hrow
   have HNE : Kept (∀ k, (Value.slice (some ⟨w3.heap.size, 0, none⟩) 2 2).ownBlock = some k -> (Value.slice ov0 i oc).ownBlock ≠ some k) := ⟨fun k hk e => by
    have h2 := (hrw.out.own.own k e).2
    simp [Value.ownBlock] at hk
    omega⟩
   have hal5 : Below (w3.alloc (.cells #[.int .i64 (y : Nat), .int .i64 1] 3)).heap.size (w3.alloc (.cells #[.int .i64 (y : Nat), .int .i64 1] 3)) ((w3.alloc (.cells #[.int .i64 (y : Nat), .int .i64 1] 3)).alloc (.cells #[.slice (some ⟨w3.heap.size, 0, none⟩) 2 2] 22)) := (Below.refl _ _).alloc (Nat.le_refl _) _
   have HW5 := Kept.mk (HW4.out.below hal5)
   have HB5 := Kept.mk (bstep HB4.out hal5)
   have HM5 := Kept.mk (HM4.out.below hal5)
   have HON := Kept.mk HW5.out.own
   have HNW : Kept (∀ j u, ([Value.slice (some ⟨w3.heap.size, 0, none⟩) 2 2])[j]? = some u -> ((w3.alloc (.cells #[.int .i64 (y : Nat), .int .i64 1] 3)).alloc (.cells #[.slice (some ⟨w3.heap.size, 0, none⟩) 2 2] 22)).cell? ((⟨w3.heap.size + 1, 0, none⟩ : Addr).add j) = some u) := ⟨by
    have h := rows_one (W := (w3.alloc (.cells #[.int .i64 (y : Nat), .int .i64 1] 3))) (rv := (.slice (some ⟨w3.heap.size, 0, none⟩) 2 2))
    have e : (w3.alloc (.cells #[.int .i64 (y : Nat), .int .i64 1] 3)).heap.size = w3.heap.size + 1 := by simp
    rw [e] at h
    exact h⟩
   have H0 := Kept.mk HM4.out.one
   have H1 : Kept ((L.map (·.1)).length = i) := ⟨by rw [List.length_map, hll]⟩
   have HBB : Kept (w.heap.size <= ((w3.alloc (.cells #[.int .i64 (y : Nat), .int .i64 1] 3)).alloc (.cells #[.slice (some ⟨w3.heap.size, 0, none⟩) 2 2] 22)).heap.size) := ⟨by simp; omega⟩
   clear hb3 hal hal5 hrow HW4 hcell hbw hrw HM4
   go_wp2_with (at_builtin; refine wpList_append_w _ rfl _ _ 39 (by rfl) 22 (.slice none 0 0) 24 Tryz.underlying39 info_rows (by rfl) w.heap.size (.slice ov0 i oc) (L.map (·.1)) (by rfl) HON.out HBB.out ⟨w3.heap.size + 1, 0, none⟩ 1 (.slice (some ⟨w3.heap.size, 0, none⟩) 2 2) (by rfl) HNW.out H0.out i H1.out (by omega) (by omega) ?_)
   intro v' w5 ho5 hg5 hv5
   have HR6 := Kept.mk (HW5.out.push HM5.out HNE.out ho5 hg5 (by simpa using hv5))
   have hown := HON.out.own
   have HB6 := Kept.mk (HB5.out.grown hg5 HBB.out (fun j hj => (hown j hj).1))
   obtain ⟨ao', cap', hv', _, _⟩ := HR6.out.sls
   clear ho5 hg5 hv5 hown
   go_wp2
   go_roundw
   case rel => exact ⟨i + 1, L ++ [(.slice (some ⟨w3.heap.size, 0, none⟩) 2 2, [((y : Nat) : Int), 1])], ao', cap', by omega, by go_num, by rw [hv']; simp [hll], by simp [hll], ⟨by rw [HT.out, List.map_append]; rfl⟩, by rw [hv'] at HR6; simpa [hll] using HR6, HB6⟩
   case measure => simp [intOf] <;> omega
  ·obtain rfl : i = n := by omega
   obtain ⟨ao', cap', hv', h1, h2, hs⟩ := hrw.out.sls
   have e3 : L.map (·.2) = (xs.map (FFld.linF D)).map ints := by rw [HL.out, List.take_of_length_le (by rw [HN.out]; exact Nat.le_refl _)]
   rw [e3] at hs
   rw [hll] at hv' h1
   simp only [Value.slice.injEq] at hv'
   obtain ⟨rfl, _, rfl⟩ := hv'
   have HC := Kept.mk (HPR.out wr hbw.out _ _ hs h1 h2)
   clear hs h1 h2 e3
   go_wp2_with fail
   refine HC.out.mono ?_
   rintro e w2 ⟨hb2, v2, rfl, hs2⟩
   have HB2 := Kept.mk (bstep hbw.out hb2)
   have HS2 := Kept.mk hs2
   clear hb2 hs2
   go_wp2
   go_ret
   exact ⟨HB2.out, _, rfl, HS2.out⟩
end Go.Proofs.YtdnheaafcbihbaaGreat
namespace Go.Proofs.YtdnheaafcbihbaaGreat
open Go Go.RowKit
open FFld (ints)
set_option maxRecDepth 20000 in
theorem multiply_new {D : FFld.FD} {b : Nat} (hD : D.Ok) (vp vq : Value) (pl ql : List Nat) (w : World) (hf : FldB D w b) (hp : Sl .i64 w vp (ints pl)) (hq : Sl .i64 w vq (ints ql)) (hpq : ∀ a ∈ pl, a < D.p ^ D.k) (hqq : ∀ a ∈ ql, a < D.p ^ D.k) (hpl : pl.length <= 100000) (hqll : ql.length <= 100000) (h0 : ¬ (pl.length = 0 \/ ql.length = 0)) :
 Calls Tryz.prog 153 #[.pointer (some ⟨b, 0, none⟩), vp, vq] w (fun e w' => Below w.heap.size w w' /\ e = .returned (.slice (some ⟨w.heap.size, 0, none⟩) (FFld.mulL D pl ql).length (FFld.mulL D pl ql).length) /\ Wv w' w.heap.size (FFld.mulL D pl ql)) := by
 obtain ⟨ap, cp, rfl, hcp, hmp⟩ := hp.form
 obtain ⟨aq, cq, rfl, hcq, hmq⟩ := hq.form
 rw [FFld.ints_len] at hcp hcq
 have HPS := Kept.mk hp
 have HQS := Kept.mk hq
 have HF := Kept.mk hf
 have HPQ := Kept.mk hpq
 have HQQ := Kept.mk hqq
 clear hp hq hf hpq hqq
 rw [FFld.ints_len, FFld.ints_len] at *
 ·have hL : FFld.mulL D pl ql = FFld.mulF D pl ql pl.length := by unfold FFld.mulL; rw [if_neg h0]
  rw [hL]
  have e1 : ((pl.length : Int) == 0) = false := by rw [beq_eq_false_iff_ne]; omega
  have e2 : ((ql.length : Int) == 0) = false := by rw [beq_eq_false_iff_ne]; omega
  obtain ⟨n, hn⟩ : ∃ n, pl.length + ql.length - 1 = n := ⟨_, rfl⟩
  have en : (pl.length : Int) + ql.length - 1 = n := by omega
  have HN : Kept (∀ i, (FFld.mulF D pl ql i).length = n) := ⟨fun i => by rw [FFld.mulF_len, hn]⟩
  have hlen : pl.length + ql.length = n + 1 := by omega
  have hn6 : n <= 200000 := by omega
  rw [FFld.mulF_len, hn]
  have HZ : Kept (FFld.mulF D pl ql 0 = List.replicate n 0) := ⟨by simp only [FFld.mulF]; rw [hn]⟩
  obtain ⟨np, hnp⟩ : ∃ np, pl.length = np := ⟨_, rfl⟩
  obtain ⟨nq, hnq⟩ : ∃ nq, ql.length = nq := ⟨_, rfl⟩
  have HNP := Kept.mk hnp
  have HNQ := Kept.mk hnq
  have HCP := Kept.mk (HPS.out.cells (Nat.le_refl _))
  rw [hnp] at hcp hpl e1 en hlen h0 ⊢
  rw [hnq] at hcq hqll e2 en hlen h0
  rw [hnq]
  clear hL hn hnp hnq
  go_enter Tryz.func153, Tryz.ntmps153
  go_wp2_with (at_make; refine wpList_make_zeros _ rfl _ _ 22 rfl 3 .i64 Tryz.underlying22 info_i64 _ _ n rfl rfl (by omega) (by omega) (by omega) ?_)
  intro w3 hrow hbel
  rw [FFld.ints_rep] at hrow
  have HW3 := Kept.mk hrow.wv
  have HB3 := Kept.mk hbel
  clear hrow hbel
  go_wp2
  go_loopw [27] (fun iv wr => ∃ i : Nat, i <= np /\ iv = .int .i64 i /\ Kept (Wv wr w.heap.size (FFld.mulF D pl ql i)) /\ Kept (Below w.heap.size w wr)) (fun iv _ => np - (intOf iv).toNat)
  case atStart => exact ⟨0, Nat.zero_le _, rfl, ⟨by rw [HZ.out]; exact HW3.out⟩, HB3⟩
  case round =>
   obtain ⟨i, hi, rfl, hwv, hbl⟩ := hrel
   by_cases hlt : i < np
   ·obtain ⟨bp, op, rfl, hcell⟩ := HCP.out _ hbl.out i (by rw [HNP.out]; exact hlt)
    obtain ⟨c, hc⟩ : ∃ c, pl[i]?.getD 0 = c := ⟨_, rfl⟩
    have hcq2 : c < D.p ^ D.k := by rw [<- hc]; exact FFld.getD_lt (Nat.pow_pos hD.pre.pk.p0) HPQ.out i
    rw [hc] at hcell
    obtain ⟨R, hR⟩ : ∃ R, FFld.mulF D pl ql i = R := ⟨_, rfl⟩
    have hRl : R.length = n := by rw [<- hR]; exact HN.out i
    have HRQ : Kept (∀ a ∈ R, a < D.p ^ D.k) := ⟨by rw [<- hR]; exact FFld.mulF_lt hD.pre.pk pl ql i⟩
    have HNX : Kept (FFld.mulF D pl ql (i + 1) = FFld.addm D R i ql c) := ⟨by simp only [FFld.mulF]; rw [hR, hc]⟩
    rw [hR] at hwv
    have hAm := Kept.mk (fun (n' cc : Nat) (hn' : ql.length <= n') => addMultiple_any (s := i) (n := n') (cc := cc) (cap := cq) w wr HF.out hbl.out (Nat.le_refl _) R hwv.out HRQ.out ql (HQS.out.qc hbl.out (Nat.le_refl _)) HQQ.out (by rw [hRl, HNQ.out]; omega) hn' c hcq2 (by rw [HNQ.out]; omega))
    rw [HNQ.out] at hAm
    have hs1 : (i : Int) <= (n : Int) := by omega
    have hs2 : i <= n := by omega
    have hs3 : (0 : Int) <= (i : Int) := by omega
    have hs6 : ((i : Int) < 0) = False := by simp
    clear hc hR hcq2
    go_wp2_with fail
    refine (hAm.out _ _ (by omega)).mono ?_
    rintro e w7 ⟨rfl, hg7, hw7⟩
    have HW7 := Kept.mk hw7
    have HB7 := Kept.mk (belowGrow hg7 hbl.out (Nat.le_refl _))
    clear hg7 hw7 hAm
    go_wp2
    go_roundw
    case rel => exact ⟨i + 1, by omega, by go_num, ⟨by rw [HNX.out]; exact HW7.out⟩, HB7⟩
    case measure => simp [intOf] <;> omega
   ·obtain rfl : i = np := by omega
    have HS := Kept.mk (hwv.out.sl (n := n) (c := n) (HN.out i).symm (Nat.le_refl _) (by unfold maxLen; omega))
    go_wp2
    go_ret
    exact ⟨hbl.out, rfl, hwv.out⟩
end Go.Proofs.YtdnheaafcbihbaaGreat
namespace Go.Proofs.YtdnheaafcbihbaaGreat
open Go Go.RowKit Go.Deep
open FFld (ints)

def minF (D : FFld.FD) (h : FFld.PK D.p D.k D.m) (a : Nat) : Nat -> List Nat
 | 0 => [1]
 | i + 1 => FFld.mulL D (minF D h a i) [FFld.pscl D.p D.k (D.p - 1) (cjg h a i), 1]
def MinT {D : FFld.FD} (h : FFld.PK D.p D.k D.m) (a t : Nat) : Prop := 1 <= t /\ t <= D.k /\ (∀ i, 0 < i -> i < t -> cjg h a i ≠ a) /\ (t < D.k -> cjg h a t = a)
theorem two_sl (W : World) (x y : Int) : Sl .i64 (W.alloc (.cells #[.int .i64 x, .int .i64 y] 3)) (.slice (some ⟨W.heap.size, 0, none⟩) 2 2) [x, y] := by
 refine ⟨_, 2, rfl, Nat.le_refl _, by unfold maxLen; omega, fun i hi => ⟨W.heap.size, 0, rfl, by simp, ?_⟩⟩
 rw [Nat.zero_add]
 exact (Row.new (E := 3) (K := .i64) W [x, y]).cell (i := i) hi
end Go.Proofs.YtdnheaafcbihbaaGreat
