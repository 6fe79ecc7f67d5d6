/-
  Texts of the proof, merged by program: Csh Csi Csj Rcv Cqu Cnp Apd.
-/
import Derived.Test.YtdnheaafcbihbaaGreatTq19
set_option linter.unusedSimpArgs false
set_option linter.unusedVariables false
set_option maxHeartbeats 16000000
namespace Go.Proofs.YtdnheaafcbihbaaGreat
open Go Go.RowKit Go.Deep
open FFld (ints)
theorem live_lt {w : World} {v : Value} {xs : List Int} (h : Sl .i64 w v xs) {k : Nat} (hk : live v = some k) : k < w.heap.size := by
 obtain ⟨ao, cap, rfl, hc, hm, hx⟩ := h
 by_cases h0 : 0 < xs.length
 ·obtain ⟨b, o, rfl, hb, _⟩ := hx 0 h0
  have := live_own hk
  simp [Value.ownBlock] at this
  omega
 ·have : xs.length = 0 := by omega
  rw [this] at hk
  cases ao <;> simp [live] at hk
theorem CapAt.lt {b g : Nat} {oa : Option Addr} {on oc last : Nat} {since : Int} {w : World} (h : CapAt b g oa on oc last since w) : g + 3 < w.heap.size := (Array.getElem?_eq_some_iff.1 h.since).1
theorem CapAt.kept {b g : Nat} {oa : Option Addr} {on oc last : Nat} {since : Int} {w w' : World} {row : Option Nat} (h : CapAt b g oa on oc last since w) (hg : w.grownBy w' row) (hne : ∀ k, row = some k -> ¬ (g <= k /\ k <= g + 3)) : CapAt b g oa on oc last since w' := by
 have hl := h.lt
 have key : ∀ j, j <= 3 -> w'.heap[g + j]? = w.heap[g + j]? := fun j hj => hg.block _ (by omega) (fun e => hne (g + j) e.symm (by omega))
 exact ⟨(key 0 (by omega)).trans h.f, (key 1 (by omega)).trans h.old, (key 2 (by omega)).trans h.last, (key 3 (by omega)).trans h.since⟩
structure BmAt (b B g : Nat) (pv rv : Value) (oa : Option Addr) (oc : Nat) (st : FFld.Bm) (w : World) : Prop where
 prof : Mine 3 .i64 B w pv (ints st.prof)
 reg : Sl .i64 w rv (ints st.reg)
 old : Sl .i64 w (.slice oa st.old.length oc) (ints st.old)
 cap : CapAt b g oa st.old.length oc st.last st.since w
 lo : B <= g
 n1 : ∀ k, pv.ownBlock = some k -> live rv ≠ some k /\ live (.slice oa st.old.length oc) ≠ some k /\ ¬ (g <= k /\ k <= g + 3)
theorem BmAt.below {b B g : Nat} {pv rv : Value} {oa : Option Addr} {oc : Nat} {st : FFld.Bm} {w w' : World} (h : BmAt b B g pv rv oa oc st w) (hb : Below w.heap.size w w') : BmAt b B g pv rv oa oc st w' :=
 ⟨h.prof.below hb, h.reg.below hb, h.old.below hb, h.cap.below hb, h.lo, h.n1⟩
theorem BmAt.push {b B g : Nat} {pv pv' rv : Value} {oa : Option Addr} {oc x : Nat} {st : FFld.Bm} {w w' : World} (h : BmAt b B g pv rv oa oc st w) (hm : Mine 3 .i64 B w' pv' (ints (st.prof ++ [x]))) (hg : w.grownBy w' pv.ownBlock) (hn : pv'.ownBlock = pv.ownBlock \/ Frm w.heap.size pv') :
 BmAt b B g pv' rv oa oc ⟨st.reg, st.len, st.old, st.last, st.since, st.prof ++ [x]⟩ w' := by
 refine ⟨hm, h.reg.kept hg fun k hk e => (h.n1 k e).1 hk, h.old.kept hg fun k hk e => (h.n1 k e).2.1 hk, h.cap.kept hg fun k e => (h.n1 k e).2.2, h.lo, fun k hk => ?_⟩
 rcases hn with e | e
 ·exact h.n1 k (e ▸ hk)
 ·have h1 := e k hk
  refine ⟨fun hl => ?_, fun hl => ?_, fun hl => ?_⟩
  ·have := live_lt h.reg hl
   omega
  ·have := live_lt h.old hl
   omega
  ·have := h.cap.lt
   omega
theorem BmAt.turn {b B g : Nat} {pv rv rv' : Value} {oa : Option Addr} {oc : Nat} {st : FFld.Bm} {rl : List Nat} {w w' : World} (h : BmAt b B g pv rv oa oc st w) (hb : Below w.heap.size w w') (hs : Sl .i64 w' rv' (ints rl)) (hf : ∀ k, live rv' = some k -> w.heap.size <= k) :
 BmAt b B g pv rv' oa oc ⟨rl, st.len, st.old, st.last, st.since, st.prof⟩ w' :=
 ⟨h.prof.below hb, hs, h.old.below hb, h.cap.below hb, h.lo, fun k hk => ⟨fun hl => (by have := hf k hl; have := (h.prof.own k hk).2; omega), (h.n1 k hk).2⟩⟩
theorem BmAt.swap {b B g : Nat} {pv rv : Value} {oa ra : Option Addr} {oc rc d : Nat} {i : Int} {st st0 : FFld.Bm} {L : Nat} {w0 w w' : World} (h0 : BmAt b B g pv (.slice ra st0.reg.length rc) oa oc st0 w0) (h : BmAt b B g pv rv oa oc st w) (hb0 : Below w0.heap.size w0 w) (hb : Below w.heap.size w w') (hB : B <= w.heap.size) (hc : CapAt b w.heap.size ra st0.reg.length rc d i w') :
 BmAt b B w.heap.size pv rv ra rc ⟨st.reg, L, st0.reg, d, i, st.prof⟩ w' :=
 ⟨h.prof.below hb, h.reg.below hb, (h0.reg.below hb0).below hb, hc, hB, fun k hk => ⟨(h.n1 k hk).1, (h0.n1 k hk).1, fun hl => (by have := (h.prof.own k hk).2; omega)⟩⟩
theorem wv_drop {w : World} {g m : Nat} {l : List Nat} (h : Wv w g l) (hl : l.length = m + 1) (hm : m <= 1000) : Sl .i64 w (.slice (some ⟨g, 1, none⟩) m m) (ints (l.drop 1)) := by
 have e : (ints (l.drop 1)).length = m := by rw [FFld.ints_len, List.length_drop]; omega
 refine ⟨_, m, by rw [e], by rw [e]; exact Nat.le_refl _, by unfold maxLen; omega, fun i hi => ⟨g, 1, rfl, h.lt, ?_⟩⟩
 rw [e] at hi
 have hc := h.cell (i := 1 + i) (by omega)
 rw [hc, FFld.ints_get, List.getElem?_drop]
set_option maxRecDepth 20000 in
theorem cshort_any {D : FFld.FD} {b : Nat} (hD : D.Ok) (as_ : Option Addr) (cs n : Nat) (sl : List Nat) (w : World) (hf : FldB D w b) (hs : Sl .i64 w (.slice as_ n cs) (ints sl)) (hn : sl.length = n) (hsq : ∀ a ∈ sl, a < D.p ^ D.k) (hn2 : n <= 200) :
 Calls Tryz.prog 127 #[.pointer (some ⟨b, 0, none⟩), .slice as_ n cs] w (fun e w' => Below w.heap.size w w' /\ ∃ vt vp, e = .returned (.tuple #[vt, vp]) /\ Sl .i64 w' vt (ints ((FFld.padF (FFld.bmF D hD.pre.pk sl n).reg ((FFld.bmF D hD.pre.pk sl n).len + 1)).drop 1)) /\ Sl .i64 w' vp (ints (FFld.bmF D hD.pre.pk sl n).prof)) := by
 have hq6 : D.p ^ D.k <= 65536 := hD.pre.small
 have HOK := Kept.mk (FFld.bm_ok hD.pre.pk sl)
 have HDF := Kept.mk (fun (W : World) (hW : Below w.heap.size w W) (ra : Option Addr) (rc i : Nat) (rl : List Nat) (h : Sl .i64 W (.slice ra rl.length rc) (ints rl)) (hq : ∀ a ∈ rl, a < D.p ^ D.k) (h1 : rl.length <= i + 1) (h2 : i < sl.length) => cdifference_any hD ra as_ rc cs i rl sl W (hf.below hW) h (by rw [hn]; exact hs.below hW) hq hsq h1 h2 (by omega))
 rw [hn] at HDF
 have HC1 := Kept.mk (fun (W : World) (hW : Below w.heap.size w W) (g : Nat) (ra oa : Option Addr) (rc on oc last df sh : Nat) (since at_ : Int) (rl ol : List Nat) => ccorr1_any (D := D) (b := b) (g := g) hD ra oa rc on oc last df sh since at_ rl ol W (hf.below hW))
 have HCO := Kept.mk (fun (W : World) (oa : Option Addr) (on oc last : Nat) (since : Int) => ccorr_any b oa on oc last since W)
 have HC0 : Kept (∀ W oa, Calls Tryz.prog 189 #[.pointer (some ⟨b, 0, none⟩), .slice oa 1 1, .int .i64 1, .int .i64 (-1)] W (fun e w' => Below W.heap.size W w' /\ e = .returned (cofn W.heap.size) /\ CapAt b W.heap.size oa 1 1 1 (-1) w')) := ⟨fun W oa => ccorr_any b oa 1 1 1 (-1) W⟩
 have hal1 : Below w.heap.size w (w.alloc (.cells #[.int .i64 1] 3)) := (Below.refl _ _).alloc (Nat.le_refl _) _
 have hal2 : Below w.heap.size w ((w.alloc (.cells #[.int .i64 1] 3)).alloc (.cells #[.int .i64 1] 3)) := hal1.alloc (by simp) _
 have hr0 : Sl .i64 ((w.alloc (.cells #[.int .i64 1] 3)).alloc (.cells #[.int .i64 1] 3)) (.slice (some ⟨w.heap.size, 0, none⟩) 1 1) (ints [1]) := (cone_sl w 1).below ((Below.refl _ _).alloc (Nat.le_refl _) _)
 have ho0 : Sl .i64 ((w.alloc (.cells #[.int .i64 1] 3)).alloc (.cells #[.int .i64 1] 3)) (.slice (some ⟨w.heap.size + 1, 0, none⟩) 1 1) (ints [1]) := by
  have h := cone_sl (w.alloc (.cells #[.int .i64 1] 3)) 1
  have e : (w.alloc (.cells #[.int .i64 1] 3)).heap.size = w.heap.size + 1 := by simp
  rw [e] at h
  exact h
 have HR0 := Kept.mk hr0
 have HO0 := Kept.mk ho0
 have HAL := Kept.mk hal2
 have hs2 : ((w.alloc (.cells #[.int .i64 1] 3)).alloc (.cells #[.int .i64 1] 3)).heap.size = w.heap.size + 2 := by simp
 clear hf hs hsq hal1 hal2 hr0 ho0
 have HN := Kept.mk hn
 clear hn
 go_enter Tryz.func127, Tryz.ntmps127
 go_wp2_with fail
 (with_reducible refine (HC0.out _ _).mono ?_)
 rintro e w1 ⟨hb1, rfl, hcap⟩
 have HB1 := Kept.mk (bstep HAL.out hb1)
 have HAT1 : Kept (BmAt b w.heap.size ((w.alloc (.cells #[.int .i64 1] 3)).alloc (.cells #[.int .i64 1] 3)).heap.size (.slice none 0 0) (.slice (some ⟨w.heap.size, 0, none⟩) 1 1) (some ⟨w.heap.size + 1, 0, none⟩) 1 ⟨[1], 0, [1], 1, -1, []⟩ w1) := ⟨⟨Mine.nil _ _ _ _, HR0.out.below hb1, HO0.out.below hb1, hcap, by rw [hs2]; omega, fun k hk => (by simp [Value.ownBlock] at hk)⟩⟩
 rw [hs2] at HAT1
 clear hb1 hcap HR0 HO0 HAL HC0
 go_wp2
 go_loopw [5, 6, 7, 8, 18] (fun pv rv lv cv iv wr => ∃ (i g rn L : Nat) (st : FFld.Bm) (ra oa : Option Addr) (rc oc : Nat), i <= n /\ iv = .int .i64 i /\ lv = .int .i64 L /\ cv = cofn g /\ rv = .slice ra rn rc /\ Kept (FFld.bmF D hD.pre.pk sl i = st) /\ Kept (st.reg.length = rn /\ st.len = L) /\ Kept (BmAt b w.heap.size g pv (.slice ra rn rc) oa oc st wr) /\ Kept (Below w.heap.size w wr)) (fun _ _ _ _ iv _ => n - (intOf iv).toNat)
 case atStart => exact ⟨0, _, 1, 0, ⟨[1], 0, [1], 1, -1, []⟩, _, _, 1, 1, Nat.zero_le _, rfl, rfl, rfl, rfl, ⟨rfl⟩, ⟨rfl, rfl⟩, HAT1, HB1⟩
 case round =>
  clear HAT1 HB1
  obtain ⟨i, g, rn, L, st, ra, oa, rc, oc, hin, rfl, rfl, rfl, rfl, hst, hlen, hat, hbw⟩ := hrel
  have hok := HOK.out i
  rw [hst.out] at hok
  obtain ⟨pa, pc, rfl, _, _⟩ := hat.out.prof.sl.form
  have HPLN : Kept (st.prof.length = i) := ⟨hok.pl⟩
  rw [FFld.ints_len, HPLN.out] at hat
  try rw [FFld.ints_len, HPLN.out]
  have hL : L <= i := by have := hok.li; have := hlen.out.2; omega
  have HOKI := Kept.mk hok
  have hrl : rn <= L + 1 := by have := hok.rl; have := hlen.out; omega
  clear hok
  by_cases hlt : i < n
  ·have HNX : Kept (FFld.bmF D hD.pre.pk sl (i + 1) = FFld.bmStep D hD.pre.pk sl i st) := ⟨by show FFld.bmStep D hD.pre.pk sl i (FFld.bmF D hD.pre.pk sl i) = _; rw [hst.out]⟩
   have hdf := HDF.out wr hbw.out ra rc i st.reg (by rw [hlen.out.1]; exact hat.out.reg) HOKI.out.rq (by rw [hlen.out.1]; omega) hlt
   obtain ⟨d, hd⟩ : ∃ d, FFld.bmD D sl i st = d := ⟨_, rfl⟩
   have hdq : d < D.p ^ D.k := by rw [<- hd]; exact FFld.difF_lt hD.pre.pk _ _ _ _
   have hd' : FFld.difF D st.reg sl i st.reg.length = d := hd
   rw [hd', hlen.out.1] at hdf
   have HDFI := Kept.mk hdf
   have HDD := Kept.mk hd
   clear hdf hd hd'
   go_wp2_with fail
   (with_reducible refine HDFI.out.mono ?_)
   rintro e w2 ⟨hb2, rfl⟩
   have HAT2 := Kept.mk (hat.out.below hb2)
   have HB2 := Kept.mk (bstep hbw.out hb2)
   clear hb2 hat hbw HDFI
   by_cases h0 : d = 0
   ·subst h0
    have HST : Kept (FFld.bmF D hD.pre.pk sl (i + 1) = ⟨st.reg, st.len, st.old, st.last, st.since, st.prof ++ [L]⟩) := ⟨by rw [HNX.out]; unfold FFld.bmStep; rw [if_pos HDD.out, hlen.out.2]⟩
    have HM3 := Kept.mk (HAT2.out.prof.alloc (.cells #[.int .i64 (L : Nat)] 3))
    have HNW := Kept.mk (new_one (K := .i64) (x := ((L : Nat) : Int)) (w := w2.alloc (.cells #[.int .i64 (L : Nat)] 3)) (b := w2.heap.size) (o := 0) (by exact (Row.new (E := 3) (K := .i64) w2 [((L : Nat) : Int)]).cell (i := 0) (by simp)))
    have hsz := HB2.out.size
    have HBB := Kept.mk (show w.heap.size <= (w2.alloc (.cells #[.int .i64 (L : Nat)] 3)).heap.size by simp; omega)
    have HBQ := Kept.mk (HB2.out.alloc hsz (.cells #[.int .i64 (L : Nat)] 3))
    have HOW := Kept.mk HM3.out.own
    have HATA := Kept.mk (HAT2.out.below ((Below.refl w2.heap.size w2).alloc (Nat.le_refl _) (.cells #[.int .i64 (L : Nat)] 3)))
    have H1 := Kept.mk (show ((ints (st).prof).length + [((L : Nat) : Int)].length) * 8 <= 140737488355328 by rw [FFld.ints_len, HPLN.out]; simp; omega)
    have H2 := Kept.mk (show (ints (st).prof).length + [((L : Nat) : Int)].length <= maxLen by rw [FFld.ints_len, HPLN.out]; unfold maxLen; simp; omega)
    go_wp2_with (at_builtin; refine wpList_append_mine _ rfl _ _ 22 (by rfl) 3 .i64 8 Tryz.underlying22 info_i64 w.heap.size (.slice pa i pc) (ints (st).prof) (by rfl) HM3.out HBB.out ⟨w2.heap.size, 0, none⟩ 1 1 [((L : Nat) : Int)] (by rfl) rfl HNW.out H1.out H2.out ?_)
    intro v' w9 hm9 hg9 hn9
    have eSZ : (w2.alloc (.cells #[.int .i64 (L : Nat)] 3)).heap.size = w2.heap.size + 1 := by simp
    have HAT9 := Kept.mk (HATA.out.push (x := L) (by rw [FFld.ints_append]; exact hm9) hg9 (by rw [eSZ]; exact hn9))
    clear eSZ
    have HB9 := Kept.mk (HBQ.out.grown hg9 HBB.out (fun j hj => (HOW.out j hj).1))
    clear hm9 hg9 hn9
    go_wp2
    go_roundw
    case rel => exact ⟨i + 1, g, rn, L, _, ra, oa, rc, oc, by omega, by go_num, rfl, rfl, rfl, HST, hlen, HAT9, HB9⟩
    case measure => simp [intOf] <;> omega
   ·have e0 : ((d : Int) != 0) = true := by rw [bne_iff_ne]; omega
    obtain ⟨sh, hsh⟩ : ∃ sh : Nat, (i : Int) - st.since = sh := ⟨((i : Int) - st.since).toNat, by have := HOKI.out.s1; omega⟩
    have h1 := HC1.out w2 HB2.out g ra oa rc st.old.length oc st.last d sh st.since (i : Int) st.reg st.old HAT2.out.cap (by rw [hlen.out.1]; exact HAT2.out.reg) HAT2.out.old rfl HOKI.out.rq HOKI.out.oq HOKI.out.ls HOKI.out.l0 hdq hsh (by omega) (by omega) HOKI.out.s0 (by have := HOKI.out.s1; omega) (by rw [hlen.out.1]; omega) (by have := HOKI.out.ol; have := HOKI.out.s0; omega)
    have hR : FFld.plusF D st.reg st.old (FFld.padd D.p D.k 0 (FFld.pscl D.p D.k (D.p - 1) (FFld.pmul D.p D.k D.m d D.k (FFld.ppow hD.pre.pk st.last (D.q - 2))))) sh = FFld.bmR D hD.pre.pk sl i st := by unfold FFld.bmR; rw [HDD.out, hsh]; rfl
    rw [hR, hlen.out.1] at h1
    have HCI := Kept.mk h1
    obtain ⟨R, hRR⟩ : ∃ l, FFld.bmR D hD.pre.pk sl i st = l := ⟨_, rfl⟩
    rw [hRR] at HCI
    have HRR := Kept.mk hRR
    clear h1 hR hRR hsh
    go_wp2_with fail
    (with_reducible refine HCI.out.mono ?_)
    rintro e w3 ⟨hb3, vr, rfl, hsr, hfr⟩
    obtain ⟨ra3, rc3, rfl, _, _⟩ := hsr.form
    rw [FFld.ints_len] at hsr hfr ⊢
    have HAT3 := Kept.mk (HAT2.out.turn hb3 hsr hfr)
    have HB3 := Kept.mk (bstep HB2.out hb3)
    have HBA := Kept.mk hb3
    obtain ⟨rn3, hrn3⟩ : ∃ x, R.length = x := ⟨_, rfl⟩
    have HRN := Kept.mk hrn3
    rw [hrn3] at HAT3 ⊢
    clear hb3 hsr hfr hrn3 HCI
    have hw2 : IntKind.i64.wrap (2 * (L : Int)) = 2 * (L : Int) := wi (by omega) (by omega)
    by_cases h2 : 2 * L <= i
    ·have d2 : decide (2 * (L : Int) <= i) = true := decide_eq_true (by omega)
     have HCC := Kept.mk (HCO.out w3 ra rn rc d (i : Int))
     obtain ⟨M, hM⟩ : ∃ M, i + 1 - L = M := ⟨_, rfl⟩
     have eM : (i : Int) + 1 - (L : Int) = M := by omega
     have HST : Kept (FFld.bmF D hD.pre.pk sl (i + 1) = ⟨R, M, st.reg, d, i, st.prof ++ [M]⟩) := ⟨by rw [HNX.out]; unfold FFld.bmStep; rw [if_neg (by rw [HDD.out]; exact h0), if_pos (by rw [hlen.out.2]; exact h2), HRR.out, HDD.out, hlen.out.2, hM]⟩
     go_wp2_with fail
     (with_reducible refine HCC.out.mono ?_)
     rintro e w4 ⟨hb4, rfl, hcap4⟩
     have hat2 := HAT2.out
     have HAT4 := Kept.mk (BmAt.swap (L := M) (st0 := st) (ra := ra) (rc := rc) (d := d) (i := (i : Int)) (by rw [hlen.out.1]; exact hat2) HAT3.out HBA.out hb4 HB3.out.size (by rw [hlen.out.1]; exact hcap4))
     have HB4 := Kept.mk (bstep HB3.out hb4)
     obtain ⟨g4, hg4⟩ : ∃ x, w3.heap.size = x := ⟨_, rfl⟩
     rw [hg4] at HAT4 ⊢
     clear hb4 hcap4 hat2 hg4 HCC
     have HM3 := Kept.mk (HAT4.out.prof.alloc (.cells #[.int .i64 (M : Nat)] 3))
     have HNW := Kept.mk (new_one (K := .i64) (x := ((M : Nat) : Int)) (w := w4.alloc (.cells #[.int .i64 (M : Nat)] 3)) (b := w4.heap.size) (o := 0) (by exact (Row.new (E := 3) (K := .i64) w4 [((M : Nat) : Int)]).cell (i := 0) (by simp)))
     have hsz := HB4.out.size
     have HBB := Kept.mk (show w.heap.size <= (w4.alloc (.cells #[.int .i64 (M : Nat)] 3)).heap.size by simp; omega)
     have HBQ := Kept.mk (HB4.out.alloc hsz (.cells #[.int .i64 (M : Nat)] 3))
     have HOW := Kept.mk HM3.out.own
     have HATA := Kept.mk (HAT4.out.below ((Below.refl w4.heap.size w4).alloc (Nat.le_refl _) (.cells #[.int .i64 (M : Nat)] 3)))
     have H1 := Kept.mk (show ((ints ((⟨R, M, st.reg, d, i, st.prof⟩ : FFld.Bm)).prof).length + [((M : Nat) : Int)].length) * 8 <= 140737488355328 by rw [FFld.ints_len, HPLN.out]; simp; omega)
     have H2 := Kept.mk (show (ints ((⟨R, M, st.reg, d, i, st.prof⟩ : FFld.Bm)).prof).length + [((M : Nat) : Int)].length <= maxLen by rw [FFld.ints_len, HPLN.out]; unfold maxLen; simp; omega)
     go_wp2_with (at_builtin; refine wpList_append_mine _ rfl _ _ 22 (by rfl) 3 .i64 8 Tryz.underlying22 info_i64 w.heap.size (.slice pa i pc) (ints ((⟨R, M, st.reg, d, i, st.prof⟩ : FFld.Bm)).prof) (by rfl) HM3.out HBB.out ⟨w4.heap.size, 0, none⟩ 1 1 [((M : Nat) : Int)] (by rfl) rfl HNW.out H1.out H2.out ?_)
     intro v' w9 hm9 hg9 hn9
     have eSZ : (w4.alloc (.cells #[.int .i64 (M : Nat)] 3)).heap.size = w4.heap.size + 1 := by simp
     have HAT9 := Kept.mk (HATA.out.push (x := M) (by rw [FFld.ints_append]; exact hm9) hg9 (by rw [eSZ]; exact hn9))
     clear eSZ
     have HB9 := Kept.mk (HBQ.out.grown hg9 HBB.out (fun j hj => (HOW.out j hj).1))
     clear hm9 hg9 hn9
     go_wp2
     go_roundw
     case rel => exact ⟨i + 1, g4, rn3, M, _, ra3, ra, rc3, rc, by omega, by go_num, rfl, rfl, rfl, HST, ⟨HRN.out, rfl⟩, HAT9, HB9⟩
     case measure => simp [intOf] <;> omega
    ·have d2 : decide (2 * (L : Int) <= i) = false := decide_eq_false (by omega)
     have HST : Kept (FFld.bmF D hD.pre.pk sl (i + 1) = ⟨R, st.len, st.old, st.last, st.since, st.prof ++ [L]⟩) := ⟨by rw [HNX.out]; unfold FFld.bmStep; rw [if_neg (by rw [HDD.out]; exact h0), if_neg (by rw [hlen.out.2]; exact h2), HRR.out, hlen.out.2]⟩
     have HM3 := Kept.mk (HAT3.out.prof.alloc (.cells #[.int .i64 (L : Nat)] 3))
     have HNW := Kept.mk (new_one (K := .i64) (x := ((L : Nat) : Int)) (w := w3.alloc (.cells #[.int .i64 (L : Nat)] 3)) (b := w3.heap.size) (o := 0) (by exact (Row.new (E := 3) (K := .i64) w3 [((L : Nat) : Int)]).cell (i := 0) (by simp)))
     have hsz := HB3.out.size
     have HBB := Kept.mk (show w.heap.size <= (w3.alloc (.cells #[.int .i64 (L : Nat)] 3)).heap.size by simp; omega)
     have HBQ := Kept.mk (HB3.out.alloc hsz (.cells #[.int .i64 (L : Nat)] 3))
     have HOW := Kept.mk HM3.out.own
     have HATA := Kept.mk (HAT3.out.below ((Below.refl w3.heap.size w3).alloc (Nat.le_refl _) (.cells #[.int .i64 (L : Nat)] 3)))
     have H1 := Kept.mk (show ((ints ((⟨R, st.len, st.old, st.last, st.since, st.prof⟩ : FFld.Bm)).prof).length + [((L : Nat) : Int)].length) * 8 <= 140737488355328 by rw [FFld.ints_len, HPLN.out]; simp; omega)
     have H2 := Kept.mk (show (ints ((⟨R, st.len, st.old, st.last, st.since, st.prof⟩ : FFld.Bm)).prof).length + [((L : Nat) : Int)].length <= maxLen by rw [FFld.ints_len, HPLN.out]; unfold maxLen; simp; omega)
     go_wp2_with (at_builtin; refine wpList_append_mine _ rfl _ _ 22 (by rfl) 3 .i64 8 Tryz.underlying22 info_i64 w.heap.size (.slice pa i pc) (ints ((⟨R, st.len, st.old, st.last, st.since, st.prof⟩ : FFld.Bm)).prof) (by rfl) HM3.out HBB.out ⟨w3.heap.size, 0, none⟩ 1 1 [((L : Nat) : Int)] (by rfl) rfl HNW.out H1.out H2.out ?_)
     intro v' w9 hm9 hg9 hn9
     have eSZ : (w3.alloc (.cells #[.int .i64 (L : Nat)] 3)).heap.size = w3.heap.size + 1 := by simp
     have HAT9 := Kept.mk (HATA.out.push (x := L) (by rw [FFld.ints_append]; exact hm9) hg9 (by rw [eSZ]; exact hn9))
     clear eSZ
     have HB9 := Kept.mk (HBQ.out.grown hg9 HBB.out (fun j hj => (HOW.out j hj).1))
     clear hm9 hg9 hn9
     go_wp2
     go_roundw
     case rel => exact ⟨i + 1, g, rn3, L, _, ra3, oa, rc3, oc, by omega, by go_num, rfl, rfl, rfl, HST, ⟨HRN.out, hlen.out.2⟩, HAT9, HB9⟩
     case measure => simp [intOf] <;> omega
  ·obtain rfl : i = n := by omega
   obtain ⟨M, hM⟩ : ∃ M, L + 1 = M := ⟨_, rfl⟩
   have eM : (L : Int) + 1 = M := by omega
   have hpd := cpadded_any ra rc st.reg M wr (by rw [hlen.out.1]; exact hat.out.reg) (by rw [hlen.out.1]; omega) (by omega)
   rw [hlen.out.1] at hpd
   have HPD := Kept.mk hpd
   clear hpd
   go_wp2_with fail
   (with_reducible refine HPD.out.mono ?_)
   rintro e w2 ⟨hb2, rfl, hw2⟩
   have HB2 := Kept.mk (bstep hbw.out hb2)
   have HPR := Kept.mk ((hat.out.prof.below hb2).sl)
   have HW2 := Kept.mk hw2
   have HPE : Kept (FFld.padF st.reg (st.len + 1) = FFld.padF st.reg M) := ⟨by rw [hlen.out.2, hM]⟩
   have HPF : Kept ((FFld.padF st.reg M).length = M) := ⟨FFld.padF_len (by rw [hlen.out.1]; omega)⟩
   obtain ⟨gr, hgr⟩ : ∃ x, wr.heap.size = x := ⟨_, rfl⟩
   rw [hgr] at HW2
   try rw [hgr]
   clear hb2 hw2 hgr hat hbw HPD
   by_cases hL0 : L = 0
   ·subst hL0
    obtain rfl : M = 1 := by omega
    have HT : Kept (Sl .i64 w2 (.slice (some ⟨gr, 0, none⟩) 0 0) (ints ((FFld.padF st.reg 1).drop 1))) := ⟨by
     have e : (FFld.padF st.reg 1).drop 1 = [] := List.eq_nil_of_length_eq_zero (by rw [List.length_drop, HPF.out])
     rw [e]
     exact ⟨_, 0, rfl, Nat.le_refl _, by unfold maxLen; omega, fun i hi => absurd hi (by simp [ints])⟩⟩
    go_wp2
    exact bodyPost_ret (v := .tuple #[.slice (some ⟨gr, 0, none⟩) 0 0, .slice pa i pc]) (by simp [results, Tryz.results127, go_sem]) rfl ⟨HB2.out, _, _, rfl, by rw [hst.out, HPE.out]; exact HT.out, by rw [hst.out]; exact HPR.out⟩
   ·have HT := Kept.mk (wv_drop (m := L) HW2.out (by rw [HPF.out]; omega) (by omega))
    have hM1 : 1 < M := by omega
    have eM1 : M - 1 = L := by omega
    have eM2 : (M : Int) - 1 = L := by omega
    go_wp2
    exact bodyPost_ret (v := .tuple #[.slice (some ⟨gr, 1, none⟩) L L, .slice pa i pc]) (by simp [results, Tryz.results127, go_sem, eM1]) rfl ⟨HB2.out, _, _, rfl, by rw [hst.out, HPE.out]; exact HT.out, by rw [hst.out]; exact HPR.out⟩
theorem bel_ints {D : FFld.FD} {l : List Nat} (h : ∀ a ∈ l, a < D.p ^ D.k) : belB (D.q : Int) (ints l) = true := by
 unfold belB ints
 rw [List.all_eq_true]
 intro x hx
 obtain ⟨a, ha, rfl⟩ := List.mem_map.1 hx
 have h1 := h a ha
 have h2 : D.q = D.p ^ D.k := rfl
 exact decide_eq_true (by omega)
set_option maxRecDepth 20000 in
theorem cShortest_any {D : FFld.FD} (hD : D.Ok) (as_ : Option Addr) (cs n : Nat) (sl : List Nat) (w : World) (hs : Sl .i64 w (.slice as_ n cs) (ints sl)) (hn : sl.length = n) (hsq : ∀ a ∈ sl, a < D.p ^ D.k) (hn2 : n <= 200) :
 Calls Tryz.prog 62 #[.int .i64 D.q, .slice as_ n cs] w (fun e w' => Below w.heap.size w w' /\ ∃ vt, e = .returned (.tuple #[vt, .int .i64 0]) /\ Sl .i64 w' vt (ints ((FFld.padF (FFld.bmF D hD.pre.pk sl n).reg ((FFld.bmF D hD.pre.pk sl n).len + 1)).drop 1))) := by
 have hq6 : D.p ^ D.k <= 65536 := hD.pre.small
 have hq0 : D.q = D.p ^ D.k := rfl
 have hse : seqE (D.q : Int) (ints sl) = 0 := by
  unfold seqE
  rw [if_pos ⟨D, hD, rfl⟩, if_neg (by rw [FFld.ints_len]; omega), if_neg (by rw [bel_ints hsq]; simp)]
 have hsc := ccheckSeq_any (D.q : Int) as_ cs (ints sl) w (by rw [FFld.ints_len, hn]; exact hs) (by omega) (by omega)
 rw [hse, FFld.ints_len, hn] at hsc
 have HSC : Kept (Calls Tryz.prog 125 #[.int .i64 D.q, .slice as_ n cs] w (RB w (.int .i64 0))) := ⟨hsc⟩
 have HNW := Kept.mk (fun W => fnew_any (D.q : Int) W (by omega) (by omega))
 have HSH := Kept.mk (fun (W : World) (hW : Below w.heap.size w W) (b : Nat) (hf : FldB D W b) => cshort_any hD as_ cs n sl W hf (hs.below hW) hn hsq hn2)
 have HD := Kept.mk hD
 obtain ⟨q, hq⟩ : ∃ q, D.q = q := ⟨_, rfl⟩
 rw [hq] at HSC HNW ⊢
 have HQ := Kept.mk hq
 clear hs hn hsq hse hsc hq hq0
 go_enter Tryz.func62, Tryz.ntmps62
 go_wp2_with fail
 (with_reducible refine HSC.out.mono ?_)
 rintro e w1 ⟨hb1, rfl⟩
 have HB1 := Kept.mk hb1
 clear hb1
 go_wp2_with fail
 (with_reducible refine (HNW.out _).mono ?_)
 rintro e w2 ⟨hb2, ⟨D', b, hq', hle, rfl, hf⟩ | ⟨hno, rfl⟩⟩
 ·obtain rfl : D' = D := FFld.FD.uniq hf.ok HD.out (by have := HQ.out; omega)
  have HB2 := Kept.mk (bstep HB1.out hb2)
  have HS2 := Kept.mk (HSH.out w2 HB2.out b hf)
  clear hb2 hf hq'
  go_wp2_with fail
  (with_reducible refine HS2.out.mono ?_)
  rintro e w3 ⟨hb3, vt, vp, rfl, ht, hp⟩
  have HB3 := Kept.mk (bstep HB2.out hb3)
  have HT := Kept.mk ht
  obtain ⟨ta, tc, rfl, _, _⟩ := ht.form
  obtain ⟨pa, pc, rfl, _, _⟩ := hp.form
  clear hb3 ht hp
  go_wp2
  exact bodyPost_ret (v := .tuple #[.slice ta _ tc, .int .i64 0]) (by simp [results, Tryz.results62, go_sem]) rfl ⟨HB3.out, _, rfl, HT.out⟩
 ·exact absurd ⟨D, HD.out, by have := HQ.out; omega⟩ hno
structure RcAt (b B g k rad : Nat) (pv ev : Value) (P W : List Nat) (w : World) : Prop where
 box : w.heap[g]? = some (rcbox b pv ev k rad)
 pm : Mine 3 .i64 B w pv (ints P)
 em : Mine 3 .i64 B w ev (ints W)
 ne : ∀ j, pv.ownBlock = some j -> ev.ownBlock ≠ some j
 gB : g < B
theorem RcAt.below {b B g k rad : Nat} {pv ev : Value} {P W : List Nat} {w w' : World} (h : RcAt b B g k rad pv ev P W w) (hb : Below w.heap.size w w') : RcAt b B g k rad pv ev P W w' :=
 ⟨(hb.block _ (Array.getElem?_eq_some_iff.1 h.box).1).trans h.box, h.pm.below hb, h.em.below hb, h.ne, h.gB⟩
theorem Mine.setOther {B g i : Nat} {w : World} {v x : Value} {xs : List Int} (h : Mine 3 .i64 B w v xs) (hg : g < B) : Mine 3 .i64 B (w.setCell ⟨g, i, none⟩ x) v xs := by
 refine h.kept (growSet (growRefl _ (some g)) _ _) ?_
 cases hv : v.ownBlock with
 | none => exact .inl rfl
 | some j => exact .inr (fun e => by have := (h.own j hv).1; cases e; omega)
theorem RcAt.point {b B g k rad x : Nat} {pv ev v' : Value} {P W : List Nat} {w w' : World} (h : RcAt b B g k rad pv ev P W w) (hm : Mine 3 .i64 B w' v' (ints (P ++ [x]))) (hg : w.grownBy w' pv.ownBlock) (hn : v'.ownBlock = pv.ownBlock \/ Frm w.heap.size v') : RcAt b B g k rad v' ev (P ++ [x]) W (w'.setCell ⟨g, 1, none⟩ v') := by
 have hgB := h.gB
 have hb : w'.heap[g]? = some (rcbox b pv ev k rad) := (hg.block g (Array.getElem?_eq_some_iff.1 h.box).1 (fun e => by have := (h.pm.own g e.symm).1; omega)).trans h.box
 refine ⟨?_, hm.setOther hgB, Mine.setOther (h.em.kept hg ?_) hgB, fun j hj e => ?_, hgB⟩
 ·have := heap_setCell_same w' g 1 _ _ v' hb
  simpa using this
 ·cases hv : ev.ownBlock with
  | none => exact .inl rfl
  | some j => exact .inr (fun e => h.ne j e.symm hv)
 ·rcases hn with h1 | h1
  ·exact h.ne j (h1 ▸ hj) e
  ·have h2 := h1 j hj
   have h3 := (h.em.own j e).2
   omega
theorem RcAt.element {b B g k rad x : Nat} {pv ev v' : Value} {P W : List Nat} {w w' : World} (h : RcAt b B g k rad pv ev P W w) (hm : Mine 3 .i64 B w' v' (ints (W ++ [x]))) (hg : w.grownBy w' ev.ownBlock) (hn : v'.ownBlock = ev.ownBlock \/ Frm w.heap.size v') : RcAt b B g k rad pv v' P (W ++ [x]) (w'.setCell ⟨g, 2, none⟩ v') := by
 have hgB := h.gB
 have hb : w'.heap[g]? = some (rcbox b pv ev k rad) := (hg.block g (Array.getElem?_eq_some_iff.1 h.box).1 (fun e => by have := (h.em.own g e.symm).1; omega)).trans h.box
 refine ⟨?_, Mine.setOther (h.pm.kept hg ?_) hgB, hm.setOther hgB, fun j hj e => ?_, hgB⟩
 ·have := heap_setCell_same w' g 2 _ _ v' hb
  simpa using this
 ·cases hv : pv.ownBlock with
  | none => exact .inl rfl
  | some j => exact .inr (fun e => h.ne j hv e.symm)
 ·rcases hn with h1 | h1
  ·exact h.ne j hj (h1 ▸ e)
  ·have h2 := h1 j e
   have h3 := (h.pm.own j hj).2
   omega
def kpF (es : List Int) (i : Nat) : List Nat := (List.range i).filter fun j => es.all fun e => decide (e ≠ (j : Int))
theorem kpF_next (es : List Int) (i : Nat) : kpF es (i + 1) = if es.all (fun e => decide (e ≠ (i : Int))) = true then kpF es i ++ [i] else kpF es i := by
 unfold kpF
 rw [List.range_succ, List.filter_append, List.filter_cons, List.filter_nil]
 split
 ·rfl
 ·rw [List.append_nil]
def Good (D : FFld.FD) (xs ys Qu Rs : List Nat) (k rad : Nat) : Prop := Rs = [] /\ Qu.length <= k /\ disF (ints (FFld.valsF D Qu xs xs.length)) (ints ys) xs.length <= rad
open Classical in
noncomputable def goodB (D : FFld.FD) (xs ys Qu Rs : List Nat) (k rad : Nat) : Bool := decide (Good D xs ys Qu Rs k rad)
def QuRet (D : FFld.FD) (xs ys Qu Rs : List Nat) (k rad : Nat) (w : World) (e : Ending) (w' : World) : Prop := Below w.heap.size w w' /\ ∃ v, e = .returned (.tuple #[v, .bool (goodB D xs ys Qu Rs k rad)]) /\ (Good D xs ys Qu Rs k rad -> Sl .i64 w' v (ints Qu))
open Classical in
theorem good_no {D : FFld.FD} {xs ys Qu Rs : List Nat} {k rad : Nat} (h : ¬ Good D xs ys Qu Rs k rad) : goodB D xs ys Qu Rs k rad = false := by
 unfold goodB
 exact decide_eq_false h
open Classical in
theorem good_yes {D : FFld.FD} {xs ys Qu Rs : List Nat} {k rad : Nat} (h : Good D xs ys Qu Rs k rad) : goodB D xs ys Qu Rs k rad = true := by
 unfold goodB
 exact decide_eq_true h
set_option maxRecDepth 20000 in
theorem cquot_any {D : FFld.FD} {b : Nat} (hD : D.Ok) (ax ay aq ae : Option Addr) (cx cy cq ce k rad n : Nat) (xs ys Q E : List Nat) (w : World) (hf : FldB D w b) (hx : Sl .i64 w (.slice ax n cx) (ints xs)) (hy : Sl .i64 w (.slice ay n cy) (ints ys)) (lx : xs.length = n) (ly : ys.length = n) (hxq : ∀ a ∈ xs, a < D.p ^ D.k) (hyq : ∀ a ∈ ys, a < D.p ^ D.k) (hn : n <= 64) (hr : rad <= 64) (hk6 : k <= 64)
 (hQ : Sl .i64 w (.slice aq Q.length cq) (ints Q)) (hE : Sl .i64 w (.slice ae E.length ce) (ints E)) (qQ : ∀ a ∈ Q, a < D.p ^ D.k) (qE : ∀ a ∈ E, a < D.p ^ D.k) (tQ : FFld.Tz Q) (tE : FFld.Tz E) (lQ : Q.length <= 200) (lE : E.length <= 200) (hE0 : E.length ≠ 0) :
 Calls Tryz.prog 91 #[rcv b (.slice ax n cx) (.slice ay n cy) k rad, .agg #[.slice aq Q.length cq, .slice ae E.length ce]] w (QuRet D xs ys (FFld.quoF D E (FFld.invT D hD.pre.pk E) Q) (FFld.rstF D E (FFld.invT D hD.pre.pk E) Q) k rad w) := by
 have hk := hD.pre.pk
 have HX0 : Kept (Bxs w [rcbox b (.slice ax n cx) (.slice ay n cy) k rad, fabox (.slice aq Q.length cq) (.slice ae E.length ce)] ((w.alloc (rcbox b (.slice ax n cx) (.slice ay n cy) k rad)).alloc (fabox (.slice aq Q.length cq) (.slice ae E.length ce)))) := ⟨((Bxs.start w).alloc (by simp) _).alloc (by simp) _⟩
 have HDV := Kept.mk (fun (W : World) (hW : Below w.heap.size w W) => fpdivide_any (.slice aq Q.length cq) (.slice ae E.length ce) Q E W (hf.below hW) (hQ.below hW) (hE.below hW) (cErr_poly qQ tQ lQ) (cErr_poly qE tE lE) hD qQ qE (by omega) tE (by omega) (by omega))
 obtain ⟨Qu, hQu⟩ : ∃ l, FFld.quoF D E (FFld.invT D hD.pre.pk E) Q = l := ⟨_, rfl⟩
 obtain ⟨Rs, hRs⟩ : ∃ l, FFld.rstF D E (FFld.invT D hD.pre.pk E) Q = l := ⟨_, rfl⟩
 have qQu : ∀ a ∈ Qu, a < D.p ^ D.k := by rw [<- hQu]; exact FFld.quoF_lt hk _ _ _
 rw [hQu, hRs] at HDV ⊢
 have HVA := Kept.mk (fun (W : World) (hW : Below w.heap.size w W) (aa : Option Addr) (ca : Nat) (h : Sl .i64 W (.slice aa Qu.length ca) (ints Qu)) (hl : Qu.length <= 200) => cvalues_any hD ax aa cx ca xs Qu W (hf.below hW) (by rw [lx]; exact hx.below hW) h hxq qQu (by omega) hl)
 rw [lx] at HVA
 have HYS := Kept.mk hy
 have HVL : Kept ((FFld.valsF D Qu xs n).length = n) := ⟨by rw [FFld.valsF_len, lx]⟩
 have HYL := Kept.mk ly
 have HGD : Kept (Good D xs ys Qu Rs k rad ↔ Rs = [] /\ Qu.length <= k /\ disF (ints (FFld.valsF D Qu xs n)) (ints ys) n <= rad) := ⟨by unfold Good; rw [lx]⟩
 have HGN := Kept.mk (fun h => good_no (D := D) (xs := xs) (ys := ys) (Qu := Qu) (Rs := Rs) (k := k) (rad := rad) h)
 have HGY := Kept.mk (fun h => good_yes (D := D) (xs := xs) (ys := ys) (Qu := Qu) (Rs := Rs) (k := k) (rad := rad) h)
 obtain ⟨nQ, hnQ⟩ : ∃ n, Q.length = n := ⟨_, rfl⟩
 obtain ⟨nE, hnE⟩ : ∃ n, E.length = n := ⟨_, rfl⟩
 rw [hnQ, hnE] at HX0 HDV ⊢
 clear hf hx hy hxq hyq hQ hE qQ qE tQ tE hQu hRs qQu lx ly hnQ hnE lQ lE hE0
 go_enter Tryz.func91, Tryz.ntmps91
 obtain ⟨c0, c1, c2, c3, c4⟩ := five_cells_ HX0.out.b0
 obtain ⟨d0, d1, _, _⟩ := two_cells HX0.out.b1
 go_wp2_with fail
 refine (HDV.out _ HX0.out.1).mono ?_
 rintro e w1 ⟨hb1, v1, v2, rfl, hs1, hs2⟩
 obtain ⟨a1, m1, rfl, hm1, hm1'⟩ := hs1.form
 obtain ⟨a2, m2, rfl, hm2, hm2'⟩ := hs2.form
 rw [FFld.ints_len] at hs1 hs2 hm1 hm2 ⊢
 rw [FFld.ints_len]
 have HX1 := Kept.mk (HX0.out.below hb1)
 have HS1 := Kept.mk hs1
 obtain ⟨nu, hnu⟩ : ∃ n, Qu.length = n := ⟨_, rfl⟩
 obtain ⟨nr, hnr⟩ : ∃ n, Rs.length = n := ⟨_, rfl⟩
 have HNU := Kept.mk hnu
 rw [hnu] at HS1 HVA ⊢
 rw [hnr] at hm2 ⊢
 have HNR : Kept (Rs = [] ↔ nr = 0) := ⟨by rw [<- hnr]; exact List.length_eq_zero_iff.symm⟩
 clear hb1 hs1 hs2 c0 c1 c2 c3 c4 d0 d1 hnu hnr HDV
 obtain ⟨c0, c1, c2, c3, c4⟩ := five_cells_ HX1.out.b0
 by_cases h1 : 0 < nr
 ·have HNO := Kept.mk (HGN.out (by rw [HGD.out, HNR.out]; omega))
  have HNG : Kept (¬ Good D xs ys Qu Rs k rad) := ⟨by rw [HGD.out, HNR.out]; omega⟩
  have g1 : decide ((0 : Int) < nr) = true := decide_eq_true (by omega)
  go_wp2
  exact bodyPost_ret (v := .tuple #[.slice none 0 0, .bool false]) (by simp [results, Tryz.results91, go_sem]) rfl ⟨HX1.out.1, _, by rw [HNO.out], fun h => absurd h HNG.out⟩
 ·have g1 : decide ((0 : Int) < nr) = false := decide_eq_false (by omega)
  by_cases h2 : k < nu
  ·have HNG : Kept (¬ Good D xs ys Qu Rs k rad) := ⟨by rw [HGD.out, HNU.out]; omega⟩
   have HNO := Kept.mk (HGN.out HNG.out)
   have g2 : decide ((k : Int) < nu) = true := decide_eq_true (by omega)
   go_wp2
   exact bodyPost_ret (v := .tuple #[.slice none 0 0, .bool false]) (by simp [results, Tryz.results91, go_sem]) rfl ⟨HX1.out.1, _, by rw [HNO.out], fun h => absurd h HNG.out⟩
  ·have g2 : decide ((k : Int) < nu) = false := decide_eq_false (by omega)
   obtain ⟨ds, hds⟩ : ∃ d, disF (ints (FFld.valsF D Qu xs n)) (ints ys) n = d := ⟨_, rfl⟩
   have hdl : ds <= n := by rw [<- hds]; exact disF_le _ _ _
   have HS2 : Kept (∀ W, Below w1.heap.size w1 W -> Calls Tryz.prog 87 #[.pointer (some ⟨b, 0, none⟩), .slice ax n cx, .slice a1 nu m1] W (fun e w' => Below W.heap.size W w' /\ ∃ v, e = .returned v /\ Sl .i64 w' v (ints (FFld.valsF D Qu xs n)))) := ⟨fun W hW => (HVA.out W (bstep HX1.out.1 hW) a1 m1 (HS1.out.below hW) (by omega)).mono fun e w' ⟨hb, he, hw⟩ => ⟨hb, _, he, hw.sl HVL.out.symm (Nat.le_refl _) (by unfold maxLen; omega)⟩⟩
   have HS3 : Kept (∀ W v, Below w1.heap.size w1 W -> Sl .i64 W v (ints (FFld.valsF D Qu xs n)) -> Calls Tryz.prog 96 #[v, .slice ay n cy] W (RB W (.int .i64 (ds : Nat)))) := ⟨fun W v hW hv => by
    have h := cdistance_any v (.slice ay n cy) _ _ W hv (HYS.out.below (bstep HX1.out.1 hW)) (by rw [FFld.ints_len, FFld.ints_len, HVL.out, HYL.out])
    rw [FFld.ints_len, HVL.out, hds] at h
    exact h.mono fun e w' ⟨h1, h2⟩ => ⟨by rw [<- h1]; exact Below.refl _ _, h2⟩⟩
   have HGD2 : Kept (Good D xs ys Qu Rs k rad ↔ ds <= rad) := ⟨by rw [HGD.out, HNR.out, HNU.out, hds]; omega⟩
   clear hds HGD HVA
   go_upto_region 4 with fail
   go_region_held3 (fun w' => w'.cell? ⟨w.heap.size, 0, none⟩ = some (.pointer (some ⟨b, 0, none⟩)) /\ w'.cell? ⟨w.heap.size, 1, none⟩ = some (.slice ax n cx) /\ w'.cell? ⟨w.heap.size, 2, none⟩ = some (.slice ay n cy) /\ w'.cell? ⟨w.heap.size, 4, none⟩ = some (.int .i64 rad))
    (first | exact ⟨jb0, jb1, jb2, jb3⟩ | exact ⟨ja0, ja1, ja2, ja3⟩ | exact ⟨c0, c1, c2, c4⟩ | go_keep)
    ((first
      | (go_at_call 87; (with_reducible refine (HS2.out _ ?h1).mono ?_); (case h1 => exact (by first | exact Below.refl _ _ | exact (Below.refl _ _).drew)); rintro e v1 ⟨hb1, va, rfl, hva⟩; have hy1 := Kept.mk (bstep (show Below w1.heap.size w1 _ from (by first | exact Below.refl _ _ | exact (Below.refl _ _).drew)) hb1); have ja0 := belowCell hy1.out c0; have ja1 := belowCell hy1.out c1; have ja2 := belowCell hy1.out c2; have ja3 := belowCell hy1.out c4; clear hb1)
      | (go_at_call 96; (with_reducible refine (HS3.out _ _ ?h1 ?h2).mono ?_); (case h1 => exact hy1.out); (case h2 => first | exact hva | exact hva.below (Below.refl _ _).drew); rintro e v2 ⟨hb2, rfl⟩; have hy2 := Kept.mk (bstep (show Below w1.heap.size w1 _ from hy1.out) hb2); have jb0 := belowCell hy2.out c0; have jb1 := belowCell hy2.out c1; have jb2 := belowCell hy2.out c2; have jb3 := belowCell hy2.out c4; clear hb2)))
   have HB4 := Kept.mk (bstep HX1.out.1 hy2.out)
   have HS4 := Kept.mk (HS1.out.below hy2.out)
   by_cases h3 : ds <= rad
   ·have HG := Kept.mk (HGY.out (HGD2.out.2 h3))
    have g3 : decide ((ds : Int) <= rad) = true := decide_eq_true (by omega)
    clear hy1 hy2 hva
    go_wp2
    exact bodyPost_ret (v := .tuple #[.slice a1 nu m1, .bool true]) (by simp [results, Tryz.results91, go_sem]; omega) rfl ⟨HB4.out, _, by rw [HG.out], fun _ => HS4.out⟩
   ·have HNG : Kept (¬ Good D xs ys Qu Rs k rad) := ⟨fun h => h3 (HGD2.out.1 h)⟩
    have HG := Kept.mk (HGN.out HNG.out)
    have g3 : decide ((ds : Int) <= rad) = false := decide_eq_false (by omega)
    clear hy1 hy2 hva
    go_wp2
    exact bodyPost_ret (v := .tuple #[.slice a1 nu m1, .bool false]) (by simp [results, Tryz.results91, go_sem]; omega) rfl ⟨HB4.out, _, by rw [HG.out], fun h => absurd h HNG.out⟩
structure Near (D : FFld.FD) (xs ys : List Nat) (k t : Nat) (P : List Nat) : Prop where
 lt : ∀ a ∈ P, a < D.p ^ D.k
 tz : FFld.Tz P
 len : P.length <= k
 dis : disF (ints (FFld.valsF D P xs xs.length)) (ints ys) xs.length <= t
def sameL (xs ys : List Int) (n : Nat) : List Nat := (List.range n).filter fun j => decide (xs[j]?.getD 0 = ys[j]?.getD 0)
theorem same_len (xs ys : List Int) : ∀ n, (sameL xs ys n).length + disF xs ys n = n
 | 0 => rfl
 | n + 1 => by
   have ih := same_len xs ys n
   unfold sameL at ih ⊢
   rw [List.range_succ, List.filter_append, List.filter_cons, List.filter_nil, disF, List.length_append]
   by_cases h : xs[n]?.getD 0 = ys[n]?.getD 0
   ·rw [if_pos (decide_eq_true h), if_pos h]
    simp only [List.length_cons, List.length_nil]
    omega
   ·rw [if_neg (by simpa using h), if_neg h]
    simp only [List.length_nil]
    omega
theorem vals_get {D : FFld.FD} (P xs : List Nat) {j : Nat} (hj : j < xs.length) : (FFld.valsF D P xs xs.length)[j]?.getD 0 = FFld.hornF D (FFld.trm P) (xs[j]?.getD 0) (FFld.trm P).length := by
 unfold FFld.valsF
 rw [List.getElem?_map, List.getElem?_range hj]
 simp [hj]
theorem vals_ev {D : FFld.FD} (hD : D.Ok) {P xs : List Nat} (hP : ∀ a ∈ P, a < D.p ^ D.k) (tP : FFld.Tz P) (hx : ∀ a ∈ xs, a < D.p ^ D.k) {j : Nat} (hj : j < xs.length) : FFld.toE hD.pre.pk ((FFld.valsF D P xs xs.length)[j]?.getD 0) = FFld.evE hD P (FFld.plE hD xs j) := by
 rw [vals_get P xs hj, FFld.trm_self tP]
 exact FFld.horn_ev hD hP (FFld.at_lt hD hx j)
theorem gao_near {D : FFld.FD} (hD : D.Ok) {xs ys bf Q el E P : List Nat} {n k t : Nat} (g : FFld.GaoOk hD xs ys n bf Q el E) (lx : xs.length = n) (hx : ∀ a ∈ xs, a < D.p ^ D.k) (hd : ∀ i j, j < i -> i < n -> xs[i]?.getD 0 ≠ xs[j]?.getD 0) (lQ : Q.length + t <= n) (lb : n < bf.length + t) (hk : 2 * t + k <= n) (hN : Near D xs ys k t P) : FFld.quoF D E (FFld.invT D hD.pre.pk E) Q = P /\ FFld.rstF D E (FFld.invT D hD.pre.pk E) Q = [] := by
 have h1 := g.len
 have h2 := g.up
 have h3 := hN.len
 have h4 := same_len (ints (FFld.valsF D P xs xs.length)) (ints ys) n
 have h5 := hN.dis
 rw [lx] at h4 h5
 refine FFld.near hD (xs := xs) (ys := ys) (n := n) (t := t) g.nlt g.elt hN.lt g.tn g.te hN.tz hx (by omega) (fun a b ha hb hab => ?_) lQ (by omega) g.ev2 (sameL (ints (FFld.valsF D P xs n)) (ints ys) n) (List.Pairwise.filter _ List.nodup_range) (fun j hj => ?_) (by omega) (fun j hj => ?_)
 ·rcases Nat.lt_or_ge a b with h | h
  ·exact (hd b a h hb).symm
  ·exact hd a b (by omega) ha
 ·exact List.mem_range.1 (List.mem_filter.1 hj).1
 ·obtain ⟨h6, h7⟩ := List.mem_filter.1 hj
  have h8 := of_decide_eq_true h7
  rw [FFld.ints_get, FFld.ints_get] at h8
  have h9 := vals_ev hD hN.lt hN.tz hx (j := j) (by rw [lx]; exact List.mem_range.1 h6)
  rw [<- h9, lx]
  unfold FFld.plE
  exact congrArg _ (Int.ofNat.inj h8)
theorem near_good {D : FFld.FD} (hD : D.Ok) {xs ys bf Q el E P : List Nat} {n k t : Nat} (g : FFld.GaoOk hD xs ys n bf Q el E) (lx : xs.length = n) (hx : ∀ a ∈ xs, a < D.p ^ D.k) (hd : ∀ i j, j < i -> i < n -> xs[i]?.getD 0 ≠ xs[j]?.getD 0) (lQ : Q.length + t <= n) (lb : n < bf.length + t) (hk : 2 * t + k <= n) (hN : Near D xs ys k t P) : Good D xs ys (FFld.quoF D E (FFld.invT D hD.pre.pk E) Q) (FFld.rstF D E (FFld.invT D hD.pre.pk E) Q) k t := by
 obtain ⟨h1, h2⟩ := gao_near hD g lx hx hd lQ lb hk hN
 rw [h1, h2]
 exact ⟨rfl, hN.len, hN.dis⟩
theorem good_near {D : FFld.FD} (hD : D.Ok) {xs ys bf Q el E : List Nat} {n k t : Nat} (g : FFld.GaoOk hD xs ys n bf Q el E) (h : Good D xs ys (FFld.quoF D E (FFld.invT D hD.pre.pk E) Q) (FFld.rstF D E (FFld.invT D hD.pre.pk E) Q) k t) : Near D xs ys k t (FFld.quoF D E (FFld.invT D hD.pre.pk E) Q) := by
 have h2 := g.up
 refine ⟨FFld.quoF_lt hD.pre.pk _ _ _, FFld.quo_tz hD g.elt g.nlt (by omega) ?_ g.tn, h.2.1, h.2.2⟩
 rcases g.te with h1 | h1
 ·omega
 ·exact h1
theorem dif_get {es : List Int} {m i j : Nat} (h : difB es m = true) (hj : j < i) (hi : i < m) : es[i]?.getD 0 ≠ es[j]?.getD 0 := fun e => by
 have h1 := difB_no hj hi e
 rw [h1] at h
 cases h
theorem nodup_dif {es : List Int} {m : Nat} (h : difB es m = true) (hm : es.length = m) : es.Nodup := by
 refine List.pairwise_iff_getElem.2 fun i j hi hj hij e => ?_
 have h1 := dif_get h hij (by omega)
 rw [List.getElem?_eq_getElem hi, List.getElem?_eq_getElem hj] at h1
 exact h1 e.symm
theorem nodup_get {L : List Nat} (h : L.Nodup) {i j : Nat} (hj : j < i) (hi : i < L.length) : L[i]?.getD 0 ≠ L[j]?.getD 0 := by
 have h1 := List.pairwise_iff_getElem.1 h j i (by omega) hi hj
 rw [List.getElem?_eq_getElem hi, List.getElem?_eq_getElem (show j < L.length by omega)]
 exact fun e => h1 e.symm
theorem one_out (a : Nat) : ∀ (L : List Nat), L.Nodup -> a ∈ L -> (L.filter fun j : Nat => decide ((a : Int) ≠ (j : Int))).length + 1 = L.length
 | [], _, h => (by cases h)
 | b :: L, hn, h => by
   obtain ⟨h1, h2⟩ := List.nodup_cons.1 hn
   rw [List.filter_cons]
   by_cases e : b = a
   ·subst e
    have hF : (L.filter fun j : Nat => decide ((b : Int) ≠ (j : Int))) = L := List.filter_eq_self.2 (fun j hj => decide_eq_true (fun e => h1 (by have e' : b = j := Int.ofNat.inj e; exact e' ▸ hj)))
    rw [if_neg (by simp), hF]
    rfl
   ·rw [if_pos (decide_eq_true (p := ((a : Int) ≠ (b : Int))) (fun e' => e (Int.ofNat.inj e').symm))]
    have h3 := one_out a L h2 (by
     rcases List.mem_cons.1 h with h4 | h4
     ·exact absurd h4.symm e
     ·exact h4)
    simp only [List.length_cons]
    omega
theorem filter_out (n : Nat) : ∀ (es : List Int), es.Nodup -> (∀ e ∈ es, 0 <= e /\ e < n) -> ((List.range n).filter fun j : Nat => es.all fun e => decide (e ≠ (j : Int))).length + es.length = n
 | [], _, _ => by
   have hF : ((List.range n).filter fun j : Nat => ([] : List Int).all fun e => decide (e ≠ (j : Int))) = List.range n := List.filter_eq_self.2 (fun _ _ => rfl)
   rw [hF]
   simp
 | e :: es, hn, hb => by
   obtain ⟨h1, h2⟩ := List.nodup_cons.1 hn
   have ih := filter_out n es h2 fun x hx => hb x (List.mem_cons_of_mem _ hx)
   obtain ⟨h3, h4⟩ := hb e (List.mem_cons_self ..)
   obtain ⟨a, rfl⟩ := Int.eq_ofNat_of_zero_le h3
   have h5 := one_out a ((List.range n).filter fun j : Nat => es.all fun e => decide (e ≠ (j : Int))) (List.Pairwise.filter _ List.nodup_range) (by
    rw [List.mem_filter]
    refine ⟨List.mem_range.2 (by omega), ?_⟩
    rw [List.all_eq_true]
    exact fun x hx => decide_eq_true fun ex => h1 (ex ▸ hx))
   rw [List.filter_filter] at h5
   simp only [List.all_cons, List.length_cons]
   omega
theorem kp_len {es : List Int} {n m : Nat} (hb : belB n es = true) (hd : difB es m = true) (hm : es.length = m) : (kpF es n).length + m = n := by
 have h := filter_out n es (nodup_dif hd hm) fun e he => by
  have := List.all_eq_true.1 hb e he
  exact of_decide_eq_true this
 rw [hm] at h
 exact h
theorem kp_nodup (es : List Int) (n : Nat) : (kpF es n).Nodup := List.Pairwise.filter _ List.nodup_range
theorem kp_lt {es : List Int} {n j : Nat} (h : j ∈ kpF es n) : j < n := List.mem_range.1 (List.mem_filter.1 h).1
def kpL (es : List Int) (n : Nat) (xs : List Nat) : List Nat := (kpF es n).map fun j => xs[j]?.getD 0
theorem kpL_len (es : List Int) (n : Nat) (xs : List Nat) : (kpL es n xs).length = (kpF es n).length := List.length_map ..
theorem kpL_lt {q : Nat} {es : List Int} {n : Nat} {xs : List Nat} (lx : xs.length = n) (h : ∀ a ∈ xs, a < q) : ∀ a ∈ kpL es n xs, a < q := fun a ha => by
 obtain ⟨j, hj, rfl⟩ := List.mem_map.1 ha
 exact h _ (FFld.get_mem (by rw [lx]; exact kp_lt hj))
theorem kpL_dif {es : List Int} {n : Nat} {xs : List Nat} (hd : ∀ i j, j < i -> i < n -> xs[i]?.getD 0 ≠ xs[j]?.getD 0) : ∀ i j, j < i -> i < (kpL es n xs).length -> (kpL es n xs)[i]?.getD 0 ≠ (kpL es n xs)[j]?.getD 0 := by
 have hnd : (kpL es n xs).Nodup := by
  unfold kpL
  have h1 := kp_nodup es n
  have h2 : ∀ j ∈ kpF es n, j < n := fun j hj => kp_lt hj
  generalize kpF es n = L at h1 h2
  induction L with
  | nil => exact List.nodup_nil
  | cons a L ih =>
    rw [List.map_cons, List.nodup_cons]
    obtain ⟨h3, h4⟩ := List.nodup_cons.1 h1
    refine ⟨fun hm => ?_, ih h4 fun j hj => h2 j (List.mem_cons_of_mem _ hj)⟩
    obtain ⟨b, hb, e⟩ := List.mem_map.1 hm
    have ha := h2 a (List.mem_cons_self ..)
    have hb' := h2 b (List.mem_cons_of_mem _ hb)
    rcases Nat.lt_trichotomy a b with h | h | h
    ·exact hd b a h hb' e
    ·exact h3 (h ▸ hb)
    ·exact hd a b h ha e.symm
 exact fun i j hj hi => nodup_get hnd hj hi
structure CodeV (D : FFld.FD) (xs : List Nat) (n k : Nat) : Prop where
 len : xs.length = n
 n64 : n <= 64
 k1 : 1 <= k
 kn : k <= n
 lt : ∀ a ∈ xs, a < D.p ^ D.k
 dif : ∀ i j, j < i -> i < n -> xs[i]?.getD 0 ≠ xs[j]?.getD 0
 chk : chkE (D.q : Int) (ints xs) k = 0
theorem CodeV.of {D : FFld.FD} (hD : D.Ok) {xs : List Nat} {n k : Nat} (lx : xs.length = n) (n64 : n <= 64) (k1 : 1 <= k) (kn : k <= n) (hx : ∀ a ∈ xs, a < D.p ^ D.k) (hd : difB (ints xs) n = true) : CodeV D xs n k := by
 refine ⟨lx, n64, k1, kn, hx, fun i j hj hi e => dif_get hd hj hi (by rw [FFld.ints_get, FFld.ints_get, e]), ?_⟩
 unfold chkE
 rw [FFld.ints_len, lx, if_pos ⟨D, hD, rfl⟩, if_neg (by omega), if_neg]
 rw [bel_ints hx, hd]
 simp
 omega
end Go.Proofs.YtdnheaafcbihbaaGreat
namespace Go.Proofs.YtdnheaafcbihbaaGreat
open Go Go.RowKit Go.Deep
theorem wp_append_parts {P : Program} (w : World) {o : Oper} {a : Act} {K' : Act -> World -> Prop} {Q : Exit -> Act -> World -> Prop} (s x : Operand) (t : TypeId)
 (ho : o.op = .call { callee := .builtin .append, args := #[s, x], argTypes := #[t, t] }) (E : TypeId) (K : IntKind) (bytes : Nat) (ht : P.underlying t = some (.slice E))
 (hinfo : (P.info? E).map (fun i => (i.zero, i.size, i.bytes)) = some (some (.int K 0), 1, bytes)) (B : Nat) (v : Value) (xs : List Int) (hs : a.eval s = v) (hM : Mine E K B w v xs) (hB : B <= w.heap.size)
 (ad : Addr) (m c : Nat) (news : List Int) (hx : a.eval x = .slice (some ad) m c) (hl : news.length = m) (hnews : ∀ j u, (news.map (Value.int K))[j]? = some u -> w.cell? (ad.add j) = some u)
 (hb : (xs.length + news.length) * bytes <= 140737488355328) (hm : xs.length + news.length <= maxLen)
 (h : ∀ va nv vc w', (xs ++ news).length = nv -> Mine E K B w' (.slice va nv vc) (xs ++ news) -> w.grownBy w' v.ownBlock -> ((Value.slice va nv vc).ownBlock = v.ownBlock \/ Frm w.heap.size (.slice va nv vc)) -> K' (a.put o.dst (.slice va nv vc)) w') : o.wp P a w K' Q := by
 refine wp_append_mine w s x t ho E K bytes ht hinfo B v xs hs hM hB ad m c news hx hl hnews hb hm ?_
 intro v' w' h1 h2 h3
 obtain ⟨va, vc, rfl, _⟩ := h1.sl
 exact h va _ vc w' rfl h1 h2 h3
theorem wpList_append_parts {P : Program} (w : World) {ops : Array Oper} {rest : List Oper} {o : Oper} {a : Act} {Q : Exit -> Act -> World -> Prop} (hgd : o.guard = none) (s x : Operand) (t : TypeId)
 (ho : o.op = .call { callee := .builtin .append, args := #[s, x], argTypes := #[t, t] }) (E : TypeId) (K : IntKind) (bytes : Nat) (ht : P.underlying t = some (.slice E))
 (hinfo : (P.info? E).map (fun i => (i.zero, i.size, i.bytes)) = some (some (.int K 0), 1, bytes)) (B : Nat) (v : Value) (xs : List Int) (hs : a.eval s = v) (hM : Mine E K B w v xs) (hB : B <= w.heap.size)
 (ad : Addr) (m c : Nat) (news : List Int) (hx : a.eval x = .slice (some ad) m c) (hl : news.length = m) (hnews : ∀ j u, (news.map (Value.int K))[j]? = some u -> w.cell? (ad.add j) = some u)
 (hb : (xs.length + news.length) * bytes <= 140737488355328) (hm : xs.length + news.length <= maxLen)
 (h : ∀ va nv vc w', (xs ++ news).length = nv -> Mine E K B w' (.slice va nv vc) (xs ++ news) -> w.grownBy w' v.ownBlock -> ((Value.slice va nv vc).ownBlock = v.ownBlock \/ Frm w.heap.size (.slice va nv vc)) -> wpList P ops Q rest (a.put o.dst (.slice va nv vc)) w') : wpList P ops Q (o :: rest) a w := by
 refine wpList_append_mine w hgd s x t ho E K bytes ht hinfo B v xs hs hM hB ad m c news hx hl hnews hb hm ?_
 intro v' w' h1 h2 h3
 obtain ⟨va, vc, rfl, _⟩ := h1.sl
 exact h va _ vc w' rfl h1 h2 h3
end Go.Proofs.YtdnheaafcbihbaaGreat
