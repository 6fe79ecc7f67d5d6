/-
  Texts of the proof, merged by program: Lrg.
-/
import Derived.Test.YtdnheaafcbihbaaGreatRq27
set_option linter.unusedSimpArgs false
set_option linter.unusedVariables false
set_option maxHeartbeats 16000000
namespace Go.Proofs.YtdnheaafcbihbaaGreat
open Go Go.RowKit Go.Deep
open FFld (ints)
theorem seqE_le (o : Int) (xs : List Int) : seqE o xs <= 20 := by
 unfold seqE
 split
 ·split
  ·omega
  ·split <;> omega
 ·omega
set_option maxRecDepth 20000 in
theorem cShortest_err (o : Int) (as_ : Option Addr) (cs n : Nat) (sl : List Int) (w : World) (hs : Sl .i64 w (.slice as_ n cs) sl) (hn : sl.length = n) (o0 : -9223372036854775808 <= o) (o1 : o <= 9223372036854775807) (he : seqE o sl ≠ 0) :
 Calls Tryz.prog 62 #[.int .i64 o, .slice as_ n cs] w (RB w (.tuple #[nilv, .int .i64 (seqE o sl : Nat)])) := by
 have hsc := ccheckSeq_any o as_ cs sl w (by rw [hn]; exact hs) o0 o1
 obtain ⟨y, hy⟩ : ∃ y, seqE o sl = y := ⟨_, rfl⟩
 have hy20 : y <= 20 := by rw [<- hy]; exact seqE_le o sl
 rw [hn, hy] at hsc
 rw [hy] at he ⊢
 have HSC := Kept.mk hsc
 have e0 : ((y : Int) != 0) = true := by rw [bne_iff_ne]; omega
 clear hs hn hsc hy he
 go_enter Tryz.func62, Tryz.ntmps62
 go_wp2_with fail
 (with_reducible refine HSC.out.mono ?_)
 rintro e w1 ⟨hb1, rfl⟩
 have HB1 := Kept.mk hb1
 clear hb1
 go_wp2
 exact bodyPost_ret (v := .tuple #[nilv, .int .i64 y]) (by simp [results, Tryz.results62, go_sem]) rfl ⟨HB1.out, rfl⟩
set_option maxRecDepth 20000 in
theorem cProfile_err (o : Int) (as_ : Option Addr) (cs n : Nat) (sl : List Int) (w : World) (hs : Sl .i64 w (.slice as_ n cs) sl) (hn : sl.length = n) (o0 : -9223372036854775808 <= o) (o1 : o <= 9223372036854775807) (he : seqE o sl ≠ 0) :
 Calls Tryz.prog 63 #[.int .i64 o, .slice as_ n cs] w (RB w (.tuple #[nilv, .int .i64 (seqE o sl : Nat)])) := by
 have hsc := ccheckSeq_any o as_ cs sl w (by rw [hn]; exact hs) o0 o1
 obtain ⟨y, hy⟩ : ∃ y, seqE o sl = y := ⟨_, rfl⟩
 have hy20 : y <= 20 := by rw [<- hy]; exact seqE_le o sl
 rw [hn, hy] at hsc
 rw [hy] at he ⊢
 have HSC := Kept.mk hsc
 have e0 : ((y : Int) != 0) = true := by rw [bne_iff_ne]; omega
 clear hs hn hsc hy he
 go_enter Tryz.func63, Tryz.ntmps63
 go_wp2_with fail
 (with_reducible refine HSC.out.mono ?_)
 rintro e w1 ⟨hb1, rfl⟩
 have HB1 := Kept.mk hb1
 clear hb1
 go_wp2
 exact bodyPost_ret (v := .tuple #[nilv, .int .i64 y]) (by simp [results, Tryz.results63, go_sem]) rfl ⟨HB1.out, rfl⟩
structure RgSt (w : World) (o : Int) (la : Option Addr) (lc ln : Nat) (xs : List Int) (g6 q p kq m : Nat) (okb : Bool) (W : World) : Prop where
 bel : Below w.heap.size w W
 sl : Sl .i64 W (.slice la ln lc) xs
 ll : xs.length = ln
 l201 : ln <= 201
 o0 : -9223372036854775808 <= o
 o1 : o <= 9223372036854775807
 b9 : W.heap[g6]? = some (rbox q p kq m)
 yes : okb = true -> ∃ D : FFld.FD, D.Ok /\ o = D.q /\ q = D.q /\ p = D.p /\ kq = D.k /\ m = D.m
 no : okb = false -> ¬ FFld.Fit o
theorem RgSt.below {w : World} {o : Int} {la : Option Addr} {lc ln : Nat} {xs : List Int} {g6 q p kq m : Nat} {okb : Bool} {W W' : World} (h : RgSt w o la lc ln xs g6 q p kq m okb W) (hb : Below W.heap.size W W') : RgSt w o la lc ln xs g6 q p kq m okb W' :=
 { h with bel := h.bel.trans (hb.mono h.bel.size), sl := h.sl.below hb, b9 := (hb.block _ (Array.getElem?_eq_some_iff.1 h.b9).1).trans h.b9 }
structure RgTl (w : World) (o : Int) (g6 : Nat) (W : World) : Prop where
 bel : Below w.heap.size w W
 b9 : ∃ q p kq m : Nat, W.heap[g6]? = some (rbox q p kq m)
 o0 : -9223372036854775808 <= o
 o1 : o <= 9223372036854775807
theorem RgTl.below {w : World} {o : Int} {g6 : Nat} {W W' : World} (h : RgTl w o g6 W) (hb : Below W.heap.size W W') : RgTl w o g6 W' := by
 obtain ⟨q, p, kq, m, h9⟩ := h.b9
 exact ⟨h.bel.trans (hb.mono h.bel.size), ⟨q, p, kq, m, (hb.block _ (Array.getElem?_eq_some_iff.1 h9).1).trans h9⟩, h.o0, h.o1⟩
set_option maxRecDepth 20000 in
theorem codeRegisters_any (a0 : Int) (v1 : Value) (xs1 : List Int) (w : World) (h0 : -9223372036854775808 <= a0) (h1 : a0 <= 9223372036854775807) (s1 : Sl .i64 w v1 xs1) (w1 : I64s xs1) :
 Calls Tryz.prog 10 #[.int .i64 a0, v1] w (RB w (.bool true)) := by
 obtain ⟨a1, c1, rfl, hn1, hm1⟩ := s1.form
 obtain ⟨n1, hn⟩ : ∃ x, xs1.length = x := ⟨_, rfl⟩
 rw [hn] at s1 hn1 ⊢
 unfold maxLen at hm1
 obtain ⟨l1, hl1e⟩ : ∃ x, min n1 14 = x := ⟨_, rfl⟩
 have em2 : min (n1 : Int) 14 = (l1 : Nat) := by omega
 have hl1 : l1 <= 14 := by omega
 clear hl1e
 have HAW := Kept.mk (fun W => cawake_any W)
 have HNW := Kept.mk (fun W o (a : -9223372036854775808 <= o) (b : o <= 9223372036854775807) => rnew_any o W a b)
 have HOD := Kept.mk (fun W o (a : -9223372036854775808 <= o) (b : o <= 9223372036854775807) => order3_any o 300 W a b)
 have HEL : Kept (∀ W (q : Nat), Below w.heap.size w W -> 1 <= q -> q <= 300 -> Calls Tryz.prog 37 #[.int .i64 q, .slice a1 n1 c1, .int .i64 (l1 : Nat)] W (RetP W (elL q xs1 l1) l1)) := ⟨fun W q hW hq1 hq3 => (elements_any q l1 (.slice a1 n1 c1) xs1 W (s1.below hW) w1 hq1 (by omega) (by omega)).mono fun e w' h => h.parts (elL_len _ _ _)⟩
 have HR2 : Kept (Calls Tryz.prog 18 #[.slice a1 n1 c1, .int .i64 201] w (fun e w' => Below w.heap.size w w' /\ ∃ (va : Option Addr) (vc m : Nat), e = .returned (.slice va m vc) /\ (xs1.take 201).length = m /\ m <= 201 /\ Sl .i64 w' (.slice va m vc) (xs1.take 201))) := ⟨(raw3_any (.slice a1 n1 c1) xs1 201 w s1 (by omega)).mono fun e w' ⟨hb, v', he, hmm⟩ => by
  obtain ⟨va, vc, rfl, _, _⟩ := hmm.sl.form
  exact ⟨hb, va, vc, _, he, rfl, by rw [List.length_take]; omega, hmm.sl⟩⟩
 have HBDS : Kept (-9223372036854775808 <= a0 /\ a0 <= 9223372036854775807) := ⟨⟨h0, h1⟩⟩
 clear s1 w1 hn h0 h1
 go_enter Tryz.func10, Tryz.ntmps10
 go_wp2_with fail
 (with_reducible refine HR2.out.mono ?_)
 rintro e W1 ⟨hb1, la, lc, ln, rfl, hll, hl2, hsl⟩
 have HB1 := Kept.mk hb1
 have HL1 : Kept (Sl .i64 W1 (.slice la ln lc) (xs1.take 201) /\ (xs1.take 201).length = ln /\ ln <= 201) := ⟨⟨hsl, hll, hl2⟩⟩
 clear hb1 hll hl2 hsl HR2
 go_wp2_with fail
 (with_reducible refine (HNW.out _ _ HBDS.out.1 HBDS.out.2).mono ?_)
 rintro e W3 ⟨hb3, hor⟩
 obtain ⟨okb, rv, q, p, kq, m, rfl, hrv, hyes, hno⟩ : ∃ (okb : Bool) (rv : Value) (q p kq m : Nat), e = .returned (.tuple #[rv, .bool okb]) /\ rv = rfv q p kq m /\ (okb = true -> ∃ D : FFld.FD, D.Ok /\ a0 = D.q /\ q = D.q /\ p = D.p /\ kq = D.k /\ m = D.m) /\ (okb = false -> ¬ FFld.Fit a0) := by
  rcases hor with ⟨D, hD, hq, rfl⟩ | ⟨hn, rfl⟩
  ·exact ⟨true, _, D.q, D.p, D.k, D.m, rfl, rfl, fun _ => ⟨D, hD, hq, rfl, rfl, rfl, rfl⟩, (fun h => by cases h)⟩
  ·exact ⟨false, _, 0, 0, 0, 0, rfl, rfl, (fun h => by cases h), fun _ => hn⟩
 subst hrv
 have hal : Below W3.heap.size W3 (W3.alloc (rbox q p kq m)) := (Below.refl _ _).alloc (Nat.le_refl _) _
 have hb4 := bstep hb3 hal
 have HST0 : Kept (RgSt w a0 la lc ln (xs1.take 201) W3.heap.size q p kq m okb (W3.alloc (rbox q p kq m))) := ⟨⟨HB1.out.trans (hb4.mono HB1.out.size), HL1.out.1.below hb4, HL1.out.2.1, HL1.out.2.2, HBDS.out.1, HBDS.out.2, heap_alloc_new W3 _, hyes, hno⟩⟩
 have hg6 : w.heap.size <= W3.heap.size := (HB1.out.trans (hb3.mono HB1.out.size)).size
 obtain ⟨g6, hg⟩ : ∃ x, W3.heap.size = x := ⟨_, rfl⟩
 obtain ⟨W5, hW5⟩ : ∃ W, W3.alloc (rbox q p kq m) = W := ⟨_, rfl⟩
 rw [hg, hW5] at HST0
 rw [hg] at hg6
 go_upto_region 3 with fail
 try rw [hW5]
 try rw [hg]
 clear hb3 hor hyes hno hal hb4 hg hW5 HB1 HL1 HBDS
 go_wp2
 go_loopw [0, 5, 7, 8] (fun ov lv kv iv wr => ∃ (kx : Nat) (o : Int) (la : Option Addr) (lc ln : Nat) (xs : List Int) (q p kq m : Nat) (okb : Bool), kx <= 2 /\ iv = .int .i64 kx /\ ov = .int .i64 o /\ lv = .slice la ln lc /\ kv = .bool okb /\ Kept (RgSt w o la lc ln xs g6 q p kq m okb wr)) (fun _ _ _ iv _ => 2 - (intOf iv).toNat)
 case atStart => exact ⟨0, _, _, _, _, _, _, _, _, _, _, by omega, rfl, rfl, rfl, rfl, HST0⟩
 case round =>
  clear HST0
  obtain ⟨kx, o, la, lc, ln, xs, q, p, kq, m, okb, hk2, rfl, rfl, rfl, rfl, hst⟩ := hrel
  by_cases hk : kx < 2
  ·have hl201 := hst.out.l201
   cases okb with
   | false =>
     focus (
      have hse : seqE o xs = 20 := by unfold seqE; rw [if_neg (hst.out.no rfl)]
      have HE1 : Kept (∀ W, Below wr.heap.size wr W -> Calls Tryz.prog 62 #[.int .i64 o, .slice la ln lc] W (RB W (.tuple #[nilv, .int .i64 20]))) := ⟨fun W hW => by
       have h := cShortest_err o la lc ln xs W (hst.out.sl.below hW) hst.out.ll hst.out.o0 hst.out.o1 (by rw [hse]; omega)
       rw [hse] at h
       exact h⟩
      have HE2 : Kept (∀ W, Below wr.heap.size wr W -> Calls Tryz.prog 63 #[.int .i64 o, .slice la ln lc] W (RB W (.tuple #[nilv, .int .i64 20]))) := ⟨fun W hW => by
       have h := cProfile_err o la lc ln xs W (hst.out.sl.below hW) hst.out.ll hst.out.o0 hst.out.o1 (by rw [hse]; omega)
       rw [hse] at h
       exact h⟩
      clear hse
      go_wp2_with fail
      (with_reducible refine (HE1.out _ (Below.refl _ _)).mono ?_)
      rintro e w1 ⟨hb1, rfl⟩
      have HB1 := Kept.mk hb1
      clear hb1
      go_wp2_with fail
      (with_reducible refine (HE2.out _ HB1.out).mono ?_)
      rintro e w2 ⟨hb2, rfl⟩
      have HB2 := Kept.mk (bstep HB1.out hb2)
      have HS2 := Kept.mk (hst.out.below HB2.out)
      clear hb2 HB1 HB2 HE1 HE2 hst
      obtain ⟨b0, b1, b2, b3⟩ := four_cells HS2.out.b9
      clear b0 b1 b2 b3
      go_upto_region 26 with fail
      have HT : Kept (RgTl w o g6 w2) := ⟨⟨HS2.out.bel, ⟨_, _, _, _, HS2.out.b9⟩, HS2.out.o0, HS2.out.o1⟩⟩
      obtain ⟨WZ, hWZ⟩ : ∃ W, w2 = W := ⟨_, rfl⟩
      rw [hWZ] at HT ⊢
      clear hWZ HS2
     )
     go_wp2_with fail
     (with_reducible refine (HOD.out _ _ HT.out.o0 HT.out.o1).mono ?_)
     rintro e w22 ⟨hb2, D2, hD2, hq2, rfl⟩
     have HT2' := Kept.mk (HT.out.below hb2)
     have HD2 := Kept.mk hD2
     have hq23 : D2.q <= 300 := by omega
     have hq21 : 1 <= D2.q := Nat.le_of_lt hD2.pre.pk.one_lt
     clear hb2 hD2 HT hq2
     go_wp2_with fail
     (with_reducible refine (HNW.out _ (D2.q : Int) (by omega) (by omega)).mono ?_)
     rintro e w23 ⟨hb3, hor2⟩
     obtain rfl : e = .returned (.tuple #[rfv D2.q D2.p D2.k D2.m, .bool true]) := by
      rcases hor2 with ⟨D', hD', hq', rfl⟩ | ⟨hno, rfl⟩
      ·obtain rfl : D' = D2 := FFld.FD.uniq hD' HD2.out (by omega)
       rfl
      ·exact absurd ⟨D2, HD2.out, rfl⟩ hno
     have HS3' := Kept.mk (HT2'.out.below hb3)
     obtain ⟨qq, pp, kk, mm, hb9⟩ := HS3'.out.b9
     obtain ⟨x0, x1, x2, x3⟩ := four_cells hb9
     obtain ⟨y0, y1, y2, y3⟩ := four_frz hb9
     have hg4 : w23.grownBy ((((w23.setCell ⟨g6, 0, none⟩ (.int .i64 D2.q)).setCell ⟨g6, 1, none⟩ (.int .i64 D2.p)).setCell ⟨g6, 2, none⟩ (.int .i64 D2.k)).setCell ⟨g6, 3, none⟩ (.int .i64 D2.m)) (some g6) := growSet (growSet (growSet (growSet (growRefl _ _) _ _) _ _) _ _) _ _
     have HB4' := Kept.mk (belowGrow hg4 HS3'.out.bel hg6)
     have HG4' := Kept.mk (four_set hb9 (.int .i64 D2.q) (.int .i64 D2.p) (.int .i64 D2.k) (.int .i64 D2.m))
     obtain ⟨W4', hW4'⟩ : ∃ W, (((w23.setCell ⟨g6, 0, none⟩ (.int .i64 D2.q)).setCell ⟨g6, 1, none⟩ (.int .i64 D2.p)).setCell ⟨g6, 2, none⟩ (.int .i64 D2.k)).setCell ⟨g6, 3, none⟩ (.int .i64 D2.m) = W := ⟨_, rfl⟩
     rw [hW4'] at HB4' HG4'
     go_upto_region 28 with fail
     try rw [hW4']
     clear hW4' hg4 hb3 hor2 HT2' HS3' x0 x1 x2 x3 y0 y1 y2 y3 hb9
     have HE1' : Kept (Calls Tryz.prog 37 #[.int .i64 D2.q, .slice a1 n1 c1, .int .i64 (l1 : Nat)] W4' (RetP W4' (elL D2.q xs1 l1) l1)) := ⟨HEL.out W4' D2.q HB4'.out hq21 hq23⟩
     go_wp2_with fail
     (with_reducible refine HE1'.out.mono ?_)
     rintro e w25 ⟨hb5, la', lc', rfl, hml⟩
     have HNX : Kept (RgSt w (D2.q : Int) la' lc' l1 (ints (elL D2.q xs1 l1)) g6 D2.q D2.p D2.k D2.m true w25) := ⟨⟨HB4'.out.trans (hb5.mono HB4'.out.size), hml.sl, by rw [FFld.ints_len, elL_len], by omega, by omega, by omega, (hb5.block _ (Array.getElem?_eq_some_iff.1 HG4'.out).1).trans HG4'.out, fun _ => ⟨D2, HD2.out, rfl, rfl, rfl, rfl, rfl⟩, (fun h => by cases h)⟩⟩
     clear hb5 hml HE1' HB4' HG4'
     go_wp2
     go_roundw
     case rel => exact ⟨kx + 1, _, _, _, _, _, _, _, _, _, _, by omega, by go_num, rfl, rfl, rfl, HNX⟩
     case measure => simp [intOf] <;> omega
   | true =>
     obtain ⟨D, hD, rfl, rfl, rfl, rfl, rfl⟩ := hst.out.yes rfl
     have HD := Kept.mk hD
     have hfit : FFld.Fit (D.q : Int) := ⟨D, hD, rfl⟩
     have hq1 := hD.pre.pk.one_lt
     clear hD
     by_cases h200 : 200 < ln
     focus (
      have hse : seqE (D.q : Int) xs = 2 := by unfold seqE; rw [if_pos hfit, if_pos (by rw [hst.out.ll]; exact h200)]
      have m1 : (200 : Int) < (ln : Int) := by omega
      have HE1 : Kept (∀ W, Below wr.heap.size wr W -> Calls Tryz.prog 62 #[.int .i64 (D.q : Int), .slice la ln lc] W (RB W (.tuple #[nilv, .int .i64 2]))) := ⟨fun W hW => by
       have h := cShortest_err (D.q : Int) la lc ln xs W (hst.out.sl.below hW) hst.out.ll hst.out.o0 hst.out.o1 (by rw [hse]; omega)
       rw [hse] at h
       exact h⟩
      have HE2 : Kept (∀ W, Below wr.heap.size wr W -> Calls Tryz.prog 63 #[.int .i64 (D.q : Int), .slice la ln lc] W (RB W (.tuple #[nilv, .int .i64 2]))) := ⟨fun W hW => by
       have h := cProfile_err (D.q : Int) la lc ln xs W (hst.out.sl.below hW) hst.out.ll hst.out.o0 hst.out.o1 (by rw [hse]; omega)
       rw [hse] at h
       exact h⟩
      clear hse
      go_wp2_with fail
      (with_reducible refine (HE1.out _ (Below.refl _ _)).mono ?_)
      rintro e w1 ⟨hb1, rfl⟩
      have HB1 := Kept.mk hb1
      clear hb1
      go_wp2_with fail
      (with_reducible refine (HE2.out _ HB1.out).mono ?_)
      rintro e w2 ⟨hb2, rfl⟩
      have HB2 := Kept.mk (bstep HB1.out hb2)
      have HS2 := Kept.mk (hst.out.below HB2.out)
      clear hb2 HB1 HB2 HE1 HE2 hst
      obtain ⟨b0, b1, b2, b3⟩ := four_cells HS2.out.b9
      clear b0 b1 b2 b3
      go_upto_region 26 with fail
      have HT : Kept (RgTl w (D.q : Int) g6 w2) := ⟨⟨HS2.out.bel, ⟨_, _, _, _, HS2.out.b9⟩, HS2.out.o0, HS2.out.o1⟩⟩
      obtain ⟨WZ, hWZ⟩ : ∃ W, w2 = W := ⟨_, rfl⟩
      rw [hWZ] at HT ⊢
      clear hWZ HS2
      clear m1
     )
     rotate_left
     by_cases hbl : belB (D.q : Int) xs = true
     by_cases h14 : ln <= 14
     focus (
      clear hfit
      obtain ⟨ss, hse, hsq⟩ := els_list (D := D) (A := xs) (by rw [els_bel]; exact hbl)
      subst hse
      have HSN : Kept (ss.length = ln) := ⟨by have := hst.out.ll; rw [FFld.ints_len] at this; exact this⟩
      have HSQ := Kept.mk hsq
      have m1 : ¬ ((200 : Int) < (ln : Int)) := by omega
      obtain ⟨Lf, hLf⟩ : ∃ f : Nat -> Nat, (fun i => (FFld.bmF D HD.out.pre.pk ss i).len) = f := ⟨_, rfl⟩
      have hLi : ∀ i, (FFld.bmF D HD.out.pre.pk ss i).len = Lf i := fun i => congrFun hLf i
      have hLI : Lf ln <= ln := by rw [<- hLi]; exact (FFld.bm_ok HD.out.pre.pk ss ln).li
      obtain ⟨pl, hpl⟩ : ∃ l, (FFld.bmF D HD.out.pre.pk ss ln).prof = l := ⟨_, rfl⟩
      have HPN : Kept (pl.length = ln) := ⟨by rw [<- hpl]; exact (FFld.bm_ok HD.out.pre.pk ss ln).pl⟩
      have HPI : Kept (∀ i, i < ln -> pl[i]?.getD 0 = Lf (i + 1)) := ⟨fun i hi => by rw [<- hpl, FFld.bm_prof HD.out.pre.pk ss ln i hi, hLi]⟩
      have HTL : Kept ((bmT D HD.out.pre.pk ss ln).length = Lf ln) := ⟨by rw [bmT_len HD.out, hLi]⟩
      have HSH : Kept (Calls Tryz.prog 62 #[.int .i64 D.q, .slice la ln lc] wr (fun e w' => Below wr.heap.size wr w' /\ ∃ (ta : Option Addr) (tc : Nat), e = .returned (.tuple #[.slice ta (Lf ln) tc, .int .i64 0]) /\ Sl .i64 w' (.slice ta (Lf ln) tc) (ints (bmT D HD.out.pre.pk ss ln)))) := ⟨(cShortest_any HD.out la lc ln ss wr hst.out.sl HSN.out HSQ.out (by omega)).mono fun e w' h => by
       obtain ⟨hb, vt, rfl, ht⟩ := h
       have ht' : Sl .i64 w' vt (ints (bmT D HD.out.pre.pk ss ln)) := ht
       obtain ⟨ta, tc, rfl, _, _⟩ := ht'.form
       rw [FFld.ints_len, HTL.out] at ht' ⊢
       exact ⟨hb, ta, tc, rfl, ht'⟩⟩
      have HPR : Kept (∀ W, Below wr.heap.size wr W -> Calls Tryz.prog 63 #[.int .i64 D.q, .slice la ln lc] W (fun e w' => Below W.heap.size W w' /\ ∃ (pa : Option Addr) (pc : Nat), e = .returned (.tuple #[.slice pa ln pc, .int .i64 0]) /\ Sl .i64 w' (.slice pa ln pc) (ints pl))) := ⟨fun W hW => (cProfile_any HD.out la lc ln ss W (hst.out.sl.below hW) HSN.out HSQ.out (by omega)).mono fun e w' h => by
       obtain ⟨hb, vt, rfl, ht⟩ := h
       rw [hpl] at ht
       obtain ⟨ta, tc, rfl, _, _⟩ := ht.form
       rw [FFld.ints_len, HPN.out] at ht ⊢
       exact ⟨hb, ta, tc, rfl, ht⟩⟩
      have HEl : Kept (∀ W, RgSt w (D.q : Int) la lc ln (ints ss) g6 D.q D.p D.k D.m true W -> Calls Tryz.prog 32 #[rfv D.q D.p D.k D.m, .slice la ln lc] W (RB W (.bool true))) := ⟨fun W hW => by
       have h := relements_any D (.slice la ln lc) (ints ss) W hW.sl
       rw [elsB_ints HSQ.out] at h
       exact h⟩
      have HTQ : Kept (∀ a ∈ bmT D HD.out.pre.pk ss ln, a < D.p ^ D.k) := ⟨bmT_lt HD.out ss ln⟩
      have HLT : Kept (∀ W i, ln <= 14 -> i <= ln -> Sl .i64 W (.slice la ln lc) (ints ss) -> Calls Tryz.prog 64 #[.int .i64 D.q, .slice la i i] W (RB W (.int .i64 (Lf i : Nat)))) := ⟨fun W i h14 hi hs => by
       have hs' := sl_take hs (k := i) (by rw [FFld.ints_len, HSN.out]; exact hi)
       rw [FFld.ints_take] at hs'
       have h := rleast_any HD.out la i i (ss.take i) W hs' (by rw [List.length_take, HSN.out]; omega) (fun a ha => HSQ.out a (List.mem_of_mem_take ha)) (by omega)
       rw [FFld.bm_take HD.out.pre.pk ss i i (Nat.le_refl _), hLi] at h
       exact h⟩
      have HLA : Kept (∀ W, ln <= 14 -> Sl .i64 W (.slice la ln lc) (ints ss) -> Calls Tryz.prog 64 #[.int .i64 D.q, .slice la ln lc] W (RB W (.int .i64 (Lf ln : Nat)))) := ⟨fun W h14 hs => by
       have h := rleast_any HD.out la lc ln ss W hs HSN.out HSQ.out (by omega)
       rw [hLi] at h
       exact h⟩
      have HMK : Kept (∀ W ta tc, Sl .i64 W (.slice ta (Lf ln) tc) (ints (bmT D HD.out.pre.pk ss ln)) -> Sl .i64 W (.slice la ln lc) (ints ss) -> Calls Tryz.prog 61 #[.int .i64 D.q, .slice ta (Lf ln) tc, .slice la ln lc] W (RB W (.bool true))) := ⟨fun W ta tc ht hs => by
       have h := rmakes_any HD.out ta la tc lc (Lf ln) ln (bmT D HD.out.pre.pk ss ln) ss W ht hs HTL.out HSN.out HTQ.out HSQ.out (by omega) hLI
       rw [bm_makes HD.out HSQ.out ln] at h
       exact h⟩
      clear hLi hLf hpl hsq hbl
      go_wp2_with fail
      (with_reducible refine HSH.out.mono ?_)
      rintro e w1 ⟨hb1, ta, tc, rfl, ht1⟩
      have HB1 := Kept.mk hb1
      have HT1 := Kept.mk ht1
      clear hb1 ht1 HSH
      obtain ⟨Ln, hLn⟩ : ∃ x, Lf ln = x := ⟨_, rfl⟩
      rw [hLn] at HT1 HMK HLA hLI ⊢
      have HLN := Kept.mk hLn
      clear hLn
      go_wp2_with fail
      (with_reducible refine (HPR.out _ HB1.out).mono ?_)
      rintro e w2 ⟨hb2, pa, pc, rfl, hp2⟩
      have HB2 := Kept.mk (bstep HB1.out hb2)
      have HT2 := Kept.mk (HT1.out.below hb2)
      have HP2 := Kept.mk hp2
      have HS2 := Kept.mk (hst.out.below HB2.out)
      clear hb2 hp2 HB1 HT1 HPR hst HB2
      obtain ⟨b0, b1, b2, b3⟩ := four_cells HS2.out.b9
      go_wp2_with fail
      (with_reducible refine (HEl.out _ HS2.out).mono ?_)
      rintro e w3 ⟨hb3, rfl⟩
      have HS3 := Kept.mk (HS2.out.below hb3)
      have HT3 := Kept.mk (HT2.out.below hb3)
      have HP3 := Kept.mk (HP2.out.below hb3)
      clear hb3 HS2 HT2 HP2 b0 b1 b2 b3 HEl
      have m2 : (ln : Int) <= 14 := by omega
      obtain ⟨b0, b1, b2, b3⟩ := four_cells HS3.out.b9
      have HET : Kept (Calls Tryz.prog 32 #[rfv D.q D.p D.k D.m, .slice ta Ln tc] w3 (RB w3 (.bool true))) := ⟨by
       have h := relements_any D (.slice ta Ln tc) (ints (bmT D HD.out.pre.pk ss ln)) w3 HT3.out
       rw [elsB_ints HTQ.out] at h
       exact h⟩
      have enn : ((ln : Int) != (ln : Int)) = false := by simp
      have eLL : ((Ln : Int) != (Ln : Int)) = false := by simp
      go_wp2_with fail
      (with_reducible refine HET.out.mono ?_)
      rintro e w4 ⟨hb4, rfl⟩
      have HS4 := Kept.mk (HS3.out.below hb4)
      have HT4 := Kept.mk (HT3.out.below hb4)
      have HP4 := Kept.mk (HP3.out.below hb4)
      clear hb4 HS3 HT3 HP3 b0 b1 b2 b3 HET
      go_wp2_with fail
      (with_reducible refine (HMK.out _ _ _ HT4.out HS4.out.sl).mono ?_)
      rintro e w5 ⟨hb5, rfl⟩
      have HS5 := Kept.mk (HS4.out.below hb5)
      have HP5 := Kept.mk (HP4.out.below hb5)
      clear hb5 HS4 HP4 HT4 HMK
      go_wp2_with fail
      (with_reducible refine (HLA.out _ (by omega) HS5.out.sl).mono ?_)
      rintro e w6 ⟨hb6, rfl⟩
      have HS6 := Kept.mk (HS5.out.below hb6)
      have HP6 := Kept.mk (HP5.out.below hb6)
      clear hb6 HS5 HP5 HLA
      have h14 : ln <= 14 := by omega
      go_wp2
      go_loopw [14] (fun iv wq => ∃ (i : Nat), i <= ln /\ iv = .int .i64 i /\ Kept (Below w6.heap.size w6 wq)) (fun iv _ => ln - (intOf iv).toNat)
      case atStart => exact ⟨0, Nat.zero_le _, rfl, ⟨Below.refl _ _⟩⟩
      case round =>
       obtain ⟨i, hin, rfl, hbw⟩ := hrel
       by_cases hlt : i < ln
       ·have HSr := Kept.mk (HS6.out.below hbw.out)
        obtain ⟨bp, op, rfl, hbp, u0⟩ := (HP6.out.below hbw.out).news_ i (by rw [FFld.ints_len, HPN.out]; exact hlt)
        rw [FFld.ints_get, HPI.out i hlt] at u0
        obtain ⟨x, hx⟩ : ∃ x, Lf (i + 1) = x := ⟨_, rfl⟩
        rw [hx] at u0
        have hsl := HSr.out.sl
        obtain ⟨bl, ol, rfl, hbl, u1⟩ := hsl.news_ i (by rw [FFld.ints_len, HSN.out]; exact hlt)
        have HLE : Kept (∀ W, Below wr.heap.size wr W -> Calls Tryz.prog 64 #[.int .i64 D.q, .slice (some ⟨bl, ol, none⟩) (i + 1) (i + 1)] W (RB W (.int .i64 (x : Nat)))) := ⟨fun W hW => by
         have h := HLT.out W (i + 1) h14 (by omega) (hsl.below hW)
         rw [hx] at h
         exact h⟩
        have hlc : ln <= lc /\ lc <= 9223372036854775807 := by
         obtain ⟨_, _, e, h1, h2, _⟩ := hsl
         simp only [Value.slice.injEq] at e
         obtain ⟨_, e1, e2⟩ := e
         unfold maxLen at h2
         omega
        obtain ⟨hlc1, hlc2⟩ := hlc
        have exx : ((x : Int) != (x : Int)) = false := by simp
        have HB0 := Kept.mk (Below.refl wr.heap.size wr)
        have t1 : (0 : Int) <= (i : Int) + 1 := by omega
        have t2 : ((i : Int) + 1).toNat = i + 1 := by omega
        have t3 : (i : Int) + 1 <= (lc : Int) := by omega
        have t4 : i + 1 <= lc := by omega
        have t5 : (i : Int) + 1 <= (ln : Int) := by omega
        have ew : IntKind.i64.wrap ((i : Int) + 1) = (i : Int) + 1 := wi (by omega) (by omega)
        clear hsl u1 hx
        go_wp2_with fail
        go_upto_region 24 with fail
        go_region_held3 (fun w' => w'.cell? ⟨bp, op + i, none⟩ = some (.int .i64 (x : Nat)))
         (first | exact u9 | exact u0 | go_keep)
         ((first
           | (go_at_call 64; (with_reducible refine (HLE.out _ ?h1).mono ?_); (case h1 => first | exact HB0.out | exact HB0.out.drew); rintro e v1 ⟨hbv, rfl⟩; have HBV := Kept.mk (bstep (show Below wr.heap.size wr _ from (by first | exact HB0.out | exact HB0.out.drew)) hbv); have u9 := belowCell HBV.out u0; clear hbv)))
        have HBN := Kept.mk (bstep hbw.out HBV.out)
        go_wp2
        go_roundw
        case rel => exact ⟨i + 1, by omega, by go_num, HBN⟩
        case measure => simp [intOf] <;> omega
       ·obtain rfl : i = ln := by omega
        have HSZ := Kept.mk (HS6.out.below hbw.out)
        clear hbw HS6 HP6 HLT HTQ HPI HPN
        go_upto_region 26 with fail
        have HT : Kept (RgTl w (D.q : Int) g6 wr) := ⟨⟨HSZ.out.bel, ⟨_, _, _, _, HSZ.out.b9⟩, HSZ.out.o0, HSZ.out.o1⟩⟩
        obtain ⟨WZ, hWZ⟩ : ∃ W, wr = W := ⟨_, rfl⟩
        rw [hWZ] at HT ⊢
        clear hWZ HSZ
        clear m1 m2 enn eLL h14
        go_wp2_with fail
        (with_reducible refine (HOD.out _ _ HT.out.o0 HT.out.o1).mono ?_)
        rintro e w22 ⟨hb2, D2, hD2, hq2, rfl⟩
        have HT2' := Kept.mk (HT.out.below hb2)
        have HD2 := Kept.mk hD2
        have hq23 : D2.q <= 300 := by omega
        have hq21 : 1 <= D2.q := Nat.le_of_lt hD2.pre.pk.one_lt
        clear hb2 hD2 HT hq2
        go_wp2_with fail
        (with_reducible refine (HNW.out _ (D2.q : Int) (by omega) (by omega)).mono ?_)
        rintro e w23 ⟨hb3, hor2⟩
        obtain rfl : e = .returned (.tuple #[rfv D2.q D2.p D2.k D2.m, .bool true]) := by
         rcases hor2 with ⟨D', hD', hq', rfl⟩ | ⟨hno, rfl⟩
         ·obtain rfl : D' = D2 := FFld.FD.uniq hD' HD2.out (by omega)
          rfl
         ·exact absurd ⟨D2, HD2.out, rfl⟩ hno
        have HS3' := Kept.mk (HT2'.out.below hb3)
        obtain ⟨qq, pp, kk, mm, hb9⟩ := HS3'.out.b9
        obtain ⟨x0, x1, x2, x3⟩ := four_cells hb9
        obtain ⟨y0, y1, y2, y3⟩ := four_frz hb9
        have hg4 : w23.grownBy ((((w23.setCell ⟨g6, 0, none⟩ (.int .i64 D2.q)).setCell ⟨g6, 1, none⟩ (.int .i64 D2.p)).setCell ⟨g6, 2, none⟩ (.int .i64 D2.k)).setCell ⟨g6, 3, none⟩ (.int .i64 D2.m)) (some g6) := growSet (growSet (growSet (growSet (growRefl _ _) _ _) _ _) _ _) _ _
        have HB4' := Kept.mk (belowGrow hg4 HS3'.out.bel hg6)
        have HG4' := Kept.mk (four_set hb9 (.int .i64 D2.q) (.int .i64 D2.p) (.int .i64 D2.k) (.int .i64 D2.m))
        obtain ⟨W4', hW4'⟩ : ∃ W, (((w23.setCell ⟨g6, 0, none⟩ (.int .i64 D2.q)).setCell ⟨g6, 1, none⟩ (.int .i64 D2.p)).setCell ⟨g6, 2, none⟩ (.int .i64 D2.k)).setCell ⟨g6, 3, none⟩ (.int .i64 D2.m) = W := ⟨_, rfl⟩
        rw [hW4'] at HB4' HG4'
        go_upto_region 28 with fail
        try rw [hW4']
        clear hW4' hg4 hb3 hor2 HT2' HS3' x0 x1 x2 x3 y0 y1 y2 y3 hb9
        have HE1' : Kept (Calls Tryz.prog 37 #[.int .i64 D2.q, .slice a1 n1 c1, .int .i64 (l1 : Nat)] W4' (RetP W4' (elL D2.q xs1 l1) l1)) := ⟨HEL.out W4' D2.q HB4'.out hq21 hq23⟩
        go_wp2_with fail
        (with_reducible refine HE1'.out.mono ?_)
        rintro e w25 ⟨hb5, la', lc', rfl, hml⟩
        have HNX : Kept (RgSt w (D2.q : Int) la' lc' l1 (ints (elL D2.q xs1 l1)) g6 D2.q D2.p D2.k D2.m true w25) := ⟨⟨HB4'.out.trans (hb5.mono HB4'.out.size), hml.sl, by rw [FFld.ints_len, elL_len], by omega, by omega, by omega, (hb5.block _ (Array.getElem?_eq_some_iff.1 HG4'.out).1).trans HG4'.out, fun _ => ⟨D2, HD2.out, rfl, rfl, rfl, rfl, rfl⟩, (fun h => by cases h)⟩⟩
        clear hb5 hml HE1' HB4' HG4'
        go_wp2
        go_roundw
        case rel => exact ⟨kx + 1, _, _, _, _, _, _, _, _, _, _, by omega, by go_num, rfl, rfl, rfl, HNX⟩
        case measure => simp [intOf] <;> omega
     )
     focus (
      clear hfit
      obtain ⟨ss, hse, hsq⟩ := els_list (D := D) (A := xs) (by rw [els_bel]; exact hbl)
      subst hse
      have HSN : Kept (ss.length = ln) := ⟨by have := hst.out.ll; rw [FFld.ints_len] at this; exact this⟩
      have HSQ := Kept.mk hsq
      have m1 : ¬ ((200 : Int) < (ln : Int)) := by omega
      obtain ⟨Lf, hLf⟩ : ∃ f : Nat -> Nat, (fun i => (FFld.bmF D HD.out.pre.pk ss i).len) = f := ⟨_, rfl⟩
      have hLi : ∀ i, (FFld.bmF D HD.out.pre.pk ss i).len = Lf i := fun i => congrFun hLf i
      have hLI : Lf ln <= ln := by rw [<- hLi]; exact (FFld.bm_ok HD.out.pre.pk ss ln).li
      obtain ⟨pl, hpl⟩ : ∃ l, (FFld.bmF D HD.out.pre.pk ss ln).prof = l := ⟨_, rfl⟩
      have HPN : Kept (pl.length = ln) := ⟨by rw [<- hpl]; exact (FFld.bm_ok HD.out.pre.pk ss ln).pl⟩
      have HPI : Kept (∀ i, i < ln -> pl[i]?.getD 0 = Lf (i + 1)) := ⟨fun i hi => by rw [<- hpl, FFld.bm_prof HD.out.pre.pk ss ln i hi, hLi]⟩
      have HTL : Kept ((bmT D HD.out.pre.pk ss ln).length = Lf ln) := ⟨by rw [bmT_len HD.out, hLi]⟩
      have HSH : Kept (Calls Tryz.prog 62 #[.int .i64 D.q, .slice la ln lc] wr (fun e w' => Below wr.heap.size wr w' /\ ∃ (ta : Option Addr) (tc : Nat), e = .returned (.tuple #[.slice ta (Lf ln) tc, .int .i64 0]) /\ Sl .i64 w' (.slice ta (Lf ln) tc) (ints (bmT D HD.out.pre.pk ss ln)))) := ⟨(cShortest_any HD.out la lc ln ss wr hst.out.sl HSN.out HSQ.out (by omega)).mono fun e w' h => by
       obtain ⟨hb, vt, rfl, ht⟩ := h
       have ht' : Sl .i64 w' vt (ints (bmT D HD.out.pre.pk ss ln)) := ht
       obtain ⟨ta, tc, rfl, _, _⟩ := ht'.form
       rw [FFld.ints_len, HTL.out] at ht' ⊢
       exact ⟨hb, ta, tc, rfl, ht'⟩⟩
      have HPR : Kept (∀ W, Below wr.heap.size wr W -> Calls Tryz.prog 63 #[.int .i64 D.q, .slice la ln lc] W (fun e w' => Below W.heap.size W w' /\ ∃ (pa : Option Addr) (pc : Nat), e = .returned (.tuple #[.slice pa ln pc, .int .i64 0]) /\ Sl .i64 w' (.slice pa ln pc) (ints pl))) := ⟨fun W hW => (cProfile_any HD.out la lc ln ss W (hst.out.sl.below hW) HSN.out HSQ.out (by omega)).mono fun e w' h => by
       obtain ⟨hb, vt, rfl, ht⟩ := h
       rw [hpl] at ht
       obtain ⟨ta, tc, rfl, _, _⟩ := ht.form
       rw [FFld.ints_len, HPN.out] at ht ⊢
       exact ⟨hb, ta, tc, rfl, ht⟩⟩
      have HEl : Kept (∀ W, RgSt w (D.q : Int) la lc ln (ints ss) g6 D.q D.p D.k D.m true W -> Calls Tryz.prog 32 #[rfv D.q D.p D.k D.m, .slice la ln lc] W (RB W (.bool true))) := ⟨fun W hW => by
       have h := relements_any D (.slice la ln lc) (ints ss) W hW.sl
       rw [elsB_ints HSQ.out] at h
       exact h⟩
      have HTQ : Kept (∀ a ∈ bmT D HD.out.pre.pk ss ln, a < D.p ^ D.k) := ⟨bmT_lt HD.out ss ln⟩
      have HLT : Kept (∀ W i, ln <= 14 -> i <= ln -> Sl .i64 W (.slice la ln lc) (ints ss) -> Calls Tryz.prog 64 #[.int .i64 D.q, .slice la i i] W (RB W (.int .i64 (Lf i : Nat)))) := ⟨fun W i h14 hi hs => by
       have hs' := sl_take hs (k := i) (by rw [FFld.ints_len, HSN.out]; exact hi)
       rw [FFld.ints_take] at hs'
       have h := rleast_any HD.out la i i (ss.take i) W hs' (by rw [List.length_take, HSN.out]; omega) (fun a ha => HSQ.out a (List.mem_of_mem_take ha)) (by omega)
       rw [FFld.bm_take HD.out.pre.pk ss i i (Nat.le_refl _), hLi] at h
       exact h⟩
      have HLA : Kept (∀ W, ln <= 14 -> Sl .i64 W (.slice la ln lc) (ints ss) -> Calls Tryz.prog 64 #[.int .i64 D.q, .slice la ln lc] W (RB W (.int .i64 (Lf ln : Nat)))) := ⟨fun W h14 hs => by
       have h := rleast_any HD.out la lc ln ss W hs HSN.out HSQ.out (by omega)
       rw [hLi] at h
       exact h⟩
      have HMK : Kept (∀ W ta tc, Sl .i64 W (.slice ta (Lf ln) tc) (ints (bmT D HD.out.pre.pk ss ln)) -> Sl .i64 W (.slice la ln lc) (ints ss) -> Calls Tryz.prog 61 #[.int .i64 D.q, .slice ta (Lf ln) tc, .slice la ln lc] W (RB W (.bool true))) := ⟨fun W ta tc ht hs => by
       have h := rmakes_any HD.out ta la tc lc (Lf ln) ln (bmT D HD.out.pre.pk ss ln) ss W ht hs HTL.out HSN.out HTQ.out HSQ.out (by omega) hLI
       rw [bm_makes HD.out HSQ.out ln] at h
       exact h⟩
      clear hLi hLf hpl hsq hbl
      go_wp2_with fail
      (with_reducible refine HSH.out.mono ?_)
      rintro e w1 ⟨hb1, ta, tc, rfl, ht1⟩
      have HB1 := Kept.mk hb1
      have HT1 := Kept.mk ht1
      clear hb1 ht1 HSH
      obtain ⟨Ln, hLn⟩ : ∃ x, Lf ln = x := ⟨_, rfl⟩
      rw [hLn] at HT1 HMK HLA hLI ⊢
      have HLN := Kept.mk hLn
      clear hLn
      go_wp2_with fail
      (with_reducible refine (HPR.out _ HB1.out).mono ?_)
      rintro e w2 ⟨hb2, pa, pc, rfl, hp2⟩
      have HB2 := Kept.mk (bstep HB1.out hb2)
      have HT2 := Kept.mk (HT1.out.below hb2)
      have HP2 := Kept.mk hp2
      have HS2 := Kept.mk (hst.out.below HB2.out)
      clear hb2 hp2 HB1 HT1 HPR hst HB2
      obtain ⟨b0, b1, b2, b3⟩ := four_cells HS2.out.b9
      go_wp2_with fail
      (with_reducible refine (HEl.out _ HS2.out).mono ?_)
      rintro e w3 ⟨hb3, rfl⟩
      have HS3 := Kept.mk (HS2.out.below hb3)
      have HT3 := Kept.mk (HT2.out.below hb3)
      have HP3 := Kept.mk (HP2.out.below hb3)
      clear hb3 HS2 HT2 HP2 b0 b1 b2 b3 HEl
      have m2 : ¬ ((ln : Int) <= 14) := by omega
      go_upto_region 26 with fail
      have HT : Kept (RgTl w (D.q : Int) g6 w3) := ⟨⟨HS3.out.bel, ⟨_, _, _, _, HS3.out.b9⟩, HS3.out.o0, HS3.out.o1⟩⟩
      obtain ⟨WZ, hWZ⟩ : ∃ W, w3 = W := ⟨_, rfl⟩
      rw [hWZ] at HT ⊢
      clear hWZ HS3
      clear m1 m2
     )
     rotate_left
     focus (
      have hbl' : belB (D.q : Int) xs = false := (Bool.not_eq_true _).mp hbl
      have hse : seqE (D.q : Int) xs = 1 := by unfold seqE; rw [if_pos hfit, if_neg (by rw [hst.out.ll]; exact h200), if_pos hbl']
      have m1 : ¬ ((200 : Int) < (ln : Int)) := by omega
      have HEl : Kept (∀ W, RgSt w (D.q : Int) la lc ln xs g6 D.q D.p D.k D.m true W -> Calls Tryz.prog 32 #[rfv D.q D.p D.k D.m, .slice la ln lc] W (RB W (.bool false))) := ⟨fun W hW => by
       have h := relements_any D (.slice la ln lc) xs W hW.sl
       rw [els_bel, hbl'] at h
       exact h⟩
      clear hbl hbl'
      have HE1 : Kept (∀ W, Below wr.heap.size wr W -> Calls Tryz.prog 62 #[.int .i64 (D.q : Int), .slice la ln lc] W (RB W (.tuple #[nilv, .int .i64 1]))) := ⟨fun W hW => by
       have h := cShortest_err (D.q : Int) la lc ln xs W (hst.out.sl.below hW) hst.out.ll hst.out.o0 hst.out.o1 (by rw [hse]; omega)
       rw [hse] at h
       exact h⟩
      have HE2 : Kept (∀ W, Below wr.heap.size wr W -> Calls Tryz.prog 63 #[.int .i64 (D.q : Int), .slice la ln lc] W (RB W (.tuple #[nilv, .int .i64 1]))) := ⟨fun W hW => by
       have h := cProfile_err (D.q : Int) la lc ln xs W (hst.out.sl.below hW) hst.out.ll hst.out.o0 hst.out.o1 (by rw [hse]; omega)
       rw [hse] at h
       exact h⟩
      clear hse
      go_wp2_with fail
      (with_reducible refine (HE1.out _ (Below.refl _ _)).mono ?_)
      rintro e w1 ⟨hb1, rfl⟩
      have HB1 := Kept.mk hb1
      clear hb1
      go_wp2_with fail
      (with_reducible refine (HE2.out _ HB1.out).mono ?_)
      rintro e w2 ⟨hb2, rfl⟩
      have HB2 := Kept.mk (bstep HB1.out hb2)
      have HS2 := Kept.mk (hst.out.below HB2.out)
      clear hb2 HB1 HB2 HE1 HE2 hst
      obtain ⟨b0, b1, b2, b3⟩ := four_cells HS2.out.b9
      go_wp2_with fail
      (with_reducible refine (HEl.out _ HS2.out).mono ?_)
      rintro e w3 ⟨hb3, rfl⟩
      have HS3 := Kept.mk (HS2.out.below hb3)
      clear hb3 HS2 b0 b1 b2 b3 HEl
      go_upto_region 26 with fail
      have HT : Kept (RgTl w (D.q : Int) g6 w3) := ⟨⟨HS3.out.bel, ⟨_, _, _, _, HS3.out.b9⟩, HS3.out.o0, HS3.out.o1⟩⟩
      obtain ⟨WZ, hWZ⟩ : ∃ W, w3 = W := ⟨_, rfl⟩
      rw [hWZ] at HT ⊢
      clear hWZ HS3
      clear m1
     )
     rotate_left
     all_goals (
      go_wp2_with fail
      (with_reducible refine (HOD.out _ _ HT.out.o0 HT.out.o1).mono ?_)
      rintro e w22 ⟨hb2, D2, hD2, hq2, rfl⟩
      have HT2' := Kept.mk (HT.out.below hb2)
      have HD2 := Kept.mk hD2
      have hq23 : D2.q <= 300 := by omega
      have hq21 : 1 <= D2.q := Nat.le_of_lt hD2.pre.pk.one_lt
      clear hb2 hD2 HT hq2
      go_wp2_with fail
      (with_reducible refine (HNW.out _ (D2.q : Int) (by omega) (by omega)).mono ?_)
      rintro e w23 ⟨hb3, hor2⟩
      obtain rfl : e = .returned (.tuple #[rfv D2.q D2.p D2.k D2.m, .bool true]) := by
       rcases hor2 with ⟨D', hD', hq', rfl⟩ | ⟨hno, rfl⟩
       ·obtain rfl : D' = D2 := FFld.FD.uniq hD' HD2.out (by omega)
        rfl
       ·exact absurd ⟨D2, HD2.out, rfl⟩ hno
      have HS3' := Kept.mk (HT2'.out.below hb3)
      obtain ⟨qq, pp, kk, mm, hb9⟩ := HS3'.out.b9
      obtain ⟨x0, x1, x2, x3⟩ := four_cells hb9
      obtain ⟨y0, y1, y2, y3⟩ := four_frz hb9
      have hg4 : w23.grownBy ((((w23.setCell ⟨g6, 0, none⟩ (.int .i64 D2.q)).setCell ⟨g6, 1, none⟩ (.int .i64 D2.p)).setCell ⟨g6, 2, none⟩ (.int .i64 D2.k)).setCell ⟨g6, 3, none⟩ (.int .i64 D2.m)) (some g6) := growSet (growSet (growSet (growSet (growRefl _ _) _ _) _ _) _ _) _ _
      have HB4' := Kept.mk (belowGrow hg4 HS3'.out.bel hg6)
      have HG4' := Kept.mk (four_set hb9 (.int .i64 D2.q) (.int .i64 D2.p) (.int .i64 D2.k) (.int .i64 D2.m))
      obtain ⟨W4', hW4'⟩ : ∃ W, (((w23.setCell ⟨g6, 0, none⟩ (.int .i64 D2.q)).setCell ⟨g6, 1, none⟩ (.int .i64 D2.p)).setCell ⟨g6, 2, none⟩ (.int .i64 D2.k)).setCell ⟨g6, 3, none⟩ (.int .i64 D2.m) = W := ⟨_, rfl⟩
      rw [hW4'] at HB4' HG4'
      go_upto_region 28 with fail
      try rw [hW4']
      clear hW4' hg4 hb3 hor2 HT2' HS3' x0 x1 x2 x3 y0 y1 y2 y3 hb9
      have HE1' : Kept (Calls Tryz.prog 37 #[.int .i64 D2.q, .slice a1 n1 c1, .int .i64 (l1 : Nat)] W4' (RetP W4' (elL D2.q xs1 l1) l1)) := ⟨HEL.out W4' D2.q HB4'.out hq21 hq23⟩
      go_wp2_with fail
      (with_reducible refine HE1'.out.mono ?_)
      rintro e w25 ⟨hb5, la', lc', rfl, hml⟩
      have HNX : Kept (RgSt w (D2.q : Int) la' lc' l1 (ints (elL D2.q xs1 l1)) g6 D2.q D2.p D2.k D2.m true w25) := ⟨⟨HB4'.out.trans (hb5.mono HB4'.out.size), hml.sl, by rw [FFld.ints_len, elL_len], by omega, by omega, by omega, (hb5.block _ (Array.getElem?_eq_some_iff.1 HG4'.out).1).trans HG4'.out, fun _ => ⟨D2, HD2.out, rfl, rfl, rfl, rfl, rfl⟩, (fun h => by cases h)⟩⟩
      clear hb5 hml HE1' HB4' HG4'
      go_wp2
      go_roundw
      case rel => exact ⟨kx + 1, _, _, _, _, _, _, _, _, _, _, by omega, by go_num, rfl, rfl, rfl, HNX⟩
      case measure => simp [intOf] <;> omega)
  ·obtain rfl : kx = 2 := by omega
   go_wp2_with fail
   (with_reducible refine (HAW.out _).mono ?_)
   rintro e w12 ⟨hb12, rfl⟩
   have HBZ := Kept.mk (hst.out.bel.trans (hb12.mono hst.out.bel.size))
   clear hb12 hst
   go_wp2
   go_ret
   exact ⟨HBZ.out, rfl⟩
end Go.Proofs.YtdnheaafcbihbaaGreat
