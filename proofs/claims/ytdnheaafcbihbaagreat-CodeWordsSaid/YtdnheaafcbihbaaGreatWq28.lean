/-
  Texts of the proof, merged by program: Lwd.
-/
import Derived.Test.YtdnheaafcbihbaaGreatWq27
set_option linter.unusedSimpArgs false
set_option linter.unusedVariables false
set_option maxHeartbeats 16000000
namespace Go.Proofs.YtdnheaafcbihbaaGreat
open Go Go.RowKit Go.Deep
open FFld (ints)
structure DwSt (w : World) (D : FFld.FD) (va : Option Addr) (m vc kk : Nat) (xs : List Nat) (g7 g8 : Nat) (ma : Option Addr) (nm mc : Nat) (M : List Int) (wa : Option Addr) (nw wc : Nat) (V : List Int) (W : World) : Prop where
 lw : LwAt w D va m vc kk xs g7 g8 W
 sm : Sl .i64 W (.slice ma nm mc) M
 sv : Sl .i64 W (.slice wa nw wc) V
 lm : M.length = nm
 lv : V.length = nw
 nm20 : nm <= 20
 nw20 : nw <= 20
theorem DwSt.below {w : World} {D : FFld.FD} {va : Option Addr} {m vc kk : Nat} {xs : List Nat} {g7 g8 : Nat} {ma : Option Addr} {nm mc : Nat} {M : List Int} {wa : Option Addr} {nw wc : Nat} {V : List Int} {W W' : World} (h : DwSt w D va m vc kk xs g7 g8 ma nm mc M wa nw wc V W) (hb : Below W.heap.size W W') : DwSt w D va m vc kk xs g7 g8 ma nm mc M wa nw wc V W' :=
 { h with lw := h.lw.below hb, sm := h.sm.below hb, sv := h.sv.below hb }
set_option maxRecDepth 20000 in
theorem codeWords_any (o : Int) (ao : Option Addr) (n0 cap : Nat) (k : Int) (ys : List Int) (v1 : Value) (xs1 : List Int) (v2 : Value) (xs2 : List Int) (w : World) (hl : ys.length = n0) (hs : Sl .i64 w (.slice ao n0 cap) ys) (hi : I64s ys) (o0 : -9223372036854775808 <= o) (o1 : o <= 9223372036854775807) (k0 : -9223372036854775808 <= k) (k1 : k <= 9223372036854775807) (s1 : Sl .i64 w v1 xs1) (w1 : I64s xs1) (s2 : Sl .i64 w v2 xs2) (w2 : I64s xs2) :
 Calls Tryz.prog 4 #[cdv o ao n0 cap k, v1, v2] w (RB w (.bool true)) := by
 obtain ⟨a1, c1, rfl, hn1, hm1⟩ := s1.form
 obtain ⟨n1, hn1'⟩ : ∃ x, xs1.length = x := ⟨_, rfl⟩
 rw [hn1'] at s1 hn1 ⊢
 obtain ⟨a2, c2, rfl, hn2, hm2⟩ := s2.form
 obtain ⟨n2, hn2'⟩ : ∃ x, xs2.length = x := ⟨_, rfl⟩
 rw [hn2'] at s2 hn2 ⊢
 unfold maxLen at hm1 hm2
 have HX0 : Kept (Bxs w [rcdbox o ao n0 cap k] (w.alloc (rcdbox o ao n0 cap k))) := ⟨(Bxs.start w).alloc (by simp) _⟩
 have HTM : Kept (∀ W, Below w.heap.size w W -> Calls Tryz.prog 30 #[cdv o ao n0 cap k, .int .i64 12] W (TaRet 12 W)) := ⟨fun W hW => tame_any o k ao n0 cap 12 ys W hl (hs.below hW) hi o0 o1 k0 k1 (by omega)⟩
 have HAW := Kept.mk (fun W => cawake_any W)
 have HEA : Kept (∀ W, Below w.heap.size w W -> ∀ q len : Nat, 1 <= q -> q <= 300 -> len <= 20 -> Calls Tryz.prog 37 #[.int .i64 q, .slice a1 n1 c1, .int .i64 len] W (RetP W (elL q xs1 len) len)) := ⟨fun W hW q len hq1 hq3 hk => (elements_any q len (.slice a1 n1 c1) xs1 W (s1.below hW) w1 hq1 (by omega) (by omega)).mono fun e w' h => h.parts (elL_len _ _ _)⟩
 have HEB : Kept (∀ W, Below w.heap.size w W -> ∀ q len : Nat, 1 <= q -> q <= 300 -> len <= 20 -> Calls Tryz.prog 37 #[.int .i64 q, .slice a2 n2 c2, .int .i64 len] W (RetP W (elL q xs2 len) len)) := ⟨fun W hW q len hq1 hq3 hk => (elements_any q len (.slice a2 n2 c2) xs2 W (s2.below hW) w2 hq1 (by omega) (by omega)).mono fun e w' h => h.parts (elL_len _ _ _)⟩
 have HRA : Kept (∀ W, Below w.heap.size w W -> Calls Tryz.prog 18 #[.slice a1 n1 c1, .int .i64 14] W (fun e w' => Below W.heap.size W w' /\ ∃ (va : Option Addr) (vc m : Nat), e = .returned (.slice va m vc) /\ (xs1.take 14).length = m /\ m <= 20 /\ Sl .i64 w' (.slice va m vc) (xs1.take 14))) := ⟨fun W hW => (raw3_any (.slice a1 n1 c1) xs1 14 W (s1.below hW) (by omega)).mono fun e w' ⟨hb, v', he, hmm⟩ => by
  obtain ⟨va, vc, rfl, _, _⟩ := hmm.sl.form
  exact ⟨hb, va, vc, _, he, rfl, by rw [List.length_take]; omega, hmm.sl⟩⟩
 have HRB : Kept (∀ W, Below w.heap.size w W -> Calls Tryz.prog 18 #[.slice a2 n2 c2, .int .i64 14] W (fun e w' => Below W.heap.size W w' /\ ∃ (va : Option Addr) (vc m : Nat), e = .returned (.slice va m vc) /\ (xs2.take 14).length = m /\ m <= 20 /\ Sl .i64 w' (.slice va m vc) (xs2.take 14))) := ⟨fun W hW => (raw3_any (.slice a2 n2 c2) xs2 14 W (s2.below hW) (by omega)).mono fun e w' ⟨hb, v', he, hmm⟩ => by
  obtain ⟨va, vc, rfl, _, _⟩ := hmm.sl.form
  exact ⟨hb, va, vc, _, he, rfl, by rw [List.length_take]; omega, hmm.sl⟩⟩
 clear hl hs hi o0 o1 k0 k1 s1 w1 s2 w2 hn1 hn2 hn1' hn2'
 go_enter Tryz.func4, Tryz.ntmps4
 obtain ⟨c0, c1, c2, _⟩ := three_cells HX0.out.b0
 have hbx := HX0.out.1
 go_wp2_with fail
 (with_reducible refine (HTM.out _ hbx).mono ?_)
 rintro e w1 ⟨hb1, D, va, m, vc, kk, xs, hD, hq3, hcv, hmm, rfl, hsl⟩
 have HD := Kept.mk hD
 have HCV := Kept.mk hcv
 have hm1 : m <= 12 := by omega
 have hkk1 := hcv.k1
 have hkkm := hcv.kn
 have hq1 : 1 <= D.q := Nat.le_of_lt hD.pre.pk.one_lt
 have hal : Below w1.heap.size w1 (w1.alloc (rcdbox D.q va m vc kk)) := (Below.refl _ _).alloc (Nat.le_refl _) _
 have hg7 := heap_alloc_new w1 (rcdbox D.q va m vc kk)
 have hbw : Below w.heap.size w (w1.alloc (rcdbox D.q va m vc kk)) := (hbx.trans (hb1.mono hbx.size)).trans (hal.mono (Nat.le_trans hbx.size hb1.size))
 have hsl2 := hsl.below hal
 obtain ⟨g7, hg⟩ : ∃ x, w1.heap.size = x := ⟨_, rfl⟩
 obtain ⟨W2, hW2⟩ : ∃ W, w1.alloc (rcdbox D.q va m vc kk) = W := ⟨_, rfl⟩
 rw [hW2, hg] at hg7
 rw [hW2] at hbw hsl2
 have HG7 := Kept.mk hg7
 have HBW := Kept.mk hbw
 have HSL := Kept.mk hsl2
 obtain ⟨p0, p1, p2, _⟩ := three_cells hg7
 have HGI := Kept.mk (give_any (D.q : Int) (kk : Int) va m vc W2)
 go_upto_region 2 with fail
 try rw [hW2]
 try rw [hg]
 clear hbx hb1 hD hcv hmm hsl hal hg7 hbw hsl2 c0 c1 c2 hW2 hg HX0 HTM
 go_wp2_with fail
 (with_reducible refine HGI.out.mono ?_)
 rintro e w3 ⟨hb3, rfl⟩
 have hal : Below w3.heap.size w3 (w3.alloc (cdbox D.q va m vc kk)) := (Below.refl _ _).alloc (Nat.le_refl _) _
 have hg8 := heap_alloc_new w3 (cdbox D.q va m vc kk)
 have hb4 := bstep hb3 hal
 obtain ⟨g8, hg⟩ : ∃ x, w3.heap.size = x := ⟨_, rfl⟩
 obtain ⟨W4, hW4⟩ : ∃ W, w3.alloc (cdbox D.q va m vc kk) = W := ⟨_, rfl⟩
 rw [hW4, hg] at hg8
 rw [hW4] at hb4
 have HL4 : Kept (LwAt w D va m vc kk xs g7 g8 W4) := ⟨⟨HBW.out.trans (hb4.mono HBW.out.size), (hb4.block _ (Array.getElem?_eq_some_iff.1 HG7.out).1).trans HG7.out, hg8, HSL.out.below hb4⟩⟩
 go_upto_region 3 with fail
 try rw [hW4]
 try rw [hg]
 clear hb3 hal hg8 hb4 hg hW4 p0 p1 p2 HGI HBW HG7 HSL
 obtain ⟨p0, p1, p2, _⟩ := three_cells HL4.out.b7
 obtain ⟨r0, r1, r2, _⟩ := three_cells HL4.out.b8
 have HNW : Kept (∀ W, Calls Tryz.prog 31 #[.int .i64 D.q] W (RB W (.tuple #[rfv D.q D.p D.k D.m, .bool true]))) := ⟨fun W => (rnew_any (D.q : Int) W (by omega) (by omega)).mono fun e w' h => by
  obtain ⟨hb, ⟨D', hD', hq', rfl⟩ | ⟨hno, rfl⟩⟩ := h
  ·obtain rfl : D' = D := FFld.FD.uniq hD' HD.out (by omega)
   exact ⟨hb, rfl⟩
  ·exact absurd ⟨D, HD.out, rfl⟩ hno⟩
 go_wp2_with fail
 (with_reducible refine (HRA.out _ HL4.out.bel).mono ?_)
 rintro e w5 ⟨hb5, ma, mc, nm, rfl, hlm, hm20, hsm⟩
 have HL5 := Kept.mk (HL4.out.below hb5)
 have HSM := Kept.mk hsm
 have HLM := Kept.mk hlm
 clear hb5 hsm hlm HL4 p0 p1 p2 r0 r1 r2 HRA
 go_wp2_with fail
 (with_reducible refine (HRB.out _ HL5.out.bel).mono ?_)
 rintro e w6 ⟨hb6, wa, wc, nw, rfl, hlv, hw20, hsv⟩
 have HST : Kept (DwSt w D va m vc kk xs g7 g8 ma nm mc (xs1.take 14) wa nw wc (xs2.take 14) w6) := ⟨⟨HL5.out.below hb6, HSM.out.below hb6, hsv, HLM.out, hlv, hm20, hw20⟩⟩
 clear hb6 hsv hlv HL5 HSM HLM HRB
 go_wp2
 go_loopw [9, 10, 11] (fun mv vv kv wr => ∃ (kx nm mc nw wc : Nat) (ma wa : Option Addr) (M V : List Int), kx <= 2 /\ mv = .slice ma nm mc /\ vv = .slice wa nw wc /\ kv = .int .i64 kx /\ Kept (DwSt w D va m vc kk xs g7 g8 ma nm mc M wa nw wc V wr)) (fun _ _ kv _ => 2 - (intOf kv).toNat)
 case atStart => exact ⟨0, nm, mc, nw, wc, ma, wa, _, _, by omega, rfl, rfl, rfl, HST⟩
 case round =>
  clear HST
  obtain ⟨kx, nm, mc, nw, wc, ma, wa, M, V, hk2, rfl, rfl, rfl, hst⟩ := hrel
  have hnm20 := hst.out.nm20
  have hnw20 := hst.out.nw20
  by_cases hlt : kx < 2
  ·have hcA : (M.length ≠ kk /\ wdE D kk M = 7) \/ (M.length = kk /\ elsB D M = false /\ wdE D kk M = 1) \/ wdE D kk M = 0 := by
    by_cases h : wdE D kk M = 0
    ·exact .inr (.inr h)
    ·rcases wdE_case h with h | h
     ·exact .inl h
     ·exact .inr (.inl h)
   obtain ⟨p0, p1, p2, _⟩ := three_cells hst.out.lw.b7
   obtain ⟨r0, r1, r2, _⟩ := three_cells hst.out.lw.b8
   rcases hcA with ⟨hA', hA⟩ | ⟨hA', hEl, hA⟩ | hA
   focus (
    have HEN : Kept (Calls Tryz.prog 23 #[cdv D.q va m vc kk, .slice ma nm mc] wr (RB wr (.tuple #[nilv, .int .i64 7]))) := ⟨by
     have h := cencode_err HD.out va ma vc mc m kk nm xs M wr hst.out.lw.sl hst.out.sm HCV.out hst.out.lm (by rw [hA]; omega)
     rw [hA] at h
     exact h⟩
    have e0 : ((nm : Int) != (kk : Int)) = true := by have := hst.out.lm; rw [bne_iff_ne]; omega
    clear hA hA'
    go_wp2_with fail
    (with_reducible refine HEN.out.mono ?_)
    rintro e w6 ⟨hb6, rfl⟩
    have HS6 := Kept.mk (hst.out.below hb6)
    clear hb6 hst p0 p1 p2 r0 r1 r2
    obtain ⟨p0, p1, p2, _⟩ := three_cells HS6.out.lw.b7
    obtain ⟨r0, r1, r2, _⟩ := three_cells HS6.out.lw.b8
    go_wp2_with fail
    (with_reducible refine (HNW.out _).mono ?_)
    rintro e w7 ⟨hb7, rfl⟩
    have hal : Below w7.heap.size w7 (w7.alloc (rbox D.q D.p D.k D.m)) := (Below.refl _ _).alloc (Nat.le_refl _) _
    have hG := heap_alloc_new w7 (rbox D.q D.p D.k D.m)
    have HS8 := Kept.mk ((HS6.out.below hb7).below hal)
    obtain ⟨g9, hg⟩ : ∃ x, w7.heap.size = x := ⟨_, rfl⟩
    obtain ⟨W8, hW8⟩ : ∃ W, w7.alloc (rbox D.q D.p D.k D.m) = W := ⟨_, rfl⟩
    rw [hW8, hg] at hG
    rw [hW8] at HS8
    go_upto_region 14 with fail
    try rw [hW8]
    try rw [hg]
    clear hb7 hal hg hW8 HS6 p0 p1 p2 r0 r1 r2
    obtain ⟨p0, p1, p2, _⟩ := three_cells HS8.out.lw.b7
    obtain ⟨r0, r1, r2, _⟩ := three_cells HS8.out.lw.b8
    obtain ⟨i0, i1, i2, i3⟩ := four_cells hG
    clear i0 i1 i2 i3 hG HEN
    go_upto_region 20 with fail
    obtain ⟨WQ, hWQ⟩ : ∃ W, W8 = W := ⟨_, rfl⟩
    have HSQ := HS8
    rw [hWQ] at HSQ ⊢
    clear hWQ HS8 p0 p1 p2 r0 r1 r2
    clear e0
   )
   rotate_left
   focus (
    have HEN : Kept (Calls Tryz.prog 23 #[cdv D.q va m vc kk, .slice ma nm mc] wr (RB wr (.tuple #[nilv, .int .i64 1]))) := ⟨by
     have h := cencode_err HD.out va ma vc mc m kk nm xs M wr hst.out.lw.sl hst.out.sm HCV.out hst.out.lm (by rw [hA]; omega)
     rw [hA] at h
     exact h⟩
    have e0 : ((nm : Int) != (kk : Int)) = false := by have := hst.out.lm; rw [show nm = kk by omega]; simp
    have HEF := Kept.mk hEl
    clear hA hA' hEl
    go_wp2_with fail
    (with_reducible refine HEN.out.mono ?_)
    rintro e w6 ⟨hb6, rfl⟩
    have HS6 := Kept.mk (hst.out.below hb6)
    clear hb6 hst p0 p1 p2 r0 r1 r2
    obtain ⟨p0, p1, p2, _⟩ := three_cells HS6.out.lw.b7
    obtain ⟨r0, r1, r2, _⟩ := three_cells HS6.out.lw.b8
    go_wp2_with fail
    (with_reducible refine (HNW.out _).mono ?_)
    rintro e w7 ⟨hb7, rfl⟩
    have hal : Below w7.heap.size w7 (w7.alloc (rbox D.q D.p D.k D.m)) := (Below.refl _ _).alloc (Nat.le_refl _) _
    have hG := heap_alloc_new w7 (rbox D.q D.p D.k D.m)
    have HS8 := Kept.mk ((HS6.out.below hb7).below hal)
    obtain ⟨g9, hg⟩ : ∃ x, w7.heap.size = x := ⟨_, rfl⟩
    obtain ⟨W8, hW8⟩ : ∃ W, w7.alloc (rbox D.q D.p D.k D.m) = W := ⟨_, rfl⟩
    rw [hW8, hg] at hG
    rw [hW8] at HS8
    go_upto_region 14 with fail
    try rw [hW8]
    try rw [hg]
    clear hb7 hal hg hW8 HS6 p0 p1 p2 r0 r1 r2
    obtain ⟨p0, p1, p2, _⟩ := three_cells HS8.out.lw.b7
    obtain ⟨r0, r1, r2, _⟩ := three_cells HS8.out.lw.b8
    obtain ⟨i0, i1, i2, i3⟩ := four_cells hG
    have HEM : Kept (Calls Tryz.prog 32 #[rfv D.q D.p D.k D.m, .slice ma nm mc] W8 (RB W8 (.bool false))) := ⟨by
     have h := relements_any D (.slice ma nm mc) M W8 HS8.out.sm
     rw [HEF.out] at h
     exact h⟩
    clear hG HEN
    go_wp2_with fail
    (with_reducible refine HEM.out.mono ?_)
    rintro e w9 ⟨hb9, rfl⟩
    have HS9 := Kept.mk (HS8.out.below hb9)
    clear hb9 HS8 p0 p1 p2 r0 r1 r2
    obtain ⟨p0, p1, p2, _⟩ := three_cells HS9.out.lw.b7
    obtain ⟨r0, r1, r2, _⟩ := three_cells HS9.out.lw.b8
    clear i0 i1 i2 i3 HEM HEF
    go_upto_region 20 with fail
    obtain ⟨WQ, hWQ⟩ : ∃ W, w9 = W := ⟨_, rfl⟩
    have HSQ := HS9
    rw [hWQ] at HSQ ⊢
    clear hWQ HS9 p0 p1 p2 r0 r1 r2
    clear e0
   )
   rotate_left
   focus (
    have hA' := True.intro
    obtain ⟨ms, hMe, hmq, hml⟩ := wdE_zero hA
    subst hMe
    have hnk : kk = nm := by have := hst.out.lm; rw [FFld.ints_len] at this; omega
    subst hnk
    have HEN : Kept (Calls Tryz.prog 23 #[cdv D.q va m vc kk, .slice ma kk mc] wr (EnRet D xs ms m wr)) := ⟨cencode_ok HD.out va ma vc mc m kk xs ms wr hst.out.lw.sl hst.out.sm HCV.out hml hmq⟩
    have e0 : ((kk : Int) != (kk : Int)) = false := by simp
    have HML := Kept.mk hml
    have HMQ := Kept.mk hmq
    have HVQ : Kept (∀ a ∈ FFld.valsF D ms xs m, a < D.p ^ D.k) := ⟨fun a ha => by
     unfold FFld.valsF at ha
     obtain ⟨j, _, rfl⟩ := List.mem_map.1 ha
     split
     ·exact FFld.hornF_lt HD.out.pre.pk _ _ _
     ·exact Nat.pow_pos HD.out.pre.pk.p0⟩
    have HVL : Kept ((FFld.valsF D ms xs m).length = m) := ⟨by rw [FFld.valsF_len]; exact HCV.out.len⟩
    have HWL : Kept (wdL D HD.out.pre.pk xs (FFld.valsF D ms xs m) m = FFld.trm ms) := ⟨wdL_vals HD.out HCV.out hmq hml⟩
    have HTK : Kept ((FFld.trm ms).length <= kk) := ⟨by have := FFld.trm_len_le ms; omega⟩
    have HPT : Kept (FFld.padF (FFld.trm ms) kk = ms) := ⟨pad_trm hml⟩
    have HMS : Kept (∀ W ea ec, Below wr.heap.size wr W -> Sl .i64 W (.slice ea m ec) (ints (FFld.valsF D ms xs m)) -> Calls Tryz.prog 24 #[cdv D.q va m vc kk, .slice ea m ec] W (fun e w' => Below W.heap.size W w' /\ ∃ (a : Option Addr) (c : Nat), e = .returned (.tuple #[.slice a kk c, .int .i64 0]) /\ Sl .i64 w' (.slice a kk c) (ints ms))) := ⟨fun W ea ec hW hs => (cmessage_ok HD.out va ea vc ec m kk xs (FFld.valsF D ms xs m) W (hst.out.lw.sl.below hW) hs HCV.out HVL.out HVQ.out).mono fun e w' h => by
     obtain ⟨hb, ⟨hk, _⟩ | ⟨_, a, c, rfl, hs2⟩⟩ := h
     ·rw [HWL.out] at hk
      have := HTK.out
      omega
     ·rw [HWL.out, HPT.out] at hs2
      exact ⟨hb, a, c, rfl, hs2⟩⟩
    have HIW : Kept (∀ W ea ec, Below wr.heap.size wr W -> Sl .i64 W (.slice ea m ec) (ints (FFld.valsF D ms xs m)) -> Calls Tryz.prog 28 #[cdv D.q va m vc kk, .slice ea m ec] W (RB W (.bool true))) := ⟨fun W ea ec hW hs => by
     have h := cisword_ok HD.out va ea vc ec m kk xs (FFld.valsF D ms xs m) W (hst.out.lw.sl.below hW) hs HCV.out HVL.out HVQ.out
     rw [HWL.out, decide_eq_true HTK.out] at h
     exact h⟩
    have HRE : Kept (∀ W, Below wr.heap.size wr W -> Calls Tryz.prog 33 #[cdv D.q va m vc kk, .slice ma kk mc] W (fun e w' => Below W.heap.size W w' /\ ∃ (ea : Option Addr) (ec : Nat), e = .returned (.slice ea m ec) /\ Sl .i64 w' (.slice ea m ec) (ints (FFld.valsF D ms xs m)))) := ⟨fun W hW => (rencode_any HD.out va ma vc mc m kk (kk : Int) xs ms W (hst.out.lw.sl.below hW) (hst.out.sm.below hW) HCV.out.len hml HCV.out.lt hmq HCV.out.n64 (by omega)).mono fun e w' h => by
     obtain ⟨hb, v, rfl, hmn⟩ := h
     obtain ⟨ea, ec, rfl, _, _⟩ := hmn.sl.form
     have hs := hmn.sl
     rw [FFld.ints_len, HVL.out] at hs ⊢
     exact ⟨hb, ea, ec, rfl, hs⟩⟩
    have HEL : Kept (∀ W, Below wr.heap.size wr W -> Calls Tryz.prog 32 #[rfv D.q D.p D.k D.m, .slice ma kk mc] W (RB W (.bool true))) := ⟨fun W hW => by
     have h := relements_any D (.slice ma kk mc) (ints ms) W (hst.out.sm.below hW)
     rw [elsB_ints hmq] at h
     exact h⟩
    have HSM := Kept.mk hst.out.sm
    have HSAM := Kept.mk (fun (W : World) (u v : Value) (l : List Nat) (h1 : Sl .i64 W u (ints l)) (h2 : Sl .i64 W v (ints l)) (h3 : l.length <= 1000) => same3_eq u v (ints l) W h1 h2 (by rw [FFld.ints_len]; omega))
    have HB0 := Kept.mk (Below.refl wr.heap.size wr)
    clear hA hA' hmq hml
    go_wp2_with fail
    (with_reducible refine HEN.out.mono ?_)
    rintro e w6 ⟨hb6, ea, ec, rfl, hse⟩
    have HSE := Kept.mk hse
    have HB6 := Kept.mk hb6
    have HS6 := Kept.mk (hst.out.below hb6)
    clear hse HEN HB0 hb6 hst p0 p1 p2 r0 r1 r2
    obtain ⟨p0, p1, p2, _⟩ := three_cells HS6.out.lw.b7
    obtain ⟨r0, r1, r2, _⟩ := three_cells HS6.out.lw.b8
    go_wp2_with fail
    (with_reducible refine (HNW.out _).mono ?_)
    rintro e w7 ⟨hb7, rfl⟩
    have hal : Below w7.heap.size w7 (w7.alloc (rbox D.q D.p D.k D.m)) := (Below.refl _ _).alloc (Nat.le_refl _) _
    have hG := heap_alloc_new w7 (rbox D.q D.p D.k D.m)
    have HS8 := Kept.mk ((HS6.out.below hb7).below hal)
    obtain ⟨g9, hg⟩ : ∃ x, w7.heap.size = x := ⟨_, rfl⟩
    obtain ⟨W8, hW8⟩ : ∃ W, w7.alloc (rbox D.q D.p D.k D.m) = W := ⟨_, rfl⟩
    rw [hW8, hg] at hG
    rw [hW8] at HS8
    have HB8 := Kept.mk (bstep HB6.out (bstep hb7 hal))
    have HSE8 := Kept.mk ((HSE.out.below hb7).below hal)
    rw [hW8] at HB8 HSE8
    go_upto_region 14 with fail
    try rw [hW8]
    try rw [hg]
    clear hb7 hal hg hW8 HS6 p0 p1 p2 r0 r1 r2
    obtain ⟨p0, p1, p2, _⟩ := three_cells HS8.out.lw.b7
    obtain ⟨r0, r1, r2, _⟩ := three_cells HS8.out.lw.b8
    obtain ⟨i0, i1, i2, i3⟩ := four_cells hG
    clear hG HB6 HSE
    go_wp2_with fail
    (with_reducible refine (HEL.out _ HB8.out).mono ?_)
    rintro e w9 ⟨hb9, rfl⟩
    have HB9 := Kept.mk (bstep HB8.out hb9)
    have HSE9 := Kept.mk (HSE8.out.below hb9)
    have HS9 := Kept.mk (HS8.out.below hb9)
    clear hb9 HS8 p0 p1 p2 r0 r1 r2
    obtain ⟨p0, p1, p2, _⟩ := three_cells HS9.out.lw.b7
    obtain ⟨r0, r1, r2, _⟩ := three_cells HS9.out.lw.b8
    clear i0 i1 i2 i3 HEL HB8 HSE8
    go_wp2_with fail
    (with_reducible refine (HRE.out _ HB9.out).mono ?_)
    rintro e w10 ⟨hb10, fa, fc, rfl, hsf⟩
    have HB10 := Kept.mk (bstep HB9.out hb10)
    have HSE10 := Kept.mk (HSE9.out.below hb10)
    have HSF10 := Kept.mk hsf
    have HS10 := Kept.mk (HS9.out.below hb10)
    clear hb10 HS9 p0 p1 p2 r0 r1 r2
    obtain ⟨p0, p1, p2, _⟩ := three_cells HS10.out.lw.b7
    obtain ⟨r0, r1, r2, _⟩ := three_cells HS10.out.lw.b8
    clear hsf HB9 HSE9 HRE
    go_wp2_with fail
    (with_reducible refine (HMS.out _ _ _ HB10.out HSF10.out).mono ?_)
    rintro e w11 ⟨hb11, ba, bc, rfl, hsb⟩
    have HB11 := Kept.mk (bstep HB10.out hb11)
    have HSE11 := Kept.mk (HSE10.out.below hb11)
    have HSF11 := Kept.mk (HSF10.out.below hb11)
    have HSB11 := Kept.mk hsb
    have HS11 := Kept.mk (HS10.out.below hb11)
    clear hb11 HS10 p0 p1 p2 r0 r1 r2
    obtain ⟨p0, p1, p2, _⟩ := three_cells HS11.out.lw.b7
    obtain ⟨r0, r1, r2, _⟩ := three_cells HS11.out.lw.b8
    clear hsb HB10 HSE10 HSF10 HMS
    have HC1 := Kept.mk (HSAM.out w11 (.slice ea m ec) (.slice fa m fc) _ HSE11.out HSF11.out (by rw [HVL.out]; omega))
    go_wp2_with fail
    (with_reducible refine HC1.out.mono ?_)
    rintro e w12 ⟨hb12, rfl⟩
    have HB12 := Kept.mk (bstep HB11.out hb12)
    have HSF12 := Kept.mk (HSF11.out.below hb12)
    have HC2 := Kept.mk (HSAM.out w12 (.slice ba kk bc) (.slice ma kk mc) _ (HSB11.out.below hb12) ((HSM.out.below HB12.out)) (by rw [HML.out]; omega))
    have HS12 := Kept.mk (HS11.out.below hb12)
    clear hb12 HS11 p0 p1 p2 r0 r1 r2
    obtain ⟨p0, p1, p2, _⟩ := three_cells HS12.out.lw.b7
    obtain ⟨r0, r1, r2, _⟩ := three_cells HS12.out.lw.b8
    clear HC1 HB11 HSE11 HSF11 HSB11
    go_wp2_with fail
    (with_reducible refine HC2.out.mono ?_)
    rintro e w13 ⟨hb13, rfl⟩
    have HB13 := Kept.mk (bstep HB12.out hb13)
    have HSF13 := Kept.mk (HSF12.out.below hb13)
    have HS13 := Kept.mk (HS12.out.below hb13)
    clear hb13 HS12 p0 p1 p2 r0 r1 r2
    obtain ⟨p0, p1, p2, _⟩ := three_cells HS13.out.lw.b7
    obtain ⟨r0, r1, r2, _⟩ := three_cells HS13.out.lw.b8
    clear HC2 HB12 HSF12
    go_wp2_with fail
    (with_reducible refine (HIW.out _ _ _ HB13.out HSF13.out).mono ?_)
    rintro e w14 ⟨hb14, rfl⟩
    have HS14 := Kept.mk (HS13.out.below hb14)
    clear hb14 HS13 p0 p1 p2 r0 r1 r2
    obtain ⟨p0, p1, p2, _⟩ := three_cells HS14.out.lw.b7
    obtain ⟨r0, r1, r2, _⟩ := three_cells HS14.out.lw.b8
    clear HB13 HSF13 HIW HSAM HSM HML HMQ HVQ HVL HWL HTK HPT
    go_upto_region 20 with fail
    obtain ⟨WQ, hWQ⟩ : ∃ W, w14 = W := ⟨_, rfl⟩
    have HSQ := HS14
    rw [hWQ] at HSQ ⊢
    clear hWQ HS14 p0 p1 p2 r0 r1 r2
    clear e0
   )
   rotate_left
   all_goals (
    have hcV : (∃ y, wdE D m V = y /\ wdE D m V ≠ 0 /\ y ≠ 0 /\ y <= 7) \/ wdE D m V = 0 := by
     by_cases h : wdE D m V = 0
     ·exact .inr h
     ·exact .inl ⟨_, rfl, h, h, wdE_le D m V⟩
    rcases hcV with ⟨y, hy, hV, hy0, hy7⟩ | hV
    focus (
     have HMV : Kept (Calls Tryz.prog 24 #[cdv D.q va m vc kk, .slice wa nw wc] WQ (RB WQ (.tuple #[nilv, .int .i64 (y : Nat)]))) := ⟨by rw [<- hy]; exact cmessage_err HD.out va wa vc wc m kk nw xs V WQ HSQ.out.lw.sl HSQ.out.sv HCV.out HSQ.out.lv hV⟩
     have HWV : Kept (∀ W, Below WQ.heap.size WQ W -> Calls Tryz.prog 35 #[cdv D.q va m vc kk, .slice wa nw wc] W (RB W (.int .i64 (y : Nat)))) := ⟨fun W hW => by rw [<- hy]; exact rword3_any HD.out va wa vc wc m kk nw xs V W (HSQ.out.lw.sl.below hW) (HSQ.out.sv.below hW) HCV.out HSQ.out.lv⟩
     have HIV : Kept (∀ W, Below WQ.heap.size WQ W -> Calls Tryz.prog 28 #[cdv D.q va m vc kk, .slice wa nw wc] W (RB W (.bool false))) := ⟨fun W hW => cisword_err HD.out va wa vc wc m kk nw xs V W (HSQ.out.lw.sl.below hW) (HSQ.out.sv.below hW) HCV.out HSQ.out.lv hV⟩
     have e1 : ((y : Int) != 0) = true := by rw [bne_iff_ne]; omega
     have e2 : ((y : Int) != (y : Int)) = false := by simp
     clear hy hV
     obtain ⟨p0, p1, p2, _⟩ := three_cells HSQ.out.lw.b7
     obtain ⟨r0, r1, r2, _⟩ := three_cells HSQ.out.lw.b8
     go_wp2_with fail
     (with_reducible refine HMV.out.mono ?_)
     rintro e u1 ⟨hb1, rfl⟩
     have HB1 := Kept.mk hb1
     have HT1 := Kept.mk (HSQ.out.below hb1)
     clear hb1 HSQ p0 p1 p2 r0 r1 r2
     obtain ⟨p0, p1, p2, _⟩ := three_cells HT1.out.lw.b7
     obtain ⟨r0, r1, r2, _⟩ := three_cells HT1.out.lw.b8
     go_wp2_with fail
     (with_reducible refine (HWV.out _ HB1.out).mono ?_)
     rintro e u2 ⟨hb2, rfl⟩
     have HB2 := Kept.mk (bstep HB1.out hb2)
     have HT2 := Kept.mk (HT1.out.below hb2)
     clear hb2 HT1 p0 p1 p2 r0 r1 r2
     obtain ⟨p0, p1, p2, _⟩ := three_cells HT2.out.lw.b7
     obtain ⟨r0, r1, r2, _⟩ := three_cells HT2.out.lw.b8
     go_wp2_with fail
     (with_reducible refine (HIV.out _ HB2.out).mono ?_)
     rintro e u3 ⟨hb3, rfl⟩
     have HT3 := Kept.mk (HT2.out.below hb3)
     clear hb3 HT2 p0 p1 p2 r0 r1 r2
     obtain ⟨p0, p1, p2, _⟩ := three_cells HT3.out.lw.b7
     obtain ⟨r0, r1, r2, _⟩ := three_cells HT3.out.lw.b8
     clear HB1 HB2 HMV HWV HIV e1 e2
     go_upto_region 31 with fail
     obtain ⟨WZ, hWZ⟩ : ∃ W, u3 = W := ⟨_, rfl⟩
     have HSZ := HT3
     rw [hWZ] at HSZ ⊢
     clear hWZ HT3 p0 p1 p2 r0 r1 r2
    )
    rotate_left
    obtain ⟨ws, hVe, hwq, hwl⟩ := wdE_zero hV
    subst hVe
    have hnw : m = nw := by have := HSQ.out.lv; rw [FFld.ints_len] at this; omega
    subst hnw
    obtain ⟨L, hL⟩ : ∃ L, wdL D HD.out.pre.pk xs ws m = L := ⟨_, rfl⟩
    by_cases hLk : L.length <= kk
    focus (
     have HMV : Kept (Calls Tryz.prog 24 #[cdv D.q va m vc kk, .slice wa m wc] WQ (fun e w' => Below WQ.heap.size WQ w' /\ ∃ (a : Option Addr) (c : Nat), e = .returned (.tuple #[.slice a kk c, .int .i64 0]) /\ Sl .i64 w' (.slice a kk c) (ints (FFld.padF L kk)))) := ⟨(cmessage_ok HD.out va wa vc wc m kk xs ws WQ HSQ.out.lw.sl HSQ.out.sv HCV.out hwl hwq).mono fun e w' h => by
      rw [hL] at h
      obtain ⟨hb, ⟨hk, _⟩ | ⟨_, a, c, rfl, hs2⟩⟩ := h
      ·omega
      ·exact ⟨hb, a, c, rfl, hs2⟩⟩
     have HWV : Kept (∀ W, Below WQ.heap.size WQ W -> Calls Tryz.prog 35 #[cdv D.q va m vc kk, .slice wa m wc] W (RB W (.int .i64 0))) := ⟨fun W hW => by
      have h := rword3_any HD.out va wa vc wc m kk m xs (ints ws) W (HSQ.out.lw.sl.below hW) (HSQ.out.sv.below hW) HCV.out HSQ.out.lv
      rw [wdE_ints hwq hwl] at h
      exact h⟩
     have HRV : Kept (∀ W, Below WQ.heap.size WQ W -> Calls Tryz.prog 36 #[cdv D.q va m vc kk, .slice wa m wc] W (fun e w' => Below W.heap.size W w' /\ ∃ (a : Option Addr) (c : Nat), e = .returned (.tuple #[.slice a kk c, .bool true]) /\ Sl .i64 w' (.slice a kk c) (ints (FFld.padF L kk)))) := ⟨fun W hW => (rmessage3_any HD.out va wa vc wc m kk xs ws W (HSQ.out.lw.sl.below hW) (HSQ.out.sv.below hW) HCV.out hwl hwq).mono fun e w' h => by
      rw [hL] at h
      obtain ⟨hb, ⟨hk, _⟩ | ⟨_, a, c, rfl, hs2⟩⟩ := h
      ·omega
      ·exact ⟨hb, a, c, rfl, hs2⟩⟩
     have HIV : Kept (∀ W, Below WQ.heap.size WQ W -> Calls Tryz.prog 28 #[cdv D.q va m vc kk, .slice wa m wc] W (RB W (.bool true))) := ⟨fun W hW => by
      have h := cisword_ok HD.out va wa vc wc m kk xs ws W (HSQ.out.lw.sl.below hW) (HSQ.out.sv.below hW) HCV.out hwl hwq
      rw [hL, decide_eq_true (by omega)] at h
      exact h⟩
     have HPL : Kept ((FFld.padF L kk).length = kk) := ⟨FFld.padF_len (by omega)⟩
     have HSAM := Kept.mk (fun (W : World) (u v : Value) (l : List Nat) (h1 : Sl .i64 W u (ints l)) (h2 : Sl .i64 W v (ints l)) (h3 : l.length <= 1000) => same3_eq u v (ints l) W h1 h2 (by rw [FFld.ints_len]; omega))
     clear hV hL hLk hwq hwl
     obtain ⟨p0, p1, p2, _⟩ := three_cells HSQ.out.lw.b7
     obtain ⟨r0, r1, r2, _⟩ := three_cells HSQ.out.lw.b8
     go_wp2_with fail
     (with_reducible refine HMV.out.mono ?_)
     rintro e u1 ⟨hb1, ba, bc, rfl, hsb⟩
     have HB1 := Kept.mk hb1
     have HSB1 := Kept.mk hsb
     clear hsb
     have HT1 := Kept.mk (HSQ.out.below hb1)
     clear hb1 HSQ p0 p1 p2 r0 r1 r2
     obtain ⟨p0, p1, p2, _⟩ := three_cells HT1.out.lw.b7
     obtain ⟨r0, r1, r2, _⟩ := three_cells HT1.out.lw.b8
     go_wp2_with fail
     (with_reducible refine (HWV.out _ HB1.out).mono ?_)
     rintro e u2 ⟨hb2, rfl⟩
     have HB2 := Kept.mk (bstep HB1.out hb2)
     have HSB2 := Kept.mk (HSB1.out.below hb2)
     have HT2 := Kept.mk (HT1.out.below hb2)
     clear hb2 HT1 p0 p1 p2 r0 r1 r2
     obtain ⟨p0, p1, p2, _⟩ := three_cells HT2.out.lw.b7
     obtain ⟨r0, r1, r2, _⟩ := three_cells HT2.out.lw.b8
     go_wp2_with fail
     (with_reducible refine (HRV.out _ HB2.out).mono ?_)
     rintro e u3 ⟨hb3, da, dc, rfl, hsd⟩
     have HB3 := Kept.mk (bstep HB2.out hb3)
     have HC1 := Kept.mk (HSAM.out u3 (.slice ba kk bc) (.slice da kk dc) _ (HSB2.out.below hb3) hsd (by rw [HPL.out]; omega))
     clear hsd
     have HT3 := Kept.mk (HT2.out.below hb3)
     clear hb3 HT2 p0 p1 p2 r0 r1 r2
     obtain ⟨p0, p1, p2, _⟩ := three_cells HT3.out.lw.b7
     obtain ⟨r0, r1, r2, _⟩ := three_cells HT3.out.lw.b8
     go_wp2_with fail
     (with_reducible refine HC1.out.mono ?_)
     rintro e u4 ⟨hb4, rfl⟩
     have HB4 := Kept.mk (bstep HB3.out hb4)
     have HT4 := Kept.mk (HT3.out.below hb4)
     clear hb4 HT3 p0 p1 p2 r0 r1 r2
     obtain ⟨p0, p1, p2, _⟩ := three_cells HT4.out.lw.b7
     obtain ⟨r0, r1, r2, _⟩ := three_cells HT4.out.lw.b8
     go_wp2_with fail
     (with_reducible refine (HIV.out _ HB4.out).mono ?_)
     rintro e u5 ⟨hb5, rfl⟩
     have HT5 := Kept.mk (HT4.out.below hb5)
     clear hb5 HT4 p0 p1 p2 r0 r1 r2
     obtain ⟨p0, p1, p2, _⟩ := three_cells HT5.out.lw.b7
     obtain ⟨r0, r1, r2, _⟩ := three_cells HT5.out.lw.b8
     clear HB1 HB2 HB3 HMV HWV HRV HIV
     go_upto_region 31 with fail
     obtain ⟨WZ, hWZ⟩ : ∃ W, u5 = W := ⟨_, rfl⟩
     have HSZ := HT5
     rw [hWZ] at HSZ ⊢
     clear hWZ HT5 p0 p1 p2 r0 r1 r2
    )
    rotate_left
    focus (
     have HMV : Kept (Calls Tryz.prog 24 #[cdv D.q va m vc kk, .slice wa m wc] WQ (fun e w' => Below WQ.heap.size WQ w' /\ e = .returned (.tuple #[nilv, .int .i64 30]))) := ⟨(cmessage_ok HD.out va wa vc wc m kk xs ws WQ HSQ.out.lw.sl HSQ.out.sv HCV.out hwl hwq).mono fun e w' h => by
      rw [hL] at h
      obtain ⟨hb, ⟨_, rfl⟩ | ⟨hk, _⟩⟩ := h
      ·exact ⟨hb, rfl⟩
      ·omega⟩
     have HWV : Kept (∀ W, Below WQ.heap.size WQ W -> Calls Tryz.prog 35 #[cdv D.q va m vc kk, .slice wa m wc] W (RB W (.int .i64 0))) := ⟨fun W hW => by
      have h := rword3_any HD.out va wa vc wc m kk m xs (ints ws) W (HSQ.out.lw.sl.below hW) (HSQ.out.sv.below hW) HCV.out HSQ.out.lv
      rw [wdE_ints hwq hwl] at h
      exact h⟩
     have HRV : Kept (∀ W, Below WQ.heap.size WQ W -> Calls Tryz.prog 36 #[cdv D.q va m vc kk, .slice wa m wc] W (fun e w' => Below W.heap.size W w' /\ e = .returned (.tuple #[nilv, .bool false]))) := ⟨fun W hW => (rmessage3_any HD.out va wa vc wc m kk xs ws W (HSQ.out.lw.sl.below hW) (HSQ.out.sv.below hW) HCV.out hwl hwq).mono fun e w' h => by
      rw [hL] at h
      obtain ⟨hb, ⟨_, rfl⟩ | ⟨hk, _⟩⟩ := h
      ·exact ⟨hb, rfl⟩
      ·omega⟩
     have HIV : Kept (∀ W, Below WQ.heap.size WQ W -> Calls Tryz.prog 28 #[cdv D.q va m vc kk, .slice wa m wc] W (RB W (.bool false))) := ⟨fun W hW => by
      have h := cisword_ok HD.out va wa vc wc m kk xs ws W (HSQ.out.lw.sl.below hW) (HSQ.out.sv.below hW) HCV.out hwl hwq
      rw [hL, decide_eq_false (by omega)] at h
      exact h⟩
     clear hV hL hLk hwq hwl
     obtain ⟨p0, p1, p2, _⟩ := three_cells HSQ.out.lw.b7
     obtain ⟨r0, r1, r2, _⟩ := three_cells HSQ.out.lw.b8
     go_wp2_with fail
     (with_reducible refine HMV.out.mono ?_)
     rintro e u1 ⟨hb1, rfl⟩
     have HB1 := Kept.mk hb1
     have HT1 := Kept.mk (HSQ.out.below hb1)
     clear hb1 HSQ p0 p1 p2 r0 r1 r2
     obtain ⟨p0, p1, p2, _⟩ := three_cells HT1.out.lw.b7
     obtain ⟨r0, r1, r2, _⟩ := three_cells HT1.out.lw.b8
     go_wp2_with fail
     (with_reducible refine (HWV.out _ HB1.out).mono ?_)
     rintro e u2 ⟨hb2, rfl⟩
     have HB2 := Kept.mk (bstep HB1.out hb2)
     have HT2 := Kept.mk (HT1.out.below hb2)
     clear hb2 HT1 p0 p1 p2 r0 r1 r2
     obtain ⟨p0, p1, p2, _⟩ := three_cells HT2.out.lw.b7
     obtain ⟨r0, r1, r2, _⟩ := three_cells HT2.out.lw.b8
     go_wp2_with fail
     (with_reducible refine (HRV.out _ HB2.out).mono ?_)
     rintro e u3 ⟨hb3, rfl⟩
     have HB3 := Kept.mk (bstep HB2.out hb3)
     have HT3 := Kept.mk (HT2.out.below hb3)
     clear hb3 HT2 p0 p1 p2 r0 r1 r2
     obtain ⟨p0, p1, p2, _⟩ := three_cells HT3.out.lw.b7
     obtain ⟨r0, r1, r2, _⟩ := three_cells HT3.out.lw.b8
     go_wp2_with fail
     (with_reducible refine (HIV.out _ HB3.out).mono ?_)
     rintro e u5 ⟨hb5, rfl⟩
     have HT5 := Kept.mk (HT3.out.below hb5)
     clear hb5 HT3 p0 p1 p2 r0 r1 r2
     obtain ⟨p0, p1, p2, _⟩ := three_cells HT5.out.lw.b7
     obtain ⟨r0, r1, r2, _⟩ := three_cells HT5.out.lw.b8
     clear HB1 HB2 HB3 HMV HWV HRV HIV
     go_upto_region 31 with fail
     obtain ⟨WZ, hWZ⟩ : ∃ W, u5 = W := ⟨_, rfl⟩
     have HSZ := HT5
     rw [hWZ] at HSZ ⊢
     clear hWZ HT5 p0 p1 p2 r0 r1 r2
    )
    rotate_left
    all_goals (
     have HE1 : Kept (∀ W, Below w.heap.size w W -> Calls Tryz.prog 37 #[.int .i64 D.q, .slice a1 n1 c1, .int .i64 kk] W (RetP W (elL D.q xs1 kk) kk)) := ⟨fun W hW => HEA.out W hW D.q kk hq1 hq3 (by omega)⟩
     have HE2 : Kept (∀ W, Below w.heap.size w W -> Calls Tryz.prog 37 #[.int .i64 D.q, .slice a2 n2 c2, .int .i64 m] W (RetP W (elL D.q xs2 m) m)) := ⟨fun W hW => HEB.out W hW D.q m hq1 hq3 (by omega)⟩
     obtain ⟨p0, p1, p2, _⟩ := three_cells HSZ.out.lw.b7
     obtain ⟨r0, r1, r2, _⟩ := three_cells HSZ.out.lw.b8
     go_wp2_with fail
     (with_reducible refine (HE1.out _ HSZ.out.lw.bel).mono ?_)
     rintro e z1 ⟨hb1, ya, yc, rfl, hme⟩
     have HS1 := Kept.mk hme.sl
     clear hme HE1
     have HZ1 := Kept.mk (HSZ.out.below hb1)
     clear hb1 HSZ p0 p1 p2 r0 r1 r2
     obtain ⟨p0, p1, p2, _⟩ := three_cells HZ1.out.lw.b7
     obtain ⟨r0, r1, r2, _⟩ := three_cells HZ1.out.lw.b8
     go_wp2_with fail
     (with_reducible refine (HE2.out _ HZ1.out.lw.bel).mono ?_)
     rintro e z2 ⟨hb2, za, zc, rfl, hme⟩
     have HST9 : Kept (DwSt w D va m vc kk xs g7 g8 ya kk yc (ints (elL D.q xs1 kk)) za m zc (ints (elL D.q xs2 m)) z2) := ⟨⟨HZ1.out.lw.below hb2, HS1.out.below hb2, hme.sl, by rw [FFld.ints_len, elL_len], by rw [FFld.ints_len, elL_len], by omega, by omega⟩⟩
     clear hb2 hme HE2 HZ1 HS1 p0 p1 p2 r0 r1 r2
     go_wp2
     go_roundw
     case rel => exact ⟨kx + 1, kk, yc, m, zc, ya, za, _, _, by omega, rfl, rfl, by go_num, HST9⟩
     case measure => simp [intOf] <;> omega))
  ·obtain rfl : kx = 2 := by omega
   go_wp2_with fail
   (with_reducible refine (HAW.out _).mono ?_)
   rintro e w12 ⟨hb12, rfl⟩
   have HBZ := Kept.mk (hst.out.lw.bel.trans (hb12.mono hst.out.lw.bel.size))
   clear hb12 hst
   go_wp2
   go_ret
   exact ⟨HBZ.out, rfl⟩
end Go.Proofs.YtdnheaafcbihbaaGreat
