/-
  Texts of the proof, merged by program: Cpl Mu2 Rtq Rtc1 Rtm Fth.
-/
import Derived.Test.YtdnheaafcbihbaaGreatDq20
set_option linter.unusedSimpArgs false
set_option linter.unusedVariables false
set_option maxHeartbeats 16000000
namespace Go.Proofs.YtdnheaafcbihbaaGreat
open Go Go.RowKit
open FFld (ints)
set_option maxRecDepth 20000 in
theorem cplus_any {D : FFld.FD} {b : Nat} (hD : D.Ok) (ap aq : Option Addr) (cp cq : Nat) (pl ql : List Nat) (c s : Nat) (w : World) (hf : FldB D w b) (hp : Sl .i64 w (.slice ap pl.length cp) (ints pl)) (hq : Sl .i64 w (.slice aq ql.length cq) (ints ql)) (hpq : ∀ a ∈ pl, a < D.p ^ D.k) (hqq : ∀ a ∈ ql, a < D.p ^ D.k) (hc : c < D.p ^ D.k) (hl : pl.length <= 1000) (hl2 : s + ql.length <= 1000) :
 Calls Tryz.prog 165 #[.pointer (some ⟨b, 0, none⟩), .slice ap pl.length cp, .slice aq ql.length cq, .int .i64 c, .int .i64 s] w (fun e w' => Below w.heap.size w w' /\ e = .returned (.slice (some ⟨w.heap.size, 0, none⟩) (FFld.plusF D pl ql c s).length (max pl.length (s + ql.length))) /\ Wv w' w.heap.size (FFld.plusF D pl ql c s)) := by
 have hq6 : D.p ^ D.k <= 65536 := hD.pre.small
 obtain ⟨N, hN⟩ : ∃ N, max pl.length (s + ql.length) = N := ⟨_, rfl⟩
 have hN1 : pl.length <= N := by omega
 have hN2 : s + ql.length <= N := by omega
 have hN3 : N <= 1000 := by omega
 have HPD := Kept.mk (cpadded_any ap cp pl N w hp hN1 (by omega))
 have HNN := Kept.mk hN
 have eN1 : (max (pl.length : Int) ((s : Int) + (ql.length : Int))) = N := by omega
 have HAMB := Kept.mk (fun (W : World) (hW : Below w.heap.size w W) (hr : Wv W w.heap.size (FFld.padF pl N)) => caddMultiple_any (s := s) (n := N - s) (cc := N - s) (cap := cq) w W hD hf hW (Nat.le_refl _) (FFld.padF pl N) hr (FFld.padF_lt (Nat.pow_pos hD.pre.pk.p0) hpq N) ql (qc_of hq hW (Nat.le_refl _)) hqq (by rw [FFld.padF_len hN1]; exact hN2) (by omega) c hc (by omega))
 have HAMA := Kept.mk (fun (hsN : s = N) (W : World) (hW : Below w.heap.size w W) (hr : Wv W w.heap.size (FFld.padF pl N)) => caddMultiple_any (s := 0) (n := 0) (cc := 0) (cap := cq) w W hD hf hW (Nat.le_refl _) (FFld.padF pl N) hr (FFld.padF_lt (Nat.pow_pos hD.pre.pk.p0) hpq N) ql (qc_of hq hW (Nat.le_refl _)) hqq (by rw [FFld.padF_len hN1]; omega) (by omega) c hc (by omega))
 have HAE : Kept (s = N -> FFld.addm D (FFld.padF pl N) 0 ql c = FFld.addm D (FFld.padF pl N) s ql c) := ⟨fun hsN => by
  have e : ql = [] := List.eq_nil_of_length_eq_zero (by omega)
  rw [e]
  rfl⟩
 have HPF : Kept ((FFld.addm D (FFld.padF pl N) s ql c).length = N) := ⟨by rw [FFld.addm_len, FFld.padF_len hN1]⟩
 have HPE : Kept (FFld.plusF D pl ql c s = FFld.trm (FFld.addm D (FFld.padF pl N) s ql c)) := ⟨by unfold FFld.plusF; rw [hN]⟩
 obtain ⟨np, hnp⟩ : ∃ n, pl.length = n := ⟨_, rfl⟩
 obtain ⟨nq, hnq⟩ : ∃ n, ql.length = n := ⟨_, rfl⟩
 rw [hnp] at eN1 hN1 HPD ⊢
 rw [hnq] at eN1 hN2 HAMA HAMB ⊢
 rw [hnp, hnq] at hN
 rw [hN]
 obtain ⟨g, hg⟩ : ∃ g, w.heap.size = g := ⟨_, rfl⟩
 have HGG := Kept.mk hg
 rw [hg] at HAMA HAMB HPD
 have hc6 : c <= 65536 := by omega
 clear hf hp hq hpq hqq hc hnp hnq hl hl2 hN
 go_enter Tryz.func165, Tryz.ntmps165
 by_cases hsN : s = N
 ·obtain rfl : N = s := hsN.symm
  rcases Nat.lt_or_ge np (N + nq) with hm | hm
  ·have hq0 : nq = 0 := by omega
   subst hq0
   have dm : (np : Int) < N := by omega
   clear eN1
   go_wp2_with fail
   try rw [Int.max_eq_right (Int.le_of_lt dm)]
   (with_reducible refine HPD.out.mono ?_)
   rintro e w1 ⟨hb1, rfl, hr1⟩
   have HB1 := Kept.mk hb1
   have HAM1 := Kept.mk (HAMA.out (by first | rfl | trivial) w1 (HGG.out ▸ hb1) hr1)
   clear hb1 hr1 HAMA HAMB HPD
   go_wp2_with fail
   (with_reducible refine HAM1.out.mono ?_)
   rintro e w2 ⟨rfl, hgr, hw2⟩
   rw [HAE.out (by first | rfl | trivial)] at hw2
   have HB2 : Kept (Below w.heap.size w w2) := ⟨belowGrow hgr (by rw [HGG.out]; exact HB1.out) (by rw [HGG.out]; exact Nat.le_refl _)⟩
   have HT := Kept.mk (ctrimmed_any (FFld.addm D (FFld.padF pl N) N ql c) (some ⟨g, 0, none⟩) N w2 (hw2.sl rfl (by rw [HPF.out]; exact Nat.le_refl _) (by unfold maxLen; omega)))
   have HW2 := Kept.mk hw2
   rw [HPF.out, <- HPE.out] at HT
   clear hgr hw2
   go_wp2_with fail
   (with_reducible refine HT.out.mono ?_)
   rintro e w3 ⟨rfl, rfl⟩
   go_wp2
   go_ret
   rw [HGG.out]
   refine ⟨by rw [<- HGG.out]; exact HB2.out, rfl, ?_⟩
   rw [HPE.out]
   exact HW2.out.take _
  ·have hq0 : nq = 0 := by omega
   subst hq0
   obtain rfl : np = N := by omega
   clear eN1
   go_wp2_with fail
   (with_reducible refine HPD.out.mono ?_)
   rintro e w1 ⟨hb1, rfl, hr1⟩
   have HB1 := Kept.mk hb1
   have HAM1 := Kept.mk (HAMA.out (by first | rfl | trivial) w1 (HGG.out ▸ hb1) hr1)
   clear hb1 hr1 HAMA HAMB HPD
   go_wp2_with fail
   (with_reducible refine HAM1.out.mono ?_)
   rintro e w2 ⟨rfl, hgr, hw2⟩
   rw [HAE.out (by first | rfl | trivial)] at hw2
   have HB2 : Kept (Below w.heap.size w w2) := ⟨belowGrow hgr (by rw [HGG.out]; exact HB1.out) (by rw [HGG.out]; exact Nat.le_refl _)⟩
   have HT := Kept.mk (ctrimmed_any (FFld.addm D (FFld.padF pl np) np ql c) (some ⟨g, 0, none⟩) np w2 (hw2.sl rfl (by rw [HPF.out]; exact Nat.le_refl _) (by unfold maxLen; omega)))
   have HW2 := Kept.mk hw2
   rw [HPF.out, <- HPE.out] at HT
   clear hgr hw2
   go_wp2_with fail
   (with_reducible refine HT.out.mono ?_)
   rintro e w3 ⟨rfl, rfl⟩
   go_wp2
   go_ret
   rw [HGG.out]
   refine ⟨by rw [<- HGG.out]; exact HB2.out, rfl, ?_⟩
   rw [HPE.out]
   exact HW2.out.take _
 ·rcases Nat.lt_or_ge np (s + nq) with hm | hm
  ·have eN2 : (s : Int) + (nq : Int) = N := by omega
   have dm : (np : Int) < N := by omega
   have hsn : s < N := by omega
   clear eN1
   go_wp2_with fail
   try rw [Int.max_eq_right (Int.le_of_lt dm)]
   (with_reducible refine HPD.out.mono ?_)
   rintro e w1 ⟨hb1, rfl, hr1⟩
   have HB1 := Kept.mk hb1
   have HAM1 := Kept.mk (HAMB.out w1 (HGG.out ▸ hb1) hr1)
   clear hb1 hr1 HAMA HAMB HPD
   go_wp2_with fail
   (with_reducible refine HAM1.out.mono ?_)
   rintro e w2 ⟨rfl, hgr, hw2⟩
   have HB2 : Kept (Below w.heap.size w w2) := ⟨belowGrow hgr (by rw [HGG.out]; exact HB1.out) (by rw [HGG.out]; exact Nat.le_refl _)⟩
   have HT := Kept.mk (ctrimmed_any (FFld.addm D (FFld.padF pl N) s ql c) (some ⟨g, 0, none⟩) N w2 (hw2.sl rfl (by rw [HPF.out]; exact Nat.le_refl _) (by unfold maxLen; omega)))
   have HW2 := Kept.mk hw2
   rw [HPF.out, <- HPE.out] at HT
   clear hgr hw2
   go_wp2_with fail
   (with_reducible refine HT.out.mono ?_)
   rintro e w3 ⟨rfl, rfl⟩
   go_wp2
   go_ret
   rw [HGG.out]
   refine ⟨by rw [<- HGG.out]; exact HB2.out, rfl, ?_⟩
   rw [HPE.out]
   exact HW2.out.take _
  ·obtain rfl : np = N := by omega
   have dm : (s : Int) + (nq : Int) <= np := by omega
   have hsn : s < np := by omega
   clear eN1
   go_wp2_with fail
   try rw [Int.max_eq_left dm]
   (with_reducible refine HPD.out.mono ?_)
   rintro e w1 ⟨hb1, rfl, hr1⟩
   have HB1 := Kept.mk hb1
   have HAM1 := Kept.mk (HAMB.out w1 (HGG.out ▸ hb1) hr1)
   clear hb1 hr1 HAMA HAMB HPD
   go_wp2_with fail
   (with_reducible refine HAM1.out.mono ?_)
   rintro e w2 ⟨rfl, hgr, hw2⟩
   have HB2 : Kept (Below w.heap.size w w2) := ⟨belowGrow hgr (by rw [HGG.out]; exact HB1.out) (by rw [HGG.out]; exact Nat.le_refl _)⟩
   have HT := Kept.mk (ctrimmed_any (FFld.addm D (FFld.padF pl np) s ql c) (some ⟨g, 0, none⟩) np w2 (hw2.sl rfl (by rw [HPF.out]; exact Nat.le_refl _) (by unfold maxLen; omega)))
   have HW2 := Kept.mk hw2
   rw [HPF.out, <- HPE.out] at HT
   clear hgr hw2
   go_wp2_with fail
   (with_reducible refine HT.out.mono ?_)
   rintro e w3 ⟨rfl, rfl⟩
   go_wp2
   go_ret
   rw [HGG.out]
   refine ⟨by rw [<- HGG.out]; exact HB2.out, rfl, ?_⟩
   rw [HPE.out]
   exact HW2.out.take _
set_option maxRecDepth 20000 in
theorem multiply_new {D : FFld.FD} {b : Nat} (hD : D.Ok) (vp vq : Value) (pl ql : List Nat) (w : World) (hf : FldB D w b) (hp : Sl .i64 w vp (ints pl)) (hq : Sl .i64 w vq (ints ql)) (hpq : ∀ a ∈ pl, a < D.p ^ D.k) (hqq : ∀ a ∈ ql, a < D.p ^ D.k) (hpl : pl.length <= 100000) (hqll : ql.length <= 100000) (h0 : ¬ (pl.length = 0 \/ ql.length = 0)) :
 Calls Tryz.prog 153 #[.pointer (some ⟨b, 0, none⟩), vp, vq] w (fun e w' => Below w.heap.size w w' /\ e = .returned (.slice (some ⟨w.heap.size, 0, none⟩) (FFld.mulL D pl ql).length (FFld.mulL D pl ql).length) /\ Wv w' w.heap.size (FFld.mulL D pl ql)) := by
 obtain ⟨ap, cp, rfl, hcp, hmp⟩ := hp.form
 obtain ⟨aq, cq, rfl, hcq, hmq⟩ := hq.form
 rw [FFld.ints_len] at hcp hcq
 have HPS := Kept.mk hp
 have HQS := Kept.mk hq
 have HF := Kept.mk hf
 have HPQ := Kept.mk hpq
 have HQQ := Kept.mk hqq
 clear hp hq hf hpq hqq
 rw [FFld.ints_len, FFld.ints_len] at *
 ·have hL : FFld.mulL D pl ql = FFld.mulF D pl ql pl.length := by unfold FFld.mulL; rw [if_neg h0]
  rw [hL]
  have e1 : ((pl.length : Int) == 0) = false := by rw [beq_eq_false_iff_ne]; omega
  have e2 : ((ql.length : Int) == 0) = false := by rw [beq_eq_false_iff_ne]; omega
  obtain ⟨n, hn⟩ : ∃ n, pl.length + ql.length - 1 = n := ⟨_, rfl⟩
  have en : (pl.length : Int) + ql.length - 1 = n := by omega
  have HN : Kept (∀ i, (FFld.mulF D pl ql i).length = n) := ⟨fun i => by rw [FFld.mulF_len, hn]⟩
  have hlen : pl.length + ql.length = n + 1 := by omega
  have hn6 : n <= 200000 := by omega
  rw [FFld.mulF_len, hn]
  have HZ : Kept (FFld.mulF D pl ql 0 = List.replicate n 0) := ⟨by simp only [FFld.mulF]; rw [hn]⟩
  obtain ⟨np, hnp⟩ : ∃ np, pl.length = np := ⟨_, rfl⟩
  obtain ⟨nq, hnq⟩ : ∃ nq, ql.length = nq := ⟨_, rfl⟩
  have HNP := Kept.mk hnp
  have HNQ := Kept.mk hnq
  have HCP := Kept.mk (HPS.out.cells (Nat.le_refl _))
  rw [hnp] at hcp hpl e1 en hlen h0 ⊢
  rw [hnq] at hcq hqll e2 en hlen h0
  rw [hnq]
  clear hL hn hnp hnq
  go_enter Tryz.func153, Tryz.ntmps153
  go_wp2_with (at_make; refine wpList_make_zeros _ rfl _ _ 22 rfl 3 .i64 Tryz.underlying22 info_i64 _ _ n rfl rfl (by omega) (by omega) (by omega) ?_)
  intro w3 hrow hbel
  rw [FFld.ints_rep] at hrow
  have HW3 := Kept.mk hrow.wv
  have HB3 := Kept.mk hbel
  clear hrow hbel
  go_wp2
  go_loopw [27] (fun iv wr => ∃ i : Nat, i <= np /\ iv = .int .i64 i /\ Kept (Wv wr w.heap.size (FFld.mulF D pl ql i)) /\ Kept (Below w.heap.size w wr)) (fun iv _ => np - (intOf iv).toNat)
  case atStart => exact ⟨0, Nat.zero_le _, rfl, ⟨by rw [HZ.out]; exact HW3.out⟩, HB3⟩
  case round =>
   obtain ⟨i, hi, rfl, hwv, hbl⟩ := hrel
   by_cases hlt : i < np
   ·obtain ⟨bp, op, rfl, hcell⟩ := HCP.out _ hbl.out i (by rw [HNP.out]; exact hlt)
    obtain ⟨c, hc⟩ : ∃ c, pl[i]?.getD 0 = c := ⟨_, rfl⟩
    have hcq2 : c < D.p ^ D.k := by rw [<- hc]; exact FFld.getD_lt (Nat.pow_pos hD.pre.pk.p0) HPQ.out i
    rw [hc] at hcell
    obtain ⟨R, hR⟩ : ∃ R, FFld.mulF D pl ql i = R := ⟨_, rfl⟩
    have hRl : R.length = n := by rw [<- hR]; exact HN.out i
    have HRQ : Kept (∀ a ∈ R, a < D.p ^ D.k) := ⟨by rw [<- hR]; exact FFld.mulF_lt hD.pre.pk pl ql i⟩
    have HNX : Kept (FFld.mulF D pl ql (i + 1) = FFld.addm D R i ql c) := ⟨by simp only [FFld.mulF]; rw [hR, hc]⟩
    rw [hR] at hwv
    have hAm := Kept.mk (fun (n' cc : Nat) (hn' : ql.length <= n') => addMultiple_any (s := i) (n := n') (cc := cc) (cap := cq) w wr HF.out hbl.out (Nat.le_refl _) R hwv.out HRQ.out ql (HQS.out.qc hbl.out (Nat.le_refl _)) HQQ.out (by rw [hRl, HNQ.out]; omega) hn' c hcq2 (by rw [HNQ.out]; omega))
    rw [HNQ.out] at hAm
    have hs1 : (i : Int) <= (n : Int) := by omega
    have hs2 : i <= n := by omega
    have hs3 : (0 : Int) <= (i : Int) := by omega
    have hs6 : ((i : Int) < 0) = False := by simp
    clear hc hR hcq2
    go_wp2_with fail
    refine (hAm.out _ _ (by omega)).mono ?_
    rintro e w7 ⟨rfl, hg7, hw7⟩
    have HW7 := Kept.mk hw7
    have HB7 := Kept.mk (belowGrow hg7 hbl.out (Nat.le_refl _))
    clear hg7 hw7 hAm
    go_wp2
    go_roundw
    case rel => exact ⟨i + 1, by omega, by go_num, ⟨by rw [HNX.out]; exact HW7.out⟩, HB7⟩
    case measure => simp [intOf] <;> omega
   ·obtain rfl : i = np := by omega
    have HS := Kept.mk (hwv.out.sl (n := n) (c := n) (HN.out i).symm (Nat.le_refl _) (by unfold maxLen; omega))
    go_wp2
    go_ret
    exact ⟨hbl.out, rfl, hwv.out⟩
end Go.Proofs.YtdnheaafcbihbaaGreat
namespace Go.Proofs.YtdnheaafcbihbaaGreat
open Go Go.RowKit Go.Deep
open FFld (ints)
set_option maxRecDepth 20000 in
theorem rproductp_any {D : FFld.FD} (hD : D.Ok) (vp vq : Value) (pl ql : List Nat) (w : World) (hp : Sl .i64 w vp (ints pl)) (hq : Sl .i64 w vq (ints ql)) (hpq : ∀ a ∈ pl, a < D.p ^ D.k) (hqq : ∀ a ∈ ql, a < D.p ^ D.k) (hpl : pl.length <= 100000) (hqll : ql.length <= 100000) :
 Calls Tryz.prog 45 #[rfv D.q D.p D.k D.m, vp, vq] w (fun e w' => Below w.heap.size w w' /\ ∃ v, e = .returned v /\ Sl .i64 w' v (ints (FFld.mulL D pl ql))) := by
 obtain ⟨ap, cp, hvp, hcp, hmp⟩ := hp.form
 obtain ⟨aq, cq, hvq, hcq, hmq⟩ := hq.form
 subst hvp hvq
 rw [FFld.ints_len] at hcp hcq
 have HPS := Kept.mk hp
 have HQS := Kept.mk hq
 have HPQ := Kept.mk hpq
 have HQQ := Kept.mk hqq
 clear hp hq hpq hqq
 rw [FFld.ints_len, FFld.ints_len]
 rw [FFld.ints_len] at HPS
 rw [FFld.ints_len] at HQS
 have HX0 : Kept (Bxs w [rbox D.q D.p D.k D.m] (w.alloc (rbox D.q D.p D.k D.m))) := ⟨(Bxs.start w).alloc (by simp) _⟩
 by_cases h0 : pl.length = 0 \/ ql.length = 0
 ·have hL : FFld.mulL D pl ql = [] := by unfold FFld.mulL; rw [if_pos h0]
  have HS : Kept (Sl .i64 (w.alloc (rbox D.q D.p D.k D.m)) (.slice none 0 0) (ints [])) := ⟨Sl.nil _ _⟩
  rw [hL]
  by_cases h1 : pl.length = 0
  ·obtain ⟨np, hnp⟩ : ∃ np, pl.length = np := ⟨_, rfl⟩
   rw [hnp] at h1 ⊢
   subst h1
   clear HPS HQS h0 hL hnp
   go_enter Tryz.func45, Tryz.ntmps45
   go_wp2
   go_ret
   exact ⟨HX0.out.1, .slice none 0 0, rfl, HS.out⟩
  ·have h2 : ql.length = 0 := by omega
   have e1 : ((pl.length : Int) == 0) = false := by rw [beq_eq_false_iff_ne]; omega
   obtain ⟨nq, hnq⟩ : ∃ nq, ql.length = nq := ⟨_, rfl⟩
   rw [hnq] at h2 ⊢
   subst h2
   clear HPS HQS h0 hL hnq
   go_enter Tryz.func45, Tryz.ntmps45
   go_wp2
   go_ret
   exact ⟨HX0.out.1, .slice none 0 0, rfl, HS.out⟩
 ·have hL : FFld.mulL D pl ql = FFld.mulF D pl ql pl.length := by unfold FFld.mulL; rw [if_neg h0]
  rw [hL]
  have e1 : ((pl.length : Int) == 0) = false := by rw [beq_eq_false_iff_ne]; omega
  have e2 : ((ql.length : Int) == 0) = false := by rw [beq_eq_false_iff_ne]; omega
  obtain ⟨n, hn⟩ : ∃ n, pl.length + ql.length - 1 = n := ⟨_, rfl⟩
  have en : (pl.length : Int) + ql.length - 1 = n := by omega
  have HN : Kept (∀ i, (FFld.mulF D pl ql i).length = n) := ⟨fun i => by rw [FFld.mulF_len, hn]⟩
  have hlen : pl.length + ql.length = n + 1 := by omega
  have hn6 : n <= 200000 := by omega
  have HZ : Kept (FFld.mulF D pl ql 0 = List.replicate n 0) := ⟨by simp only [FFld.mulF]; rw [hn]⟩
  obtain ⟨np, hnp⟩ : ∃ np, pl.length = np := ⟨_, rfl⟩
  obtain ⟨nq, hnq⟩ : ∃ nq, ql.length = nq := ⟨_, rfl⟩
  have HNP := Kept.mk hnp
  have HNQ := Kept.mk hnq
  have hq6 : D.p ^ D.k <= 65536 := hD.pre.small
  have HM := Kept.mk (fun W x y (hx : x < D.p ^ D.k) (hy : y < D.p ^ D.k) => rmul_any D.q D.p D.k D.m x y W hD.pre.pk.p2 hD.pre.pk.k1 hx hy hq6 (md_ok hD))
  have HA := Kept.mk (fun W x y (hx : x < D.p ^ D.k) (hy : y < D.p ^ D.k) => radd_any D.q D.p D.k D.m x y W hD.pre.pk.p2 hD.pre.pk.k1 hx hy hq6)
  rw [hnp] at hcp hpl e1 en hlen h0 ⊢
  rw [hnq] at hcq hqll e2 en hlen h0 ⊢
  rw [hnp] at HPS
  rw [hnq] at HQS
  clear hL hn hnp hnq h0 hq6
  go_enter Tryz.func45, Tryz.ntmps45
  go_wp2_with (at_make; refine wpList_make_zeros _ rfl _ _ 22 rfl 3 .i64 Tryz.underlying22 info_i64 _ _ n rfl rfl (by omega) (by omega) (by omega) ?_)
  intro w3 hrow hbel
  rw [FFld.ints_rep] at hrow
  have HW3 := Kept.mk hrow.wv
  have HX3 := Kept.mk (HX0.out.below (by simpa using hbel))
  obtain ⟨g, hg⟩ : ∃ g, w.heap.size + 1 = g := ⟨_, rfl⟩
  rw [hg] at HW3
  clear hrow hbel HX0 en
  go_wp2
  try rw [hg]
  have hlg : w.heap.size < g := by omega
  clear hg
  go_loopw [8] (fun iv wr => ∃ i : Nat, i <= np /\ iv = .int .i64 i /\ Kept (Wv wr g (FFld.mulF D pl ql i)) /\ Kept (Bxs w [rbox D.q D.p D.k D.m] wr)) (fun iv _ => np - (intOf iv).toNat)
  case atStart => exact ⟨0, Nat.zero_le _, rfl, ⟨by rw [HZ.out]; exact HW3.out⟩, HX3⟩
  case round =>
   obtain ⟨i, hi, rfl, hwv0, hbx0⟩ := hrel
   by_cases hlt : i < np
   ·obtain ⟨R, hR⟩ : ∃ R, FFld.mulF D pl ql i = R := ⟨_, rfl⟩
    have HRL : Kept (R.length = n) := ⟨by rw [<- hR]; exact HN.out i⟩
    have HRQ : Kept (∀ a ∈ R, a < D.p ^ D.k) := ⟨by rw [<- hR]; exact FFld.mulF_lt hD.pre.pk pl ql i⟩
    obtain ⟨c, hc⟩ : ∃ c, pl[i]?.getD 0 = c := ⟨_, rfl⟩
    have HNX : Kept (FFld.mulF D pl ql (i + 1) = FFld.addmF D R i ql c nq) := ⟨by simp only [FFld.mulF]; rw [hR, hc]; unfold FFld.addm; rw [HNQ.out]⟩
    have HC := Kept.mk hc
    rw [hR] at hwv0
    clear hR hc
    go_wp2
    go_loopw [9] (fun jv wr => ∃ j : Nat, j <= nq /\ jv = .int .i64 j /\ Kept (Wv wr g (FFld.addmF D R i ql c j)) /\ Kept (Bxs w [rbox D.q D.p D.k D.m] wr)) (fun jv _ => nq - (intOf jv).toNat)
    case atStart => exact ⟨0, Nat.zero_le _, rfl, hwv0, hbx0⟩
    case round =>
     clear hwv0 hbx0
     obtain ⟨j, hj, rfl, hwv, hbx⟩ := hrel
     by_cases hlt2 : j < nq
     ·obtain ⟨bp, op, hap, hnp, hbp, ip⟩ := (HPS.out.qc hbx.out.1 (Nat.le_of_lt hlg)) i (by rw [HNP.out]; exact hlt)
      obtain ⟨bq, oq, haq, hnq, hbq, iq⟩ := (HQS.out.qc hbx.out.1 (Nat.le_of_lt hlg)) j (by rw [HNQ.out]; exact hlt2)
      subst hap haq
      rw [HC.out] at ip
      obtain ⟨y, hy⟩ : ∃ y, ql[j]?.getD 0 = y := ⟨_, rfl⟩
      rw [hy] at iq
      obtain ⟨i0, i1, i2, i3⟩ := four_cells hbx.out.b0
      have hcq2 : c < D.p ^ D.k := by rw [<- HC.out]; exact FFld.getD_lt (Nat.pow_pos hD.pre.pk.p0) HPQ.out i
      have hyq : y < D.p ^ D.k := by rw [<- hy]; exact FFld.getD_lt (Nat.pow_pos hD.pre.pk.p0) HQQ.out j
      have hlen2 : (FFld.addmF D R i ql c j).length = n := by rw [FFld.addmF_len]; exact HRL.out
      have hij : i + j < n := by omega
      have t1 := hwv.out.cell (i := i + j) (by omega)
      obtain ⟨u, hu⟩ : ∃ u, (FFld.addmF D R i ql c j)[i + j]?.getD 0 = u := ⟨_, rfl⟩
      have huq : u < D.p ^ D.k := by rw [<- hu]; exact FFld.getD_lt (Nat.pow_pos hD.pre.pk.p0) (FFld.addmF_lt hD.pre.pk i ql c j HRQ.out) _
      rw [hu] at t1
      obtain ⟨z, hz⟩ : ∃ z, FFld.pmul D.p D.k D.m c D.k y = z := ⟨_, rfl⟩
      have hzq : z < D.p ^ D.k := by rw [<- hz]; exact FFld.pmul_lt hD.pre.pk _ _ _
      obtain ⟨v, hv⟩ : ∃ v, FFld.padd D.p D.k u z = v := ⟨_, rfl⟩
      have HV : Kept ((FFld.addmF D R i ql c j).set (i + j) v = FFld.addmF D R i ql c (j + 1)) := ⟨by simp only [FFld.addmF]; rw [hu, hy, FFld.pmul_comm hD.pre.pk _ _ hyq hcq2, hz, hv]⟩
      have hM := Kept.mk (fun W => HM.out W c y hcq2 hyq)
      rw [hz] at hM
      have hA := Kept.mk (fun W => HA.out W u z huq hzq)
      rw [hv] at hA
      have hi0 : (i : Int) + j = ((i + j : Nat) : Int) := by omega
      have ewi : IntKind.i64.wrap ((i : Int) + j) = (i : Int) + j := wi (by omega) (by omega)
      have hij1 : (i : Int) + j < (n : Int) := by omega
      have hij2 : (0 : Int) <= (i : Int) + j := by omega
      have hij3 : ((i : Int) + j).toNat = i + j := by omega
      clear hu hy hz hv huq hzq hcq2 hyq hlen2 hi0
      go_wp2
      refine wp_region_held_drew (S := fun w' => w'.cell? ⟨w.heap.size, 0, none⟩ = some (.int .i64 D.q) /\ w'.cell? ⟨w.heap.size, 1, none⟩ = some (.int .i64 D.p) /\ w'.cell? ⟨w.heap.size, 2, none⟩ = some (.int .i64 D.k) /\ w'.cell? ⟨w.heap.size, 3, none⟩ = some (.int .i64 D.m) /\ w'.cell? ⟨bp, op + i, none⟩ = some (.int .i64 c) /\ w'.cell? ⟨bq, oq + j, none⟩ = some (.int .i64 y)) (by kernel_rfl) ⟨i0, i1, i2, i3, ip, iq⟩ (fun hHeld => ?_)
      refine wpAnyH_take (i := 0) (v := ?_) rfl (by kernel_rfl) (by kernel_rfl) (by kernel_rfl) (fun _ _ _ h => h) (Or.inl ⟨by rfl, ?_⟩) (by assumption) ?_
      rotate_left
      ·(intro w hSw; (try dsimp only at hSw); go_simp; (try with_reducible rfl))
      try simp only [Act.put, List.getElem_toArray, List.getElem_cons_succ, List.getElem_cons_zero, List.setIfInBounds_toArray, List.set_cons_zero, List.set_cons_succ]
      refine wpAnyH_take (i := 1) (v := ?_) rfl (by kernel_rfl) (by kernel_rfl) (by kernel_rfl) (fun _ _ _ h => h) (Or.inl ⟨by rfl, ?_⟩) (by assumption) ?_
      rotate_left
      ·(intro w hSw; (try dsimp only at hSw); go_simp; (try with_reducible rfl))
      try simp only [Act.put, List.getElem_toArray, List.getElem_cons_succ, List.getElem_cons_zero, List.setIfInBounds_toArray, List.set_cons_zero, List.set_cons_succ]
      refine wpAnyH_take (i := 2) (v := ?_) rfl (by kernel_rfl) (by kernel_rfl) (by kernel_rfl) (fun _ _ _ h => h) (Or.inl ⟨by rfl, ?_⟩) (by assumption) ?_
      rotate_left
      ·(intro w hSw; (try dsimp only at hSw); go_simp; (try with_reducible rfl))
      try simp only [Act.put, List.getElem_toArray, List.getElem_cons_succ, List.getElem_cons_zero, List.setIfInBounds_toArray, List.set_cons_zero, List.set_cons_succ]
      refine wpAnyH_take (i := 3) (v := ?_) rfl (by kernel_rfl) (by kernel_rfl) (by kernel_rfl) (fun _ _ _ h => h) (Or.inl ⟨by rfl, ?_⟩) (by assumption) ?_
      rotate_left
      ·(intro w hSw; (try dsimp only at hSw); go_simp; (try with_reducible rfl))
      try simp only [Act.put, List.getElem_toArray, List.getElem_cons_succ, List.getElem_cons_zero, List.setIfInBounds_toArray, List.set_cons_zero, List.set_cons_succ]
      refine wpAnyH_take (i := 4) (v := ?_) rfl (by kernel_rfl) (by kernel_rfl) (by kernel_rfl) (fun _ _ _ h => h) (Or.inl ⟨by rfl, ?_⟩) (by assumption) ?_
      rotate_left
      ·(intro w hSw; (try dsimp only at hSw); go_simp; (try with_reducible rfl))
      try simp only [Act.put, List.getElem_toArray, List.getElem_cons_succ, List.getElem_cons_zero, List.setIfInBounds_toArray, List.set_cons_zero, List.set_cons_succ]
      refine wpAnyH_take (i := 5) (v := ?_) rfl (by kernel_rfl) (by kernel_rfl) (by kernel_rfl) (fun _ _ _ h => h) (Or.inl ⟨by rfl, ?_⟩) (by assumption) ?_
      rotate_left
      ·(intro w hSw; (try dsimp only at hSw); go_simp; (try with_reducible rfl))
      try simp only [Act.put, List.getElem_toArray, List.getElem_cons_succ, List.getElem_cons_zero, List.setIfInBounds_toArray, List.set_cons_zero, List.set_cons_succ]
      refine wpAnyH_take (i := 6) (v := ?_) rfl (by kernel_rfl) (by kernel_rfl) (by kernel_rfl) (fun _ _ _ h => h) (Or.inl ⟨by rfl, ?_⟩) (by assumption) ?_
      rotate_left
      ·(intro w hSw; (try dsimp only at hSw); go_simp; (try with_reducible rfl))
      try simp only [Act.put, List.getElem_toArray, List.getElem_cons_succ, List.getElem_cons_zero, List.setIfInBounds_toArray, List.set_cons_zero, List.set_cons_succ]
      refine wpAnyH_take (i := 7) (v := ?_) rfl (by kernel_rfl) (by kernel_rfl) (by kernel_rfl) (fun _ _ _ h => h) (Or.inl ⟨by rfl, ?_⟩) (by assumption) ?_
      rotate_left
      ·(intro w hSw; (try dsimp only at hSw); go_simp; (try with_reducible rfl))
      try simp only [Act.put, List.getElem_toArray, List.getElem_cons_succ, List.getElem_cons_zero, List.setIfInBounds_toArray, List.set_cons_zero, List.set_cons_succ]
      refine wpAnyH_take (i := 8) (v := ?_) rfl (by kernel_rfl) (by kernel_rfl) (by kernel_rfl) (fun _ _ _ h => h) (Or.inl ⟨by rfl, ?_⟩) (by assumption) ?_
      rotate_left
      ·(intro w hSw; (try dsimp only at hSw); go_simp; (try with_reducible rfl))
      try simp only [Act.put, List.getElem_toArray, List.getElem_cons_succ, List.getElem_cons_zero, List.setIfInBounds_toArray, List.set_cons_zero, List.set_cons_succ]
      refine wpAnyH_take (i := 9) (v := ?_) rfl (by kernel_rfl) (by kernel_rfl) (by kernel_rfl) (fun _ _ _ h => h) (Or.inl ⟨by rfl, ?_⟩) (by assumption) ?_
      rotate_left
      ·(intro w hSw; (try dsimp only at hSw); go_simp; (try with_reducible rfl))
      try simp only [Act.put, List.getElem_toArray, List.getElem_cons_succ, List.getElem_cons_zero, List.setIfInBounds_toArray, List.set_cons_zero, List.set_cons_succ]
      refine wpAnyH_take (i := 11) (v := ?_) rfl (by kernel_rfl) (by kernel_rfl) (by kernel_rfl) (fun _ _ _ h => h) (Or.inl ⟨by rfl, ?_⟩) (by assumption) ?_
      rotate_left
      ·(intro w hSw; (try dsimp only at hSw); go_simp; (try with_reducible rfl))
      try simp only [Act.put, List.getElem_toArray, List.getElem_cons_succ, List.getElem_cons_zero, List.setIfInBounds_toArray, List.set_cons_zero, List.set_cons_succ]
      refine wpAnyH_take (i := 12) (v := ?_) rfl (by kernel_rfl) (by kernel_rfl) (by kernel_rfl) (fun _ _ _ h => h) (Or.inl ⟨by rfl, ?_⟩) (by assumption) ?_
      rotate_left
      ·(intro w hSw; (try dsimp only at hSw); go_simp; (try with_reducible rfl))
      try simp only [Act.put, List.getElem_toArray, List.getElem_cons_succ, List.getElem_cons_zero, List.setIfInBounds_toArray, List.set_cons_zero, List.set_cons_succ]
      refine wpAnyH_take (i := 13) (v := ?_) rfl (by kernel_rfl) (by kernel_rfl) (by kernel_rfl) (fun _ _ _ h => h) (Or.inl ⟨by rfl, ?_⟩) (by assumption) ?_
      rotate_left
      ·(intro w hSw; (try dsimp only at hSw); go_simp; (try with_reducible rfl))
      try simp only [Act.put, List.getElem_toArray, List.getElem_cons_succ, List.getElem_cons_zero, List.setIfInBounds_toArray, List.set_cons_zero, List.set_cons_succ]
      refine wpAnyH_take (i := 14) (v := ?_) rfl (by kernel_rfl) (by kernel_rfl) (by kernel_rfl) (fun _ _ _ h => h) (Or.inl ⟨by rfl, ?_⟩) (by assumption) ?_
      rotate_left
      ·(intro w hSw; (try dsimp only at hSw); go_simp; (try with_reducible rfl))
      try simp only [Act.put, List.getElem_toArray, List.getElem_cons_succ, List.getElem_cons_zero, List.setIfInBounds_toArray, List.set_cons_zero, List.set_cons_succ]
      refine wpAnyH_take (i := 15) (v := ?_) rfl (by kernel_rfl) (by kernel_rfl) (by kernel_rfl) (fun _ _ _ h => h) (Or.inl ⟨by rfl, ?_⟩) (by assumption) ?_
      rotate_left
      ·(intro w hSw; (try dsimp only at hSw); go_simp; (try with_reducible rfl))
      try simp only [Act.put, List.getElem_toArray, List.getElem_cons_succ, List.getElem_cons_zero, List.setIfInBounds_toArray, List.set_cons_zero, List.set_cons_succ]
      refine wpAnyH_take (i := 16) (v := ?_) rfl (by kernel_rfl) (by kernel_rfl) (by kernel_rfl) (fun _ _ _ h => h) (Or.inl ⟨by rfl, ?_⟩) (by assumption) ?_
      rotate_left
      ·(intro w hSw; (try dsimp only at hSw); go_simp; (try with_reducible rfl))
      try simp only [Act.put, List.getElem_toArray, List.getElem_cons_succ, List.getElem_cons_zero, List.setIfInBounds_toArray, List.set_cons_zero, List.set_cons_succ]
      refine wpAnyH_take (i := 17) (v := ?_) rfl (by kernel_rfl) (by kernel_rfl) (by kernel_rfl) (fun _ _ _ h => h) (Or.inl ⟨by rfl, ?_⟩) (by assumption) ?_
      rotate_left
      ·(intro w hSw; (try dsimp only at hSw); go_simp; (try with_reducible rfl))
      try simp only [Act.put, List.getElem_toArray, List.getElem_cons_succ, List.getElem_cons_zero, List.setIfInBounds_toArray, List.set_cons_zero, List.set_cons_succ]
      refine wpAnyH_take (i := 18) (v := ?_) rfl (by kernel_rfl) (by kernel_rfl) (by kernel_rfl) (fun _ _ _ h => h) (Or.inl ⟨by rfl, ?_⟩) (by assumption) ?_
      rotate_left
      ·(intro w hSw; (try dsimp only at hSw); go_simp; (try with_reducible rfl))
      try simp only [Act.put, List.getElem_toArray, List.getElem_cons_succ, List.getElem_cons_zero, List.setIfInBounds_toArray, List.set_cons_zero, List.set_cons_succ]
      refine wpAnyH_take (i := 19) (v := ?_) rfl (by kernel_rfl) (by kernel_rfl) (by kernel_rfl) (fun _ _ _ h => h) (Or.inl ⟨by rfl, ?_⟩) (by assumption) ?_
      rotate_left
      ·(intro w hSw; (try dsimp only at hSw); go_simp; (try with_reducible rfl))
      try simp only [Act.put, List.getElem_toArray, List.getElem_cons_succ, List.getElem_cons_zero, List.setIfInBounds_toArray, List.set_cons_zero, List.set_cons_succ]
      refine wpAnyH_ready (rs := [10, 20]) (by kernel_rfl) (by simp) ?_
      refine AllReadyH.cons rfl (fun K hK => ?_) (AllReadyH.cons rfl (fun K hK => ?_) AllReadyH.nil)
      ·go_simp
       refine hK.out _ _ ⟨i0, i1, i2, i3, ip, iq⟩ (fun hHeld => ?_)
       clear hK K
       try simp only [Act.put, List.getElem_toArray, List.getElem_cons_succ, List.getElem_cons_zero, List.setIfInBounds_toArray, List.set_cons_zero, List.set_cons_succ]
       refine wpAnyH_ready (rs := [20]) (by kernel_rfl) (by simp) ?_
       refine (AllReadyH.cons rfl (fun K hK => ?_) AllReadyH.nil)
       go_simp
       refine (hM.out _).mono ?_
       rintro e w2 ⟨hb2, rfl⟩
       have HR2 : Kept (Below wr.heap.size wr w2) := ⟨(Below.refl _ _).drew.trans hb2⟩
       have j0 := belowCell HR2.out i0
       have j1 := belowCell HR2.out i1
       have j2 := belowCell HR2.out i2
       have j3 := belowCell HR2.out i3
       have jp := belowCell HR2.out ip
       have jq := belowCell HR2.out iq
       have t2 := belowCell HR2.out t1
       clear hb2
       refine hK.out _ _ ⟨j0, j1, j2, j3, jp, jq⟩ (fun hHeld => ?_)
       clear hK K
       try simp only [Act.put, List.getElem_toArray, List.getElem_cons_succ, List.getElem_cons_zero, List.setIfInBounds_toArray, List.set_cons_zero, List.set_cons_succ]
       refine wpAnyH_ready (rs := [21]) (by kernel_rfl) (by simp) ?_
       refine (AllReadyH.cons rfl (fun K hK => ?_) AllReadyH.nil)
       go_simp
       refine (hA.out _).mono ?_
       rintro e w3 ⟨hb3, rfl⟩
       have HR3 := Kept.mk (bstep HR2.out hb3)
       have k0 := belowCell hb3 j0
       have k1 := belowCell hb3 j1
       have k2 := belowCell hb3 j2
       have k3 := belowCell hb3 j3
       have kp := belowCell hb3 jp
       have kq := belowCell hb3 jq
       have t3 := belowCell hb3 t2
       have HW3 := Kept.mk (hwv.out.below HR3.out)
       have z3 := HW3.out.free (i + j)
       have HX3 := Kept.mk (hbx.out.below HR3.out)
       have hgs : w3.grownBy (w3.setCell ⟨g, i + j, none⟩ (.int .i64 v)) (some g) := growSet (growRefl _ _) _ _
       have m0 := hgs.cell k0 (by simp; omega)
       have m1 := hgs.cell k1 (by simp; omega)
       have m2 := hgs.cell k2 (by simp; omega)
       have m3 := hgs.cell k3 (by simp; omega)
       have mp := hgs.cell kp (by simpa using hnp)
       have mq := hgs.cell kq (by simpa using hnq)
       have HX4 := Kept.mk (HX3.out.grown hgs (fun k hk => by cases hk; simp; omega))
       clear hb3
       refine hK.out _ _ ⟨k0, k1, k2, k3, kp, kq⟩ (fun hHeld => ?_)
       clear hK K
       try simp only [Act.put, List.getElem_toArray, List.getElem_cons_succ, List.getElem_cons_zero, List.setIfInBounds_toArray, List.set_cons_zero, List.set_cons_succ]
       refine wpAnyH_take (i := 22) (v := ?_) rfl (by kernel_rfl) (by kernel_rfl) (by kernel_rfl) (fun _ _ _ h => h) (Or.inl ⟨by rfl, ?_⟩) (by assumption) ?_
       rotate_left
       ·(intro w hSw; (try dsimp only at hSw); go_simp; (try with_reducible rfl))
       try simp only [Act.put, List.getElem_toArray, List.getElem_cons_succ, List.getElem_cons_zero, List.setIfInBounds_toArray, List.set_cons_zero, List.set_cons_succ]
       refine wpAnyH_ready (rs := [23]) (by kernel_rfl) (by simp) ?_
       refine (AllReadyH.cons rfl (fun K hK => ?_) AllReadyH.nil)
       go_simp
       refine hK.out _ _ ⟨m0, m1, m2, m3, mp, mq⟩ (fun hHeld => ?_)
       clear hK K
       try simp only [Act.put, List.getElem_toArray, List.getElem_cons_succ, List.getElem_cons_zero, List.setIfInBounds_toArray, List.set_cons_zero, List.set_cons_succ]
       refine wpAnyH_done (by kernel_rfl) ?_ _
       go_wp2
       go_roundw
       case rel => exact ⟨j + 1, by omega, by go_num, ⟨by have := HW3.out.set (i := i + j) v; rw [HV.out] at this; exact this⟩, HX4⟩
       case measure => simp [intOf] <;> omega
      ·go_simp
       refine (hM.out _).mono ?_
       rintro e w2 ⟨hb2, rfl⟩
       have HR2 : Kept (Below wr.heap.size wr w2) := ⟨(Below.refl _ _).drew.trans hb2⟩
       have j0 := belowCell HR2.out i0
       have j1 := belowCell HR2.out i1
       have j2 := belowCell HR2.out i2
       have j3 := belowCell HR2.out i3
       have jp := belowCell HR2.out ip
       have jq := belowCell HR2.out iq
       have t2 := belowCell HR2.out t1
       clear hb2
       refine hK.out _ _ ⟨j0, j1, j2, j3, jp, jq⟩ (fun hHeld => ?_)
       clear hK K
       try simp only [Act.put, List.getElem_toArray, List.getElem_cons_succ, List.getElem_cons_zero, List.setIfInBounds_toArray, List.set_cons_zero, List.set_cons_succ]
       refine wpAnyH_ready (rs := [10]) (by kernel_rfl) (by simp) ?_
       refine (AllReadyH.cons rfl (fun K hK => ?_) AllReadyH.nil)
       go_simp
       refine hK.out _ _ ⟨j0, j1, j2, j3, jp, jq⟩ (fun hHeld => ?_)
       clear hK K
       try simp only [Act.put, List.getElem_toArray, List.getElem_cons_succ, List.getElem_cons_zero, List.setIfInBounds_toArray, List.set_cons_zero, List.set_cons_succ]
       refine wpAnyH_ready (rs := [21]) (by kernel_rfl) (by simp) ?_
       refine (AllReadyH.cons rfl (fun K hK => ?_) AllReadyH.nil)
       go_simp
       refine (hA.out _).mono ?_
       rintro e w3 ⟨hb3, rfl⟩
       have HR3 := Kept.mk (bstep HR2.out hb3)
       have k0 := belowCell hb3 j0
       have k1 := belowCell hb3 j1
       have k2 := belowCell hb3 j2
       have k3 := belowCell hb3 j3
       have kp := belowCell hb3 jp
       have kq := belowCell hb3 jq
       have t3 := belowCell hb3 t2
       have HW3 := Kept.mk (hwv.out.below HR3.out)
       have z3 := HW3.out.free (i + j)
       have HX3 := Kept.mk (hbx.out.below HR3.out)
       have hgs : w3.grownBy (w3.setCell ⟨g, i + j, none⟩ (.int .i64 v)) (some g) := growSet (growRefl _ _) _ _
       have m0 := hgs.cell k0 (by simp; omega)
       have m1 := hgs.cell k1 (by simp; omega)
       have m2 := hgs.cell k2 (by simp; omega)
       have m3 := hgs.cell k3 (by simp; omega)
       have mp := hgs.cell kp (by simpa using hnp)
       have mq := hgs.cell kq (by simpa using hnq)
       have HX4 := Kept.mk (HX3.out.grown hgs (fun k hk => by cases hk; simp; omega))
       clear hb3
       refine hK.out _ _ ⟨k0, k1, k2, k3, kp, kq⟩ (fun hHeld => ?_)
       clear hK K
       try simp only [Act.put, List.getElem_toArray, List.getElem_cons_succ, List.getElem_cons_zero, List.setIfInBounds_toArray, List.set_cons_zero, List.set_cons_succ]
       refine wpAnyH_take (i := 22) (v := ?_) rfl (by kernel_rfl) (by kernel_rfl) (by kernel_rfl) (fun _ _ _ h => h) (Or.inl ⟨by rfl, ?_⟩) (by assumption) ?_
       rotate_left
       ·(intro w hSw; (try dsimp only at hSw); go_simp; (try with_reducible rfl))
       try simp only [Act.put, List.getElem_toArray, List.getElem_cons_succ, List.getElem_cons_zero, List.setIfInBounds_toArray, List.set_cons_zero, List.set_cons_succ]
       refine wpAnyH_ready (rs := [23]) (by kernel_rfl) (by simp) ?_
       refine (AllReadyH.cons rfl (fun K hK => ?_) AllReadyH.nil)
       go_simp
       refine hK.out _ _ ⟨m0, m1, m2, m3, mp, mq⟩ (fun hHeld => ?_)
       clear hK K
       try simp only [Act.put, List.getElem_toArray, List.getElem_cons_succ, List.getElem_cons_zero, List.setIfInBounds_toArray, List.set_cons_zero, List.set_cons_succ]
       refine wpAnyH_done (by kernel_rfl) ?_ _
       go_wp2
       go_roundw
       case rel => exact ⟨j + 1, by omega, by go_num, ⟨by have := HW3.out.set (i := i + j) v; rw [HV.out] at this; exact this⟩, HX4⟩
       case measure => simp [intOf] <;> omega
     ·obtain rfl : j = nq := by omega
      go_wp2
      go_roundw
      case rel => exact ⟨i + 1, by omega, by go_num, ⟨by rw [HNX.out]; exact hwv.out⟩, hbx⟩
      case measure => simp [intOf] <;> omega
   ·obtain rfl : i = np := by omega
    have HS := Kept.mk (hwv0.out.sl (n := n) (c := n) (HN.out i).symm (Nat.le_refl _) (by unfold maxLen; omega))
    go_wp2
    go_ret
    exact ⟨hbx0.out.1, _, rfl, HS.out⟩

def minF (D : FFld.FD) (h : FFld.PK D.p D.k D.m) (a : Nat) : Nat -> List Nat
 | 0 => [1]
 | i + 1 => FFld.mulL D (minF D h a i) [FFld.pscl D.p D.k (D.p - 1) (cjg h a i), 1]
theorem mulL_len2 (D : FFld.FD) (pl : List Nat) (x y : Nat) (h : 0 < pl.length) : (FFld.mulL D pl [x, y]).length = pl.length + 1 := by
 unfold FFld.mulL
 rw [if_neg (by simp; intro e; rw [e] at h; simp at h), FFld.mulF_len]
 simp
def MinT {D : FFld.FD} (h : FFld.PK D.p D.k D.m) (a t : Nat) : Prop := 1 <= t /\ t <= D.k /\ (∀ i, 0 < i -> i < t -> cjg h a i ≠ a) /\ (t < D.k -> cjg h a t = a)
theorem two_sl (W : World) (x y : Int) : Sl .i64 (W.alloc (.cells #[.int .i64 x, .int .i64 y] 3)) (.slice (some ⟨W.heap.size, 0, none⟩) 2 2) [x, y] := by
 refine ⟨_, 2, rfl, Nat.le_refl _, by unfold maxLen; omega, fun i hi => ⟨W.heap.size, 0, rfl, by simp, ?_⟩⟩
 rw [Nat.zero_add]
 exact (Row.new (E := 3) (K := .i64) W [x, y]).cell (i := i) hi
theorem one_sln (W : World) (x : Int) : Sl .i64 (W.alloc (.cells #[.int .i64 x] 3)) (.slice (some ⟨W.heap.size, 0, none⟩) 1 1) [x] := by
 refine ⟨_, 1, rfl, Nat.le_refl _, by unfold maxLen; omega, fun i hi => ⟨W.heap.size, 0, rfl, by simp, ?_⟩⟩
 rw [Nat.zero_add]
 exact (Row.new (E := 3) (K := .i64) W [x]).cell (i := i) hi
theorem two_lt {D : FFld.FD} (h : FFld.PK D.p D.k D.m) {z : Nat} (hz : z < D.p ^ D.k) : ∀ a ∈ [z, 1], a < D.p ^ D.k := fun a ha => by
 rcases List.mem_cons.1 ha with rfl | ha
 ·exact hz
 ·rw [List.mem_singleton.1 ha]; exact h.one_lt
def ThRet (D : FFld.FD) (h : FFld.PK D.p D.k D.m) (xs ys : List Nat) (n : Nat) (w : World) (e : Ending) (w' : World) : Prop := Below w.heap.size w w' /\
 ((∃ i j, j < i /\ i < n /\ xs[i]?.getD 0 = xs[j]?.getD 0 /\ e = .returned (.tuple #[.slice none 0 0, .int .i64 1])) \/
  ((∀ a, a < n -> FFld.thA D xs a ≠ 0) /\ ∃ v, e = .returned (.tuple #[v, .int .i64 0]) /\ Sl .i64 w' v (ints (FFld.trm (FFld.thR D h xs ys n n)))))
set_option maxRecDepth 20000 in
theorem fthrough_good {D : FFld.FD} {b : Nat} (hD : D.Ok) (vx vy : Value) (xs ys : List Nat) (n : Nat) (w : World) (hf : FldB D w b) (hx : Sl .i64 w vx (ints xs)) (hy : Sl .i64 w vy (ints ys)) (hxq : ∀ a ∈ xs, a < D.p ^ D.k) (hyq : ∀ a ∈ ys, a < D.p ^ D.k) (lx : xs.length = n) (ly : ys.length = n) (hn : n <= 200) :
 Calls Tryz.prog 75 #[.pointer (some ⟨b, 0, none⟩), vx, vy] w (ThRet D hD.pre.pk xs ys n w) := by
 have hk := hD.pre.pk
 have H1 := Kept.mk (areElements_any vx (ints xs) w hf hx)
 have H2 := Kept.mk (areElements_any vy (ints ys) w hf hy)
 rw [elsB_ints hxq] at H1
 rw [elsB_ints hyq] at H2
 obtain ⟨ax, cx, hvx, hcx, hmx⟩ := hx.form
 obtain ⟨ay, cy, hvy, hcy, hmy⟩ := hy.form
 subst hvx hvy
 rw [FFld.ints_len, lx] at hx hcx H1 ⊢
 rw [FFld.ints_len, ly] at hy hcy H2 ⊢
 obtain ⟨h, T, xv, fs, fp, fw, ms, hb, ho, hna⟩ := hf.open2
 have HF := Kept.mk hf
 have HX := Kept.mk hx
 have HY := Kept.mk hy
 have HXQ := Kept.mk hxq
 have HYQ := Kept.mk hyq
 have HLX := Kept.mk lx
 have HLY := Kept.mk ly
 have HO := Kept.mk ho
 have HHB := Kept.mk hb
 have hmp := ho.mp
 have hcp := ho.cp
 have hbl : b < w.heap.size := hf.lt
 have e200 : decide ((200 : Int) < n) = false := by rw [decide_eq_false_iff_not]; omega
 clear hf hx hy hxq hyq lx ly ho hb
 go_enter Tryz.func75, Tryz.ntmps75
 go_wp2_with fail
 refine H1.out.mono ?_
 rintro e w1 ⟨rfl, rfl⟩
 go_wp2_with fail
 refine H2.out.mono ?_
 rintro e w1 ⟨rfl, rfl⟩
 go_wp2_with (at_make; refine wpList_make_zeros _ rfl _ _ 22 rfl 3 .i64 Tryz.underlying22 info_i64 _ _ n rfl rfl (by omega) (by omega) (by omega) ?_)
 intro w3 hrow hbel
 rw [FFld.ints_rep] at hrow
 have HW3 := Kept.mk hrow.wv
 have HB3 := Kept.mk (show Below w.heap.size w w3 by simpa using hbel)
 obtain ⟨g, hg⟩ : ∃ g, w.heap.size = g := ⟨_, rfl⟩
 rw [hg] at HW3
 have hg3 := HW3.out.lt
 have hal : Below w3.heap.size w3 (w3.alloc (.cells #[.int .i64 1] 3)) := (Below.refl _ _).alloc (Nat.le_refl _) _
 have HW4 : Kept (Wv (w3.alloc (.cells #[.int .i64 1] 3)) g (FFld.thR D hk xs ys n 0)) := ⟨HW3.out.below hal⟩
 have HV4 : Kept (Wv (w3.alloc (.cells #[.int .i64 1] 3)) w3.heap.size (FFld.thV D xs 0)) := ⟨(Row.new (E := 3) (K := .i64) w3 [(1 : Int)]).wv (l := [1])⟩
 have HB4 := Kept.mk (bstep HB3.out hal)
 have HNG := Kept.mk hg
 have hbg : b ≠ g := by omega
 rw [hg] at hbl
 clear hrow hbel hal H1 H2 HW3 hg e200
 go_wp2
 try rw [HNG.out]
 go_loopw [9, 44] (fun vv iv wr => ∃ (i gv cv : Nat), i <= n /\ iv = .int .i64 i /\ vv = .slice (some ⟨gv, 0, none⟩) (i + 1) cv /\ g < gv /\ i + 1 <= cv /\ cv <= maxLen /\ Kept (Wv wr gv (FFld.thV D xs i)) /\ Kept (Wv wr g (FFld.thR D hk xs ys n i)) /\ Kept (∀ a, a < i -> FFld.thA D xs a ≠ 0) /\ Kept (Below w.heap.size w wr)) (fun _ iv _ => n - (intOf iv).toNat)
 case atStart => exact ⟨0, w3.heap.size, 1, Nat.zero_le _, rfl, rfl, hg3, Nat.le_refl _, by unfold maxLen; omega, HV4, HW4, ⟨fun a ha => absurd ha (Nat.not_lt_zero _)⟩, HB4⟩
 case round =>
  clear HV4 HW4 HB4 hg3
  obtain ⟨i, gv, cv, hin, rfl, rfl, hgv, hcv, hmv, hwv, hwr, hnd, hbx⟩ := hrel
  by_cases hlt : i < n
  ·obtain ⟨bx, ox, rfl, hbx0, cxx⟩ := (HX.out.below hbx.out).news_at i (by rw [FFld.ints_len, HLX.out]; exact hlt)
   obtain ⟨x, hxe⟩ : ∃ x, xs[i]?.getD 0 = x := ⟨_, rfl⟩
   rw [FFld.ints_get, hxe] at cxx
   have hxq : x < D.p ^ D.k := by rw [<- hxe]; exact FFld.at_lt hD HXQ.out i
   obtain ⟨c0, _⟩ := six_cells ((hbx.out.block b (by rw [HNG.out]; exact hbl)).trans HHB.out)
   have HAT : Kept (FFld.hornF D (FFld.thV D xs i) x (FFld.thV D xs i).length = FFld.thA D xs i) := ⟨by unfold FFld.thA; rw [hxe]⟩
   have HV := Kept.mk (gvalue_any h (.slice (some ⟨gv, 0, none⟩) (i + 1) cv) (FFld.thV D xs i) x w wr HO.out hna hbx.out (hwv.out.sl (FFld.thV_len D xs i).symm hcv hmv) (FFld.thV_lt hk xs i) hxq (by rw [FFld.thV_len]; omega))
   rw [HAT.out] at HV
   obtain ⟨at_, hat⟩ : ∃ a, FFld.thA D xs i = a := ⟨_, rfl⟩
   rw [hat] at HV
   have HATE := Kept.mk hat
   have HXE := Kept.mk hxe
   have HXL := Kept.mk hxq
   have hatq : at_ < D.p ^ D.k := by rw [<- hat]; exact FFld.thA_lt hD HXQ.out i
   have HATQ := Kept.mk hatq
   have hx6 : x <= 65536 := by have : D.p ^ D.k <= 65536 := hD.pre.small; omega
   have ha6 : at_ <= 65536 := by have : D.p ^ D.k <= 65536 := hD.pre.small; omega
   clear hxe hxq hat hatq HAT
   go_wp2_with fail
   refine HV.out.mono ?_
   rintro e w4 ⟨hb4, rfl⟩
   have HB4 := Kept.mk (bstep hbx.out hb4)
   have HWV := Kept.mk (hwv.out.below hb4)
   have HWR := Kept.mk (hwr.out.below hb4)
   have d0 := belowCell hb4 c0
   clear hb4 HV c0 cxx
   by_cases hA : at_ = 0
   ·subst hA
    have HDU := Kept.mk (FFld.thA_dup hD HXQ.out HATE.out)
    go_wp2
    go_ret2
    obtain ⟨j, hj, e⟩ := HDU.out
    exact ⟨HB4.out, .inl ⟨i, j, hj, hlt, e, rfl⟩⟩
   ·have eA : ((at_ : Int) == 0) = false := by rw [beq_eq_false_iff_ne]; omega
    obtain ⟨by_, oy, rfl, hby, cyy⟩ := (HY.out.below HB4.out).news_at i (by rw [FFld.ints_len, HLY.out]; exact hlt)
    obtain ⟨y, hye⟩ : ∃ y, ys[i]?.getD 0 = y := ⟨_, rfl⟩
    rw [FFld.ints_get, hye] at cyy
    have hyq : y < D.p ^ D.k := by rw [<- hye]; exact FFld.at_lt hD HYQ.out i
    obtain ⟨R, hR⟩ : ∃ R, FFld.thR D hk xs ys n i = R := ⟨_, rfl⟩
    have HRL : Kept (R.length = n) := ⟨by rw [<- hR]; exact FFld.thR_len D hk xs ys n i⟩
    have HRQ : Kept (∀ a ∈ R, a < D.p ^ D.k) := ⟨by rw [<- hR]; exact FFld.thR_lt hk xs ys n i⟩
    obtain ⟨rv, hrv⟩ : ∃ r, FFld.hornF D R x R.length = r := ⟨_, rfl⟩
    have hrvq : rv < D.p ^ D.k := by rw [<- hrv]; exact FFld.hornF_lt hk _ _ _
    obtain ⟨mi, hmi⟩ : ∃ m, FFld.padd D.p D.k y (FFld.pscl D.p D.k (D.p - 1) rv) = m := ⟨_, rfl⟩
    have hmiq : mi < D.p ^ D.k := by rw [<- hmi]; exact FFld.padd_lt hk _ _
    obtain ⟨iv, hiv⟩ : ∃ v, FFld.ppow hk at_ (D.q - 2) = v := ⟨_, rfl⟩
    have hivq : iv < D.p ^ D.k := by rw [<- hiv]; exact FFld.ppow_lt _ _ _
    obtain ⟨co, hco⟩ : ∃ c, FFld.pmul D.p D.k D.m mi D.k iv = c := ⟨_, rfl⟩
    have hcoq : co < D.p ^ D.k := by rw [<- hco]; exact FFld.pmul_lt hk _ _ _
    have HNX : Kept (FFld.thR D hk xs ys n (i + 1) = FFld.addm D R 0 (FFld.thV D xs i) co) := ⟨by simp only [FFld.thR]; unfold FFld.misF; rw [hR, HXE.out, hye, hrv, hmi, HATE.out, hiv, hco]⟩
    have HND : Kept (∀ a, a < i + 1 -> FFld.thA D xs a ≠ 0) := ⟨fun a ha => by
     by_cases e : a = i
     ·rw [e, HATE.out]; exact hA
     ·exact hnd.out a (by omega)⟩
    rw [hR] at HWR
    have HG := Kept.mk (fun W (hW : Below w4.heap.size w4 W) => gvalue_any h (.slice (some ⟨g, 0, none⟩) n n) R x w W HO.out hna (bstep HB4.out hW) ((HWR.out.below hW).sl HRL.out.symm (Nat.le_refl _) (by unfold maxLen; omega)) HRQ.out HXL.out (by rw [HRL.out]; omega))
    rw [hrv] at HG
    have HDF := Kept.mk (fun W (hW : Below w4.heap.size w4 W) => difference_any (b := b) y rv W (HF.out.below (bstep HB4.out hW)) hyq hrvq)
    rw [hmi] at HDF
    have hy6 : y <= 65536 := by have : D.p ^ D.k <= 65536 := hD.pre.small; omega
    have hr6 : rv <= 65536 := by have : D.p ^ D.k <= 65536 := hD.pre.small; omega
    have hm6 : mi <= 65536 := by have : D.p ^ D.k <= 65536 := hD.pre.small; omega
    have HIV := Kept.mk (fun W (hW : Below w.heap.size w W) => inverse_any hD at_ W (HF.out.below hW) HATQ.out hA)
    rw [hiv] at HIV
    have HPR := Kept.mk (fun W (hW : Below w.heap.size w W) => HO.out.product W hW mi iv hmiq hivq)
    rw [hco] at HPR
    have HCQ := Kept.mk hcoq
    have HNE := Kept.mk (FFld.thV_lt hk xs i)
    have HVL := Kept.mk (FFld.thV_len D xs i)
    have HVN : Kept (FFld.thV D xs (i + 1) = FFld.mulL D (FFld.thV D xs i) [FFld.pscl D.p D.k (D.p - 1) x, 1]) := ⟨by simp only [FFld.thV]; rw [HXE.out]⟩
    have HVN2 : Kept ((FFld.thV D xs (i + 1)).length = i + 1 + 1) := ⟨FFld.thV_len D xs (i + 1)⟩
    obtain ⟨V, hV⟩ : ∃ V, FFld.thV D xs i = V := ⟨_, rfl⟩
    rw [hV] at HNX HWV HNE HVL HVN
    have HLIN := Kept.mk (FFld.lin_lt hk x)
    clear hye hyq hR hrv hrvq hmi hmiq hiv hivq hco hcoq hV hwv hwr hnd hbx hA
    go_wp2
    go_region_held3 (fun w' => w'.cell? ⟨b, 0, none⟩ = some (.iface T xv) /\ w'.cell? ⟨by_, oy + i, none⟩ = some (.int .i64 y))
     (first | exact ⟨l0, ly⟩ | exact ⟨k0, ky⟩ | exact ⟨d0, cyy⟩ | go_keep)
     ((first
       | (go_at_call 149; (with_reducible refine (HG.out _ (by repeat (first | (with_reducible exact Below.refl _ _) | (with_reducible exact HC3.out) | (with_reducible exact HC2.out) | (with_reducible exact HC1.out) | (with_reducible refine Below.drew ?_)))).mono ?_); rintro e v1 ⟨hb1, rfl⟩; have HC1 : Kept (Below w4.heap.size w4 v1) := ⟨bstep (by repeat (first | (with_reducible exact Below.refl _ _) | (with_reducible exact HC3.out) | (with_reducible exact HC2.out) | (with_reducible exact HC1.out) | (with_reducible refine Below.drew ?_))) hb1⟩; have k0 := belowCell HC1.out d0; have ky := belowCell HC1.out cyy; clear hb1)
       | (go_at_call 150; (with_reducible refine (HDF.out _ (by repeat (first | (with_reducible exact Below.refl _ _) | (with_reducible exact HC3.out) | (with_reducible exact HC2.out) | (with_reducible exact HC1.out) | (with_reducible refine Below.drew ?_)))).mono ?_); rintro e v2 ⟨hb2, rfl⟩; have HC2 : Kept (Below w4.heap.size w4 v2) := ⟨bstep (by repeat (first | (with_reducible exact Below.refl _ _) | (with_reducible exact HC3.out) | (with_reducible exact HC2.out) | (with_reducible exact HC1.out) | (with_reducible refine Below.drew ?_))) hb2⟩; have l0 := belowCell HC2.out d0; have ly := belowCell HC2.out cyy; clear hb2)))
    have HB5 := Kept.mk (bstep HB4.out HC2.out)
    have HWV5 := Kept.mk (HWV.out.below HC2.out)
    have HWR5 := Kept.mk (HWR.out.below HC2.out)
    have HIV5 := Kept.mk (fun W (hW : Below v2.heap.size v2 W) => HIV.out W (bstep HB5.out hW))
    have HPR5 := Kept.mk (fun W (hW : Below v2.heap.size v2 W) => HPR.out W (bstep HB5.out hW))
    have HAM := Kept.mk (fun W (hW : Below v2.heap.size v2 W) => addMultiple_any (D := D) (b := b) (g := g) (s := 0) (n := n) (cc := n) (ao := some ⟨gv, 0, none⟩) (cap := cv) w W HF.out (bstep HB5.out hW) (by rw [HNG.out]; exact Nat.le_refl _) R (HWR5.out.below hW) HRQ.out V (fun j hj => ⟨gv, 0, rfl, by omega, ((HWV5.out.below hW).lt), by have := (HWV5.out.below hW).cell (i := j) hj; rw [Nat.zero_add]; exact this⟩) HNE.out (by rw [HRL.out, HVL.out]; omega) (by rw [HVL.out]; omega) co HCQ.out (by rw [HVL.out]; omega))
    rw [HVL.out] at HAM
    have m0 := l0
    clear HC1 HC2 HG HDF HIV HPR k0 ky l0 ly d0 cyy HB4 HWV HWR
    go_wp2
    go_region_held3 (fun w' => w'.cell? ⟨b, 0, none⟩ = some (.iface T xv))
     (first | exact q0 | exact p0 | exact n0 | exact m0 | go_keep)
     ((first
       | (go_at_call 152; (with_reducible refine (HIV5.out _ (by repeat (first | (with_reducible exact Below.refl _ _) | (with_reducible exact HD3.out) | (with_reducible exact HD2.out) | (with_reducible exact HD1.out) | (with_reducible refine Below.drew ?_)))).mono ?_); rintro e u1 ⟨hb1, rfl⟩; have HD1 : Kept (Below v2.heap.size v2 u1) := ⟨bstep (by repeat (first | (with_reducible exact Below.refl _ _) | (with_reducible exact HD3.out) | (with_reducible exact HD2.out) | (with_reducible exact HD1.out) | (with_reducible refine Below.drew ?_))) hb1⟩; have n0 := belowCell HD1.out m0; clear hb1)
       | (go_at_call 151; (with_reducible refine (HAM.out _ (by repeat (first | (with_reducible exact Below.refl _ _) | (with_reducible exact HD3.out) | (with_reducible exact HD2.out) | (with_reducible exact HD1.out) | (with_reducible refine Below.drew ?_)))).mono ?_); rintro e u3 ⟨rfl, hg3, hw3⟩; have q0 := hg3.cell p0 (by simpa using hbg))
       | ((with_reducible refine (HPR5.out _ (by repeat (first | (with_reducible exact Below.refl _ _) | (with_reducible exact HD3.out) | (with_reducible exact HD2.out) | (with_reducible exact HD1.out) | (with_reducible refine Below.drew ?_)))).mono ?_); rintro e u2 ⟨hb2, rfl⟩; have HD2 : Kept (Below v2.heap.size v2 u2) := ⟨bstep (by repeat (first | (with_reducible exact Below.refl _ _) | (with_reducible exact HD3.out) | (with_reducible exact HD2.out) | (with_reducible exact HD1.out) | (with_reducible refine Below.drew ?_))) hb2⟩; have p0 := belowCell HD2.out m0; clear hb2)))
    rw [<- HNX.out] at hw3
    have HW7 := Kept.mk hw3
    have HB7 := Kept.mk (belowGrow hg3 (bstep HB5.out HD2.out) (by rw [HNG.out]; exact Nat.le_refl _))
    have HV7 := Kept.mk ((HWV5.out.below HD2.out).other hg3 (by omega))
    have HNEG := Kept.mk (fun W (hW : Below w.heap.size w W) => negative_any x W (HF.out.below hW) HXL.out)
    clear HD1 HD2 hg3 hw3 HIV5 HPR5 HAM n0 p0 q0 m0 HWV5 HWR5 HB5
    obtain ⟨z, hz⟩ : ∃ z, FFld.pscl D.p D.k (D.p - 1) x = z := ⟨_, rfl⟩
    rw [hz] at HNEG HVN HLIN
    have hz6 : z <= 65536 := by have : D.p ^ D.k <= 65536 := hD.pre.small; have := HLIN.out z List.mem_cons_self; omega
    clear hz
    go_wp2_with fail
    refine (HNEG.out _ HB7.out).mono ?_
    rintro e w8 ⟨hb8, rfl⟩
    have hal : Below w8.heap.size w8 (w8.alloc (.cells #[.int .i64 z, .int .i64 1] 3)) := (Below.refl _ _).alloc (Nat.le_refl _) _
    have HB8 := Kept.mk (bstep (bstep HB7.out hb8) hal)
    have HW8 := Kept.mk ((HW7.out.below hb8).below hal)
    have HV8 := Kept.mk ((HV7.out.below hb8).below hal)
    have HS2 := Kept.mk (two_sl w8 (z : Int) 1)
    have HML := Kept.mk (multiply_new hD (.slice (some ⟨gv, 0, none⟩) (i + 1) cv) (.slice (some ⟨w8.heap.size, 0, none⟩) 2 2) V [z, 1] (w8.alloc (.cells #[.int .i64 z, .int .i64 1] 3)) (HF.out.below HB8.out) (HV8.out.sl HVL.out.symm hcv hmv) HS2.out HNE.out HLIN.out (by rw [HVL.out]; omega) (by simp) (by rw [HVL.out]; simp))
    rw [<- HVN.out, HVN2.out] at HML
    have hgs : g < (w8.alloc (.cells #[.int .i64 z, .int .i64 1] 3)).heap.size := HW8.out.lt
    clear hal hb8 HNEG HS2 HW7 HV7 HB7
    go_wp2_with fail
    refine HML.out.mono ?_
    rintro e w9 ⟨hb9, rfl, hw9⟩
    have HB9 := Kept.mk (bstep HB8.out hb9)
    have HW9 := Kept.mk (HW8.out.below hb9)
    have hsz : (w8.alloc (.cells #[.int .i64 z, .int .i64 1] 3)).heap.size = w8.heap.size + 1 := by simp
    rw [hsz] at hw9 hgs
    have HV9 := Kept.mk hw9
    clear hb9 hw9 HML HB8 HW8 HV8
    go_wp2
    go_roundw
    case rel => exact ⟨i + 1, _, i + 1 + 1, by omega, by go_num, rfl, hgs, Nat.le_refl _, by unfold maxLen; omega, HV9, HW9, HND, HB9⟩
    case measure => simp [intOf] <;> omega
  ·obtain rfl : i = n := by omega
   obtain ⟨R, hR⟩ : ∃ R, FFld.thR D hk xs ys i i = R := ⟨_, rfl⟩
   have HRL : Kept (R.length = i) := ⟨by rw [<- hR]; exact FFld.thR_len D hk xs ys i i⟩
   have HRE := Kept.mk hR
   rw [hR] at hwr
   have HTR := Kept.mk (trimmed_any R (some ⟨g, 0, none⟩) i wr (by have := hwr.out.sl (n := i) (c := i) HRL.out.symm (Nat.le_refl _) (by unfold maxLen; omega); rw [HRL.out]; exact this))
   rw [HRL.out] at HTR
   clear hR
   go_wp2_with fail
   refine HTR.out.mono ?_
   rintro e w4 ⟨rfl, n', hn', rfl, hz, ht⟩
   have HTE := Kept.mk (FFld.trm_is (l := R) (n := n') (by rw [HRL.out]; exact hn') hz ht)
   have HSL : Kept (Sl .i64 wr (.slice (some ⟨g, 0, none⟩) n' n') (ints (FFld.trm R))) := ⟨by rw [HTE.out]; exact (hwr.out.take n').sl (by rw [List.length_take, HRL.out]; omega) (Nat.le_refl _) (by unfold maxLen; omega)⟩
   clear hz ht
   go_wp2
   go_ret2
   exact ⟨hbx.out, .inr ⟨hnd.out, _, rfl, by rw [HRE.out]; exact HSL.out⟩⟩
end Go.Proofs.YtdnheaafcbihbaaGreat
