/-
  Texts of the proof, merged by program: Plq Rtd Rdv Scl Cmp1.
-/
import Derived.Test.YtdnheaafcbihbaaGreatDq17
set_option linter.unusedSimpArgs false
set_option linter.unusedVariables false
set_option maxHeartbeats 16000000
namespace Go.Proofs.YtdnheaafcbihbaaGreat
namespace FFld
def outF (D : FD) (ql : List Nat) (inv n : Nat) (pl : List Nat) (t : Nat) : List Nat := (List.range n).map fun i => if n - t <= i then divQ D ql inv n pl (n - 1 - i) else 0
theorem outF_len (D : FD) (ql : List Nat) (inv n : Nat) (pl : List Nat) (t : Nat) : (outF D ql inv n pl t).length = n := by simp [outF]
theorem range_get {n i : Nat} (f : Nat -> Nat) (hi : i < n) : ((List.range n).map f)[i]?.getD 0 = f i := by
 rw [List.getElem?_map, List.getElem?_range hi]
 rfl
theorem outF_get (D : FD) (ql : List Nat) (inv : Nat) {n i : Nat} (pl : List Nat) (t : Nat) (hi : i < n) : (outF D ql inv n pl t)[i]?.getD 0 = if n - t <= i then divQ D ql inv n pl (n - 1 - i) else 0 := range_get _ hi
theorem outF_zero (D : FD) (ql : List Nat) (inv n : Nat) (pl : List Nat) : outF D ql inv n pl 0 = List.replicate n 0 := by
 refine ext_getD (by rw [outF_len, List.length_replicate]) fun i hi => ?_
 rw [outF_len] at hi
 rw [outF_get _ _ _ _ _ hi, if_neg (by omega), List.getElem?_replicate_of_lt hi]
 rfl
theorem set_get (l : List Nat) (i j v : Nat) : (l.set i v)[j]?.getD 0 = if i = j /\ j < l.length then v else l[j]?.getD 0 := by
 rw [List.getElem?_set]
 by_cases e : i = j
 ·subst e
  by_cases h : i < l.length
  ·rw [if_pos rfl, if_pos h, if_pos ⟨rfl, h⟩]; rfl
  ·rw [if_pos rfl, if_neg h, if_neg (fun q => h q.2), List.getElem?_eq_none (by omega)]
 ·rw [if_neg e, if_neg (fun q => e q.1)]
theorem outF_next {D : FD} {ql : List Nat} {inv n : Nat} {pl : List Nat} {t s a : Nat} (hts : t <= s) (hs : s < n) (ha : n - 1 - s = a) (hz : ∀ u, t <= u -> u < s -> divQ D ql inv n pl u = 0) : (outF D ql inv n pl t).set a (divQ D ql inv n pl s) = outF D ql inv n pl (s + 1) := by
 refine ext_getD (by rw [List.length_set, outF_len, outF_len]) fun i hi => ?_
 rw [List.length_set, outF_len] at hi
 rw [set_get, outF_len, outF_get _ _ _ _ _ hi, outF_get _ _ _ _ _ hi]
 by_cases e : a = i
 ·subst e
  rw [if_pos ⟨rfl, hi⟩, if_pos (by omega), show n - 1 - a = s by omega]
 ·rw [if_neg (fun q => e q.1)]
  by_cases h1 : n - (s + 1) <= i
  ·rw [if_pos h1]
   by_cases h2 : n - t <= i
   ·rw [if_pos h2]
   ·rw [if_neg h2]
    exact (hz _ (by omega) (by omega)).symm
  ·rw [if_neg h1, if_neg (by omega)]
theorem outF_done {D : FD} {ql : List Nat} {inv n : Nat} {pl : List Nat} {t : Nat} (hn : n + ql.length = pl.length + 1) (hq : 1 <= ql.length) (h1 : 1 <= n) (hz : ∀ u, t <= u -> u < n -> divQ D ql inv n pl u = 0) : outF D ql inv n pl t = quoF D ql inv pl := by
 have e : pl.length + 1 - ql.length = n := by omega
 unfold quoF
 rw [if_neg (by omega), e]
 refine ext_getD (by rw [outF_len]; simp) fun i hi => ?_
 rw [outF_len] at hi
 rw [outF_get _ _ _ _ _ hi, range_get _ hi]
 split
 ·rfl
 ·exact (hz _ (by omega) (by omega)).symm
theorem rstF_done {D : FD} {ql : List Nat} {inv n : Nat} {pl : List Nat} {l : Nat} (hn : n + ql.length = pl.length + 1) (hq : 1 <= ql.length) (h1 : 1 <= n) (hl : l <= pl.length) (hz : ∀ j, l <= j -> (divF D ql inv n pl n)[j]?.getD 0 = 0) (ht : l = 0 \/ (divF D ql inv n pl n)[l - 1]?.getD 0 ≠ 0) : (divF D ql inv n pl n).take l = rstF D ql inv pl := by
 have e : pl.length + 1 - ql.length = n := by omega
 unfold rstF
 rw [if_neg (by omega), e, trm_is (by rw [divF_len]; exact hl) hz ht]
theorem trm_pre {X : List Nat} {l : Nat} (h1 : 1 <= l) (hl : l <= X.length) (hz : ∀ j, l - 1 <= j -> X[j]?.getD 0 = 0) : (trm (X.take l)).length + 1 <= l /\ (∀ j, (trm (X.take l)).length <= j -> X[j]?.getD 0 = 0) /\ ((trm (X.take l)).length = 0 \/ X[(trm (X.take l)).length - 1]?.getD 0 ≠ 0) := by
 have el : (X.take l).length = l := by rw [List.length_take]; omega
 rw [trm_len, el]
 have ht := trmN_top (X.take l) l
 have hle := trmN_le (X.take l) l
 have hzz := trmN_zero (X.take l) l
 generalize trmN (X.take l) l = r at *
 have ht2 : r = 0 \/ X[r - 1]?.getD 0 ≠ 0 := by
  rcases ht with h | h
  ·exact .inl h
  ·by_cases h0 : r = 0
   ·exact .inl h0
   ·rw [take_getD (by omega)] at h
    exact .inr h
 refine ⟨?_, fun j hj => ?_, ht2⟩
 ·rcases ht2 with h | h
  ·omega
  ·apply Classical.byContradiction
   intro hc
   exact h (hz _ (by omega))
 ·by_cases hjl : j < l
  ·have := hzz j hj hjl
   rw [take_getD hjl] at this
   exact this
  ·exact hz j (by omega)
theorem deRet_eq {D : FD} {ql pl qs rs : List Nat} {inv : Nat} (hq1 : 1 <= ql.length) (h : if pl.length < ql.length then qs = [] /\ rs = pl
 else qs.length = pl.length + 1 - ql.length /\ (∀ t, t < qs.length -> qs[qs.length - 1 - t]?.getD 0 = divQ D ql inv qs.length pl t) /\
  ∃ n, n <= pl.length /\ rs = (divF D ql inv qs.length pl qs.length).take n /\ (∀ i, n <= i -> (divF D ql inv qs.length pl qs.length)[i]?.getD 0 = 0) /\ (n = 0 \/ (divF D ql inv qs.length pl qs.length)[n - 1]?.getD 0 ≠ 0)) : qs = quoF D ql inv pl /\ rs = rstF D ql inv pl := by
 by_cases hlt : pl.length < ql.length
 ·rw [if_pos hlt] at h
  unfold quoF rstF
  rw [if_pos hlt, if_pos hlt]
  exact h
 ·rw [if_neg hlt] at h
  obtain ⟨h1, h2, n, h3, h4, h5, h6⟩ := h
  constructor
  ·unfold quoF
   rw [if_neg hlt, <- h1]
   refine ext_getD (by simp) fun i hi => ?_
   rw [range_get _ hi]
   have := h2 (qs.length - 1 - i) (by omega)
   rw [show qs.length - 1 - (qs.length - 1 - i) = i by omega] at this
   exact this
  ·rw [h4]
   exact rstF_done (by omega) hq1 (by omega) h3 h5 h6
end FFld
end Go.Proofs.YtdnheaafcbihbaaGreat
namespace Go.Proofs.YtdnheaafcbihbaaGreat
open Go Go.RowKit Go.Deep
namespace FFld
def mulF (D : FD) (pl ql : List Nat) : Nat -> List Nat
 | 0 => List.replicate (pl.length + ql.length - 1) 0
 | i + 1 => addm D (mulF D pl ql i) i ql (pl[i]?.getD 0)
def mulL (D : FD) (pl ql : List Nat) : List Nat := if pl.length = 0 \/ ql.length = 0 then [] else mulF D pl ql pl.length
theorem mulF_len (D : FD) (pl ql : List Nat) (i : Nat) : (mulF D pl ql i).length = pl.length + ql.length - 1 := by
 induction i with
 | zero => simp [mulF]
 | succ i ih => simp only [mulF]; rw [addm_len, ih]
theorem mulF_lt {D : FD} (hk : PK D.p D.k D.m) (pl ql : List Nat) (i : Nat) : ∀ a ∈ mulF D pl ql i, a < D.p ^ D.k := by
 induction i with
 | zero =>
   intro a ha
   rw [(List.mem_replicate.1 ha).2]
   exact Nat.pow_pos hk.p0
 | succ i ih => exact addmF_lt hk _ _ _ _ ih
theorem mulL_lt {D : FD} (hk : PK D.p D.k D.m) (pl ql : List Nat) : ∀ a ∈ mulL D pl ql, a < D.p ^ D.k := by
 unfold mulL
 by_cases h : pl.length = 0 \/ ql.length = 0
 ·rw [if_pos h]; intro a ha; cases ha
 ·rw [if_neg h]; exact mulF_lt hk pl ql _
end FFld
open FFld (ints)
set_option maxRecDepth 20000 in
theorem multiply_any {D : FFld.FD} {b : Nat} (hD : D.Ok) (vp vq : Value) (pl ql : List Nat) (w : World) (hf : FldB D w b) (hp : Sl .i64 w vp (ints pl)) (hq : Sl .i64 w vq (ints ql)) (hpq : ∀ a ∈ pl, a < D.p ^ D.k) (hqq : ∀ a ∈ ql, a < D.p ^ D.k) (hpl : pl.length <= 100000) (hqll : ql.length <= 100000) :
 Calls Tryz.prog 153 #[.pointer (some ⟨b, 0, none⟩), vp, vq] w (fun e w' => Below w.heap.size w w' /\ ∃ v, e = .returned v /\ Sl .i64 w' v (ints (FFld.mulL D pl ql))) := by
 obtain ⟨ap, cp, rfl, hcp, hmp⟩ := hp.form
 obtain ⟨aq, cq, rfl, hcq, hmq⟩ := hq.form
 rw [FFld.ints_len] at hcp hcq
 have HPS := Kept.mk hp
 have HQS := Kept.mk hq
 have HF := Kept.mk hf
 have HPQ := Kept.mk hpq
 have HQQ := Kept.mk hqq
 clear hp hq hf hpq hqq
 rw [FFld.ints_len, FFld.ints_len] at *
 by_cases h0 : pl.length = 0 \/ ql.length = 0
 ·have hL : FFld.mulL D pl ql = [] := by unfold FFld.mulL; rw [if_pos h0]
  have HS : Kept (Sl .i64 w (.slice none 0 0) (ints [])) := ⟨(Mine.nil 3 .i64 0 w).sl⟩
  rw [hL]
  by_cases h1 : pl.length = 0
  ·have e1 : ((pl.length : Int) == 0) = true := by rw [h1]; rfl
   go_enter Tryz.func153, Tryz.ntmps153
   go_wp2
   go_ret
   exact ⟨Below.refl _ _, _, rfl, HS.out⟩
  ·have h2 : ql.length = 0 := by omega
   have e1 : ((pl.length : Int) == 0) = false := by rw [beq_eq_false_iff_ne]; omega
   have e2 : ((ql.length : Int) == 0) = true := by rw [h2]; rfl
   go_enter Tryz.func153, Tryz.ntmps153
   go_wp2
   go_ret
   exact ⟨Below.refl _ _, _, rfl, HS.out⟩
 ·have hL : FFld.mulL D pl ql = FFld.mulF D pl ql pl.length := by unfold FFld.mulL; rw [if_neg h0]
  rw [hL]
  have e1 : ((pl.length : Int) == 0) = false := by rw [beq_eq_false_iff_ne]; omega
  have e2 : ((ql.length : Int) == 0) = false := by rw [beq_eq_false_iff_ne]; omega
  obtain ⟨n, hn⟩ : ∃ n, pl.length + ql.length - 1 = n := ⟨_, rfl⟩
  have en : (pl.length : Int) + ql.length - 1 = n := by omega
  have HN : Kept (∀ i, (FFld.mulF D pl ql i).length = n) := ⟨fun i => by rw [FFld.mulF_len, hn]⟩
  have hlen : pl.length + ql.length = n + 1 := by omega
  have hn6 : n <= 200000 := by omega
  have HZ : Kept (FFld.mulF D pl ql 0 = List.replicate n 0) := ⟨by simp only [FFld.mulF]; rw [hn]⟩
  obtain ⟨np, hnp⟩ : ∃ np, pl.length = np := ⟨_, rfl⟩
  obtain ⟨nq, hnq⟩ : ∃ nq, ql.length = nq := ⟨_, rfl⟩
  have HNP := Kept.mk hnp
  have HNQ := Kept.mk hnq
  have HCP := Kept.mk (HPS.out.cells (Nat.le_refl _))
  rw [hnp] at hcp hpl e1 en hlen h0 ⊢
  rw [hnq] at hcq hqll e2 en hlen h0
  rw [hnq]
  clear hL hn hnp hnq
  go_enter Tryz.func153, Tryz.ntmps153
  go_wp2_with (at_make; refine wpList_make_zeros _ rfl _ _ 22 rfl 3 .i64 Tryz.underlying22 info_i64 _ _ n rfl rfl (by omega) (by omega) (by omega) ?_)
  intro w3 hrow hbel
  rw [FFld.ints_rep] at hrow
  have HW3 := Kept.mk hrow.wv
  have HB3 := Kept.mk hbel
  clear hrow hbel
  go_wp2
  go_loopw [27] (fun iv wr => ∃ i : Nat, i <= np /\ iv = .int .i64 i /\ Kept (Wv wr w.heap.size (FFld.mulF D pl ql i)) /\ Kept (Below w.heap.size w wr)) (fun iv _ => np - (intOf iv).toNat)
  case atStart => exact ⟨0, Nat.zero_le _, rfl, ⟨by rw [HZ.out]; exact HW3.out⟩, HB3⟩
  case round =>
   obtain ⟨i, hi, rfl, hwv, hbl⟩ := hrel
   by_cases hlt : i < np
   ·obtain ⟨bp, op, rfl, hcell⟩ := HCP.out _ hbl.out i (by rw [HNP.out]; exact hlt)
    obtain ⟨c, hc⟩ : ∃ c, pl[i]?.getD 0 = c := ⟨_, rfl⟩
    have hcq2 : c < D.p ^ D.k := by rw [<- hc]; exact FFld.getD_lt (Nat.pow_pos hD.pre.pk.p0) HPQ.out i
    rw [hc] at hcell
    obtain ⟨R, hR⟩ : ∃ R, FFld.mulF D pl ql i = R := ⟨_, rfl⟩
    have hRl : R.length = n := by rw [<- hR]; exact HN.out i
    have HRQ : Kept (∀ a ∈ R, a < D.p ^ D.k) := ⟨by rw [<- hR]; exact FFld.mulF_lt hD.pre.pk pl ql i⟩
    have HNX : Kept (FFld.mulF D pl ql (i + 1) = FFld.addm D R i ql c) := ⟨by simp only [FFld.mulF]; rw [hR, hc]⟩
    rw [hR] at hwv
    have hAm := Kept.mk (fun (n' cc : Nat) (hn' : ql.length <= n') => addMultiple_any (s := i) (n := n') (cc := cc) (cap := cq) w wr HF.out hbl.out (Nat.le_refl _) R hwv.out HRQ.out ql (HQS.out.qc hbl.out (Nat.le_refl _)) HQQ.out (by rw [hRl, HNQ.out]; omega) hn' c hcq2 (by rw [HNQ.out]; omega))
    rw [HNQ.out] at hAm
    have hs1 : (i : Int) <= (n : Int) := by omega
    have hs2 : i <= n := by omega
    have hs3 : (0 : Int) <= (i : Int) := by omega
    have hs6 : ((i : Int) < 0) = False := by simp
    clear hc hR hcq2
    go_wp2_with fail
    refine (hAm.out _ _ (by omega)).mono ?_
    rintro e w7 ⟨rfl, hg7, hw7⟩
    have HW7 := Kept.mk hw7
    have HB7 := Kept.mk (belowGrow hg7 hbl.out (Nat.le_refl _))
    clear hg7 hw7 hAm
    go_wp2
    go_roundw
    case rel => exact ⟨i + 1, by omega, by go_num, ⟨by rw [HNX.out]; exact HW7.out⟩, HB7⟩
    case measure => simp [intOf] <;> omega
   ·obtain rfl : i = np := by omega
    have HS := Kept.mk (hwv.out.sl (n := n) (c := n) (HN.out i).symm (Nat.le_refl _) (by unfold maxLen; omega))
    go_wp2
    go_ret
    exact ⟨hbl.out, _, rfl, HS.out⟩
end Go.Proofs.YtdnheaafcbihbaaGreat
namespace Go.Proofs.YtdnheaafcbihbaaGreat
open Go Go.RowKit Go.Deep
open FFld (ints)
def RdRet (D : FFld.FD) (ql : List Nat) (inv : Nat) (pl : List Nat) (w : World) (e : Ending) (w' : World) : Prop := Below w.heap.size w w' /\ ∃ (vq vr : Value), e = .returned (.tuple #[vq, vr]) /\ Sl .i64 w' vq (ints (FFld.quoF D ql inv pl)) /\ Sl .i64 w' vr (ints (FFld.rstF D ql inv pl))
set_option maxRecDepth 20000 in
theorem rpdivide_any {D : FFld.FD} (hD : D.Ok) (vp vq : Value) (pl ql : List Nat) (w : World) (hp : Sl .i64 w vp (ints pl)) (hq : Sl .i64 w vq (ints ql)) (hpq : ∀ a ∈ pl, a < D.p ^ D.k) (hqq : ∀ a ∈ ql, a < D.p ^ D.k)
 (hq1 : 1 <= ql.length) (hql : ql[ql.length - 1]?.getD 0 ≠ 0) (hpl : pl.length <= 100000) (hqll : ql.length <= 100000) :
 Calls Tryz.prog 105 #[rfv D.q D.p D.k D.m, vp, vq] w (RdRet D ql (FFld.ppow hD.pre.pk (ql[ql.length - 1]?.getD 0) (D.q - 2)) pl w) := by
 obtain ⟨ap, cp, hvp, hcp, hmp⟩ := hp.form
 obtain ⟨aq, cq, hvq, hcq, hmq⟩ := hq.form
 subst hvp hvq
 rw [FFld.ints_len] at hcp hcq
 have HX0 : Kept (Bxs w [rbox D.q D.p D.k D.m] (w.alloc (rbox D.q D.p D.k D.m))) := ⟨(Bxs.start w).alloc (by simp) _⟩
 obtain ⟨np, hnp⟩ : ∃ np, pl.length = np := ⟨_, rfl⟩
 obtain ⟨nq, hnq⟩ : ∃ nq, ql.length = nq := ⟨_, rfl⟩
 have HNP := Kept.mk hnp
 have HNQ := Kept.mk hnq
 obtain ⟨top, htop⟩ : ∃ x, ql[ql.length - 1]?.getD 0 = x := ⟨_, rfl⟩
 rw [htop] at hql ⊢
 have HTOP := Kept.mk htop
 have htq : top < D.p ^ D.k := by rw [<- htop]; exact FFld.getD_lt (Nat.pow_pos hD.pre.pk.p0) hqq _
 obtain ⟨inv, hinv⟩ : ∃ x, FFld.ppow hD.pre.pk top (D.q - 2) = x := ⟨_, rfl⟩
 have HINV := Kept.mk hinv
 have hivq : inv < D.p ^ D.k := by rw [<- hinv]; exact FFld.ppow_lt _ _ _
 have hq6 : D.p ^ D.k <= 65536 := hD.pre.small
 have HM := Kept.mk (fun W x y (hx : x < D.p ^ D.k) (hy : y < D.p ^ D.k) => rmul_any D.q D.p D.k D.m x y W hD.pre.pk.p2 hD.pre.pk.k1 hx hy hq6 (md_ok hD))
 have HA := Kept.mk (fun W x y (hx : x < D.p ^ D.k) (hy : y < D.p ^ D.k) => rsub_any D.q D.p D.k D.m x y W hD.pre.pk hx hy hq6)
 have HI := Kept.mk (fun W => rinv_any D.q D.p D.k D.m top W hD.pre.pk htq rfl hq6 (md_ok hD))
 rw [hinv] at HI
 have HIQ := Kept.mk hivq
 have HQL := Kept.mk hql
 have HPS := Kept.mk (hp.below HX0.out.1)
 have HQS := Kept.mk hq
 have HPQ := Kept.mk hpq
 have HQQ := Kept.mk hqq
 rw [FFld.ints_len, hnp] at HPS
 rw [FFld.ints_len, hnq] at HQS
 rw [hnp] at hcp hpl
 rw [hnq] at hcq hqll hq1
 rw [hinv, FFld.ints_len, FFld.ints_len, hnp, hnq]
 have H1 := Kept.mk (show (([] : List Int).length + (ints pl).length) * 8 <= 140737488355328 by rw [FFld.ints_len, hnp]; simp; omega)
 have H2 := Kept.mk (show ([] : List Int).length + (ints pl).length <= maxLen by rw [FFld.ints_len, hnp]; unfold maxLen; simp; omega)
 have hivd : inv <= 65536 := by omega
 have hs0 : (w.alloc (rbox D.q D.p D.k D.m)).heap.size = w.heap.size + 1 := by simp
 clear hp hq hpq hqq hnp hnq htop hinv hq6 htq hivq hql
 go_enter Tryz.func105, Tryz.ntmps105
 go_wp2_with (at_builtin; refine wpList_append_sl _ rfl _ _ 22 rfl 3 .i64 8 Tryz.underlying22 info_i64 (w.alloc (rbox D.q D.p D.k D.m)).heap.size (.slice none 0 0) [] (by rfl) (Mine.nil _ _ _ _) (Nat.le_refl _) _ _ (by rfl) HPS.out H1.out H2.out ?_)
 intro v3 w3 hm3 hg3
 try rw [List.nil_append] at hm3
 have hb3 : Below (w.alloc (rbox D.q D.p D.k D.m)).heap.size (w.alloc (rbox D.q D.p D.k D.m)) w3 := (Below.refl _ _).grown hg3 (Nat.le_refl _) (by simp [Value.ownBlock])
 obtain ⟨a3, c3, hv3, hc3, hm3'⟩ := hm3.sl.form
 subst hv3
 rw [FFld.ints_len, HNP.out] at hm3 hc3 ⊢
 have HB3 := Kept.mk hb3
 have HX3 := Kept.mk (HX0.out.below hb3)
 have HM3 := Kept.mk hm3
 clear hb3 hm3 hg3 H1 H2 HX0
 by_cases hlt : np < nq
 ·go_wp2
  go_ret2
  refine ⟨HX3.out.1, _, _, rfl, ?_, ?_⟩
  ·have e : FFld.quoF D ql inv pl = [] := by unfold FFld.quoF; rw [if_pos (by rw [HNP.out, HNQ.out]; exact hlt)]
   rw [e]
   exact Sl.nil _ _
  ·have e : FFld.rstF D ql inv pl = pl := by unfold FFld.rstF; rw [if_pos (by rw [HNP.out, HNQ.out]; exact hlt)]
   rw [e]
   exact HM3.out.sl
 ·obtain ⟨g, cap', ev, hgB, hgl, _, _, _, _, _⟩ := HM3.out.at (i := 0) (by rw [FFld.ints_len, HNP.out]; omega)
  rw [FFld.ints_len, HNP.out] at ev
  simp only [Value.slice.injEq, true_and] at ev
  obtain ⟨rfl, rfl⟩ := ev
  have HW3 := Kept.mk HM3.out.wv
  obtain ⟨n, hn⟩ : ∃ n, np + 1 - nq = n := ⟨_, rfl⟩
  have hnn : n + nq = np + 1 := by omega
  have hn1 : 1 <= n := by omega
  have hn6 : n <= 200000 := by omega
  have en : (np : Int) - nq + 1 = n := by omega
  have enq : IntKind.i64.wrap ((nq : Int) - 1) = (nq : Int) - 1 := wi (by omega) (by omega)
  have en0 : (1 : Int) <= nq := by omega
  have enb : (nq : Int) - 1 < nq := by omega
  obtain ⟨bq, oq, haq, hnq0, hbq, iq⟩ := (HQS.out.qc HX3.out.1 (g := g) (by omega)) (nq - 1) (by rw [HNQ.out]; omega)
  subst haq
  have htt : ql[nq - 1]?.getD 0 = top := by rw [<- HTOP.out, HNQ.out]
  rw [htt] at iq
  obtain ⟨i0, i1, i2, i3⟩ := four_cells HX3.out.b0
  have i4 := iq
  have hhg : w.heap.size < g := by omega
  clear hn hnq0 HM3 htt hgl
  go_wp2
  go_region_held3 (fun w' => w'.cell? ⟨w.heap.size, 0, none⟩ = some (.int .i64 D.q) /\ w'.cell? ⟨w.heap.size, 1, none⟩ = some (.int .i64 D.p) /\ w'.cell? ⟨w.heap.size, 2, none⟩ = some (.int .i64 D.k) /\ w'.cell? ⟨w.heap.size, 3, none⟩ = some (.int .i64 D.m) /\ w'.cell? ⟨bq, oq + (nq - 1), none⟩ = some (.int .i64 top))
   (first | exact ⟨j0, j1, j2, j3, j4⟩ | exact ⟨i0, i1, i2, i3, i4⟩ | go_keep)
   ((first
     | (go_at_call 119; (with_reducible refine (HI.out _).mono ?_); rintro e v1 ⟨hb1, rfl⟩; have hy1 := Kept.mk (bstep (show Below w3.heap.size w3 _ from (by first | exact Below.refl _ _ | exact (Below.refl _ _).drew)) hb1); have j0 := belowCell hy1.out i0; have j1 := belowCell hy1.out i1; have j2 := belowCell hy1.out i2; have j3 := belowCell hy1.out i3; have j4 := belowCell hy1.out i4; clear hb1)))
  have HX5 := Kept.mk (HX3.out.below hy1.out)
  have HW5 := Kept.mk (HW3.out.below hy1.out)
  have hgl5 := HW5.out.lt
  clear HX3 HW3 i0 i1 i2 i3 i4 iq
  go_wp2_with (at_make; refine wpList_make_zeros _ rfl _ _ 22 rfl 3 .i64 Tryz.underlying22 info_i64 _ _ n rfl rfl (by omega) (by omega) (by omega) ?_)
  intro w6 hrow hbel
  rw [FFld.ints_rep] at hrow
  have HX6 := Kept.mk (HX5.out.below (by simpa using hbel))
  have HW6 := Kept.mk (HW5.out.below (by simpa using hbel))
  have HO6 : Kept (Wv w6 v1.heap.size (FFld.outF D ql inv n pl 0)) := ⟨by rw [FFld.outF_zero]; exact hrow.wv⟩
  obtain ⟨g2, hg2⟩ : ∃ g2, v1.heap.size = g2 := ⟨_, rfl⟩
  rw [hg2] at HO6 hgl5
  have hgg : g2 ≠ g := by omega
  have hhg2 : w.heap.size < g2 := by omega
  clear hrow hbel HX5 HW5
  go_wp2
  try rw [hg2]
  clear hg2 hgl5 HB3
  go_loopw [8] (fun rv wr => ∃ (t l : Nat), t <= n /\ l + t <= np /\ rv = .slice (some ⟨g, 0, none⟩) l c3 /\ (t = 0 -> l = np) /\ Kept (∀ j, l <= j -> (FFld.divF D ql inv n pl t)[j]?.getD 0 = 0) /\ Kept (t = 0 \/ l = 0 \/ (FFld.divF D ql inv n pl t)[l - 1]?.getD 0 ≠ 0) /\ Kept (Wv wr g (FFld.divF D ql inv n pl t)) /\ Kept (Wv wr g2 (FFld.outF D ql inv n pl t)) /\ Kept (Bxs w [rbox D.q D.p D.k D.m] wr)) (fun rv _ => sliceLen rv)
  case atStart => exact ⟨0, np, Nat.zero_le _, by omega, rfl, fun _ => rfl, ⟨fun j hj => by show pl[j]?.getD 0 = 0; rw [List.getElem?_eq_none (by rw [HNP.out]; exact hj)]; rfl⟩, ⟨.inl rfl⟩, HW6, HO6, HX6⟩
  case round =>
   obtain ⟨t, l, htn, hlt2, rfl, ht0, hz, htz, hwv0, hov0, hbx0⟩ := hrel
   have hln : l <= np := by omega
   by_cases hle : nq <= l
   ·obtain ⟨a, ha⟩ : ∃ a, l - nq = a := ⟨_, rfl⟩
    have hal : a + nq = l := by omega
    obtain ⟨s, hs⟩ : ∃ s, n - 1 - a = s := ⟨_, rfl⟩
    have has : n - 1 - s = a := by omega
    have hts : t <= s := by omega
    have hsn : s < n := by omega
    have hsk := FFld.div_skip hD (ql := ql) (pl := pl) (inv := inv) (n := n) HQQ.out HPQ.out HIQ.out (by rw [HNP.out, HNQ.out]; exact hnn) (by rw [HNQ.out]; exact hq1) (t := t) (l := l) hz.out (s - t) (by omega) (fun u h1 h2 => by rw [HNQ.out]; omega)
    rw [show t + (s - t) = s by omega] at hsk
    obtain ⟨hX, hQ0⟩ := hsk
    obtain ⟨X, hXX⟩ : ∃ X, FFld.divF D ql inv n pl s = X := ⟨_, rfl⟩
    have HXL : Kept (X.length = np) := ⟨by rw [<- hXX, FFld.divF_len, HNP.out]⟩
    have HXQ : Kept (∀ a ∈ X, a < D.p ^ D.k) := ⟨by rw [<- hXX]; exact FFld.divF_lt hD.pre.pk _ _ _ _ HPQ.out⟩
    obtain ⟨tq, htq⟩ : ∃ x, FFld.divQ D ql inv n pl s = x := ⟨_, rfl⟩
    obtain ⟨xt, hxt⟩ : ∃ x, X[l - 1]?.getD 0 = x := ⟨_, rfl⟩
    have htq2 : FFld.pmul D.p D.k D.m xt D.k inv = tq := by
     rw [<- htq, <- hxt, <- hXX]
     unfold FFld.divQ
     rw [has, HNQ.out, show a + (nq - 1) = l - 1 by omega]
    have HON := Kept.mk (FFld.outF_next (D := D) (ql := ql) (inv := inv) (pl := pl) hts hsn has hQ0)
    rw [htq] at HON
    have HNX : Kept (FFld.divF D ql inv n pl (s + 1) = FFld.addmF D X a ql (FFld.negF D tq) nq) := ⟨by
     show FFld.addm D (FFld.divF D ql inv n pl s) (n - 1 - s) ql (FFld.negF D (FFld.divQ D ql inv n pl s)) = _
     rw [htq, hXX, has]
     unfold FFld.addm
     rw [HNQ.out]⟩
    have HTP : Kept (∀ j, l - 1 <= j -> (FFld.divF D ql inv n pl (s + 1))[j]?.getD 0 = 0) := ⟨by
     have := FFld.div_top hD (ql := ql) (pl := pl) (inv := inv) (n := n) HQQ.out HPQ.out (by rw [HNP.out, HNQ.out]; exact hnn) (by rw [HNQ.out]; exact hq1) (by rw [HTOP.out]; exact HQL.out) (by rw [HTOP.out]; exact HINV.out.symm) hsn (fun j hj => by
      rw [hX]
      rw [has, HNQ.out] at hj
      exact hz.out j (by omega))
     rw [has, HNQ.out, show a + (nq - 1) = l - 1 by omega] at this
     exact this⟩
    have hwv1 := hwv0
    rw [<- hX, hXX] at hwv1
    have hxq : xt < D.p ^ D.k := by rw [<- hxt]; exact FFld.getD_lt (Nat.pow_pos hD.pre.pk.p0) HXQ.out _
    have htqq : tq < D.p ^ D.k := by rw [<- htq2]; exact FFld.pmul_lt hD.pre.pk _ _ _
    have HTQ := Kept.mk htqq
    have c4 := hwv1.out.cell (i := l - 1) (by rw [HXL.out]; omega)
    rw [hxt] at c4
    have hM := Kept.mk (fun W => HM.out W xt inv hxq HIQ.out)
    rw [htq2] at hM
    obtain ⟨i0, i1, i2, i3⟩ := four_cells hbx0.out.b0
    have i4 := c4
    have el1 : IntKind.i64.wrap ((l : Int) - 1) = (l : Int) - 1 := wi (by omega) (by omega)
    have el0 : (1 : Int) <= l := by omega
    have elb : (l : Int) - 1 < l := by omega
    have eal : (l : Int) - nq = a := by omega
    have htq6 : tq <= 65536 := by have : D.p ^ D.k <= 65536 := hD.pre.small; omega
    clear hX hXX hQ0 htq hxt htq2 hxq htqq c4 hwv0 ha hs htz hz
    go_wp2
    go_region_held3 (fun w' => w'.cell? ⟨w.heap.size, 0, none⟩ = some (.int .i64 D.q) /\ w'.cell? ⟨w.heap.size, 1, none⟩ = some (.int .i64 D.p) /\ w'.cell? ⟨w.heap.size, 2, none⟩ = some (.int .i64 D.k) /\ w'.cell? ⟨w.heap.size, 3, none⟩ = some (.int .i64 D.m) /\ w'.cell? ⟨g, l - 1, none⟩ = some (.int .i64 xt))
     (first | exact ⟨j0, j1, j2, j3, j4⟩ | exact ⟨i0, i1, i2, i3, i4⟩ | go_keep)
     ((first
       | (go_at_call 103; (with_reducible refine (hM.out _).mono ?_); rintro e vb1 ⟨hbb1, rfl⟩; have hyb1 := Kept.mk (bstep (show Below wr.heap.size wr _ from (by first | exact Below.refl _ _ | exact (Below.refl _ _).drew)) hbb1); have j0 := belowCell hyb1.out i0; have j1 := belowCell hyb1.out i1; have j2 := belowCell hyb1.out i2; have j3 := belowCell hyb1.out i3; have j4 := belowCell hyb1.out i4; clear hbb1)))
    have HX7 := Kept.mk (hbx0.out.below hyb1.out)
    have HW7 := Kept.mk (hwv1.out.below hyb1.out)
    have HO7 := Kept.mk (hov0.out.below hyb1.out)
    have f0 := HO7.out.free a
    have f1 := HO7.out.cell (i := a) (by rw [FFld.outF_len]; omega)
    have hgs := grow_set vb1 g2 a (.int .i64 tq)
    have HX8 := Kept.mk (HX7.out.grown hgs (fun k hk => by cases hk; simp; omega))
    have HW8 := Kept.mk (HW7.out.other hgs (fun h => hgg h.symm))
    have HO8 : Kept (Wv (vb1.setCell ⟨g2, a, none⟩ (.int .i64 tq)) g2 (FFld.outF D ql inv n pl (s + 1))) := ⟨by have := HO7.out.set (i := a) tq; rw [HON.out] at this; exact this⟩
    have han : a < n := by omega
    clear hgs HX7 HW7 HO7 i0 i1 i2 i3 i4 hbx0 hwv1 hov0 hM
    go_wp2
    go_loopw [13] (fun jv wr => ∃ j : Nat, j <= nq /\ jv = .int .i64 j /\ Kept (Wv wr g (FFld.addmF D X a ql (FFld.negF D tq) j)) /\ Kept (Wv wr g2 (FFld.outF D ql inv n pl (s + 1))) /\ Kept (Bxs w [rbox D.q D.p D.k D.m] wr)) (fun jv _ => nq - (intOf jv).toNat)
    case atStart => exact ⟨0, Nat.zero_le _, rfl, HW8, HO8, HX8⟩
    case round =>
     clear HX8 HW8 HO8
     obtain ⟨j, hj, rfl, hwv, hov, hbx⟩ := hrel
     by_cases hlt3 : j < nq
     ·obtain ⟨bq2, oq2, haq, hnq, hbq2, iq⟩ := (HQS.out.qc hbx.out.1 (Nat.le_of_lt hhg)) j (by rw [HNQ.out]; exact hlt3)
      simp only [Option.some.injEq, Addr.mk.injEq, and_true] at haq
      obtain ⟨rfl, rfl⟩ := haq
      ·obtain ⟨y, hy⟩ : ∃ y, ql[j]?.getD 0 = y := ⟨_, rfl⟩
       rw [hy] at iq
       obtain ⟨i0, i1, i2, i3⟩ := four_cells hbx.out.b0
       have hyq : y < D.p ^ D.k := by rw [<- hy]; exact FFld.getD_lt (Nat.pow_pos hD.pre.pk.p0) HQQ.out j
       have hlen2 : (FFld.addmF D X a ql (FFld.negF D tq) j).length = np := by rw [FFld.addmF_len]; exact HXL.out
       have hij : a + j < l := by omega
       have hijn : a + j < np := by omega
       have t1 := hwv.out.cell (i := a + j) (by omega)
       obtain ⟨u, hu⟩ : ∃ u, (FFld.addmF D X a ql (FFld.negF D tq) j)[a + j]?.getD 0 = u := ⟨_, rfl⟩
       have huq : u < D.p ^ D.k := by rw [<- hu]; exact FFld.getD_lt (Nat.pow_pos hD.pre.pk.p0) (FFld.addmF_lt hD.pre.pk a ql _ j HXQ.out) _
       rw [hu] at t1
       obtain ⟨z, hz⟩ : ∃ z, FFld.pmul D.p D.k D.m tq D.k y = z := ⟨_, rfl⟩
       have hzq : z < D.p ^ D.k := by rw [<- hz]; exact FFld.pmul_lt hD.pre.pk _ _ _
       obtain ⟨v, hv⟩ : ∃ v, FFld.padd D.p D.k u (FFld.pscl D.p D.k (D.p - 1) z) = v := ⟨_, rfl⟩
       have HV : Kept ((FFld.addmF D X a ql (FFld.negF D tq) j).set (a + j) v = FFld.addmF D X a ql (FFld.negF D tq) (j + 1)) := ⟨by simp only [FFld.addmF]; rw [hu, hy, <- FFld.take_off hD.pre.pk HTQ.out hyq, hz, hv]⟩
       have hM := Kept.mk (fun W => HM.out W tq y HTQ.out hyq)
       rw [hz] at hM
       have hA := Kept.mk (fun W => HA.out W u z huq hzq)
       rw [hv] at hA
       have hi0 : (a : Int) + j = ((a + j : Nat) : Int) := by omega
       have ewi : IntKind.i64.wrap ((a : Int) + j) = (a : Int) + j := wi (by omega) (by omega)
       have hij1 : (a : Int) + j < (l : Int) := by omega
       have hij2 : (0 : Int) <= (a : Int) + j := by omega
       have hij3 : ((a : Int) + j).toNat = a + j := by omega
       have hhg3 := hhg
       clear hu hy hz hv huq hzq hyq hlen2 hi0 el1 el0 elb eal
       go_wp2
       refine wp_region_held_drew (S := fun w' => w'.cell? ⟨w.heap.size, 0, none⟩ = some (.int .i64 D.q) /\ w'.cell? ⟨w.heap.size, 1, none⟩ = some (.int .i64 D.p) /\ w'.cell? ⟨w.heap.size, 2, none⟩ = some (.int .i64 D.k) /\ w'.cell? ⟨w.heap.size, 3, none⟩ = some (.int .i64 D.m) /\ w'.cell? ⟨bq, oq + j, none⟩ = some (.int .i64 y)) (by kernel_rfl) ⟨i0, i1, i2, i3, iq⟩ (fun hHeld => ?_)
       refine wpAnyH_take (i := 0) (v := ?_) rfl (by kernel_rfl) (by kernel_rfl) (by kernel_rfl) (fun _ _ _ h => h) (Or.inl ⟨by rfl, ?_⟩) (by assumption) ?_
       rotate_left
       ·(intro w hSw; (try dsimp only at hSw); go_simp; (try with_reducible rfl))
       try simp only [Act.put, List.getElem_toArray, List.getElem_cons_succ, List.getElem_cons_zero, List.setIfInBounds_toArray, List.set_cons_zero, List.set_cons_succ]
       refine wpAnyH_take (i := 1) (v := ?_) rfl (by kernel_rfl) (by kernel_rfl) (by kernel_rfl) (fun _ _ _ h => h) (Or.inl ⟨by rfl, ?_⟩) (by assumption) ?_
       rotate_left
       ·(intro w hSw; (try dsimp only at hSw); go_simp; (try with_reducible rfl))
       try simp only [Act.put, List.getElem_toArray, List.getElem_cons_succ, List.getElem_cons_zero, List.setIfInBounds_toArray, List.set_cons_zero, List.set_cons_succ]
       refine wpAnyH_take (i := 2) (v := ?_) rfl (by kernel_rfl) (by kernel_rfl) (by kernel_rfl) (fun _ _ _ h => h) (Or.inl ⟨by rfl, ?_⟩) (by assumption) ?_
       rotate_left
       ·(intro w hSw; (try dsimp only at hSw); go_simp; (try with_reducible rfl))
       try simp only [Act.put, List.getElem_toArray, List.getElem_cons_succ, List.getElem_cons_zero, List.setIfInBounds_toArray, List.set_cons_zero, List.set_cons_succ]
       refine wpAnyH_take (i := 3) (v := ?_) rfl (by kernel_rfl) (by kernel_rfl) (by kernel_rfl) (fun _ _ _ h => h) (Or.inl ⟨by rfl, ?_⟩) (by assumption) ?_
       rotate_left
       ·(intro w hSw; (try dsimp only at hSw); go_simp; (try with_reducible rfl))
       try simp only [Act.put, List.getElem_toArray, List.getElem_cons_succ, List.getElem_cons_zero, List.setIfInBounds_toArray, List.set_cons_zero, List.set_cons_succ]
       refine wpAnyH_take (i := 4) (v := ?_) rfl (by kernel_rfl) (by kernel_rfl) (by kernel_rfl) (fun _ _ _ h => h) (Or.inl ⟨by rfl, ?_⟩) (by assumption) ?_
       rotate_left
       ·(intro w hSw; (try dsimp only at hSw); go_simp; (try with_reducible rfl))
       try simp only [Act.put, List.getElem_toArray, List.getElem_cons_succ, List.getElem_cons_zero, List.setIfInBounds_toArray, List.set_cons_zero, List.set_cons_succ]
       refine wpAnyH_take (i := 5) (v := ?_) rfl (by kernel_rfl) (by kernel_rfl) (by kernel_rfl) (fun _ _ _ h => h) (Or.inl ⟨by rfl, ?_⟩) (by assumption) ?_
       rotate_left
       ·(intro w hSw; (try dsimp only at hSw); go_simp; (try with_reducible rfl))
       try simp only [Act.put, List.getElem_toArray, List.getElem_cons_succ, List.getElem_cons_zero, List.setIfInBounds_toArray, List.set_cons_zero, List.set_cons_succ]
       refine wpAnyH_take (i := 6) (v := ?_) rfl (by kernel_rfl) (by kernel_rfl) (by kernel_rfl) (fun _ _ _ h => h) (Or.inl ⟨by rfl, ?_⟩) (by assumption) ?_
       rotate_left
       ·(intro w hSw; (try dsimp only at hSw); go_simp; (try with_reducible rfl))
       try simp only [Act.put, List.getElem_toArray, List.getElem_cons_succ, List.getElem_cons_zero, List.setIfInBounds_toArray, List.set_cons_zero, List.set_cons_succ]
       refine wpAnyH_take (i := 7) (v := ?_) rfl (by kernel_rfl) (by kernel_rfl) (by kernel_rfl) (fun _ _ _ h => h) (Or.inl ⟨by rfl, ?_⟩) (by assumption) ?_
       rotate_left
       ·(intro w hSw; (try dsimp only at hSw); go_simp; (try with_reducible rfl))
       try simp only [Act.put, List.getElem_toArray, List.getElem_cons_succ, List.getElem_cons_zero, List.setIfInBounds_toArray, List.set_cons_zero, List.set_cons_succ]
       refine wpAnyH_take (i := 8) (v := ?_) rfl (by kernel_rfl) (by kernel_rfl) (by kernel_rfl) (fun _ _ _ h => h) (Or.inl ⟨by rfl, ?_⟩) (by assumption) ?_
       rotate_left
       ·(intro w hSw; (try dsimp only at hSw); go_simp; (try with_reducible rfl))
       try simp only [Act.put, List.getElem_toArray, List.getElem_cons_succ, List.getElem_cons_zero, List.setIfInBounds_toArray, List.set_cons_zero, List.set_cons_succ]
       refine wpAnyH_take (i := 9) (v := ?_) rfl (by kernel_rfl) (by kernel_rfl) (by kernel_rfl) (fun _ _ _ h => h) (Or.inl ⟨by rfl, ?_⟩) (by assumption) ?_
       rotate_left
       ·(intro w hSw; (try dsimp only at hSw); go_simp; (try with_reducible rfl))
       try simp only [Act.put, List.getElem_toArray, List.getElem_cons_succ, List.getElem_cons_zero, List.setIfInBounds_toArray, List.set_cons_zero, List.set_cons_succ]
       refine wpAnyH_take (i := 11) (v := ?_) rfl (by kernel_rfl) (by kernel_rfl) (by kernel_rfl) (fun _ _ _ h => h) (Or.inl ⟨by rfl, ?_⟩) (by assumption) ?_
       rotate_left
       ·(intro w hSw; (try dsimp only at hSw); go_simp; (try with_reducible rfl))
       try simp only [Act.put, List.getElem_toArray, List.getElem_cons_succ, List.getElem_cons_zero, List.setIfInBounds_toArray, List.set_cons_zero, List.set_cons_succ]
       refine wpAnyH_take (i := 12) (v := ?_) rfl (by kernel_rfl) (by kernel_rfl) (by kernel_rfl) (fun _ _ _ h => h) (Or.inl ⟨by rfl, ?_⟩) (by assumption) ?_
       rotate_left
       ·(intro w hSw; (try dsimp only at hSw); go_simp; (try with_reducible rfl))
       try simp only [Act.put, List.getElem_toArray, List.getElem_cons_succ, List.getElem_cons_zero, List.setIfInBounds_toArray, List.set_cons_zero, List.set_cons_succ]
       refine wpAnyH_take (i := 13) (v := ?_) rfl (by kernel_rfl) (by kernel_rfl) (by kernel_rfl) (fun _ _ _ h => h) (Or.inl ⟨by rfl, ?_⟩) (by assumption) ?_
       rotate_left
       ·(intro w hSw; (try dsimp only at hSw); go_simp; (try with_reducible rfl))
       try simp only [Act.put, List.getElem_toArray, List.getElem_cons_succ, List.getElem_cons_zero, List.setIfInBounds_toArray, List.set_cons_zero, List.set_cons_succ]
       refine wpAnyH_take (i := 14) (v := ?_) rfl (by kernel_rfl) (by kernel_rfl) (by kernel_rfl) (fun _ _ _ h => h) (Or.inl ⟨by rfl, ?_⟩) (by assumption) ?_
       rotate_left
       ·(intro w hSw; (try dsimp only at hSw); go_simp; (try with_reducible rfl))
       try simp only [Act.put, List.getElem_toArray, List.getElem_cons_succ, List.getElem_cons_zero, List.setIfInBounds_toArray, List.set_cons_zero, List.set_cons_succ]
       refine wpAnyH_take (i := 15) (v := ?_) rfl (by kernel_rfl) (by kernel_rfl) (by kernel_rfl) (fun _ _ _ h => h) (Or.inl ⟨by rfl, ?_⟩) (by assumption) ?_
       rotate_left
       ·(intro w hSw; (try dsimp only at hSw); go_simp; (try with_reducible rfl))
       try simp only [Act.put, List.getElem_toArray, List.getElem_cons_succ, List.getElem_cons_zero, List.setIfInBounds_toArray, List.set_cons_zero, List.set_cons_succ]
       refine wpAnyH_take (i := 16) (v := ?_) rfl (by kernel_rfl) (by kernel_rfl) (by kernel_rfl) (fun _ _ _ h => h) (Or.inl ⟨by rfl, ?_⟩) (by assumption) ?_
       rotate_left
       ·(intro w hSw; (try dsimp only at hSw); go_simp; (try with_reducible rfl))
       try simp only [Act.put, List.getElem_toArray, List.getElem_cons_succ, List.getElem_cons_zero, List.setIfInBounds_toArray, List.set_cons_zero, List.set_cons_succ]
       refine wpAnyH_ready (rs := [10, 17]) (by kernel_rfl) (by simp) ?_
       refine AllReadyH.cons rfl (fun K hK => ?_) (AllReadyH.cons rfl (fun K hK => ?_) AllReadyH.nil)
       ·go_simp
        refine hK.out _ _ ⟨i0, i1, i2, i3, iq⟩ (fun hHeld => ?_)
        clear hK K
        try simp only [Act.put, List.getElem_toArray, List.getElem_cons_succ, List.getElem_cons_zero, List.setIfInBounds_toArray, List.set_cons_zero, List.set_cons_succ]
        refine wpAnyH_ready (rs := [17]) (by kernel_rfl) (by simp) ?_
        refine (AllReadyH.cons rfl (fun K hK => ?_) AllReadyH.nil)
        go_simp
        refine (hM.out _).mono ?_
        rintro e w2 ⟨hb2, rfl⟩
        have HR2 : Kept (Below wr.heap.size wr w2) := ⟨(Below.refl _ _).drew.trans hb2⟩
        have j0 := belowCell HR2.out i0
        have j1 := belowCell HR2.out i1
        have j2 := belowCell HR2.out i2
        have j3 := belowCell HR2.out i3
        have jq := belowCell HR2.out iq
        have t2 := belowCell HR2.out t1
        clear hb2
        refine hK.out _ _ ⟨j0, j1, j2, j3, jq⟩ (fun hHeld => ?_)
        clear hK K
        try simp only [Act.put, List.getElem_toArray, List.getElem_cons_succ, List.getElem_cons_zero, List.setIfInBounds_toArray, List.set_cons_zero, List.set_cons_succ]
        refine wpAnyH_ready (rs := [18]) (by kernel_rfl) (by simp) ?_
        refine (AllReadyH.cons rfl (fun K hK => ?_) AllReadyH.nil)
        go_simp
        refine (hA.out _).mono ?_
        rintro e w3 ⟨hb3, rfl⟩
        have HR3 := Kept.mk (bstep HR2.out hb3)
        have k0 := belowCell hb3 j0
        have k1 := belowCell hb3 j1
        have k2 := belowCell hb3 j2
        have k3 := belowCell hb3 j3
        have kq := belowCell hb3 jq
        have t3 := belowCell hb3 t2
        have HW3 := Kept.mk (hwv.out.below HR3.out)
        have HO3 := Kept.mk (hov.out.below HR3.out)
        have z3 := HW3.out.free (a + j)
        have HX3 := Kept.mk (hbx.out.below HR3.out)
        have hgs : w3.grownBy (w3.setCell ⟨g, a + j, none⟩ (.int .i64 v)) (some g) := growSet (growRefl _ _) _ _
        have m0 := hgs.cell k0 (by simp; omega)
        have m1 := hgs.cell k1 (by simp; omega)
        have m2 := hgs.cell k2 (by simp; omega)
        have m3 := hgs.cell k3 (by simp; omega)
        have mq := hgs.cell kq (by simpa using hnq)
        have HX4 := Kept.mk (HX3.out.grown hgs (fun k hk => by cases hk; simp; omega))
        have HO4 := Kept.mk (HO3.out.other hgs hgg)
        clear hb3
        refine hK.out _ _ ⟨k0, k1, k2, k3, kq⟩ (fun hHeld => ?_)
        clear hK K
        try simp only [Act.put, List.getElem_toArray, List.getElem_cons_succ, List.getElem_cons_zero, List.setIfInBounds_toArray, List.set_cons_zero, List.set_cons_succ]
        refine wpAnyH_take (i := 19) (v := ?_) rfl (by kernel_rfl) (by kernel_rfl) (by kernel_rfl) (fun _ _ _ h => h) (Or.inl ⟨by rfl, ?_⟩) (by assumption) ?_
        rotate_left
        ·(intro w hSw; (try dsimp only at hSw); go_simp; (try with_reducible rfl))
        try simp only [Act.put, List.getElem_toArray, List.getElem_cons_succ, List.getElem_cons_zero, List.setIfInBounds_toArray, List.set_cons_zero, List.set_cons_succ]
        refine wpAnyH_ready (rs := [20]) (by kernel_rfl) (by simp) ?_
        refine (AllReadyH.cons rfl (fun K hK => ?_) AllReadyH.nil)
        go_simp
        refine hK.out _ _ ⟨m0, m1, m2, m3, mq⟩ (fun hHeld => ?_)
        clear hK K
        try simp only [Act.put, List.getElem_toArray, List.getElem_cons_succ, List.getElem_cons_zero, List.setIfInBounds_toArray, List.set_cons_zero, List.set_cons_succ]
        refine wpAnyH_done (by kernel_rfl) ?_ _
        go_wp2
        go_roundw
        case rel => exact ⟨j + 1, by omega, by go_num, ⟨by have := HW3.out.set (i := a + j) v; rw [HV.out] at this; exact this⟩, HO4, HX4⟩
        case measure => simp [intOf] <;> omega
       ·go_simp
        refine (hM.out _).mono ?_
        rintro e w2 ⟨hb2, rfl⟩
        have HR2 : Kept (Below wr.heap.size wr w2) := ⟨(Below.refl _ _).drew.trans hb2⟩
        have j0 := belowCell HR2.out i0
        have j1 := belowCell HR2.out i1
        have j2 := belowCell HR2.out i2
        have j3 := belowCell HR2.out i3
        have jq := belowCell HR2.out iq
        have t2 := belowCell HR2.out t1
        clear hb2
        refine hK.out _ _ ⟨j0, j1, j2, j3, jq⟩ (fun hHeld => ?_)
        clear hK K
        try simp only [Act.put, List.getElem_toArray, List.getElem_cons_succ, List.getElem_cons_zero, List.setIfInBounds_toArray, List.set_cons_zero, List.set_cons_succ]
        refine wpAnyH_ready (rs := [10]) (by kernel_rfl) (by simp) ?_
        refine (AllReadyH.cons rfl (fun K hK => ?_) AllReadyH.nil)
        go_simp
        refine hK.out _ _ ⟨j0, j1, j2, j3, jq⟩ (fun hHeld => ?_)
        clear hK K
        try simp only [Act.put, List.getElem_toArray, List.getElem_cons_succ, List.getElem_cons_zero, List.setIfInBounds_toArray, List.set_cons_zero, List.set_cons_succ]
        refine wpAnyH_ready (rs := [18]) (by kernel_rfl) (by simp) ?_
        refine (AllReadyH.cons rfl (fun K hK => ?_) AllReadyH.nil)
        go_simp
        refine (hA.out _).mono ?_
        rintro e w3 ⟨hb3, rfl⟩
        have HR3 := Kept.mk (bstep HR2.out hb3)
        have k0 := belowCell hb3 j0
        have k1 := belowCell hb3 j1
        have k2 := belowCell hb3 j2
        have k3 := belowCell hb3 j3
        have kq := belowCell hb3 jq
        have t3 := belowCell hb3 t2
        have HW3 := Kept.mk (hwv.out.below HR3.out)
        have HO3 := Kept.mk (hov.out.below HR3.out)
        have z3 := HW3.out.free (a + j)
        have HX3 := Kept.mk (hbx.out.below HR3.out)
        have hgs : w3.grownBy (w3.setCell ⟨g, a + j, none⟩ (.int .i64 v)) (some g) := growSet (growRefl _ _) _ _
        have m0 := hgs.cell k0 (by simp; omega)
        have m1 := hgs.cell k1 (by simp; omega)
        have m2 := hgs.cell k2 (by simp; omega)
        have m3 := hgs.cell k3 (by simp; omega)
        have mq := hgs.cell kq (by simpa using hnq)
        have HX4 := Kept.mk (HX3.out.grown hgs (fun k hk => by cases hk; simp; omega))
        have HO4 := Kept.mk (HO3.out.other hgs hgg)
        clear hb3
        refine hK.out _ _ ⟨k0, k1, k2, k3, kq⟩ (fun hHeld => ?_)
        clear hK K
        try simp only [Act.put, List.getElem_toArray, List.getElem_cons_succ, List.getElem_cons_zero, List.setIfInBounds_toArray, List.set_cons_zero, List.set_cons_succ]
        refine wpAnyH_take (i := 19) (v := ?_) rfl (by kernel_rfl) (by kernel_rfl) (by kernel_rfl) (fun _ _ _ h => h) (Or.inl ⟨by rfl, ?_⟩) (by assumption) ?_
        rotate_left
        ·(intro w hSw; (try dsimp only at hSw); go_simp; (try with_reducible rfl))
        try simp only [Act.put, List.getElem_toArray, List.getElem_cons_succ, List.getElem_cons_zero, List.setIfInBounds_toArray, List.set_cons_zero, List.set_cons_succ]
        refine wpAnyH_ready (rs := [20]) (by kernel_rfl) (by simp) ?_
        refine (AllReadyH.cons rfl (fun K hK => ?_) AllReadyH.nil)
        go_simp
        refine hK.out _ _ ⟨m0, m1, m2, m3, mq⟩ (fun hHeld => ?_)
        clear hK K
        try simp only [Act.put, List.getElem_toArray, List.getElem_cons_succ, List.getElem_cons_zero, List.setIfInBounds_toArray, List.set_cons_zero, List.set_cons_succ]
        refine wpAnyH_done (by kernel_rfl) ?_ _
        go_wp2
        go_roundw
        case rel => exact ⟨j + 1, by omega, by go_num, ⟨by have := HW3.out.set (i := a + j) v; rw [HV.out] at this; exact this⟩, HO4, HX4⟩
        case measure => simp [intOf] <;> omega
     ·obtain rfl : j = nq := by omega
      clear hlt3 hj
      obtain ⟨Y, hY⟩ : ∃ Y, FFld.divF D ql inv n pl (s + 1) = Y := ⟨_, rfl⟩
      rw [<- HNX.out, hY] at hwv
      rw [hY] at HTP
      have HYL : Y.length = np := by rw [<- hY, FFld.divF_len, HNP.out]
      have hpre := FFld.trm_pre (X := Y) (l := l) (by omega) (by omega) HTP.out
      have hst := ((hwv.out.take l).sl (n := l) (c := c3) (by rw [List.length_take, HYL]; omega) (by omega) (by omega))
      have hll : (Y.take l).length = l := by rw [List.length_take, HYL]; omega
      have HTR := Kept.mk (fun W (hW : Sl .i64 W (.slice (some ⟨g, 0, none⟩) l c3) (ints (Y.take l))) => rtrim_any (Y.take l) (some ⟨g, 0, none⟩) c3 W (by rw [hll]; exact hW) (by rw [hll]; omega))
      rw [hll] at HTR
      have HST := Kept.mk hst
      obtain ⟨l', hl'⟩ : ∃ x, (FFld.trm (Y.take l)).length = x := ⟨_, rfl⟩
      rw [hl'] at hpre HTR
      obtain ⟨p1, p2, p3⟩ := hpre
      rw [<- hY] at p2 p3
      have HP2 := Kept.mk p2
      have HP3 := Kept.mk p3
      rw [<- hY] at hwv
      clear hY HYL hst hll hl' p2 p3 HTP
      go_wp2_with fail
      refine (HTR.out _ HST.out).mono ?_
      rintro e w9 ⟨rfl, rfl⟩
      go_wp2
      go_roundw
      case rel => exact ⟨s + 1, l', by omega, by omega, rfl, fun h => by omega, HP2, ⟨.inr HP3.out⟩, hwv, hov, hbx⟩
      case measure => simp [sliceLen] <;> omega
   ·have ht1 : t ≠ 0 := fun h => by have := ht0 h; omega
    have hsk := FFld.div_skip hD (ql := ql) (pl := pl) (inv := inv) (n := n) HQQ.out HPQ.out HIQ.out (by rw [HNP.out, HNQ.out]; exact hnn) (by rw [HNQ.out]; exact hq1) (t := t) (l := l) hz.out (n - t) (by omega) (fun u h1 h2 => by rw [HNQ.out]; omega)
    rw [show t + (n - t) = n by omega] at hsk
    obtain ⟨hX, hQ0⟩ := hsk
    have hO := FFld.outF_done (D := D) (ql := ql) (inv := inv) (n := n) (pl := pl) (t := t) (by rw [HNP.out, HNQ.out]; exact hnn) (by rw [HNQ.out]; exact hq1) hn1 hQ0
    have hR := FFld.rstF_done (D := D) (ql := ql) (inv := inv) (n := n) (pl := pl) (l := l) (by rw [HNP.out, HNQ.out]; exact hnn) (by rw [HNQ.out]; exact hq1) hn1 (by rw [HNP.out]; exact hln) (by rw [hX]; exact hz.out) (by
     rw [hX]
     rcases htz.out with h | h
     ·exact absurd h ht1
     ·exact h)
    rw [hX] at hR
    have HSR : Kept (Sl .i64 wr (.slice (some ⟨g, 0, none⟩) l c3) (ints (FFld.rstF D ql inv pl))) := ⟨by
     rw [<- hR]
     exact (hwv0.out.take l).sl (n := l) (c := c3) (by rw [List.length_take, FFld.divF_len, HNP.out]; omega) (by omega) (by omega)⟩
    have HSO : Kept (Sl .i64 wr (.slice (some ⟨g2, 0, none⟩) n n) (ints (FFld.quoF D ql inv pl))) := ⟨by
     rw [<- hO]
     exact hov0.out.sl (n := n) (c := n) (FFld.outF_len _ _ _ _ _ _).symm (Nat.le_refl _) (by unfold maxLen; omega)⟩
    clear hX hQ0 hO hR hz htz hwv0 hov0
    go_wp2
    go_ret2
    exact ⟨hbx0.out.1, _, _, rfl, HSO.out, HSR.out⟩
end Go.Proofs.YtdnheaafcbihbaaGreat
namespace Go.Proofs.YtdnheaafcbihbaaGreat
namespace FFld
def invT (D : FD) (h : PK D.p D.k D.m) (l : List Nat) : Nat := ppow h (l[l.length - 1]?.getD 0) (D.q - 2)
theorem div_zeros {D : FD} (hD : D.Ok) {ql pl : List Nat} {n : Nat} (hq : ∀ a ∈ ql, a < D.p ^ D.k) (hp : ∀ a ∈ pl, a < D.p ^ D.k) (hn : n + ql.length = pl.length + 1) (h1 : 1 <= ql.length) (h0 : ql[ql.length - 1]?.getD 0 ≠ 0) :
 ∀ t, t <= n -> ∀ j, n - t + (ql.length - 1) <= j -> (divF D ql (invT D hD.pre.pk ql) n pl t)[j]?.getD 0 = 0
 | 0, _, j, hj => by
   show pl[j]?.getD 0 = 0
   rw [List.getElem?_eq_none (by omega)]
   rfl
 | t + 1, ht, j, hj => div_top hD hq hp hn h1 h0 rfl (t := t) (by omega) (fun j' hj' => div_zeros hD hq hp hn h1 h0 t (by omega) j' (by omega)) j (by omega)
theorem rst_short {D : FD} (hD : D.Ok) {ql pl : List Nat} (hq : ∀ a ∈ ql, a < D.p ^ D.k) (hp : ∀ a ∈ pl, a < D.p ^ D.k) (h1 : 1 <= ql.length) (h0 : ql[ql.length - 1]?.getD 0 ≠ 0) : (rstF D ql (invT D hD.pre.pk ql) pl).length + 1 <= ql.length := by
 unfold rstF
 split
 ·omega
 ·rename_i hlt
  have hz := div_zeros hD hq hp (n := pl.length + 1 - ql.length) (by omega) h1 h0 (pl.length + 1 - ql.length) (Nat.le_refl _)
  rw [trm_len, divF_len]
  generalize divF D ql (invT D hD.pre.pk ql) (pl.length + 1 - ql.length) pl (pl.length + 1 - ql.length) = X at *
  apply Classical.byContradiction
  intro hc
  rcases trmN_top X pl.length with h | h
  ·omega
  ·exact h (hz _ (by omega))
def cmnS (D : FD) (h : PK D.p D.k D.m) (pl ql : List Nat) : Nat -> List Nat × List Nat
 | 0 => (pl, ql)
 | i + 1 => ((cmnS D h pl ql i).2, rstF D (cmnS D h pl ql i).2 (invT D h (cmnS D h pl ql i).2) (cmnS D h pl ql i).1)
structure CmOk (D : FD) (N : Nat) (s : List Nat × List Nat) : Prop where
 p1 : ∀ a ∈ s.1, a < D.p ^ D.k
 p2 : ∀ a ∈ s.2, a < D.p ^ D.k
 t1 : Tz s.1
 t2 : Tz s.2
 l1 : s.1.length <= N
 l2 : s.2.length <= N
theorem Tz.top {l : List Nat} (h : Tz l) (h0 : l.length ≠ 0) : l[l.length - 1]?.getD 0 ≠ 0 := h.resolve_left h0
def monF (D : FD) (h : PK D.p D.k D.m) (l : List Nat) : List Nat := if l.length = 0 then [] else rowMul D l (invT D h l)
def CmnIs (D : FD) (h : PK D.p D.k D.m) (pl ql out : List Nat) : Prop := ∃ i, (∀ j, j < i -> (cmnS D h pl ql j).2.length ≠ 0) /\ (cmnS D h pl ql i).2.length = 0 /\ out = monF D h (cmnS D h pl ql i).1
end FFld
end Go.Proofs.YtdnheaafcbihbaaGreat
