/-
  Texts of the proof, merged by program: Gdv Cam Cmn Pfn Cva Cpr Gao.
-/
import Derived.Test.YtdnheaafcbihbaaGreatWq18
import Derived.Laws.CopyOwn
set_option linter.unusedSectionVars false
set_option linter.unusedSimpArgs false
set_option linter.unusedVariables false
set_option maxHeartbeats 16000000
namespace Go.Proofs.YtdnheaafcbihbaaGreat
namespace FFld
theorem Dom.tidy {α : Type} (F : Dom α) (a x y : α) : F.add (F.add a (F.neg x)) (F.add y x) = F.add a y := by
 rw [F.add_assoc, F.add_comm y x, <- F.add_assoc (F.neg x) x y, F.add_comm (F.neg x) x, F.add_neg, F.zero_add]
section
variable {D : FD} (hD : D.Ok)
def qS (ql : List Nat) (inv n : Nat) (pl : List Nat) (t : Nat) : Nat -> El (D.p ^ D.k) := fun i => if n - t <= i /\ i < n then toE hD.pre.pk (divQ D ql inv n pl (n - 1 - i)) else (FD.dom hD.nzd).zero
theorem divQ_lt (hk : PK D.p D.k D.m) (ql : List Nat) (inv n : Nat) (pl : List Nat) (t : Nat) : divQ D ql inv n pl t < D.p ^ D.k := pmul_lt hk _ _ _
theorem divF_ser {ql pl : List Nat} {inv n : Nat} (hq : ∀ a ∈ ql, a < D.p ^ D.k) (hp : ∀ a ∈ pl, a < D.p ^ D.k) (hn : n + ql.length = pl.length + 1) (h1 : 1 <= ql.length) : ∀ t, t <= n -> serL hD pl = (FD.dom hD.nzd).ser.add (serL hD (divF D ql inv n pl t)) ((FD.dom hD.nzd).ser.mul (qS hD ql inv n pl t) (serL hD ql))
 | 0, _ => by
   have e : qS hD ql inv n pl 0 = (FD.dom hD.nzd).ser.zero := funext fun i => if_neg (by omega)
   rw [e, (FD.dom hD.nzd).ser.zero_mul, (FD.dom hD.nzd).ser.add_zero]
   rfl
 | t + 1, ht => by
   have hk := hD.pre.pk
   refine (divF_ser (inv := inv) hq hp hn h1 t (by omega)).trans ?_
   have e : divF D ql inv n pl (t + 1) = addm D (divF D ql inv n pl t) (n - 1 - t) ql (pscl D.p D.k (D.p - 1) (divQ D ql inv n pl t)) := rfl
   have e2 : qS hD ql inv n pl (t + 1) = (FD.dom hD.nzd).ser.add (qS hD ql inv n pl t) ((FD.dom hD.nzd).mon1 (toE hk (divQ D ql inv n pl t)) (n - 1 - t)) := funext fun i => by
    show qS hD ql inv n pl (t + 1) i = (FD.dom hD.nzd).add (qS hD ql inv n pl t i) ((FD.dom hD.nzd).mon1 (toE hk (divQ D ql inv n pl t)) (n - 1 - t) i)
    unfold qS Dom.mon1
    by_cases h : i = n - 1 - t
    ·rw [if_pos (by omega), if_neg (by omega), if_pos h, Dom.zero_add, h, show n - 1 - (n - 1 - t) = t by omega]
    ·by_cases h2 : n - t <= i /\ i < n
     ·rw [if_pos (by omega), if_pos h2, if_neg h, Dom.add_zero]
     ·rw [if_neg (by omega), if_neg h2, if_neg h, Dom.add_zero]
   have e3 : (FD.dom hD.nzd).mon1 (toE hk (pscl D.p D.k (D.p - 1) (divQ D ql inv n pl t))) (n - 1 - t) = (FD.dom hD.nzd).ser.neg ((FD.dom hD.nzd).mon1 (toE hk (divQ D ql inv n pl t)) (n - 1 - t)) := funext fun i => by
    show (if i = n - 1 - t then toE hk (pscl D.p D.k (D.p - 1) (divQ D ql inv n pl t)) else (FD.dom hD.nzd).zero) = (FD.dom hD.nzd).neg (if i = n - 1 - t then toE hk (divQ D ql inv n pl t) else (FD.dom hD.nzd).zero)
    by_cases h : i = n - 1 - t
    ·rw [if_pos h, if_pos h, toE_neg hD (divQ_lt hk _ _ _ _ _)]
    ·rw [if_neg h, if_neg h, Dom.neg_zero]
   rw [e, serL_addm hD (divF_lt hk _ _ _ _ hp) hq (pscl_lt hk _ _) (by rw [divF_len]; omega), e2, e3, Dom.add_mul, Dom.neg_mul, Dom.tidy]
theorem quo_ser {ql pl : List Nat} (inv : Nat) (h : ¬ pl.length < ql.length) : qS hD ql inv (pl.length + 1 - ql.length) pl (pl.length + 1 - ql.length) = serL hD (quoF D ql inv pl) := funext fun i => by
 unfold quoF
 rw [if_neg h]
 show qS _ _ _ _ _ _ i = toE hD.pre.pk _
 unfold qS
 by_cases hi : i < pl.length + 1 - ql.length
 ·rw [if_pos (by omega), range_get _ hi]
 ·rw [if_neg (by omega), List.getElem?_eq_none (by simp; omega)]
  exact (toE_zero hD).symm
theorem div_ser {ql pl : List Nat} (inv : Nat) (hq : ∀ a ∈ ql, a < D.p ^ D.k) (hp : ∀ a ∈ pl, a < D.p ^ D.k) (h1 : 1 <= ql.length) : serL hD pl = (FD.dom hD.nzd).ser.add (serL hD (rstF D ql inv pl)) ((FD.dom hD.nzd).ser.mul (serL hD (quoF D ql inv pl)) (serL hD ql)) := by
 by_cases h : pl.length < ql.length
 ·have e1 : rstF D ql inv pl = pl := by unfold rstF; rw [if_pos h]
  have e2 : quoF D ql inv pl = [] := by unfold quoF; rw [if_pos h]
  rw [e1, e2, serL_nil hD (l := []) rfl, (FD.dom hD.nzd).ser.zero_mul, (FD.dom hD.nzd).ser.add_zero]
 ·have e1 : rstF D ql inv pl = trm (divF D ql inv (pl.length + 1 - ql.length) pl (pl.length + 1 - ql.length)) := by unfold rstF; rw [if_neg h]
  rw [e1, serL_trm, <- quo_ser hD inv h]
  exact divF_ser hD hq hp (by omega) h1 _ (Nat.le_refl _)
theorem quoF_lt (hk : PK D.p D.k D.m) (ql : List Nat) (inv : Nat) (pl : List Nat) : ∀ a ∈ quoF D ql inv pl, a < D.p ^ D.k := fun a ha => by
 unfold quoF at ha
 split at ha
 ·cases ha
 ·obtain ⟨i, _, rfl⟩ := List.mem_map.1 ha
  exact divQ_lt hk _ _ _ _ _
theorem ser_get {l m : List Nat} (hl : ∀ a ∈ l, a < D.p ^ D.k) (hm : ∀ a ∈ m, a < D.p ^ D.k) (h : serL hD l = serL hD m) (i : Nat) : l[i]?.getD 0 = m[i]?.getD 0 :=
 toE_inj hD.pre.pk (getD_lt (Nat.pow_pos hD.pre.pk.p0) hl i) (getD_lt (Nat.pow_pos hD.pre.pk.p0) hm i) (congrFun h i)
theorem div_ev {ql pl : List Nat} (inv : Nat) (hq : ∀ a ∈ ql, a < D.p ^ D.k) (hp : ∀ a ∈ pl, a < D.p ^ D.k) (h1 : 1 <= ql.length) (x : El (D.p ^ D.k)) : evE hD pl x = (FD.dom hD.nzd).add (evE hD (rstF D ql inv pl) x) ((FD.dom hD.nzd).mul (evE hD (quoF D ql inv pl) x) (evE hD ql x)) := by
 have hk := hD.pre.pk
 have hr := rstF_lt hk ql inv hp
 have hu := quoF_lt hk ql inv pl
 have e : serL hD pl = serL hD (sumL D (rstF D ql inv pl) (mulL D (quoF D ql inv pl) ql)) := by
  rw [serL_sumL hD hr (mulL_lt hk _ _), serL_mulL hD hu hq]
  exact div_ser hD inv hq hp h1
 rw [evE_congr hD (ser_get hD hp (sumL_lt hk _ _) e) x, sumL_ev hD hr (mulL_lt hk _ _), evE_mulL hD hu hq]
theorem quo_len_is {ql pl : List Nat} (inv : Nat) (h : ¬ pl.length < ql.length) : (quoF D ql inv pl).length = pl.length + 1 - ql.length := by
 unfold quoF
 rw [if_neg h]
 simp
theorem quo_tz {ql pl : List Nat} (hq : ∀ a ∈ ql, a < D.p ^ D.k) (hp : ∀ a ∈ pl, a < D.p ^ D.k) (h1 : 1 <= ql.length) (h0 : ql[ql.length - 1]?.getD 0 ≠ 0) (tp : Tz pl) : Tz (quoF D ql (invT D hD.pre.pk ql) pl) := by
 have hk := hD.pre.pk
 by_cases h : pl.length < ql.length
 ·left
  unfold quoF
  rw [if_pos h]
  rfl
 ·right
  have hl := quo_len_is (D := D) (ql := ql) (pl := pl) (invT D hk ql) h
  rw [hl]
  unfold quoF
  rw [if_neg h, range_get _ (by omega), show pl.length + 1 - ql.length - 1 - (pl.length + 1 - ql.length - 1) = 0 by omega]
  intro e
  have e' : pmul D.p D.k D.m (pl[pl.length + 1 - ql.length - 1 - 0 + (ql.length - 1)]?.getD 0) D.k (invT D hk ql) = 0 := e
  rw [show pl.length + 1 - ql.length - 1 - 0 + (ql.length - 1) = pl.length - 1 by omega] at e'
  have ha := getD_lt (Nat.pow_pos hk.p0) hp (pl.length - 1)
  have hb := getD_lt (Nat.pow_pos hk.p0) hq (ql.length - 1)
  have hi : invT D hk ql < D.p ^ D.k := ppow_lt hk _ _
  have e2 := toE_mul hD ha hi
  rw [e', toE_zero hD] at e2
  rcases (FD.dom hD.nzd).nzd _ _ e2.symm with e3 | e3
  ·rcases tp with h2 | h2
   ·omega
   ·exact h2 (toE_inj hk ha (Nat.pow_pos hk.p0) (e3.trans (toE_zero hD).symm))
  ·have e4 := inv_ev hD (xs := []) (by simp) hb h0
   have e5 : toE hD.pre.pk (ppow hD.pre.pk (ql[ql.length - 1]?.getD 0) (D.q - 2)) = (FD.dom hD.nzd).zero := e3
   rw [e5, Dom.zero_mul] at e4
   exact (FD.dom hD.nzd).one_ne e4.symm
theorem mulL_len_is {pl ql : List Nat} (h1 : pl.length ≠ 0) (h2 : ql.length ≠ 0) : (mulL D pl ql).length = pl.length + ql.length - 1 := by
 unfold mulL
 rw [if_neg (by omega), mulF_len]
include hD in
theorem mulL_one {pl : List Nat} (hp : ∀ a ∈ pl, a < D.p ^ D.k) (tp : Tz pl) : mulL D [1] pl = pl := by
 have hk := hD.pre.pk
 have h1 : ∀ a ∈ [1], a < D.p ^ D.k := fun a ha => by rw [List.mem_singleton.1 ha]; exact hk.one_lt
 have t1 : Tz [1] := .inr (by decide)
 refine tz_ext (mulL_tz hD h1 hp t1 tp) tp (ser_get hD (mulL_lt hk _ _) hp ?_)
 rw [serL_mulL hD h1 hp]
 have e : serL hD [1] = (FD.dom hD.nzd).ser.one := funext fun i => by
  show toE hk ([1][i]?.getD 0) = if i = 0 then (FD.dom hD.nzd).one else (FD.dom hD.nzd).zero
  rcases i with _ | i
  ·exact toE_one hD
  ·exact toE_zero hD
 rw [e, Dom.one_mul]
def padF (p : List Nat) (n : Nat) : List Nat := p ++ List.replicate (n - p.length) 0
theorem padF_len {p : List Nat} {n : Nat} (h : p.length <= n) : (padF p n).length = n := by simp [padF]; omega
theorem padF_get (p : List Nat) (n i : Nat) : (padF p n)[i]?.getD 0 = p[i]?.getD 0 := by
 unfold padF
 by_cases h : i < p.length
 ·rw [List.getElem?_append_left h]
 ·rw [List.getElem?_append_right (by omega), List.getElem?_eq_none (l := p) (by omega), List.getElem?_replicate]
  split <;> rfl
theorem padF_lt {q : Nat} (hq : 0 < q) {p : List Nat} (h : ∀ a ∈ p, a < q) (n : Nat) : ∀ a ∈ padF p n, a < q := fun a ha => by
 rcases List.mem_append.1 ha with h1 | h1
 ·exact h a h1
 ·rw [(List.mem_replicate.1 h1).2]; exact hq
def plusF (D : FD) (p q : List Nat) (c s : Nat) : List Nat := trm (addm D (padF p (max p.length (s + q.length))) s q c)
theorem plusF_lt (hk : PK D.p D.k D.m) {p q : List Nat} {c s : Nat} (hp : ∀ a ∈ p, a < D.p ^ D.k) : ∀ a ∈ plusF D p q c s, a < D.p ^ D.k := by
 unfold plusF
 exact trm_lt (addmF_lt hk _ _ _ _ (padF_lt (Nat.pow_pos hk.p0) hp _))
theorem plusF_tz (p q : List Nat) (c s : Nat) : Tz (plusF D p q c s) := trm_tz _
theorem plusF_ev {p q : List Nat} {c s : Nat} (hp : ∀ a ∈ p, a < D.p ^ D.k) (hq : ∀ a ∈ q, a < D.p ^ D.k) (hc : c < D.p ^ D.k) (x : El (D.p ^ D.k)) : evE hD (plusF D p q c s) x = (FD.dom hD.nzd).add (evE hD p x) ((FD.dom hD.nzd).mul (toE hD.pre.pk c) ((FD.dom hD.nzd).mul ((FD.dom hD.nzd).pow x s) (evE hD q x))) := by
 unfold plusF
 rw [evE_trm, evE_addm hD _ s q (padF_lt (Nat.pow_pos hD.pre.pk.p0) hp _) hq hc (by rw [padF_len (by omega)]; omega), evE_congr hD (padF_get p _) x]
include hD in
theorem plusF_len {p q : List Nat} {c : Nat} (hq : ∀ a ∈ q, a < D.p ^ D.k) (tq : Tz q) (hc : c < D.p ^ D.k) (c0 : c ≠ 0) (hl : p.length < q.length) : (plusF D p q c 0).length = q.length := by
 have hk := hD.pre.pk
 have hm : max p.length (0 + q.length) = q.length := by omega
 unfold plusF
 rw [hm]
 have hL : (addm D (padF p q.length) 0 q c).length = q.length := by rw [addm_len, padF_len (by omega)]
 have ht := addm_top (D := D) (padF p q.length) 0 q c (by omega) (by rw [padF_len (by omega)]; omega)
 rw [padF_get, List.getElem?_eq_none (l := p) (by omega)] at ht
 rw [trm_self, hL]
 right
 rw [hL]
 intro e
 rw [Nat.zero_add] at ht
 rw [e] at ht
 have hqt := getD_lt (Nat.pow_pos hk.p0) hq (q.length - 1)
 have e1 : toE hk 0 = (FD.dom hD.nzd).add (toE hk 0) (toE hk (pmul D.p D.k D.m (q[q.length - 1]?.getD 0) D.k c)) := by
  rw [<- toE_add hD (Nat.pow_pos hk.p0) (pmul_lt hk _ _ _)]
  exact congrArg (toE hk) ht
 rw [toE_zero hD, Dom.zero_add, toE_mul hD hqt hc] at e1
 rcases (FD.dom hD.nzd).nzd _ _ e1.symm with e3 | e3
 ·rcases tq with h2 | h2
  ·omega
  ·exact h2 (toE_inj hk hqt (Nat.pow_pos hk.p0) (e3.trans (toE_zero hD).symm))
 ·exact c0 (toE_inj hk hc (Nat.pow_pos hk.p0) (e3.trans (toE_zero hD).symm))
end
end FFld
end Go.Proofs.YtdnheaafcbihbaaGreat
namespace Go.Proofs.YtdnheaafcbihbaaGreat
open Go Go.RowKit
open FFld (ints)
theorem md_nat {q r : Nat} (h : r < q) : ((r : Nat) : Int) % (q : Int) = r := Int.emod_eq_of_lt (by omega) (by omega)
set_option maxRecDepth 20000 in
theorem caddMultiple_any {D : FFld.FD} {b g s n cc : Nat} {ao : Option Addr} {cap : Nat} (w0 w : World) (hD : D.Ok) (hf : FldB D w0 b) (hb : Below w0.heap.size w0 w) (hg : w0.heap.size <= g) (xs : List Nat) (hx : Wv w g xs) (hxq : ∀ c ∈ xs, c < D.p ^ D.k)
 (q : List Nat) (hq : Qc g ao q w) (hqq : ∀ c ∈ q, c < D.p ^ D.k) (hs : s + q.length <= xs.length) (hn : q.length <= n) (a : Nat) (ha : a < D.p ^ D.k) (hql : q.length <= 1000000) :
 Calls Tryz.prog 217 #[.pointer (some ⟨b, 0, none⟩), .slice (some ⟨g, s, none⟩) n cc, .slice ao q.length cap, .int .i64 a] w (fun e w' => e = .returned (.tuple #[]) /\ w.grownBy w' (some g) /\ Wv w' g (FFld.addm D xs s q a)) := by
 have hpk := hD.pre.pk
 have hq6 : D.p ^ D.k <= 65536 := hD.pre.small
 have hqd : D.q = D.p ^ D.k := rfl
 have HQ := Kept.mk hq
 have HXQ := Kept.mk (fun j => FFld.addmF_lt (D := D) hpk s q a j hxq)
 have HQQ := Kept.mk hqq
 have HA := Kept.mk ha
 have HPK := Kept.mk hpk
 have HB := Kept.mk hb
 have HX := Kept.mk hx
 have HP := Kept.mk (fun (W : World) (hW : Below w0.heap.size w0 W) (r t : Nat) (h1 : r < D.p ^ D.k) (h2 : t < D.p ^ D.k) => fmul_any (r : Int) (t : Int) W (hf.below hW) (by omega) (by omega) (by omega) (by omega) r t (md_nat h1) (md_nat h2) h1 h2)
 have HS := Kept.mk (fun (W : World) (hW : Below w0.heap.size w0 W) (r t : Nat) (h1 : r < D.p ^ D.k) (h2 : t < D.p ^ D.k) => fadd_any (r : Int) (t : Int) W (hf.below hW) (by omega) (by omega) (by omega) (by omega) r t (md_nat h1) (md_nat h2) h1 h2)
 clear hf hb hx hxq hq hqq ha hpk hqd
 go_enter Tryz.func217, Tryz.ntmps217
 go_wp2
 go_loopw [12] (fun iv wr => ∃ (j : Nat), j <= q.length /\ iv = .int .i64 j /\ Kept (Wv wr g (FFld.addmF D xs s q a j)) /\ Kept (w.grownBy wr (some g))) (fun iv _ => q.length - (intOf iv).toNat)
 case atStart => exact ⟨0, Nat.zero_le _, rfl, HX, ⟨growRefl _ _⟩⟩
 case round =>
  obtain ⟨j, hj, rfl, hwv, hgr⟩ := hrel
  by_cases hlt : j < q.length
  ·obtain ⟨bq, oq, rfl, hne, hbq, hcq⟩ := (HQ.out.grown hgr.out) j hlt
   have HBW := Kept.mk (belowGrow hgr.out HB.out hg)
   have hsz := HBW.out.size
   have hgl := hwv.out.lt
   have hlen := FFld.addmF_len D xs s q a j
   have t1 := hwv.out.cell (i := s + j) (by omega)
   have hqb := FFld.getD_lt (Nat.pow_pos HPK.out.p0) HQQ.out j
   have hub := FFld.getD_lt (Nat.pow_pos HPK.out.p0) (HXQ.out j) (s + j)
   obtain ⟨u, hu⟩ : ∃ u, (FFld.addmF D xs s q a j)[s + j]?.getD 0 = u := ⟨_, rfl⟩
   obtain ⟨y, hy⟩ : ∃ y, q[j]?.getD 0 = y := ⟨_, rfl⟩
   obtain ⟨z, hz⟩ : ∃ z, FFld.pmul D.p D.k D.m y D.k a = z := ⟨_, rfl⟩
   obtain ⟨v, hv⟩ : ∃ v, FFld.padd D.p D.k u z = v := ⟨_, rfl⟩
   have HV : Kept ((FFld.addmF D xs s q a j).set (s + j) v = FFld.addmF D xs s q a (j + 1)) := ⟨by simp only [FFld.addmF]; rw [hu, hy, hz, hv]⟩
   rw [hu] at t1 hub
   rw [hy] at hcq hqb
   have hP := Kept.mk (fun W (hW : Below w0.heap.size w0 W) => HP.out W hW y a hqb HA.out)
   rw [hz] at hP
   have hS := Kept.mk (fun W (hW : Below w0.heap.size w0 W) => HS.out W hW u z hub (by rw [<- hz]; exact FFld.pmul_lt HPK.out _ _ _))
   rw [hv] at hS
   have hjn : j < n := by omega
   clear hu hy hz hv hqb hub hlen
   go_wp2
   refine wp_region_held_drew (S := fun _ => True) (by kernel_rfl) trivial (fun hHeld => ?_)
   refine wpAnyH_take (i := 0) (v := ?_) rfl (by kernel_rfl) (by kernel_rfl) (by kernel_rfl) (fun _ _ _ h => h) (Or.inl ⟨by rfl, ?_⟩) (by assumption) ?_
   rotate_left
   ·(intro w hSw; (try dsimp only at hSw); go_simp; (try with_reducible rfl))
   try simp only [Act.put, List.getElem_toArray, List.getElem_cons_succ, List.getElem_cons_zero, List.setIfInBounds_toArray, List.set_cons_zero, List.set_cons_succ]
   refine wpAnyH_take (i := 1) (v := ?_) rfl (by kernel_rfl) (by kernel_rfl) (by kernel_rfl) (fun _ _ _ h => h) (Or.inl ⟨by rfl, ?_⟩) (by assumption) ?_
   rotate_left
   ·(intro w hSw; (try dsimp only at hSw); go_simp; (try with_reducible rfl))
   try simp only [Act.put, List.getElem_toArray, List.getElem_cons_succ, List.getElem_cons_zero, List.setIfInBounds_toArray, List.set_cons_zero, List.set_cons_succ]
   refine wpAnyH_take (i := 2) (v := ?_) rfl (by kernel_rfl) (by kernel_rfl) (by kernel_rfl) (fun _ _ _ h => h) (Or.inl ⟨by rfl, ?_⟩) (by assumption) ?_
   rotate_left
   ·(intro w hSw; (try dsimp only at hSw); go_simp; (try with_reducible rfl))
   try simp only [Act.put, List.getElem_toArray, List.getElem_cons_succ, List.getElem_cons_zero, List.setIfInBounds_toArray, List.set_cons_zero, List.set_cons_succ]
   refine wpAnyH_take (i := 3) (v := ?_) rfl (by kernel_rfl) (by kernel_rfl) (by kernel_rfl) (fun _ _ _ h => h) (Or.inl ⟨by rfl, ?_⟩) (by assumption) ?_
   rotate_left
   ·(intro w hSw; (try dsimp only at hSw); go_simp; (try with_reducible rfl))
   try simp only [Act.put, List.getElem_toArray, List.getElem_cons_succ, List.getElem_cons_zero, List.setIfInBounds_toArray, List.set_cons_zero, List.set_cons_succ]
   refine wpAnyH_take (i := 4) (v := ?_) rfl (by kernel_rfl) (by kernel_rfl) (by kernel_rfl) (fun _ _ _ h => h) (Or.inl ⟨by rfl, ?_⟩) (by assumption) ?_
   rotate_left
   ·(intro w hSw; (try dsimp only at hSw); go_simp; (try with_reducible rfl))
   try simp only [Act.put, List.getElem_toArray, List.getElem_cons_succ, List.getElem_cons_zero, List.setIfInBounds_toArray, List.set_cons_zero, List.set_cons_succ]
   refine wpAnyH_take (i := 5) (v := ?_) rfl (by kernel_rfl) (by kernel_rfl) (by kernel_rfl) (fun _ _ _ h => h) (Or.inl ⟨by rfl, ?_⟩) (by assumption) ?_
   rotate_left
   ·(intro w hSw; (try dsimp only at hSw); go_simp; (try with_reducible rfl))
   try simp only [Act.put, List.getElem_toArray, List.getElem_cons_succ, List.getElem_cons_zero, List.setIfInBounds_toArray, List.set_cons_zero, List.set_cons_succ]
   refine wpAnyH_take (i := 7) (v := ?_) rfl (by kernel_rfl) (by kernel_rfl) (by kernel_rfl) (fun _ _ _ h => h) (Or.inl ⟨by rfl, ?_⟩) (by assumption) ?_
   rotate_left
   ·(intro w hSw; (try dsimp only at hSw); go_simp; (try with_reducible rfl))
   try simp only [Act.put, List.getElem_toArray, List.getElem_cons_succ, List.getElem_cons_zero, List.setIfInBounds_toArray, List.set_cons_zero, List.set_cons_succ]
   refine wpAnyH_take (i := 8) (v := ?_) rfl (by kernel_rfl) (by kernel_rfl) (by kernel_rfl) (fun _ _ _ h => h) (Or.inl ⟨by rfl, ?_⟩) (by assumption) ?_
   rotate_left
   ·(intro w hSw; (try dsimp only at hSw); go_simp; (try with_reducible rfl))
   try simp only [Act.put, List.getElem_toArray, List.getElem_cons_succ, List.getElem_cons_zero, List.setIfInBounds_toArray, List.set_cons_zero, List.set_cons_succ]
   refine wpAnyH_take (i := 9) (v := ?_) rfl (by kernel_rfl) (by kernel_rfl) (by kernel_rfl) (fun _ _ _ h => h) (Or.inl ⟨by rfl, ?_⟩) (by assumption) ?_
   rotate_left
   ·(intro w hSw; (try dsimp only at hSw); go_simp; (try with_reducible rfl))
   try simp only [Act.put, List.getElem_toArray, List.getElem_cons_succ, List.getElem_cons_zero, List.setIfInBounds_toArray, List.set_cons_zero, List.set_cons_succ]
   refine wpAnyH_ready (rs := [6, 10]) (by kernel_rfl) (by simp) ?_
   refine AllReadyH.cons rfl (fun K hK => ?_) (AllReadyH.cons rfl (fun K hK => ?_) AllReadyH.nil)
   ·go_simp
    refine hK.out _ _ trivial (fun hHeld => ?_)
    clear hK K
    try simp only [Act.put, List.getElem_toArray, List.getElem_cons_succ, List.getElem_cons_zero, List.setIfInBounds_toArray, List.set_cons_zero, List.set_cons_succ]
    refine wpAnyH_ready (rs := [10]) (by kernel_rfl) (by simp) ?_
    refine (AllReadyH.cons rfl (fun K hK => ?_) AllReadyH.nil)
    go_simp
    refine (hP.out _ HBW.out.drew).mono ?_
    rintro e w2 ⟨hb2, rfl⟩
    have HB2 := Kept.mk (bstep HBW.out.drew hb2)
    have HR2 : Kept (Below wr.heap.size wr w2) := ⟨(Below.refl _ _).drew.trans hb2⟩
    have t2 := (HR2.out.cell (p := ⟨g, s + j, none⟩) (by simp only []; omega)).trans t1
    clear hb2
    refine hK.out _ _ trivial (fun hHeld => ?_)
    clear hK K
    try simp only [Act.put, List.getElem_toArray, List.getElem_cons_succ, List.getElem_cons_zero, List.setIfInBounds_toArray, List.set_cons_zero, List.set_cons_succ]
    refine wpAnyH_ready (rs := [11]) (by kernel_rfl) (by simp) ?_
    refine (AllReadyH.cons rfl (fun K hK => ?_) AllReadyH.nil)
    go_simp
    refine (hS.out _ HB2.out).mono ?_
    rintro e w3 ⟨hb3, rfl⟩
    have HB3 := Kept.mk (bstep HB2.out hb3)
    have HR3 := Kept.mk (bstep HR2.out hb3)
    have t3 := (hb3.cell (p := ⟨g, s + j, none⟩) (by have := HR2.out.size; simp only []; omega)).trans t2
    have HW3 := Kept.mk (hwv.out.below HR3.out)
    have z3 := HW3.out.free (s + j)
    clear hb3
    refine hK.out _ _ trivial (fun hHeld => ?_)
    clear hK K
    try simp only [Act.put, List.getElem_toArray, List.getElem_cons_succ, List.getElem_cons_zero, List.setIfInBounds_toArray, List.set_cons_zero, List.set_cons_succ]
    refine wpAnyH_take (i := 12) (v := ?_) rfl (by kernel_rfl) (by kernel_rfl) (by kernel_rfl) (fun _ _ _ h => h) (Or.inl ⟨by rfl, ?_⟩) (by assumption) ?_
    rotate_left
    ·(intro w hSw; (try dsimp only at hSw); go_simp; (try with_reducible rfl))
    try simp only [Act.put, List.getElem_toArray, List.getElem_cons_succ, List.getElem_cons_zero, List.setIfInBounds_toArray, List.set_cons_zero, List.set_cons_succ]
    refine wpAnyH_ready (rs := [13]) (by kernel_rfl) (by simp) ?_
    refine (AllReadyH.cons rfl (fun K hK => ?_) AllReadyH.nil)
    go_simp
    refine hK.out _ _ trivial (fun hHeld => ?_)
    clear hK K
    try simp only [Act.put, List.getElem_toArray, List.getElem_cons_succ, List.getElem_cons_zero, List.setIfInBounds_toArray, List.set_cons_zero, List.set_cons_succ]
    refine wpAnyH_done (by kernel_rfl) ?_ _
    go_wp2
    go_roundw
    case rel => exact ⟨j + 1, by omega, by go_num, ⟨by have := HW3.out.set (i := s + j) v; rw [HV.out] at this; exact this⟩, ⟨growTrans hgr.out (growSet (growBelow HR3.out) _ _)⟩⟩
    case measure => simp [intOf] <;> omega
   ·go_simp
    refine (hP.out _ HBW.out.drew).mono ?_
    rintro e w2 ⟨hb2, rfl⟩
    have HB2 := Kept.mk (bstep HBW.out.drew hb2)
    have HR2 : Kept (Below wr.heap.size wr w2) := ⟨(Below.refl _ _).drew.trans hb2⟩
    have t2 := (HR2.out.cell (p := ⟨g, s + j, none⟩) (by simp only []; omega)).trans t1
    clear hb2
    refine hK.out _ _ trivial (fun hHeld => ?_)
    clear hK K
    try simp only [Act.put, List.getElem_toArray, List.getElem_cons_succ, List.getElem_cons_zero, List.setIfInBounds_toArray, List.set_cons_zero, List.set_cons_succ]
    refine wpAnyH_ready (rs := [6]) (by kernel_rfl) (by simp) ?_
    refine (AllReadyH.cons rfl (fun K hK => ?_) AllReadyH.nil)
    go_simp
    refine hK.out _ _ trivial (fun hHeld => ?_)
    clear hK K
    try simp only [Act.put, List.getElem_toArray, List.getElem_cons_succ, List.getElem_cons_zero, List.setIfInBounds_toArray, List.set_cons_zero, List.set_cons_succ]
    refine wpAnyH_ready (rs := [11]) (by kernel_rfl) (by simp) ?_
    refine (AllReadyH.cons rfl (fun K hK => ?_) AllReadyH.nil)
    go_simp
    refine (hS.out _ HB2.out).mono ?_
    rintro e w3 ⟨hb3, rfl⟩
    have HB3 := Kept.mk (bstep HB2.out hb3)
    have HR3 := Kept.mk (bstep HR2.out hb3)
    have t3 := (hb3.cell (p := ⟨g, s + j, none⟩) (by have := HR2.out.size; simp only []; omega)).trans t2
    have HW3 := Kept.mk (hwv.out.below HR3.out)
    have z3 := HW3.out.free (s + j)
    clear hb3
    refine hK.out _ _ trivial (fun hHeld => ?_)
    clear hK K
    try simp only [Act.put, List.getElem_toArray, List.getElem_cons_succ, List.getElem_cons_zero, List.setIfInBounds_toArray, List.set_cons_zero, List.set_cons_succ]
    refine wpAnyH_take (i := 12) (v := ?_) rfl (by kernel_rfl) (by kernel_rfl) (by kernel_rfl) (fun _ _ _ h => h) (Or.inl ⟨by rfl, ?_⟩) (by assumption) ?_
    rotate_left
    ·(intro w hSw; (try dsimp only at hSw); go_simp; (try with_reducible rfl))
    try simp only [Act.put, List.getElem_toArray, List.getElem_cons_succ, List.getElem_cons_zero, List.setIfInBounds_toArray, List.set_cons_zero, List.set_cons_succ]
    refine wpAnyH_ready (rs := [13]) (by kernel_rfl) (by simp) ?_
    refine (AllReadyH.cons rfl (fun K hK => ?_) AllReadyH.nil)
    go_simp
    refine hK.out _ _ trivial (fun hHeld => ?_)
    clear hK K
    try simp only [Act.put, List.getElem_toArray, List.getElem_cons_succ, List.getElem_cons_zero, List.setIfInBounds_toArray, List.set_cons_zero, List.set_cons_succ]
    refine wpAnyH_done (by kernel_rfl) ?_ _
    go_wp2
    go_roundw
    case rel => exact ⟨j + 1, by omega, by go_num, ⟨by have := HW3.out.set (i := s + j) v; rw [HV.out] at this; exact this⟩, ⟨growTrans hgr.out (growSet (growBelow HR3.out) _ _)⟩⟩
    case measure => simp [intOf] <;> omega
  ·obtain rfl : j = q.length := by omega
   go_wp2
   go_end0
   exact ⟨rfl, hgr.out, hwv.out⟩
theorem splice_padF (n : Nat) (l : List Nat) (h : l.length <= n) : splice ((ints (List.replicate n 0)).map (Value.int .i64)) 0 ((ints l).map (Value.int .i64)) = (ints (FFld.padF l n)).map (Value.int .i64) := by
 unfold splice FFld.padF ints
 simp [List.map_append, List.drop_replicate]
theorem csize_i64 : (Tryz.prog.info? 3).map (·.size) = some 1 := by kernel_rfl
theorem csrc {w : World} {ao : Option Addr} {n cap : Nat} {xs : List Int} (h : Sl .i64 w (.slice ao n cap) xs) (hl : 0 < xs.length) : ∃ ad, ao = some ad /\ ∀ j u, (xs.map (Value.int .i64))[j]? = some u -> w.cell? (ad.add j) = some u := by
 have h' := h
 obtain ⟨ao', cap', e, hc, hm, hx⟩ := h
 cases e
 obtain ⟨b, o, rfl, _, _⟩ := hx 0 hl
 exact ⟨_, rfl, h'.news⟩
set_option maxRecDepth 20000 in
theorem cpadded_any (ao : Option Addr) (cap : Nat) (l : List Nat) (n : Nat) (w : World) (h : Sl .i64 w (.slice ao l.length cap) (ints l)) (hl : l.length <= n) (hn : n <= 1000000) :
 Calls Tryz.prog 89 #[.slice ao l.length cap, .int .i64 n] w (fun e w' => Below w.heap.size w w' /\ e = .returned (.slice (some ⟨w.heap.size, 0, none⟩) n n) /\ Wv w' w.heap.size (FFld.padF l n)) := by
 have hmk := run_make_row' (P := Tryz.prog) 22 3 (.int .i64 0) 8 Tryz.underlying22 info_i64 rfl .i64 .i64 n (by omega) (by omega)
 obtain ⟨nl, hnl⟩ : ∃ nl, l.length = nl := ⟨_, rfl⟩
 have HL := Kept.mk hl
 have HNL := Kept.mk hnl
 have HS := Kept.mk h
 rw [hnl] at HS ⊢
 clear h hnl
 have hr : (w.alloc (.cells (madeCells #[.int .i64 0] n) 3)).heap[w.heap.size]? = some (.cells ((ints (List.replicate n 0)).map (Value.int .i64)).toArray 3 (0, 0)) := by rw [<- made_zeros]; exact heap_alloc_new w _
 have hal : Below w.heap.size w (w.alloc (.cells (madeCells #[.int .i64 0] n) 3)) := (Below.refl _ _).alloc (Nat.le_refl _) _
 go_enter Tryz.func89, Tryz.ntmps89
 go_upto_region 2 with fail
 obtain ⟨g, hg⟩ : ∃ g, w.heap.size = g := ⟨_, rfl⟩
 obtain ⟨W1, hW1⟩ : ∃ W, w.alloc (.cells (madeCells #[.int .i64 0] n) 3) = W := ⟨_, rfl⟩
 rw [hW1] at hr hal
 try rw [hW1]
 have hS1 := HS.out.below hal
 rw [hg] at hr hal
 try rw [hg]
 have HGG := Kept.mk hg
 clear hW1 hmk
 obtain ⟨cs, hcs⟩ : ∃ cs, cs = (ints l).map (Value.int .i64) := ⟨_, rfl⟩
 have HCS := Kept.mk hcs
 have HCL : Kept (cs.length = nl) := ⟨by rw [hcs, List.length_map, FFld.ints_len, HNL.out]⟩
 have HONE : Kept (∀ v ∈ cs, v.oneCell' = true) := ⟨fun v hv => by
  rw [HCS.out] at hv
  obtain ⟨a, _, rfl⟩ := List.mem_map.1 hv
  rfl⟩
 have HPOS : Kept (0 < cs.length -> ∃ ad, ao = some ad /\ ∀ j u, cs[j]? = some u -> W1.cell? (ad.add j) = some u) := ⟨fun h => by
  rw [HCL.out] at h
  rw [HCS.out]
  exact csrc hS1 (by rw [FFld.ints_len, HNL.out]; exact h)⟩
 have HR := Kept.mk hr
 have HAL := Kept.mk hal
 have hnn : nl <= n := by have := HL.out; rw [HNL.out] at this; exact this
 clear hcs hr hal hS1 hg
 go_wp2_with (refine wpList_copy_splice (o := ⟨some 10, _, _, _, _, _⟩) rfl (.tmp 8) (.tmp 9) 22 22 rfl 3 Tryz.underlying22 csize_i64 _ _ n n nl cap rfl rfl g 0 ((ints (List.replicate n 0)).map (Value.int .i64)) 3 HR.out cs (by show _ = min _ _; rw [HCL.out]; exact (Nat.min_eq_left hnn).symm) (fun h => ⟨rfl, HPOS.out h⟩) (by rw [HCL.out]; simp [FFld.ints_len]; exact hnn) HONE.out g W1 (Below.refl _ _) (Nat.le_refl _) ?_)
 intro w6 hr6 hb6
 have HB6 : Kept (Below g w w6) := ⟨HAL.out.trans hb6⟩
 have HW6 : Kept (Wv w6 g (FFld.padF l n)) := ⟨by
  have h1 := hr6.out
  rw [HCS.out, splice_padF n _ HL.out] at h1
  exact Row.wv (show Row 3 .i64 w6 g (ints (FFld.padF l n)) from h1)⟩
 clear hr6 hb6
 go_wp2
 go_ret
 rw [HGG.out]
 exact ⟨HB6.out, rfl, HW6.out⟩
theorem qc_of {w w' : World} {g : Nat} {ao : Option Addr} {cap n : Nat} {l : List Nat} (h : Sl .i64 w (.slice ao n cap) (ints l)) (hb : Below w.heap.size w w') (hg : w.heap.size <= g) : Qc g ao l w' := fun i hi => by
 obtain ⟨ao', cap', e, hc, hm, hx⟩ := h
 cases e
 obtain ⟨b, o, rfl, h1, h2⟩ := hx i (by rw [FFld.ints_len]; exact hi)
 rw [FFld.ints_get] at h2
 exact ⟨b, o, rfl, by omega, Nat.lt_of_lt_of_le h1 hb.size, (hb.cell (p := ⟨b, o + i, none⟩) h1).trans h2⟩
end Go.Proofs.YtdnheaafcbihbaaGreat
namespace Go.Proofs.YtdnheaafcbihbaaGreat
open Go Go.RowKit Go.Deep
open FFld (ints)
theorem cErr_poly {D : FFld.FD} {l : List Nat} (h : ∀ a ∈ l, a < D.p ^ D.k) (ht : FFld.Tz l) (hl : l.length <= 200) : cErr D (ints l) = 0 := by
 unfold cErr
 rw [FFld.ints_len, if_neg (by omega), if_pos]
 constructor
 ·unfold elsB
  rw [List.all_eq_true]
  intro x hx
  unfold FFld.ints at hx
  obtain ⟨a, ha, rfl⟩ := List.mem_map.1 hx
  have := h a ha
  rw [decide_eq_true_eq]
  unfold FFld.FD.q
  omega
 ·unfold zlast
  rw [FFld.ints_len]
  rcases ht with h0 | h0
  ·rw [h0]; rfl
  ·rw [FFld.ints_get]
   have : decide (((l[l.length - 1]?.getD 0 : Nat) : Int) = 0) = false := by
    rw [decide_eq_false_iff_not]
    omega
   rw [this, Bool.and_false]
section
variable {D : FFld.FD} {b : Nat} (vp vq : Value) (pl ql : List Nat) (w : World) (hf : FldB D w b) (hp : Sl .i64 w vp (ints pl)) (hq : Sl .i64 w vq (ints ql)) (h1 : cErr D (ints pl) = 0) (h2 : cErr D (ints ql) = 0)
include hf hp hq h1 h2
set_option maxRecDepth 20000 in
theorem both_any : Calls Tryz.prog 215 #[.pointer (some ⟨b, 0, none⟩), vp, vq] w (fun e w' => w = w' /\ e = .returned (.int .i64 0)) := by
 have H1 := Kept.mk (fcheck_any vp (ints pl) w hf hp)
 have H2 := Kept.mk (fcheck_any vq (ints ql) w hf hq)
 rw [h1] at H1
 rw [h2] at H2
 clear hf hp hq h1 h2
 go_enter Tryz.func215, Tryz.ntmps215
 go_wp2_with fail
 refine H1.out.mono ?_
 rintro e w1 ⟨rfl, rfl⟩
 go_wp2_with fail
 refine H2.out.mono ?_
 rintro e w1 ⟨rfl, rfl⟩
 go_wp2
 go_ret
 exact ⟨rfl, rfl⟩
set_option maxRecDepth 20000 in
theorem fpproduct_any (hD : D.Ok) (hpq : ∀ a ∈ pl, a < D.p ^ D.k) (hqq : ∀ a ∈ ql, a < D.p ^ D.k) (hpl : pl.length <= 100000) (hqll : ql.length <= 100000) :
 Calls Tryz.prog 218 #[.pointer (some ⟨b, 0, none⟩), vp, vq] w (fun e w' => Below w.heap.size w w' /\ ∃ v, e = .returned (.tuple #[v, .int .i64 0]) /\ Sl .i64 w' v (ints (FFld.mulL D pl ql))) := by
 have HB := Kept.mk (both_any vp vq pl ql w hf hp hq h1 h2)
 have HM := Kept.mk (multiply_any hD vp vq pl ql w hf hp hq hpq hqq hpl hqll)
 clear hf hp hq h1 h2 hpq hqq
 go_enter Tryz.func218, Tryz.ntmps218
 go_wp2_with fail
 refine HB.out.mono ?_
 rintro e w1 ⟨rfl, rfl⟩
 go_wp2_with fail
 refine HM.out.mono ?_
 rintro e w2 ⟨hb2, v, rfl, hs2⟩
 have HB2 := Kept.mk hb2
 have HS2 := Kept.mk hs2
 clear hb2 hs2
 go_wp2
 go_ret2
 exact ⟨HB2.out, _, rfl, HS2.out⟩
set_option maxRecDepth 20000 in
theorem fpdivide_any (hD : D.Ok) (hpq : ∀ a ∈ pl, a < D.p ^ D.k) (hqq : ∀ a ∈ ql, a < D.p ^ D.k) (h0 : 0 < ql.length) (ht : FFld.Tz ql) (hpl : pl.length <= 100000) (hqll : ql.length <= 100000) :
 Calls Tryz.prog 162 #[.pointer (some ⟨b, 0, none⟩), vp, vq] w (fun e w' => Below w.heap.size w w' /\ ∃ v v2, e = .returned (.tuple #[v, v2, .int .i64 0]) /\ Sl .i64 w' v (ints (FFld.quoF D ql (FFld.invT D hD.pre.pk ql) pl)) /\ Sl .i64 w' v2 (ints (FFld.rstF D ql (FFld.invT D hD.pre.pk ql) pl))) := by
 have HB := Kept.mk (both_any vp vq pl ql w hf hp hq h1 h2)
 have HM := Kept.mk (divide_any hD vp vq pl ql w hf hp hq hpq hqq h0 (ht.top (by omega)) hpl hqll)
 obtain ⟨aq, cq, hvq, hcq, hmq⟩ := hq.form
 subst hvq
 rw [FFld.ints_len] at HB HM ⊢
 obtain ⟨nq, hnq⟩ : ∃ n, ql.length = n := ⟨_, rfl⟩
 have HDE := Kept.mk (fun qs rs inv h => FFld.deRet_eq (D := D) (ql := ql) (pl := pl) (qs := qs) (rs := rs) (inv := inv) h0 h)
 rw [hnq] at HB h0 ⊢
 have HM2 : Kept (Calls Tryz.prog 216 #[.pointer (some ⟨b, 0, none⟩), vp, .slice aq nq cq] w (DeRet D ql (FFld.invT D hD.pre.pk ql) pl w)) := ⟨by have := HM.out; rw [hnq] at this; unfold FFld.invT; rw [hnq]; exact this⟩
 have e0 : ((nq : Int) == 0) = false := by rw [beq_eq_false_iff_ne]; omega
 clear hf hp hq h1 h2 hpq hqq hnq HM hcq ht
 go_enter Tryz.func162, Tryz.ntmps162
 go_wp2_with fail
 refine HB.out.mono ?_
 rintro e w1 ⟨rfl, rfl⟩
 go_wp2_with fail
 refine HM2.out.mono ?_
 rintro e w2 ⟨hb2, v, v2, qs, rs, rfl, hs2, hs3, hc2⟩
 obtain ⟨e1, e2⟩ := HDE.out _ _ _ hc2
 rw [e1] at hs2
 rw [e2] at hs3
 have HB2 := Kept.mk hb2
 have HS2 := Kept.mk hs2
 have HS3 := Kept.mk hs3
 clear hb2 hs2 hs3 hc2 e1 e2
 go_wp2
 go_ret3
 exact ⟨HB2.out, _, _, rfl, HS2.out, HS3.out⟩
end
end Go.Proofs.YtdnheaafcbihbaaGreat
namespace Go.Proofs.YtdnheaafcbihbaaGreat
open Go Go.RowKit Go.Deep
open FFld (ints)
namespace FFld
theorem range_put {n : Nat} (f g : Nat -> Nat) {i : Nat} (h : ∀ j, j < n -> g j = if j = i then g i else f j) : ((List.range n).map f).set i (g i) = (List.range n).map g := by
 refine ext_getD (by simp) fun j hj => ?_
 have hj' : j < n := by simpa using hj
 rw [set_get, range_get _ hj', range_get _ hj']
 by_cases e : i = j
 ·rw [if_pos ⟨e, by simpa using hj'⟩, e]
 ·rw [if_neg (by omega), h j hj', if_neg (by omega)]
def valsF (D : FD) (pl xs : List Nat) (i : Nat) : List Nat := (List.range xs.length).map fun j => if j < i then hornF D (trm pl) (xs[j]?.getD 0) (trm pl).length else 0
theorem valsF_len (D : FD) (pl xs : List Nat) (i : Nat) : (valsF D pl xs i).length = xs.length := by simp [valsF]
theorem valsF_zero (D : FD) (pl xs : List Nat) : valsF D pl xs 0 = List.replicate xs.length 0 := by
 unfold valsF
 refine ext_getD (by simp) fun j hj => ?_
 have hj' : j < xs.length := by simpa using hj
 rw [range_get _ hj', if_neg (by omega), List.getElem?_replicate, if_pos hj']
 rfl
theorem valsF_next (D : FD) (pl xs : List Nat) {i : Nat} (hi : i < xs.length) : (valsF D pl xs i).set i (hornF D (trm pl) (xs[i]?.getD 0) (trm pl).length) = valsF D pl xs (i + 1) := by
 have h := range_put (n := xs.length) (fun j => if j < i then hornF D (trm pl) (xs[j]?.getD 0) (trm pl).length else 0) (fun j => if j < i + 1 then hornF D (trm pl) (xs[j]?.getD 0) (trm pl).length else 0) (i := i) fun j hj => by
  by_cases e : j = i
  ·rw [if_pos e, e]
  ·rw [if_neg e]
   by_cases e2 : j < i
   ·rw [if_pos e2, if_pos (by omega)]
   ·rw [if_neg e2, if_neg (by omega)]
 rw [if_pos (by omega)] at h
 exact h
end FFld
theorem sl_trm {w : World} {ap : Option Addr} {cp : Nat} {pl : List Nat} (h : Sl .i64 w (.slice ap pl.length cp) (ints pl)) : Sl .i64 w (.slice ap (FFld.trm pl).length cp) (ints (FFld.trm pl)) := by
 obtain ⟨ap', cp', e, hc, hm, hx⟩ := h
 simp only [Value.slice.injEq] at e
 obtain ⟨rfl, e2, rfl⟩ := e
 clear e2
 have hl := FFld.trm_len_le pl
 rw [FFld.ints_len] at hc
 refine ⟨ap, cp, by rw [FFld.ints_len], by rw [FFld.ints_len]; omega, hm, fun i hi => ?_⟩
 rw [FFld.ints_len] at hi
 obtain ⟨b, o, rfl, h1, h2⟩ := hx i (by rw [FFld.ints_len]; omega)
 refine ⟨b, o, rfl, h1, ?_⟩
 rw [h2, FFld.ints_get, FFld.ints_get]
 unfold FFld.trm
 rw [FFld.take_getD (by rw [<- FFld.trm_len]; exact hi)]
set_option maxRecDepth 20000 in
theorem cvalues_any {D : FFld.FD} {b : Nat} (hD : D.Ok) (ax ap : Option Addr) (cx cp : Nat) (xs pl : List Nat) (w : World) (hf : FldB D w b) (hx : Sl .i64 w (.slice ax xs.length cx) (ints xs)) (hp : Sl .i64 w (.slice ap pl.length cp) (ints pl)) (hxq : ∀ a ∈ xs, a < D.p ^ D.k) (hpq : ∀ a ∈ pl, a < D.p ^ D.k) (hxl : xs.length <= 1000) (hpl : pl.length <= 200) :
 Calls Tryz.prog 87 #[.pointer (some ⟨b, 0, none⟩), .slice ax xs.length cx, .slice ap pl.length cp] w (fun e w' => Below w.heap.size w w' /\ e = .returned (.slice (some ⟨w.heap.size, 0, none⟩) xs.length xs.length) /\ Wv w' w.heap.size (FFld.valsF D pl xs xs.length)) := by
 have hq6 : D.p ^ D.k <= 65536 := hD.pre.small
 have hmk := run_make_row' (P := Tryz.prog) 22 3 (.int .i64 0) 8 Tryz.underlying22 info_i64 rfl .i64 .i64 xs.length (by omega) (by omega)
 have HT := Kept.mk (ctrimmed_any pl ap cp w hp)
 obtain ⟨T, hT⟩ : ∃ T, FFld.trm pl = T := ⟨_, rfl⟩
 have hTl : T.length <= pl.length := by rw [<- hT]; exact FFld.trm_len_le pl
 have hTq : ∀ a ∈ T, a < D.p ^ D.k := by rw [<- hT]; exact FFld.trm_lt hpq
 have hTz : FFld.Tz T := by rw [<- hT]; exact FFld.trm_tz pl
 have hST : Sl .i64 w (.slice ap T.length cp) (ints T) := by
  rw [<- hT]
  exact sl_trm hp
 have hcE := cErr_poly hTq hTz (by omega)
 have HVN := Kept.mk (fun i (hi : i < xs.length) => FFld.valsF_next D pl xs hi)
 have HVL := Kept.mk (FFld.valsF_len D pl xs)
 have HV := Kept.mk (fun (W : World) (hW : Below w.heap.size w W) (x : Nat) (h1 : x < D.p ^ D.k) => fvalue_any (.slice ap T.length cp) T (x : Int) x W (hf.below hW) (hST.below hW) hcE hTq (by omega) (by omega) (md_nat h1) h1 (by omega))
 rw [hT] at HT HVN
 have hrow : (w.alloc (.cells (madeCells #[.int .i64 0] xs.length) 3)).heap[w.heap.size]? = some (.cells ((ints (List.replicate xs.length 0)).map (Value.int .i64)).toArray 3 (0, 0)) := by rw [<- made_zeros]; exact heap_alloc_new w _
 have hal : Below w.heap.size w (w.alloc (.cells (madeCells #[.int .i64 0] xs.length) 3)) := (Below.refl _ _).alloc (Nat.le_refl _) _
 have HW0 : Kept (Wv (w.alloc (.cells (madeCells #[.int .i64 0] xs.length) 3)) w.heap.size (FFld.valsF D pl xs 0)) := ⟨by rw [FFld.valsF_zero]; exact Row.wv hrow⟩
 have HB0 := Kept.mk hal
 have HXS := Kept.mk hx
 have HXQ := Kept.mk hxq
 clear hT hTl hTq hTz hST hcE hrow hal hf hx hp hxq hpq
 obtain ⟨n, hn⟩ : ∃ n, xs.length = n := ⟨_, rfl⟩
 rw [hn] at hmk HVN HVL HW0 HB0 HXS hxl ⊢
 have HN := Kept.mk hn
 clear hn
 go_enter Tryz.func87, Tryz.ntmps87
 go_wp2_with fail
 refine HT.out.mono ?_
 rintro e w1 ⟨rfl, rfl⟩
 go_wp2
 obtain ⟨g, hg⟩ : ∃ g, w.heap.size = g := ⟨_, rfl⟩
 obtain ⟨W1, hW1⟩ : ∃ W, w.alloc (.cells (madeCells #[.int .i64 0] n) 3) = W := ⟨_, rfl⟩
 rw [hW1] at HW0 HB0
 try rw [hW1]
 rw [hg] at HW0
 try rw [hg]
 have hgw : w.heap.size <= g := by omega
 have HGG := Kept.mk hg
 clear hW1 hg hmk HT
 go_loopw [18] (fun iv wr => ∃ (i : Nat), i <= n /\ iv = .int .i64 i /\ Kept (Below w.heap.size w wr) /\ Kept (Wv wr g (FFld.valsF D pl xs i))) (fun iv _ => n - (intOf iv).toNat)
 case atStart => exact ⟨0, Nat.zero_le _, rfl, HB0, HW0⟩
 case round =>
  obtain ⟨i, hin, rfl, hbw, hwv⟩ := hrel
  by_cases hlt : i < n
  ·obtain ⟨ax', cx', e, hcx, hmx, hcc⟩ := HXS.out.below hbw.out
   simp only [Value.slice.injEq] at e
   obtain ⟨rfl, e2, rfl⟩ := e
   clear e2
   obtain ⟨bx, ox, rfl, hbx, hcell⟩ := hcc i (by rw [FFld.ints_len, HN.out]; exact hlt)
   rw [FFld.ints_get] at hcell
   rw [FFld.ints_len, HN.out] at hcx
   have hxlt := FFld.getD_lt (Nat.pow_pos hD.pre.pk.p0) HXQ.out i
   have HNX := Kept.mk (HVN.out i hlt)
   obtain ⟨x, hx⟩ : ∃ x, xs[i]?.getD 0 = x := ⟨_, rfl⟩
   rw [hx] at hcell hxlt HNX
   have HC := Kept.mk (HV.out wr hbw.out x hxlt)
   obtain ⟨y, hy⟩ : ∃ y, FFld.hornF D T x T.length = y := ⟨_, rfl⟩
   rw [hy] at HC HNX
   have hgl := hwv.out.lt
   unfold maxLen at hmx
   clear hx hy hcc hxlt
   go_wp2_with fail
   refine HC.out.mono ?_
   rintro e w2 ⟨hb2, rfl⟩
   have HB2 := Kept.mk (bstep hbw.out hb2)
   have HW2 := Kept.mk (hwv.out.below hb2)
   have c1 := HW2.out.cell (i := i) (by rw [HVL.out]; exact hlt)
   have z1 := HW2.out.free i
   have HW3 : Kept (Wv (w2.setCell ⟨g, i, none⟩ (.int .i64 (y : Nat))) g (FFld.valsF D pl xs (i + 1))) := ⟨by have := HW2.out.set (i := i) y; rw [HNX.out] at this; exact this⟩
   have HB3 : Kept (Below w.heap.size w (w2.setCell ⟨g, i, none⟩ (.int .i64 (y : Nat)))) := ⟨HB2.out.setCell (p := ⟨g, i, none⟩) hgw _⟩
   clear hb2
   go_wp2
   go_roundw
   case rel => exact ⟨i + 1, by omega, by go_num, HB3, HW3⟩
   case measure => simp [intOf] <;> omega
  ·obtain rfl : i = n := by omega
   go_wp2
   go_ret
   rw [HGG.out]
   exact ⟨HGG.out ▸ hbw.out, rfl, hwv.out⟩
end Go.Proofs.YtdnheaafcbihbaaGreat
namespace Go.Proofs.YtdnheaafcbihbaaGreat
open Go Go.RowKit Go.Deep
open FFld (ints)
namespace FFld
def prodF (D : FD) (fs : List (List Nat)) : Nat -> List Nat
 | 0 => [1]
 | i + 1 => mulL D (prodF D fs i) (fs[i]?.getD [])
theorem prodF_lt {D : FD} (hk : PK D.p D.k D.m) (fs : List (List Nat)) : ∀ i, ∀ a ∈ prodF D fs i, a < D.p ^ D.k
 | 0 => fun a ha => by rw [List.mem_singleton.1 ha]; exact hk.one_lt
 | i + 1 => mulL_lt hk _ _
theorem get_mem {α : Type} {l : List α} {i : Nat} {d : α} (h : i < l.length) : l[i]?.getD d ∈ l := by
 rw [List.getElem?_eq_getElem h]
 exact List.getElem_mem h
theorem prodF_tz {D : FD} (hD : D.Ok) {fs : List (List Nat)} (hq : ∀ l ∈ fs, ∀ a ∈ l, a < D.p ^ D.k) (hz : ∀ l ∈ fs, Tz l) : ∀ i, i <= fs.length -> Tz (prodF D fs i)
 | 0, _ => .inr (by show (1 : Nat) ≠ 0; decide)
 | i + 1, hi => mulL_tz hD (prodF_lt hD.pre.pk fs i) (hq _ (get_mem (by omega))) (prodF_tz hD hq hz i (by omega)) (hz _ (get_mem (by omega)))
end FFld
theorem cone_sl (W : World) (x : Int) : Sl .i64 (W.alloc (.cells #[.int .i64 x] 3)) (.slice (some ⟨W.heap.size, 0, none⟩) 1 1) [x] := by
 refine ⟨_, 1, rfl, Nat.le_refl _, by unfold maxLen; omega, fun i hi => ⟨W.heap.size, 0, rfl, by simp, ?_⟩⟩
 obtain rfl : i = 0 := by simpa using hi
 exact (Row.new (E := 3) (K := .i64) W [x]).cell (i := 0) (by simp)
set_option maxRecDepth 20000 in
theorem cproduct_any {D : FFld.FD} {b : Nat} (hD : D.Ok) (af : Option Addr) (cf : Nat) (fs : List (List Nat)) (w : World) (hf : FldB D w b) (h : Sls w af (fs.map ints)) (hc : fs.length <= cf) (hcm : cf <= maxLen) (hq : ∀ l ∈ fs, ∀ a ∈ l, a < D.p ^ D.k) (hz : ∀ l ∈ fs, FFld.Tz l) (hl : ∀ l ∈ fs, l.length <= 200) (hpl : ∀ i, i <= fs.length -> (FFld.prodF D fs i).length <= 200) (hfl : fs.length <= 1000) :
 Calls Tryz.prog 166 #[.pointer (some ⟨b, 0, none⟩), .slice af fs.length cf] w (fun e w' => Below w.heap.size w w' /\ ∃ v, e = .returned v /\ Sl .i64 w' v (ints (FFld.prodF D fs fs.length))) := by
 have HP := Kept.mk (fun (W : World) (hW : Below w.heap.size w W) (i : Nat) (hi : i < fs.length) (va vb : Value) (ha : Sl .i64 W va (ints (FFld.prodF D fs i))) (hb : Sl .i64 W vb (ints (fs[i]?.getD []))) =>
  fpproduct_any va vb (FFld.prodF D fs i) (fs[i]?.getD []) W (hf.below hW) ha hb (cErr_poly (FFld.prodF_lt hD.pre.pk fs i) (FFld.prodF_tz hD hq hz i (by omega)) (hpl i (by omega))) (cErr_poly (hq _ (FFld.get_mem hi)) (hz _ (FFld.get_mem hi)) (hl _ (FFld.get_mem hi))) hD (FFld.prodF_lt hD.pre.pk fs i) (hq _ (FFld.get_mem hi)) (by have := hpl i (by omega); omega) (by have := hl _ (FFld.get_mem (d := []) hi); omega))
 have HS := Kept.mk h
 obtain ⟨n, hn⟩ : ∃ n, fs.length = n := ⟨_, rfl⟩
 rw [hn] at HP hc hfl ⊢
 have HN := Kept.mk hn
 unfold maxLen at hcm
 have h0 : Below w.heap.size w (w.alloc (.cells #[.int .i64 1] 3)) := (Below.refl _ _).alloc (Nat.le_refl _) _
 have HB0 := Kept.mk h0
 have HS0 : Kept (Sl .i64 (w.alloc (.cells #[.int .i64 1] 3)) (.slice (some ⟨w.heap.size, 0, none⟩) 1 1) (ints (FFld.prodF D fs 0))) := ⟨cone_sl w 1⟩
 clear hf h hq hz hl hpl hn h0
 go_enter Tryz.func166, Tryz.ntmps166
 go_wp2
 go_loopw [5, 11] (fun rv iv wr => ∃ (i : Nat) (ra : Option Addr) (rn rc : Nat), i <= n /\ iv = .int .i64 i /\ rv = .slice ra rn rc /\ Kept (Below w.heap.size w wr) /\ Kept (Sl .i64 wr (.slice ra rn rc) (ints (FFld.prodF D fs i)))) (fun _ iv _ => n - (intOf iv).toNat)
 case atStart => exact ⟨0, _, _, _, Nat.zero_le _, rfl, rfl, HB0, HS0⟩
 case round =>
  obtain ⟨i, ra, rn, rc, hin, rfl, rfl, hbw, hs⟩ := hrel
  by_cases hlt : i < n
  ·obtain ⟨g, o, fv, rfl, hg, hcell, hfs⟩ := (HS.out.below hbw.out) i (by rw [List.length_map, HN.out]; exact hlt)
   have e1 : (fs.map ints)[i]?.getD [] = ints (fs[i]?.getD []) := by
    rw [List.getElem?_map]
    cases fs[i]? with
    | none => rfl
    | some l => rfl
   rw [e1] at hfs
   obtain ⟨fa, fc, rfl, hfc, hfm⟩ := hfs.form
   rw [FFld.ints_len] at hcell hfs hfc
   have HC := Kept.mk (HP.out wr hbw.out i hlt _ _ hs.out hfs)
   obtain ⟨fl, hfl2⟩ : ∃ m, (fs[i]?.getD []).length = m := ⟨_, rfl⟩
   rw [hfl2] at hcell HC
   clear hfs hfc hfl2 e1
   go_wp2_with fail
   refine HC.out.mono ?_
   rintro e w2 ⟨hb2, v2, rfl, hs2⟩
   obtain ⟨a2, c2, rfl, _, _⟩ := hs2.form
   have HB2 := Kept.mk (bstep hbw.out hb2)
   have HS2 := Kept.mk hs2
   clear hb2 hs2
   go_wp2
   go_roundw
   case rel => exact ⟨i + 1, _, _, _, by omega, by go_num, rfl, HB2, HS2⟩
   case measure => simp [intOf] <;> omega
  ·obtain rfl : i = n := by omega
   go_wp2
   go_ret
   exact ⟨hbw.out, _, rfl, hs.out⟩
end Go.Proofs.YtdnheaafcbihbaaGreat
namespace Go.Proofs.YtdnheaafcbihbaaGreat
namespace FFld
section
variable {D : FD} (hD : D.Ok)
structure GaoOk (xs ys : List Nat) (n : Nat) (bf nw el e : List Nat) : Prop where
 blt : ∀ a ∈ bf, a < D.p ^ D.k
 nlt : ∀ a ∈ nw, a < D.p ^ D.k
 llt : ∀ a ∈ el, a < D.p ^ D.k
 elt : ∀ a ∈ e, a < D.p ^ D.k
 tb : Tz bf
 tn : Tz nw
 tl : Tz el
 te : Tz e
 len : e.length + bf.length = n + 2
 low : nw.length < bf.length
 up : el.length < e.length
 ev1 : ∀ j, j < n -> evE hD bf (plE hD xs j) = (FD.dom hD.nzd).mul (evE hD el (plE hD xs j)) (plE hD ys j)
 ev2 : ∀ j, j < n -> evE hD nw (plE hD xs j) = (FD.dom hD.nzd).mul (evE hD e (plE hD xs j)) (plE hD ys j)
theorem evE_nil (x : El (D.p ^ D.k)) : evE hD [] x = (FD.dom hD.nzd).zero := rfl
theorem evE_one (x : El (D.p ^ D.k)) : evE hD [1] x = (FD.dom hD.nzd).one := thV_one hD (xs := []) (fun a ha => by cases ha) x
theorem GaoOk.start {xs ys nw : List Nat} {n : Nat} (hx : ∀ a ∈ xs, a < D.p ^ D.k) (hn : ∀ a ∈ nw, a < D.p ^ D.k) (tn : Tz nw) (ln : nw.length <= n) (hv : Tz (thV D xs n)) (he : ∀ j, j < n -> evE hD nw (plE hD xs j) = plE hD ys j) : GaoOk hD xs ys n (thV D xs n) nw [] [1] := by
 have hk := hD.pre.pk
 refine ⟨thV_lt hk xs n, hn, fun a ha => (by cases ha), fun a ha => (by rw [List.mem_singleton.1 ha]; exact hk.one_lt), hv, tn, .inl rfl, .inr (by decide), by rw [thV_len]; simp; omega, by rw [thV_len]; omega, by decide, fun j hj => ?_, fun j hj => ?_⟩
 ·rw [evE_nil, Dom.zero_mul]
  exact thV_zero hD hx n j hj
 ·rw [evE_one, Dom.one_mul]
  exact he j hj
theorem GaoOk.next {xs ys bf nw el e : List Nat} {n mi : Nat} (h : GaoOk hD xs ys n bf nw el e) (h0 : nw.length ≠ 0) (hm : mi < D.p ^ D.k) (hmi : toE hD.pre.pk mi = (FD.dom hD.nzd).neg (FD.dom hD.nzd).one) :
 GaoOk hD xs ys n nw (rstF D nw (invT D hD.pre.pk nw) bf) e (plusF D el (mulL D (quoF D nw (invT D hD.pre.pk nw) bf) e) mi 0) := by
 have hk := hD.pre.pk
 have htop : nw[nw.length - 1]?.getD 0 ≠ 0 := by
  rcases h.tn with h1 | h1
  ·exact absurd h1 h0
  ·exact h1
 have hql := quoF_lt (D := D) hk nw (invT D hk nw) bf
 have hqt := quo_tz hD h.nlt h.blt (by omega) htop h.tb
 have hqn := quo_len_is (D := D) (ql := nw) (pl := bf) (invT D hk nw) (by have := h.low; omega)
 have hlow := h.low
 have hup := h.up
 have hpl := mulL_len_is (D := D) (pl := quoF D nw (invT D hk nw) bf) (ql := e) (by omega) (by omega)
 have hpt := mulL_tz hD hql h.elt hqt h.te
 have hp := mulL_lt (D := D) hk (quoF D nw (invT D hk nw) bf) e
 have hm0 : mi ≠ 0 := fun e0 => by
  rw [e0, toE_zero hD] at hmi
  have h1 := (FD.dom hD.nzd).add_neg (FD.dom hD.nzd).one
  rw [<- hmi, (FD.dom hD.nzd).add_zero] at h1
  exact (FD.dom hD.nzd).one_ne h1
 have hlen := plusF_len hD (p := el) hp hpt hm hm0 (by omega)
 refine ⟨h.nlt, rstF_lt hk _ _ h.blt, h.elt, plusF_lt hk h.llt, h.tn, rstF_tz D _ _ h.tb, h.te, plusF_tz _ _ _ _, ?_, ?_, ?_, h.ev2, fun j hj => ?_⟩
 ·rw [hlen, hpl, hqn]
  have := h.len
  omega
 ·have := rst_short hD h.nlt h.blt (by omega) htop
  omega
 ·rw [hlen, hpl, hqn]
  omega
 ·have e1 := div_ev hD (invT D hk nw) h.nlt h.blt (by omega) (plE hD xs j)
  rw [h.ev1 j hj, h.ev2 j hj] at e1
  rw [plusF_ev hD h.llt hp hm, evE_mulL hD hql h.elt, hmi, Dom.pow_zero, Dom.one_mul, Dom.neg_mul, Dom.one_mul, Dom.add_mul, Dom.neg_mul, e1]
  generalize evE hD (quoF D nw (invT D hk nw) bf) (plE hD xs j) = q
  generalize evE hD (rstF D nw (invT D hk nw) bf) (plE hD xs j) = r
  generalize evE hD e (plE hD xs j) = ee
  generalize plE hD ys j = y
  rw [Dom.mul_assoc, Dom.add_assoc, Dom.add_neg, Dom.add_zero]
theorem near {xs ys Q E P : List Nat} {n t : Nat} (hQ : ∀ a ∈ Q, a < D.p ^ D.k) (hE : ∀ a ∈ E, a < D.p ^ D.k) (hP : ∀ a ∈ P, a < D.p ^ D.k) (tQ : Tz Q) (tE : Tz E) (tP : Tz P) (hx : ∀ a ∈ xs, a < D.p ^ D.k) (hE0 : E.length ≠ 0)
 (hd : ∀ a b, a < n -> b < n -> a ≠ b -> xs[a]?.getD 0 ≠ xs[b]?.getD 0) (lQ : Q.length + t <= n) (lE : E.length + P.length + t <= n + 1) (hev : ∀ j, j < n -> evE hD Q (plE hD xs j) = (FD.dom hD.nzd).mul (evE hD E (plE hD xs j)) (plE hD ys j))
 (G : List Nat) (hG : G.Nodup) (hGn : ∀ j ∈ G, j < n) (hGl : n <= G.length + t) (hGe : ∀ j ∈ G, evE hD P (plE hD xs j) = plE hD ys j) : quoF D E (invT D hD.pre.pk E) Q = P /\ rstF D E (invT D hD.pre.pk E) Q = [] := by
 have hk := hD.pre.pk
 have htop : E[E.length - 1]?.getD 0 ≠ 0 := by
  rcases tE with h1 | h1
  ·exact absurd h1 hE0
  ·exact h1
 have hmlt := mulL_lt (D := D) hk E P
 have hlen : (mulL D E P).length + t <= n := by
  by_cases hp0 : P.length = 0
  ·have e : mulL D E P = [] := by unfold mulL; rw [if_pos (.inr hp0)]
   rw [e]
   simp
   omega
  ·rw [mulL_len_is hE0 hp0]
   omega
 have hinj : ∀ a ∈ G, ∀ b ∈ G, a ≠ b -> plE hD xs a ≠ plE hD xs b := fun a ha b hb hab e => hd a b (hGn a ha) (hGn b hb) hab (toE_inj hk (at_lt hD hx a) (at_lt hD hx b) e)
 have hnd : (G.map (plE hD xs)).Nodup := by
  clear hGl hGe hGn
  induction G with
  | nil => exact List.nodup_nil
  | cons a G ih =>
    rw [List.map_cons, List.nodup_cons]
    obtain ⟨h1, h2⟩ := List.nodup_cons.1 hG
    refine ⟨fun hm => ?_, ih h2 fun c hc b hb => hinj c (List.mem_cons_of_mem _ hc) b (List.mem_cons_of_mem _ hb)⟩
    obtain ⟨b, hb, e⟩ := List.mem_map.1 hm
    exact hinj a (List.mem_cons_self ..) b (List.mem_cons_of_mem _ hb) (fun hab => h1 (hab ▸ hb)) e.symm
 have hQE : Q = mulL D E P := interp hD (n := G.length) hQ hmlt tQ (mulL_tz hD hE hP tE tP) (by omega) (by omega) (G.map (plE hD xs)) hnd (by simp) fun r hr => by
  obtain ⟨j, hj, rfl⟩ := List.mem_map.1 hr
  rw [hev j (hGn j hj), evE_mulL hD hE hP, hGe j hj]
 have hser : serL hD Q = (FD.dom hD.nzd).ser.mul (serL hD E) (serL hD P) := by rw [hQE, serL_mulL hD hE hP]
 have hrst : rstF D E (invT D hk E) Q = [] := by
  refine RemIs.uniq hD hE (by omega) htop (f := serL hD Q) (RemIs.of hD hE (by omega) htop hQ tQ (Eqv.refl _)) ⟨fun a ha => (by cases ha), .inl rfl, by simp; omega, ?_⟩
  rw [serL_nil hD (l := []) rfl, hser]
  refine ⟨serL hD P, serL_pl hD P, ?_⟩
  have hnz : (FD.dom hD.nzd).ser.neg (FD.dom hD.nzd).ser.zero = (FD.dom hD.nzd).ser.zero := Dom.neg_zero _
  rw [hnz, (FD.dom hD.nzd).ser.add_zero, (FD.dom hD.nzd).ser.mul_comm]
 refine ⟨?_, hrst⟩
 have h1 := div_ser hD (invT D hk E) hE hQ (by omega)
 rw [hrst, serL_nil hD (l := []) rfl, Dom.zero_add, hser, (FD.dom hD.nzd).ser.mul_comm] at h1
 have hEn : serL hD E ≠ (FD.dom hD.nzd).ser.zero := (serL_dg hD hE hE0 tE).ne
 rw [(FD.dom hD.nzd).ser.mul_comm, (FD.dom hD.nzd).ser.mul_comm _ (serL hD E)] at h1
 have h2 := Dom.mul_left_cancel _ hEn h1
 exact tz_ext (quo_tz hD hE hQ (by omega) htop tQ) tP (ser_get hD (quoF_lt hk _ _ _) hP h2.symm)
end
end FFld
end Go.Proofs.YtdnheaafcbihbaaGreat
