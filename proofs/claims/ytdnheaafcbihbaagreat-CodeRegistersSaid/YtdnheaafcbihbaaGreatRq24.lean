/-
  Texts of the proof, merged by program: Cqu Cnp Cmk Bmc Prf Bml.
-/
import Derived.Test.YtdnheaafcbihbaaGreatRq23
set_option linter.unusedSimpArgs false
set_option linter.unusedVariables false
set_option maxHeartbeats 16000000
namespace Go.Proofs.YtdnheaafcbihbaaGreat
open Go Go.RowKit Go.Deep
open FFld (ints)
def Good (D : FFld.FD) (xs ys Qu Rs : List Nat) (k rad : Nat) : Prop := Rs = [] /\ Qu.length <= k /\ disF (ints (FFld.valsF D Qu xs xs.length)) (ints ys) xs.length <= rad
open Classical in
noncomputable def goodB (D : FFld.FD) (xs ys Qu Rs : List Nat) (k rad : Nat) : Bool := decide (Good D xs ys Qu Rs k rad)
def QuRet (D : FFld.FD) (xs ys Qu Rs : List Nat) (k rad : Nat) (w : World) (e : Ending) (w' : World) : Prop := Below w.heap.size w w' /\ ∃ v, e = .returned (.tuple #[v, .bool (goodB D xs ys Qu Rs k rad)]) /\ (Good D xs ys Qu Rs k rad -> Sl .i64 w' v (ints Qu))
open Classical in
theorem good_no {D : FFld.FD} {xs ys Qu Rs : List Nat} {k rad : Nat} (h : ¬ Good D xs ys Qu Rs k rad) : goodB D xs ys Qu Rs k rad = false := by
 unfold goodB
 exact decide_eq_false h
open Classical in
theorem good_yes {D : FFld.FD} {xs ys Qu Rs : List Nat} {k rad : Nat} (h : Good D xs ys Qu Rs k rad) : goodB D xs ys Qu Rs k rad = true := by
 unfold goodB
 exact decide_eq_true h
set_option maxRecDepth 20000 in
theorem cquot_any {D : FFld.FD} {b : Nat} (hD : D.Ok) (ax ay aq ae : Option Addr) (cx cy cq ce k rad n : Nat) (xs ys Q E : List Nat) (w : World) (hf : FldB D w b) (hx : Sl .i64 w (.slice ax n cx) (ints xs)) (hy : Sl .i64 w (.slice ay n cy) (ints ys)) (lx : xs.length = n) (ly : ys.length = n) (hxq : ∀ a ∈ xs, a < D.p ^ D.k) (hyq : ∀ a ∈ ys, a < D.p ^ D.k) (hn : n <= 64) (hr : rad <= 64) (hk6 : k <= 64)
 (hQ : Sl .i64 w (.slice aq Q.length cq) (ints Q)) (hE : Sl .i64 w (.slice ae E.length ce) (ints E)) (qQ : ∀ a ∈ Q, a < D.p ^ D.k) (qE : ∀ a ∈ E, a < D.p ^ D.k) (tQ : FFld.Tz Q) (tE : FFld.Tz E) (lQ : Q.length <= 200) (lE : E.length <= 200) (hE0 : E.length ≠ 0) :
 Calls Tryz.prog 91 #[rcv b (.slice ax n cx) (.slice ay n cy) k rad, .agg #[.slice aq Q.length cq, .slice ae E.length ce]] w (QuRet D xs ys (FFld.quoF D E (FFld.invT D hD.pre.pk E) Q) (FFld.rstF D E (FFld.invT D hD.pre.pk E) Q) k rad w) := by
 have hk := hD.pre.pk
 have HX0 : Kept (Bxs w [rcbox b (.slice ax n cx) (.slice ay n cy) k rad, fabox (.slice aq Q.length cq) (.slice ae E.length ce)] ((w.alloc (rcbox b (.slice ax n cx) (.slice ay n cy) k rad)).alloc (fabox (.slice aq Q.length cq) (.slice ae E.length ce)))) := ⟨((Bxs.start w).alloc (by simp) _).alloc (by simp) _⟩
 have HDV := Kept.mk (fun (W : World) (hW : Below w.heap.size w W) => fpdivide_any (.slice aq Q.length cq) (.slice ae E.length ce) Q E W (hf.below hW) (hQ.below hW) (hE.below hW) (cErr_poly qQ tQ lQ) (cErr_poly qE tE lE) hD qQ qE (by omega) tE (by omega) (by omega))
 obtain ⟨Qu, hQu⟩ : ∃ l, FFld.quoF D E (FFld.invT D hD.pre.pk E) Q = l := ⟨_, rfl⟩
 obtain ⟨Rs, hRs⟩ : ∃ l, FFld.rstF D E (FFld.invT D hD.pre.pk E) Q = l := ⟨_, rfl⟩
 have qQu : ∀ a ∈ Qu, a < D.p ^ D.k := by rw [<- hQu]; exact FFld.quoF_lt hk _ _ _
 rw [hQu, hRs] at HDV ⊢
 have HVA := Kept.mk (fun (W : World) (hW : Below w.heap.size w W) (aa : Option Addr) (ca : Nat) (h : Sl .i64 W (.slice aa Qu.length ca) (ints Qu)) (hl : Qu.length <= 200) => cvalues_any hD ax aa cx ca xs Qu W (hf.below hW) (by rw [lx]; exact hx.below hW) h hxq qQu (by omega) hl)
 rw [lx] at HVA
 have HYS := Kept.mk hy
 have HVL : Kept ((FFld.valsF D Qu xs n).length = n) := ⟨by rw [FFld.valsF_len, lx]⟩
 have HYL := Kept.mk ly
 have HGD : Kept (Good D xs ys Qu Rs k rad ↔ Rs = [] /\ Qu.length <= k /\ disF (ints (FFld.valsF D Qu xs n)) (ints ys) n <= rad) := ⟨by unfold Good; rw [lx]⟩
 have HGN := Kept.mk (fun h => good_no (D := D) (xs := xs) (ys := ys) (Qu := Qu) (Rs := Rs) (k := k) (rad := rad) h)
 have HGY := Kept.mk (fun h => good_yes (D := D) (xs := xs) (ys := ys) (Qu := Qu) (Rs := Rs) (k := k) (rad := rad) h)
 obtain ⟨nQ, hnQ⟩ : ∃ n, Q.length = n := ⟨_, rfl⟩
 obtain ⟨nE, hnE⟩ : ∃ n, E.length = n := ⟨_, rfl⟩
 rw [hnQ, hnE] at HX0 HDV ⊢
 clear hf hx hy hxq hyq hQ hE qQ qE tQ tE hQu hRs qQu lx ly hnQ hnE lQ lE hE0
 go_enter Tryz.func91, Tryz.ntmps91
 obtain ⟨c0, c1, c2, c3, c4⟩ := five_cells_ HX0.out.b0
 obtain ⟨d0, d1, _, _⟩ := two_cells HX0.out.b1
 go_wp2_with fail
 refine (HDV.out _ HX0.out.1).mono ?_
 rintro e w1 ⟨hb1, v1, v2, rfl, hs1, hs2⟩
 obtain ⟨a1, m1, rfl, hm1, hm1'⟩ := hs1.form
 obtain ⟨a2, m2, rfl, hm2, hm2'⟩ := hs2.form
 rw [FFld.ints_len] at hs1 hs2 hm1 hm2 ⊢
 rw [FFld.ints_len]
 have HX1 := Kept.mk (HX0.out.below hb1)
 have HS1 := Kept.mk hs1
 obtain ⟨nu, hnu⟩ : ∃ n, Qu.length = n := ⟨_, rfl⟩
 obtain ⟨nr, hnr⟩ : ∃ n, Rs.length = n := ⟨_, rfl⟩
 have HNU := Kept.mk hnu
 rw [hnu] at HS1 HVA ⊢
 rw [hnr] at hm2 ⊢
 have HNR : Kept (Rs = [] ↔ nr = 0) := ⟨by rw [<- hnr]; exact List.length_eq_zero_iff.symm⟩
 clear hb1 hs1 hs2 c0 c1 c2 c3 c4 d0 d1 hnu hnr HDV
 obtain ⟨c0, c1, c2, c3, c4⟩ := five_cells_ HX1.out.b0
 by_cases h1 : 0 < nr
 ·have HNO := Kept.mk (HGN.out (by rw [HGD.out, HNR.out]; omega))
  have HNG : Kept (¬ Good D xs ys Qu Rs k rad) := ⟨by rw [HGD.out, HNR.out]; omega⟩
  have g1 : decide ((0 : Int) < nr) = true := decide_eq_true (by omega)
  go_wp2
  exact bodyPost_ret (v := .tuple #[.slice none 0 0, .bool false]) (by simp [results, Tryz.results91, go_sem]) rfl ⟨HX1.out.1, _, by rw [HNO.out], fun h => absurd h HNG.out⟩
 ·have g1 : decide ((0 : Int) < nr) = false := decide_eq_false (by omega)
  by_cases h2 : k < nu
  ·have HNG : Kept (¬ Good D xs ys Qu Rs k rad) := ⟨by rw [HGD.out, HNU.out]; omega⟩
   have HNO := Kept.mk (HGN.out HNG.out)
   have g2 : decide ((k : Int) < nu) = true := decide_eq_true (by omega)
   go_wp2
   exact bodyPost_ret (v := .tuple #[.slice none 0 0, .bool false]) (by simp [results, Tryz.results91, go_sem]) rfl ⟨HX1.out.1, _, by rw [HNO.out], fun h => absurd h HNG.out⟩
  ·have g2 : decide ((k : Int) < nu) = false := decide_eq_false (by omega)
   obtain ⟨ds, hds⟩ : ∃ d, disF (ints (FFld.valsF D Qu xs n)) (ints ys) n = d := ⟨_, rfl⟩
   have hdl : ds <= n := by rw [<- hds]; exact disF_le _ _ _
   have HS2 : Kept (∀ W, Below w1.heap.size w1 W -> Calls Tryz.prog 87 #[.pointer (some ⟨b, 0, none⟩), .slice ax n cx, .slice a1 nu m1] W (fun e w' => Below W.heap.size W w' /\ ∃ v, e = .returned v /\ Sl .i64 w' v (ints (FFld.valsF D Qu xs n)))) := ⟨fun W hW => (HVA.out W (bstep HX1.out.1 hW) a1 m1 (HS1.out.below hW) (by omega)).mono fun e w' ⟨hb, he, hw⟩ => ⟨hb, _, he, hw.sl HVL.out.symm (Nat.le_refl _) (by unfold maxLen; omega)⟩⟩
   have HS3 : Kept (∀ W v, Below w1.heap.size w1 W -> Sl .i64 W v (ints (FFld.valsF D Qu xs n)) -> Calls Tryz.prog 96 #[v, .slice ay n cy] W (RB W (.int .i64 (ds : Nat)))) := ⟨fun W v hW hv => by
    have h := cdistance_any v (.slice ay n cy) _ _ W hv (HYS.out.below (bstep HX1.out.1 hW)) (by rw [FFld.ints_len, FFld.ints_len, HVL.out, HYL.out])
    rw [FFld.ints_len, HVL.out, hds] at h
    exact h.mono fun e w' ⟨h1, h2⟩ => ⟨by rw [<- h1]; exact Below.refl _ _, h2⟩⟩
   have HGD2 : Kept (Good D xs ys Qu Rs k rad ↔ ds <= rad) := ⟨by rw [HGD.out, HNR.out, HNU.out, hds]; omega⟩
   clear hds HGD HVA
   go_upto_region 4 with fail
   go_region_held3 (fun w' => w'.cell? ⟨w.heap.size, 0, none⟩ = some (.pointer (some ⟨b, 0, none⟩)) /\ w'.cell? ⟨w.heap.size, 1, none⟩ = some (.slice ax n cx) /\ w'.cell? ⟨w.heap.size, 2, none⟩ = some (.slice ay n cy) /\ w'.cell? ⟨w.heap.size, 4, none⟩ = some (.int .i64 rad))
    (first | exact ⟨jb0, jb1, jb2, jb3⟩ | exact ⟨ja0, ja1, ja2, ja3⟩ | exact ⟨c0, c1, c2, c4⟩ | go_keep)
    ((first
      | (go_at_call 87; (with_reducible refine (HS2.out _ ?h1).mono ?_); (case h1 => exact (by first | exact Below.refl _ _ | exact (Below.refl _ _).drew)); rintro e v1 ⟨hb1, va, rfl, hva⟩; have hy1 := Kept.mk (bstep (show Below w1.heap.size w1 _ from (by first | exact Below.refl _ _ | exact (Below.refl _ _).drew)) hb1); have ja0 := belowCell hy1.out c0; have ja1 := belowCell hy1.out c1; have ja2 := belowCell hy1.out c2; have ja3 := belowCell hy1.out c4; clear hb1)
      | (go_at_call 96; (with_reducible refine (HS3.out _ _ ?h1 ?h2).mono ?_); (case h1 => exact hy1.out); (case h2 => first | exact hva | exact hva.below (Below.refl _ _).drew); rintro e v2 ⟨hb2, rfl⟩; have hy2 := Kept.mk (bstep (show Below w1.heap.size w1 _ from hy1.out) hb2); have jb0 := belowCell hy2.out c0; have jb1 := belowCell hy2.out c1; have jb2 := belowCell hy2.out c2; have jb3 := belowCell hy2.out c4; clear hb2)))
   have HB4 := Kept.mk (bstep HX1.out.1 hy2.out)
   have HS4 := Kept.mk (HS1.out.below hy2.out)
   by_cases h3 : ds <= rad
   ·have HG := Kept.mk (HGY.out (HGD2.out.2 h3))
    have g3 : decide ((ds : Int) <= rad) = true := decide_eq_true (by omega)
    clear hy1 hy2 hva
    go_wp2
    exact bodyPost_ret (v := .tuple #[.slice a1 nu m1, .bool true]) (by simp [results, Tryz.results91, go_sem]; omega) rfl ⟨HB4.out, _, by rw [HG.out], fun _ => HS4.out⟩
   ·have HNG : Kept (¬ Good D xs ys Qu Rs k rad) := ⟨fun h => h3 (HGD2.out.1 h)⟩
    have HG := Kept.mk (HGN.out HNG.out)
    have g3 : decide ((ds : Int) <= rad) = false := decide_eq_false (by omega)
    clear hy1 hy2 hva
    go_wp2
    exact bodyPost_ret (v := .tuple #[.slice a1 nu m1, .bool false]) (by simp [results, Tryz.results91, go_sem]; omega) rfl ⟨HB4.out, _, by rw [HG.out], fun h => absurd h HNG.out⟩
structure Near (D : FFld.FD) (xs ys : List Nat) (k t : Nat) (P : List Nat) : Prop where
 lt : ∀ a ∈ P, a < D.p ^ D.k
 tz : FFld.Tz P
 len : P.length <= k
 dis : disF (ints (FFld.valsF D P xs xs.length)) (ints ys) xs.length <= t
def sameL (xs ys : List Int) (n : Nat) : List Nat := (List.range n).filter fun j => decide (xs[j]?.getD 0 = ys[j]?.getD 0)
theorem same_len (xs ys : List Int) : ∀ n, (sameL xs ys n).length + disF xs ys n = n
 | 0 => rfl
 | n + 1 => by
   have ih := same_len xs ys n
   unfold sameL at ih ⊢
   rw [List.range_succ, List.filter_append, List.filter_cons, List.filter_nil, disF, List.length_append]
   by_cases h : xs[n]?.getD 0 = ys[n]?.getD 0
   ·rw [if_pos (decide_eq_true h), if_pos h]
    simp only [List.length_cons, List.length_nil]
    omega
   ·rw [if_neg (by simpa using h), if_neg h]
    simp only [List.length_nil]
    omega
theorem vals_get {D : FFld.FD} (P xs : List Nat) {j : Nat} (hj : j < xs.length) : (FFld.valsF D P xs xs.length)[j]?.getD 0 = FFld.hornF D (FFld.trm P) (xs[j]?.getD 0) (FFld.trm P).length := by
 unfold FFld.valsF
 rw [List.getElem?_map, List.getElem?_range hj]
 simp [hj]
theorem vals_ev {D : FFld.FD} (hD : D.Ok) {P xs : List Nat} (hP : ∀ a ∈ P, a < D.p ^ D.k) (tP : FFld.Tz P) (hx : ∀ a ∈ xs, a < D.p ^ D.k) {j : Nat} (hj : j < xs.length) : FFld.toE hD.pre.pk ((FFld.valsF D P xs xs.length)[j]?.getD 0) = FFld.evE hD P (FFld.plE hD xs j) := by
 rw [vals_get P xs hj, FFld.trm_self tP]
 exact FFld.horn_ev hD hP (FFld.at_lt hD hx j)
theorem gao_near {D : FFld.FD} (hD : D.Ok) {xs ys bf Q el E P : List Nat} {n k t : Nat} (g : FFld.GaoOk hD xs ys n bf Q el E) (lx : xs.length = n) (hx : ∀ a ∈ xs, a < D.p ^ D.k) (hd : ∀ i j, j < i -> i < n -> xs[i]?.getD 0 ≠ xs[j]?.getD 0) (lQ : Q.length + t <= n) (lb : n < bf.length + t) (hk : 2 * t + k <= n) (hN : Near D xs ys k t P) : FFld.quoF D E (FFld.invT D hD.pre.pk E) Q = P /\ FFld.rstF D E (FFld.invT D hD.pre.pk E) Q = [] := by
 have h1 := g.len
 have h2 := g.up
 have h3 := hN.len
 have h4 := same_len (ints (FFld.valsF D P xs xs.length)) (ints ys) n
 have h5 := hN.dis
 rw [lx] at h4 h5
 refine FFld.near hD (xs := xs) (ys := ys) (n := n) (t := t) g.nlt g.elt hN.lt g.tn g.te hN.tz hx (by omega) (fun a b ha hb hab => ?_) lQ (by omega) g.ev2 (sameL (ints (FFld.valsF D P xs n)) (ints ys) n) (List.Pairwise.filter _ List.nodup_range) (fun j hj => ?_) (by omega) (fun j hj => ?_)
 ·rcases Nat.lt_or_ge a b with h | h
  ·exact (hd b a h hb).symm
  ·exact hd a b (by omega) ha
 ·exact List.mem_range.1 (List.mem_filter.1 hj).1
 ·obtain ⟨h6, h7⟩ := List.mem_filter.1 hj
  have h8 := of_decide_eq_true h7
  rw [FFld.ints_get, FFld.ints_get] at h8
  have h9 := vals_ev hD hN.lt hN.tz hx (j := j) (by rw [lx]; exact List.mem_range.1 h6)
  rw [<- h9, lx]
  unfold FFld.plE
  exact congrArg _ (Int.ofNat.inj h8)
theorem near_good {D : FFld.FD} (hD : D.Ok) {xs ys bf Q el E P : List Nat} {n k t : Nat} (g : FFld.GaoOk hD xs ys n bf Q el E) (lx : xs.length = n) (hx : ∀ a ∈ xs, a < D.p ^ D.k) (hd : ∀ i j, j < i -> i < n -> xs[i]?.getD 0 ≠ xs[j]?.getD 0) (lQ : Q.length + t <= n) (lb : n < bf.length + t) (hk : 2 * t + k <= n) (hN : Near D xs ys k t P) : Good D xs ys (FFld.quoF D E (FFld.invT D hD.pre.pk E) Q) (FFld.rstF D E (FFld.invT D hD.pre.pk E) Q) k t := by
 obtain ⟨h1, h2⟩ := gao_near hD g lx hx hd lQ lb hk hN
 rw [h1, h2]
 exact ⟨rfl, hN.len, hN.dis⟩
theorem good_near {D : FFld.FD} (hD : D.Ok) {xs ys bf Q el E : List Nat} {n k t : Nat} (g : FFld.GaoOk hD xs ys n bf Q el E) (h : Good D xs ys (FFld.quoF D E (FFld.invT D hD.pre.pk E) Q) (FFld.rstF D E (FFld.invT D hD.pre.pk E) Q) k t) : Near D xs ys k t (FFld.quoF D E (FFld.invT D hD.pre.pk E) Q) := by
 have h2 := g.up
 refine ⟨FFld.quoF_lt hD.pre.pk _ _ _, FFld.quo_tz hD g.elt g.nlt (by omega) ?_ g.tn, h.2.1, h.2.2⟩
 rcases g.te with h1 | h1
 ·omega
 ·exact h1
theorem dif_get {es : List Int} {m i j : Nat} (h : difB es m = true) (hj : j < i) (hi : i < m) : es[i]?.getD 0 ≠ es[j]?.getD 0 := fun e => by
 have h1 := difB_no hj hi e
 rw [h1] at h
 cases h
theorem nodup_dif {es : List Int} {m : Nat} (h : difB es m = true) (hm : es.length = m) : es.Nodup := by
 refine List.pairwise_iff_getElem.2 fun i j hi hj hij e => ?_
 have h1 := dif_get h hij (by omega)
 rw [List.getElem?_eq_getElem hi, List.getElem?_eq_getElem hj] at h1
 exact h1 e.symm
theorem nodup_get {L : List Nat} (h : L.Nodup) {i j : Nat} (hj : j < i) (hi : i < L.length) : L[i]?.getD 0 ≠ L[j]?.getD 0 := by
 have h1 := List.pairwise_iff_getElem.1 h j i (by omega) hi hj
 rw [List.getElem?_eq_getElem hi, List.getElem?_eq_getElem (show j < L.length by omega)]
 exact fun e => h1 e.symm
theorem one_out (a : Nat) : ∀ (L : List Nat), L.Nodup -> a ∈ L -> (L.filter fun j : Nat => decide ((a : Int) ≠ (j : Int))).length + 1 = L.length
 | [], _, h => (by cases h)
 | b :: L, hn, h => by
   obtain ⟨h1, h2⟩ := List.nodup_cons.1 hn
   rw [List.filter_cons]
   by_cases e : b = a
   ·subst e
    have hF : (L.filter fun j : Nat => decide ((b : Int) ≠ (j : Int))) = L := List.filter_eq_self.2 (fun j hj => decide_eq_true (fun e => h1 (by have e' : b = j := Int.ofNat.inj e; exact e' ▸ hj)))
    rw [if_neg (by simp), hF]
    rfl
   ·rw [if_pos (decide_eq_true (p := ((a : Int) ≠ (b : Int))) (fun e' => e (Int.ofNat.inj e').symm))]
    have h3 := one_out a L h2 (by
     rcases List.mem_cons.1 h with h4 | h4
     ·exact absurd h4.symm e
     ·exact h4)
    simp only [List.length_cons]
    omega
theorem filter_out (n : Nat) : ∀ (es : List Int), es.Nodup -> (∀ e ∈ es, 0 <= e /\ e < n) -> ((List.range n).filter fun j : Nat => es.all fun e => decide (e ≠ (j : Int))).length + es.length = n
 | [], _, _ => by
   have hF : ((List.range n).filter fun j : Nat => ([] : List Int).all fun e => decide (e ≠ (j : Int))) = List.range n := List.filter_eq_self.2 (fun _ _ => rfl)
   rw [hF]
   simp
 | e :: es, hn, hb => by
   obtain ⟨h1, h2⟩ := List.nodup_cons.1 hn
   have ih := filter_out n es h2 fun x hx => hb x (List.mem_cons_of_mem _ hx)
   obtain ⟨h3, h4⟩ := hb e (List.mem_cons_self ..)
   obtain ⟨a, rfl⟩ := Int.eq_ofNat_of_zero_le h3
   have h5 := one_out a ((List.range n).filter fun j : Nat => es.all fun e => decide (e ≠ (j : Int))) (List.Pairwise.filter _ List.nodup_range) (by
    rw [List.mem_filter]
    refine ⟨List.mem_range.2 (by omega), ?_⟩
    rw [List.all_eq_true]
    exact fun x hx => decide_eq_true fun ex => h1 (ex ▸ hx))
   rw [List.filter_filter] at h5
   simp only [List.all_cons, List.length_cons]
   omega
theorem kp_len {es : List Int} {n m : Nat} (hb : belB n es = true) (hd : difB es m = true) (hm : es.length = m) : (kpF es n).length + m = n := by
 have h := filter_out n es (nodup_dif hd hm) fun e he => by
  have := List.all_eq_true.1 hb e he
  exact of_decide_eq_true this
 rw [hm] at h
 exact h
theorem kp_nodup (es : List Int) (n : Nat) : (kpF es n).Nodup := List.Pairwise.filter _ List.nodup_range
theorem kp_lt {es : List Int} {n j : Nat} (h : j ∈ kpF es n) : j < n := List.mem_range.1 (List.mem_filter.1 h).1
theorem kp_nil (n : Nat) : kpF [] n = List.range n := by
 unfold kpF
 rw [List.filter_eq_self]
 intro a _
 rfl
def kpL (es : List Int) (n : Nat) (xs : List Nat) : List Nat := (kpF es n).map fun j => xs[j]?.getD 0
theorem kpL_len (es : List Int) (n : Nat) (xs : List Nat) : (kpL es n xs).length = (kpF es n).length := List.length_map ..
theorem kpL_lt {q : Nat} {es : List Int} {n : Nat} {xs : List Nat} (lx : xs.length = n) (h : ∀ a ∈ xs, a < q) : ∀ a ∈ kpL es n xs, a < q := fun a ha => by
 obtain ⟨j, hj, rfl⟩ := List.mem_map.1 ha
 exact h _ (FFld.get_mem (by rw [lx]; exact kp_lt hj))
theorem kpL_dif {es : List Int} {n : Nat} {xs : List Nat} (hd : ∀ i j, j < i -> i < n -> xs[i]?.getD 0 ≠ xs[j]?.getD 0) : ∀ i j, j < i -> i < (kpL es n xs).length -> (kpL es n xs)[i]?.getD 0 ≠ (kpL es n xs)[j]?.getD 0 := by
 have hnd : (kpL es n xs).Nodup := by
  unfold kpL
  have h1 := kp_nodup es n
  have h2 : ∀ j ∈ kpF es n, j < n := fun j hj => kp_lt hj
  generalize kpF es n = L at h1 h2
  induction L with
  | nil => exact List.nodup_nil
  | cons a L ih =>
    rw [List.map_cons, List.nodup_cons]
    obtain ⟨h3, h4⟩ := List.nodup_cons.1 h1
    refine ⟨fun hm => ?_, ih h4 fun j hj => h2 j (List.mem_cons_of_mem _ hj)⟩
    obtain ⟨b, hb, e⟩ := List.mem_map.1 hm
    have ha := h2 a (List.mem_cons_self ..)
    have hb' := h2 b (List.mem_cons_of_mem _ hb)
    rcases Nat.lt_trichotomy a b with h | h | h
    ·exact hd b a h hb' e
    ·exact h3 (h ▸ hb)
    ·exact hd a b h ha e.symm
 exact fun i j hj hi => nodup_get hnd hj hi
structure CodeV (D : FFld.FD) (xs : List Nat) (n k : Nat) : Prop where
 len : xs.length = n
 n64 : n <= 64
 k1 : 1 <= k
 kn : k <= n
 lt : ∀ a ∈ xs, a < D.p ^ D.k
 dif : ∀ i j, j < i -> i < n -> xs[i]?.getD 0 ≠ xs[j]?.getD 0
 chk : chkE (D.q : Int) (ints xs) k = 0
theorem CodeV.of {D : FFld.FD} (hD : D.Ok) {xs : List Nat} {n k : Nat} (lx : xs.length = n) (n64 : n <= 64) (k1 : 1 <= k) (kn : k <= n) (hx : ∀ a ∈ xs, a < D.p ^ D.k) (hd : difB (ints xs) n = true) : CodeV D xs n k := by
 refine ⟨lx, n64, k1, kn, hx, fun i j hj hi e => dif_get hd hj hi (by rw [FFld.ints_get, FFld.ints_get, e]), ?_⟩
 unfold chkE
 rw [FFld.ints_len, lx, if_pos ⟨D, hD, rfl⟩, if_neg (by omega), if_neg]
 rw [bel_ints hx, hd]
 simp
 omega
def mkP (D : FFld.FD) (ts ss : List Nat) (i : Nat) : Bool := (List.range i).all fun j => decide (j < ts.length \/ FFld.difF D (1 :: ts) ss j (ts.length + 1) = 0)
theorem mkP_next (D : FFld.FD) (ts ss : List Nat) (i : Nat) : mkP D ts ss (i + 1) = (mkP D ts ss i && decide (i < ts.length \/ FFld.difF D (1 :: ts) ss i (ts.length + 1) = 0)) := by
 unfold mkP
 rw [List.range_succ, List.all_append]
 simp
theorem mkP_start (D : FFld.FD) (ts ss : List Nat) {i : Nat} (h : i <= ts.length) : mkP D ts ss i = true := by
 unfold mkP
 rw [List.all_eq_true]
 intro j hj
 rw [List.mem_range] at hj
 exact decide_eq_true (.inl (by omega))
theorem mkP_no {D : FFld.FD} {ts ss : List Nat} {i n : Nat} (hi : i < n) (ht : ts.length <= i) (h : FFld.difF D (1 :: ts) ss i (ts.length + 1) ≠ 0) : mkP D ts ss n = false := by
 cases e : mkP D ts ss n with
 | false => rfl
 | true =>
   unfold mkP at e
   rw [List.all_eq_true] at e
   have := of_decide_eq_true (e i (List.mem_range.2 hi))
   rcases this with h1 | h1
   ·omega
   ·exact absurd h1 h
open Classical in
noncomputable def mkE (o : Int) (ts ss : List Int) : Nat := if FFld.Fit o then (if 200 < ss.length then 2 else if belB o ss = false then 1 else if ss.length < ts.length then 1 else if belB o ts = false then 1 else 0) else 20
end Go.Proofs.YtdnheaafcbihbaaGreat
namespace Go.Proofs.YtdnheaafcbihbaaGreat
namespace FFld
section
variable {D : FD} (hD : D.Ok)
include hD
theorem serL_padF (p : List Nat) (n : Nat) : serL hD (padF p n) = serL hD p := funext fun i => by
 unfold serL
 rw [padF_get]
theorem serL_plusF {p q : List Nat} {c s : Nat} (hp : ∀ a ∈ p, a < D.p ^ D.k) (hq : ∀ a ∈ q, a < D.p ^ D.k) (hc : c < D.p ^ D.k) : serL hD (plusF D p q c s) = (FD.dom hD.nzd).ser.add (serL hD p) ((FD.dom hD.nzd).ser.mul ((FD.dom hD.nzd).mon1 (toE hD.pre.pk c) s) (serL hD q)) := by
 unfold plusF
 rw [serL_trm, serL_addm hD (padF_lt (Nat.pow_pos hD.pre.pk.p0) hp _) hq hc (by rw [padF_len (by omega)]; omega), serL_padF]
theorem dif_sm {c s : List Nat} (hc : ∀ a ∈ c, a < D.p ^ D.k) (hs : ∀ a ∈ s, a < D.p ^ D.k) (i : Nat) : ∀ n, toE hD.pre.pk (difF D c s i n) = (FD.dom hD.nzd).sm (fun t => (FD.dom hD.nzd).mul (serL hD c t) (serL hD s (i - t))) n
 | 0 => toE_zero hD
 | n + 1 => by
   have h0 := Nat.pow_pos (n := D.k) hD.pre.pk.p0
   rw [difF, toE_add hD (difF_lt hD.pre.pk _ _ _ _) (pmul_lt hD.pre.pk _ _ _), dif_sm hc hs i n, toE_mul hD (getD_lt h0 hc _) (getD_lt h0 hs _)]
   rfl
theorem dif_ser {c s : List Nat} (hc : ∀ a ∈ c, a < D.p ^ D.k) (hs : ∀ a ∈ s, a < D.p ^ D.k) {i n : Nat} (hn : n <= i + 1) (hl : c.length <= n) : toE hD.pre.pk (difF D c s i n) = (FD.dom hD.nzd).ser.mul (serL hD c) (serL hD s) i := by
 rw [dif_sm hD hc hs]
 have h := (FD.dom hD.nzd).sm_ext (fun t => (FD.dom hD.nzd).mul (serL hD c t) (serL hD s (i - t))) n (fun j hj => by rw [serL_sh hD c j (by omega), Dom.zero_mul]) (i + 1 - n)
 rw [show n + (i + 1 - n) = i + 1 by omega] at h
 exact h.symm
theorem toE_null {a : Nat} (ha : a < D.p ^ D.k) : toE hD.pre.pk a = (FD.dom hD.nzd).zero ↔ a = 0 := by
 constructor
 ·intro h
  rw [<- toE_zero hD] at h
  exact toE_inj hD.pre.pk ha (Nat.pow_pos hD.pre.pk.p0) h
 ·rintro rfl
  exact toE_zero hD
structure BmTrue (s : List Nat) (i : Nat) (st : Bm) : Prop where
 a : ∀ j, st.len <= j -> j < i -> (FD.dom hD.nzd).ser.mul (serL hD st.reg) (serL hD s) j = (FD.dom hD.nzd).zero
 r0 : st.reg[0]?.getD 0 = 1
 b : ∀ r : Nat, st.since = r -> (∀ j, r + 1 <= j + st.len -> j < r -> (FD.dom hD.nzd).ser.mul (serL hD st.old) (serL hD s) j = (FD.dom hD.nzd).zero) /\ (FD.dom hD.nzd).ser.mul (serL hD st.old) (serL hD s) r = toE hD.pre.pk st.last
 c : st.since = -1 -> st.len = 0
theorem bm_d {s : List Nat} {i : Nat} {st : Bm} (hs : ∀ a ∈ s, a < D.p ^ D.k) (ho : BmOk D i st) : toE hD.pre.pk (bmD D s i st) = (FD.dom hD.nzd).ser.mul (serL hD st.reg) (serL hD s) i :=
 dif_ser hD ho.rq hs (by have := ho.rl; have := ho.li; omega) (Nat.le_refl _)
def bmC (D : FD) (h : PK D.p D.k D.m) (s : List Nat) (i : Nat) (st : Bm) : Nat := padd D.p D.k 0 (pscl D.p D.k (D.p - 1) (pmul D.p D.k D.m (bmD D s i st) D.k (ppow h st.last (D.q - 2))))
theorem bm_c {s : List Nat} {i : Nat} {st : Bm} (ho : BmOk D i st) : (FD.dom hD.nzd).add (toE hD.pre.pk (bmD D s i st)) ((FD.dom hD.nzd).mul (toE hD.pre.pk (bmC D hD.pre.pk s i st)) (toE hD.pre.pk st.last)) = (FD.dom hD.nzd).zero := by
 have hd : bmD D s i st < D.p ^ D.k := difF_lt hD.pre.pk _ _ _ _
 have h0 := Nat.pow_pos (n := D.k) hD.pre.pk.p0
 unfold bmC
 rw [toE_add hD h0 (pscl_lt hD.pre.pk _ _), toE_zero hD, Dom.zero_add, toE_neg hD (pmul_lt hD.pre.pk _ _ _), toE_mul hD hd (ppow_lt hD.pre.pk _ _)]
 have hi : (FD.dom hD.nzd).mul (toE hD.pre.pk (ppow hD.pre.pk st.last (D.q - 2))) (toE hD.pre.pk st.last) = (FD.dom hD.nzd).one := inv_ev hD (xs := []) (fun a ha => by cases ha) ho.ls ho.l0
 rw [Dom.mul_comm (FD.dom hD.nzd) ((FD.dom hD.nzd).neg _), Dom.mul_neg, Dom.mul_comm (FD.dom hD.nzd) (toE hD.pre.pk st.last), Dom.mul_assoc, hi, Dom.mul_one, Dom.add_neg]
theorem BmTrue.step {s : List Nat} {i : Nat} {st : Bm} (hs : ∀ a ∈ s, a < D.p ^ D.k) (ho : BmOk D i st) (ht : BmTrue hD s i st) : BmTrue hD s (i + 1) (bmStep D hD.pre.pk s i st) := by
 have hd := bm_d hD hs ho
 have h0 := Nat.pow_pos (n := D.k) hD.pre.pk.p0
 have h1 := ho.s0
 have h2 := ho.s1
 have h3 := ho.li
 unfold bmStep
 split
 ·rename_i hz
  refine ⟨fun j h4 h5 => ?_, ht.r0, ht.b, ht.c⟩
  by_cases e : j = i
  ·subst e
   rw [hz, toE_zero hD] at hd
   exact hd.symm
  ·exact ht.a j h4 (by omega)
 ·rename_i hz
  have hcl : bmC D hD.pre.pk s i st < D.p ^ D.k := padd_lt hD.pre.pk _ _
  have hR : serL hD (bmR D hD.pre.pk s i st) = (FD.dom hD.nzd).ser.add (serL hD st.reg) ((FD.dom hD.nzd).ser.mul ((FD.dom hD.nzd).mon1 (toE hD.pre.pk (bmC D hD.pre.pk s i st)) ((i : Int) - st.since).toNat) (serL hD st.old)) := serL_plusF hD ho.rq ho.oq hcl
  have hS : ∀ j, (FD.dom hD.nzd).ser.mul (serL hD (bmR D hD.pre.pk s i st)) (serL hD s) j = (FD.dom hD.nzd).add ((FD.dom hD.nzd).ser.mul (serL hD st.reg) (serL hD s) j) (if j < ((i : Int) - st.since).toNat then (FD.dom hD.nzd).zero else (FD.dom hD.nzd).mul (toE hD.pre.pk (bmC D hD.pre.pk s i st)) ((FD.dom hD.nzd).ser.mul (serL hD st.old) (serL hD s) (j - ((i : Int) - st.since).toNat))) := fun j => by
   rw [hR, Dom.add_mul, Dom.mul_assoc, <- mon_mul]
   rfl
  have hA : ∀ L', st.len <= L' -> i + 1 <= L' + st.len -> ∀ j, L' <= j -> j < i + 1 -> (FD.dom hD.nzd).ser.mul (serL hD (bmR D hD.pre.pk s i st)) (serL hD s) j = (FD.dom hD.nzd).zero := fun L' hL1 hL2 j hj1 hj2 => by
   rw [hS j]
   by_cases hr : st.since = -1
   ·have := ht.c hr
    omega
   ·obtain ⟨r, hr2⟩ : ∃ r : Nat, st.since = r := ⟨st.since.toNat, by omega⟩
    obtain ⟨hb1, hb2⟩ := ht.b r hr2
    by_cases e : j = i
    ·subst e
     rw [if_neg (by omega), show j - ((j : Int) - st.since).toNat = r by omega, hb2, <- hd]
     exact bm_c hD ho
    ·rw [ht.a j (by omega) (by omega), Dom.zero_add]
     by_cases hj : j < ((i : Int) - st.since).toNat
     ·rw [if_pos hj]
     ·rw [if_neg hj, hb1 _ (by omega) (by omega), Dom.mul_zero]
  have hR0 : (bmR D hD.pre.pk s i st)[0]?.getD 0 = 1 := by
   have e := congrFun hR 0
   have e2 : (FD.dom hD.nzd).ser.mul ((FD.dom hD.nzd).mon1 (toE hD.pre.pk (bmC D hD.pre.pk s i st)) ((i : Int) - st.since).toNat) (serL hD st.old) 0 = (FD.dom hD.nzd).zero := by rw [mon_mul, if_pos (by omega)]
   have e3 : toE hD.pre.pk ((bmR D hD.pre.pk s i st)[0]?.getD 0) = (FD.dom hD.nzd).add (toE hD.pre.pk (st.reg[0]?.getD 0)) ((FD.dom hD.nzd).ser.mul ((FD.dom hD.nzd).mon1 (toE hD.pre.pk (bmC D hD.pre.pk s i st)) ((i : Int) - st.since).toNat) (serL hD st.old) 0) := e
   rw [e2, Dom.add_zero, ht.r0] at e3
   exact toE_inj hD.pre.pk (getD_lt h0 (plusF_lt hD.pre.pk ho.rq) _) hD.pre.pk.one_lt e3
  split
  ·rename_i h7
   refine ⟨hA _ (by simp only []; omega) (by simp only []; omega), hR0, fun r hr => ?_, fun h => ?_⟩
   ·have hr' : (i : Int) = r := hr
    obtain rfl : i = r := by omega
    refine ⟨fun j h8 h9 => ht.a j ?_ h9, hd.symm⟩
    simp only [] at h8
    omega
   ·have h' : (i : Int) = -1 := h
    omega
  ·rename_i h7
   exact ⟨hA _ (Nat.le_refl _) (by simp only []; omega), hR0, ht.b, ht.c⟩
theorem bm_true {s : List Nat} (hs : ∀ a ∈ s, a < D.p ^ D.k) : ∀ i, BmTrue hD s i (bmF D hD.pre.pk s i)
 | 0 => ⟨fun j _ h => by omega, rfl, (fun r h => by have h' : (-1 : Int) = r := h; omega), fun _ => rfl⟩
 | i + 1 => (bm_true hs i).step hD hs (bm_ok hD.pre.pk s i)
end
theorem difF_take (D : FD) (c s : List Nat) {i n : Nat} (hi : i < n) : ∀ j, difF D c (s.take n) i j = difF D c s i j
 | 0 => rfl
 | j + 1 => by
   rw [difF, difF, difF_take D c s hi j, List.getElem?_take, if_pos (by omega)]
theorem bm_take {D : FD} (h : PK D.p D.k D.m) (s : List Nat) (n : Nat) : ∀ i, i <= n -> bmF D h (s.take n) i = bmF D h s i
 | 0, _ => rfl
 | i + 1, hi => by
   rw [bmF, bmF, bm_take h s n i (by omega)]
   unfold bmStep bmR bmD
   rw [difF_take D _ s (by omega)]
theorem bm_prof {D : FD} (h : PK D.p D.k D.m) (s : List Nat) : ∀ n i, i < n -> (bmF D h s n).prof[i]?.getD 0 = (bmF D h s (i + 1)).len
 | 0, i, hi => by omega
 | n + 1, i, hi => by
   have hl := (bm_ok h s n).pl
   have hp : (bmF D h s (n + 1)).prof = (bmF D h s n).prof ++ [(bmF D h s (n + 1)).len] := by
    rw [bmF]
    unfold bmStep
    split
    ·rfl
    ·split <;> rfl
   rw [hp]
   by_cases e : i < n
   ·rw [List.getElem?_append_left (by omega)]
    exact bm_prof h s n i e
   ·obtain rfl : i = n := by omega
    rw [List.getElem?_append_right (by omega), hl, Nat.sub_self]
    rfl
theorem bm_next {D : FD} (h : PK D.p D.k D.m) (s : List Nat) (i : Nat) : ((bmF D h s (i + 1)).len = (bmF D h s i).len) \/ (2 * (bmF D h s i).len <= i /\ (bmF D h s (i + 1)).len = i + 1 - (bmF D h s i).len /\ bmD D s i (bmF D h s i) ≠ 0) := by
 rw [bmF]
 unfold bmStep
 split
 ·exact .inl rfl
 ·split
  ·rename_i h1 h2
   exact .inr ⟨h2, rfl, h1⟩
  ·exact .inl rfl
end FFld
end Go.Proofs.YtdnheaafcbihbaaGreat
namespace Go.Proofs.YtdnheaafcbihbaaGreat
open Go Go.RowKit Go.Deep
open FFld (ints)
set_option maxRecDepth 20000 in
theorem cProfile_any {D : FFld.FD} (hD : D.Ok) (as_ : Option Addr) (cs n : Nat) (sl : List Nat) (w : World) (hs : Sl .i64 w (.slice as_ n cs) (ints sl)) (hn : sl.length = n) (hsq : ∀ a ∈ sl, a < D.p ^ D.k) (hn2 : n <= 200) :
 Calls Tryz.prog 63 #[.int .i64 D.q, .slice as_ n cs] w (fun e w' => Below w.heap.size w w' /\ ∃ vt, e = .returned (.tuple #[vt, .int .i64 0]) /\ Sl .i64 w' vt (ints (FFld.bmF D hD.pre.pk sl n).prof)) := by
 have hq6 : D.p ^ D.k <= 65536 := hD.pre.small
 have hq0 : D.q = D.p ^ D.k := rfl
 have hse : seqE (D.q : Int) (ints sl) = 0 := by
  unfold seqE
  rw [if_pos ⟨D, hD, rfl⟩, if_neg (by rw [FFld.ints_len]; omega), if_neg (by rw [bel_ints hsq]; simp)]
 have hsc := ccheckSeq_any (D.q : Int) as_ cs (ints sl) w (by rw [FFld.ints_len, hn]; exact hs) (by omega) (by omega)
 rw [hse, FFld.ints_len, hn] at hsc
 have HSC : Kept (Calls Tryz.prog 125 #[.int .i64 D.q, .slice as_ n cs] w (RB w (.int .i64 0))) := ⟨hsc⟩
 have HNW := Kept.mk (fun W => fnew_any (D.q : Int) W (by omega) (by omega))
 have HSH := Kept.mk (fun (W : World) (hW : Below w.heap.size w W) (b : Nat) (hf : FldB D W b) => cshort_any hD as_ cs n sl W hf (hs.below hW) hn hsq hn2)
 have HD := Kept.mk hD
 obtain ⟨q, hq⟩ : ∃ q, D.q = q := ⟨_, rfl⟩
 rw [hq] at HSC HNW ⊢
 have HQ := Kept.mk hq
 clear hs hn hsq hse hsc hq hq0
 go_enter Tryz.func63, Tryz.ntmps63
 go_wp2_with fail
 (with_reducible refine HSC.out.mono ?_)
 rintro e w1 ⟨hb1, rfl⟩
 have HB1 := Kept.mk hb1
 clear hb1
 go_wp2_with fail
 (with_reducible refine (HNW.out _).mono ?_)
 rintro e w2 ⟨hb2, ⟨D', b, hq', hle, rfl, hf⟩ | ⟨hno, rfl⟩⟩
 ·obtain rfl : D' = D := FFld.FD.uniq hf.ok HD.out (by have := HQ.out; omega)
  have HB2 := Kept.mk (bstep HB1.out hb2)
  have HS2 := Kept.mk (HSH.out w2 HB2.out b hf)
  clear hb2 hf hq'
  go_wp2_with fail
  (with_reducible refine HS2.out.mono ?_)
  rintro e w3 ⟨hb3, vt, vp, rfl, ht, hp⟩
  have HB3 := Kept.mk (bstep HB2.out hb3)
  have HT := Kept.mk hp
  obtain ⟨ta, tc, rfl, _, _⟩ := ht.form
  obtain ⟨pa, pc, rfl, _, _⟩ := hp.form
  clear hb3 ht hp
  go_wp2
  exact bodyPost_ret (v := .tuple #[.slice pa _ pc, .int .i64 0]) (by simp [results, Tryz.results63, go_sem]) rfl ⟨HB3.out, _, rfl, HT.out⟩
 ·exact absurd ⟨D, HD.out, by have := HQ.out; omega⟩ hno
def bmT (D : FFld.FD) (h : FFld.PK D.p D.k D.m) (s : List Nat) (n : Nat) : List Nat := (FFld.padF (FFld.bmF D h s n).reg ((FFld.bmF D h s n).len + 1)).drop 1
section
variable {D : FFld.FD} (hD : D.Ok)
theorem bmT_len (s : List Nat) (n : Nat) : (bmT D hD.pre.pk s n).length = (FFld.bmF D hD.pre.pk s n).len := by
 unfold bmT
 rw [List.length_drop, FFld.padF_len (FFld.bm_ok hD.pre.pk s n).rl]
 omega
theorem bmT_lt (s : List Nat) (n : Nat) : ∀ a ∈ bmT D hD.pre.pk s n, a < D.p ^ D.k := fun a ha =>
 FFld.padF_lt (Nat.pow_pos hD.pre.pk.p0) (FFld.bm_ok hD.pre.pk s n).rq _ a (List.mem_of_mem_drop ha)
theorem bmT_cons {s : List Nat} (hs : ∀ a ∈ s, a < D.p ^ D.k) (n : Nat) : 1 :: bmT D hD.pre.pk s n = FFld.padF (FFld.bmF D hD.pre.pk s n).reg ((FFld.bmF D hD.pre.pk s n).len + 1) := by
 have h0 := (FFld.bm_true hD hs n).r0
 have hl := FFld.padF_len (FFld.bm_ok hD.pre.pk s n).rl
 have hg := FFld.padF_get (FFld.bmF D hD.pre.pk s n).reg ((FFld.bmF D hD.pre.pk s n).len + 1) 0
 rw [h0] at hg
 unfold bmT
 cases hP : FFld.padF (FFld.bmF D hD.pre.pk s n).reg ((FFld.bmF D hD.pre.pk s n).len + 1) with
 | nil => rw [hP] at hl; simp at hl
 | cons a l =>
   rw [hP] at hg
   simp only [List.getElem?_cons_zero, Option.getD_some] at hg
   subst hg
   rfl
theorem bmT_dif {s : List Nat} (hs : ∀ a ∈ s, a < D.p ^ D.k) (n j : Nat) (hj : (FFld.bmF D hD.pre.pk s n).len <= j) : FFld.toE hD.pre.pk (FFld.difF D (1 :: bmT D hD.pre.pk s n) s j ((bmT D hD.pre.pk s n).length + 1)) = (FFld.FD.dom hD.nzd).ser.mul (FFld.serL hD (FFld.bmF D hD.pre.pk s n).reg) (FFld.serL hD s) j := by
 rw [bmT_cons hD hs, bmT_len hD, FFld.dif_ser hD (FFld.padF_lt (Nat.pow_pos hD.pre.pk.p0) (FFld.bm_ok hD.pre.pk s n).rq _) hs (by omega) (Nat.le_of_eq (FFld.padF_len (FFld.bm_ok hD.pre.pk s n).rl)), FFld.serL_padF]
theorem bm_makes {s : List Nat} (hs : ∀ a ∈ s, a < D.p ^ D.k) (n : Nat) : mkP D (bmT D hD.pre.pk s n) s n = true := by
 unfold mkP
 rw [List.all_eq_true]
 intro j hj
 have hj' := List.mem_range.1 hj
 refine decide_eq_true ?_
 by_cases h : j < (bmT D hD.pre.pk s n).length
 ·exact .inl h
 ·right
  rw [bmT_len hD] at h
  have h1 := bmT_dif hD hs n j (by omega)
  rw [(FFld.bm_true hD hs n).a j (by omega) hj'] at h1
  exact (FFld.toE_null hD (FFld.difF_lt hD.pre.pk _ _ _ _)).1 h1
end
section
variable {D : FFld.FD} (hD : D.Ok)
theorem cons_lt {ts : List Nat} (ht : ∀ a ∈ ts, a < D.p ^ D.k) (hk : FFld.PK D.p D.k D.m) : ∀ a ∈ (1 :: ts), a < D.p ^ D.k := fun a ha => by
 rcases List.mem_cons.1 ha with rfl | h
 ·exact hk.one_lt
 ·exact ht a h
include hD in
theorem mk_ser {s ts : List Nat} {n : Nat} (hs : ∀ a ∈ s, a < D.p ^ D.k) (ht : ∀ a ∈ ts, a < D.p ^ D.k) (hm : mkP D ts s n = true) (j : Nat) (h1 : ts.length <= j) (h2 : j < n) : (FFld.FD.dom hD.nzd).ser.mul (FFld.serL hD (1 :: ts)) (FFld.serL hD s) j = (FFld.FD.dom hD.nzd).zero := by
 unfold mkP at hm
 rw [List.all_eq_true] at hm
 have h := of_decide_eq_true (hm j (List.mem_range.2 h2))
 rcases h with h | h
 ·omega
 ·rw [<- FFld.dif_ser hD (cons_lt ht hD.pre.pk) hs (n := ts.length + 1) (by omega) (by simp), h, FFld.toE_zero hD]
include hD in
theorem massey {f g S : Nat -> FFld.El (D.p ^ D.k)} {L L' i : Nat} (hf : (FFld.FD.dom hD.nzd).Sh f (L + 1)) (hg : (FFld.FD.dom hD.nzd).Sh g (L' + 1)) (g0 : g 0 = (FFld.FD.dom hD.nzd).one) (hfz : ∀ j, L <= j -> j < i -> (FFld.FD.dom hD.nzd).ser.mul f S j = (FFld.FD.dom hD.nzd).zero) (hgz : ∀ j, L' <= j -> j <= i -> (FFld.FD.dom hD.nzd).ser.mul g S j = (FFld.FD.dom hD.nzd).zero) (hl : L + L' <= i) : (FFld.FD.dom hD.nzd).ser.mul f S i = (FFld.FD.dom hD.nzd).zero := by
 have e1 : (FFld.FD.dom hD.nzd).ser.mul g ((FFld.FD.dom hD.nzd).ser.mul f S) i = (FFld.FD.dom hD.nzd).ser.mul f S i := by
  have h : (FFld.FD.dom hD.nzd).ser.mul g ((FFld.FD.dom hD.nzd).ser.mul f S) i = (FFld.FD.dom hD.nzd).sm (fun t => (FFld.FD.dom hD.nzd).mul (g t) ((FFld.FD.dom hD.nzd).ser.mul f S (i - t))) (i + 1) := rfl
  rw [h, (FFld.FD.dom hD.nzd).sm_one (j := 0) _ (by omega) fun t ht hne => ?_]
  ·rw [g0, Nat.sub_zero, FFld.Dom.one_mul]
  ·by_cases hL : t < L' + 1
   ·rw [hfz (i - t) (by omega) (by omega), FFld.Dom.mul_zero]
   ·rw [hg t (by omega), FFld.Dom.zero_mul]
 have e2 : (FFld.FD.dom hD.nzd).ser.mul f ((FFld.FD.dom hD.nzd).ser.mul g S) i = (FFld.FD.dom hD.nzd).zero := by
  have h : (FFld.FD.dom hD.nzd).ser.mul f ((FFld.FD.dom hD.nzd).ser.mul g S) i = (FFld.FD.dom hD.nzd).sm (fun t => (FFld.FD.dom hD.nzd).mul (f t) ((FFld.FD.dom hD.nzd).ser.mul g S (i - t))) (i + 1) := rfl
  have hz : ∀ t, t < i + 1 -> (FFld.FD.dom hD.nzd).mul (f t) ((FFld.FD.dom hD.nzd).ser.mul g S (i - t)) = (FFld.FD.dom hD.nzd).zero := fun t ht => by
   by_cases hL : t < L + 1
   ·rw [hgz (i - t) (by omega) (by omega), FFld.Dom.mul_zero]
   ·rw [hf t (by omega), FFld.Dom.zero_mul]
  rw [h, (FFld.FD.dom hD.nzd).sm_one (j := 0) _ (by omega) fun t ht _ => hz t ht]
  exact hz 0 (by omega)
 rw [<- e1, <- FFld.Dom.mul_assoc, FFld.Dom.mul_comm (FFld.FD.dom hD.nzd).ser g f, FFld.Dom.mul_assoc]
 exact e2
theorem bm_least {s ts : List Nat} {n : Nat} (hs : ∀ a ∈ s, a < D.p ^ D.k) (ht : ∀ a ∈ ts, a < D.p ^ D.k) (hm : mkP D ts s n = true) : ∀ i, i <= n -> (FFld.bmF D hD.pre.pk s i).len <= ts.length
 | 0, _ => Nat.zero_le _
 | i + 1, hi => by
   have ih := bm_least hs ht hm i (by omega)
   rcases FFld.bm_next hD.pre.pk s i with h | ⟨h1, h2, h3⟩
   ·rw [h]; exact ih
   ·rw [h2]
    apply Classical.byContradiction
    intro hc
    have hok := FFld.bm_ok hD.pre.pk s i
    have htr := FFld.bm_true hD hs i
    have hrl := hok.rl
    have hz := massey hD (f := FFld.serL hD (FFld.bmF D hD.pre.pk s i).reg) (g := FFld.serL hD (1 :: ts)) (S := FFld.serL hD s) (L := (FFld.bmF D hD.pre.pk s i).len) (L' := ts.length) (i := i)
     (FFld.Dom.Sh.mono _ (FFld.serL_sh hD _) hrl) (FFld.Dom.Sh.mono _ (FFld.serL_sh hD (1 :: ts)) (by simp)) (by show FFld.toE hD.pre.pk ((1 :: ts)[0]?.getD 0) = _; exact FFld.toE_one hD) htr.a (fun j h4 h5 => mk_ser hD hs ht hm j h4 (by omega)) (by omega)
    rw [<- FFld.bm_d hD hs hok] at hz
    exact h3 ((FFld.toE_null hD (FFld.difF_lt hD.pre.pk _ _ _ _)).1 hz)
end
end Go.Proofs.YtdnheaafcbihbaaGreat
