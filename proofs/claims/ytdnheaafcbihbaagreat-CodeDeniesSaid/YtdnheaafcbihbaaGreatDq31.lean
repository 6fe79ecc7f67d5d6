/-
  Texts of the proof, merged by program: Dsm Ldn.
-/
import Derived.Test.YtdnheaafcbihbaaGreatDq30
set_option linter.unusedSimpArgs false
set_option linter.unusedVariables false
set_option maxHeartbeats 16000000
namespace Go.Proofs.YtdnheaafcbihbaaGreat
open Go Go.RowKit Go.Deep
open FFld (ints)
structure DnSame (D : FFld.FD) (ax aw ae : Option Addr) (cx cw ce n m k nq ne : Nat) (xs ws : List Nat) (es Q E : List Int) (bb : Bool) : Prop where
 own : ∀ (qa va : Option Addr) (qc vc : Nat) (W : World), Sl .i64 W (.slice ax n cx) (ints xs) -> Sl .i64 W (.slice aw n cw) (ints ws) -> Sl .i64 W (.slice ae m ce) es -> Sl .i64 W (.slice qa nq qc) Q -> Sl .i64 W (.slice va ne vc) E -> Calls Tryz.prog 29 #[cdv D.q ax n cx k, .slice aw n cw, .slice ae m ce, .agg #[.slice qa nq qc, .slice va ne vc]] W (RB W (.bool bb))
 ref : ∀ (qa va : Option Addr) (qc vc : Nat) (W : World), Sl .i64 W (.slice ax n cx) (ints xs) -> Sl .i64 W (.slice aw n cw) (ints ws) -> Sl .i64 W (.slice ae m ce) es -> Sl .i64 W (.slice qa nq qc) Q -> Sl .i64 W (.slice va ne vc) E -> Calls Tryz.prog 40 #[cdv D.q ax n cx k, .slice aw n cw, .slice ae m ce, .agg #[.slice qa nq qc, .slice va ne vc]] W (RB W (.bool bb))
theorem denies_same3 {D : FFld.FD} (hD : D.Ok) (ax aw ae : Option Addr) (cx cw ce n m k nq ne : Nat) (xs ws : List Nat) (es : List Int) (hc : CodeV D xs n k) (lw : ws.length = n) (le : es.length = m) (hwq : ∀ a ∈ ws, a < D.p ^ D.k) (hkm : m + k <= n) (hb : belB n es = true) (hd : difB es m = true) (Q E : List Int) (lQ : Q.length = nq) (lE : E.length = ne) :
 ∃ bb, DnSame D ax aw ae cx cw ce n m k nq ne xs ws es Q E bb := by
 have h64 := hc.n64
 have hk1 := hc.k1
 have hkl := kp_len hb hd le
 have hwe := elsB_ints hwq
 have hpx := kpL_lt (es := es) hc.len hc.lt
 have hpw := kpL_lt (es := es) lw hwq
 by_cases h1 : n - m < nq + (n - m - k) / 2 \/ (n - m - k) / 2 + 1 < ne
 ·refine ⟨false, fun qa va qc vc W hx hw he hQ hE => ?_, fun qa va qc vc W hx hw he hQ hE => ?_⟩
  ·exact cdenies_no hD ax aw ae qa va cx cw ce qc vc n m k nq ne xs ws es Q E W hx hw he hQ hE hc lw le lQ lE hwq hkm hb hd fun W' b pa ea pc ec hW hf hp hv => cfits_long hD pa ea qa va pc ec qc vc k _ _ nq ne _ _ Q E W' hf hp hv (hQ.below hW) (hE.below hW) (kpL_len _ _ _) (kpL_len _ _ _) lQ lE hpx hpw (by omega) (by omega) (by omega) (by omega)
  ·exact rdenies_no hD ax aw ae qa va cx cw ce qc vc n m k nq ne xs ws es Q E W hx hw he hQ hE hc le hwe hkm hb hd lQ lE (.inl h1)
 have hlq : nq + (n - m - k) / 2 <= n - m := by omega
 have hle : ne <= (n - m - k) / 2 + 1 := by omega
 by_cases h2 : cErr D Q ≠ 0 \/ cErr D E ≠ 0
 ·refine ⟨false, fun qa va qc vc W hx hw he hQ hE => ?_, fun qa va qc vc W hx hw he hQ hE => ?_⟩
  ·exact cdenies_no hD ax aw ae qa va cx cw ce qc vc n m k nq ne xs ws es Q E W hx hw he hQ hE hc lw le lQ lE hwq hkm hb hd fun W' b pa ea pc ec hW hf hp hv => cfits_bad hD pa ea qa va pc ec qc vc k _ _ nq ne _ _ Q E W' hf hp hv (hQ.below hW) (hE.below hW) (kpL_len _ _ _) (kpL_len _ _ _) lQ lE hpx hpw (by omega) (by omega) (by omega) (by omega) (by omega) (.inl h2)
  ·exact rdenies_no hD ax aw ae qa va cx cw ce qc vc n m k nq ne xs ws es Q E W hx hw he hQ hE hc le hwe hkm hb hd lQ lE (.inr (.inl h2))
 obtain ⟨ql, hQe, hqq, tq, hq2⟩ := cErr_nat (D := D) (xs := Q) (by omega)
 obtain ⟨el, hEe, heq, te, he2⟩ := cErr_nat (D := D) (xs := E) (by omega)
 subst hQe hEe
 rw [FFld.ints_len] at lQ lE
 by_cases h3 : nq = 0 /\ ne = 0
 ·refine ⟨false, fun qa va qc vc W hx hw he hQ hE => ?_, fun qa va qc vc W hx hw he hQ hE => ?_⟩
  ·exact cdenies_no hD ax aw ae qa va cx cw ce qc vc n m k nq ne xs ws es _ _ W hx hw he hQ hE hc lw le (by rw [FFld.ints_len]; exact lQ) (by rw [FFld.ints_len]; exact lE) hwq hkm hb hd fun W' b pa ea pc ec hW hf hp hv => cfits_bad hD pa ea qa va pc ec qc vc k _ _ nq ne _ _ _ _ W' hf hp hv (hQ.below hW) (hE.below hW) (kpL_len _ _ _) (kpL_len _ _ _) (by rw [FFld.ints_len]; exact lQ) (by rw [FFld.ints_len]; exact lE) hpx hpw (by omega) (by omega) (by omega) (by omega) (by omega) (.inr h3)
  ·exact rdenies_no hD ax aw ae qa va cx cw ce qc vc n m k nq ne xs ws es _ _ W hx hw he hQ hE hc le hwe hkm hb hd (by rw [FFld.ints_len]; exact lQ) (by rw [FFld.ints_len]; exact lE) (.inr (.inr h3))
 obtain ⟨bb, hbb⟩ : ∃ bb : Bool, bb = (rfitP D xs ws ql el es n && (decide (ne = 0) || decide (¬ (FFld.rstF D el (FFld.invT D hD.pre.pk el) ql = [] /\ (FFld.quoF D el (FFld.invT D hD.pre.pk el) ql).length <= k /\ disK (ints (FFld.valsF D (FFld.quoF D el (FFld.invT D hD.pre.pk el) ql) xs n)) (ints ws) es n <= (n - m - k) / 2)))) := ⟨_, rfl⟩
 refine ⟨bb, fun qa va qc vc W hx hw he hQ hE => ?_, fun qa va qc vc W hx hw he hQ hE => rdenies_poly hD ax aw ae qa va cx cw ce qc vc n m k nq ne xs ws ql el es W hx hw he hQ hE hc le hwe hkm hb hd lw lQ lE hwq hqq heq tq te hlq hle (by omega) bb hbb⟩
 have hfit : ∀ W' b pa ea pc ec, Below W.heap.size W W' -> FldB D W' b -> Sl .i64 W' (.slice pa (kpF es n).length pc) (ints (kpL es n xs)) -> Sl .i64 W' (.slice ea (kpF es n).length ec) (ints (kpL es n ws)) -> Calls Tryz.prog 98 #[rcv b (.slice pa (kpF es n).length pc) (.slice ea (kpF es n).length ec) k ((n - m - k) / 2), .agg #[.slice qa nq qc, .slice va ne vc]] W' (RB W' (.bool (rfitP D xs ws ql el es n))) := fun W' b pa ea pc ec hW hf hp hv => by
  have h := cfits_ok hD pa ea qa va pc ec qc vc k ((n - m - k) / 2) (kpF es n).length nq ne (kpL es n xs) (kpL es n ws) ql el W' hf hp hv (hQ.below hW) (hE.below hW) (kpL_len _ _ _) (kpL_len _ _ _) lQ lE hpx hpw (by omega) (by omega) (by omega) hqq heq tq te (by omega) (by omega) (by omega)
  rw [fit_same tq te] at h
  exact h
 cases hfi : rfitP D xs ws ql el es n with
 | false =>
   rw [hfi] at hfit hbb
   rw [hbb, Bool.false_and]
   exact cdenies_no hD ax aw ae qa va cx cw ce qc vc n m k nq ne xs ws es _ _ W hx hw he hQ hE hc lw le (by rw [FFld.ints_len]; exact lQ) (by rw [FFld.ints_len]; exact lE) hwq hkm hb hd hfit
 | true =>
   rw [hfi] at hfit hbb
   rw [Bool.true_and] at hbb
   have hnb : bb = !(!bb) := by simp
   rw [hnb]
   refine cdenies_yes hD ax aw ae qa va cx cw ce qc vc n m k nq ne xs ws es _ _ W hx hw he hQ hE hc lw le (by rw [FFld.ints_len]; exact lQ) (by rw [FFld.ints_len]; exact lE) hwq hkm hb hd (!bb) hfit fun W' b pa ea pc ec hW hf hp hv => ?_
   by_cases h0 : ne = 0
   ·have hel : el = [] := List.length_eq_zero_iff.1 (lE.trans h0)
    subst h0 hel
    rw [decide_eq_true rfl, Bool.true_or] at hbb
    rw [hbb]
    refine (cquot_nil hD pa ea qa va pc ec qc vc k ((n - m - k) / 2) (kpF es n).length nq ql W' hf (hQ.below hW) (hE.below hW) lQ hqq tq (by omega)).mono fun e w' h => ?_
    obtain ⟨h5, rfl⟩ := h
    exact ⟨h5, _, rfl⟩
   ·rw [decide_eq_false h0, Bool.false_or] at hbb
    subst lQ lE
    refine (cquot_any hD pa ea qa va pc ec qc vc k ((n - m - k) / 2) (kpF es n).length (kpL es n xs) (kpL es n ws) ql el W' hf hp hv (kpL_len _ _ _) (kpL_len _ _ _) hpx hpw (by omega) (by omega) (by omega) (hQ.below hW) (hE.below hW) hqq heq tq te (by omega) (by omega) (by omega)).mono fun e w' h => ?_
    obtain ⟨h5, v, rfl, _⟩ := h
    refine ⟨h5, v, ?_⟩
    have hg : goodB D (kpL es n xs) (kpL es n ws) (FFld.quoF D el (FFld.invT D hD.pre.pk el) ql) (FFld.rstF D el (FFld.invT D hD.pre.pk el) ql) k ((n - m - k) / 2) = !bb := by
     rw [hbb]
     have hds := dis_same (D := D) (FFld.quoF D el (FFld.invT D hD.pre.pk el) ql) es (xs := xs) ws hc.len
     by_cases hG : Good D (kpL es n xs) (kpL es n ws) (FFld.quoF D el (FFld.invT D hD.pre.pk el) ql) (FFld.rstF D el (FFld.invT D hD.pre.pk el) ql) k ((n - m - k) / 2)
     ·rw [good_yes hG]
      unfold Good at hG
      rw [hds] at hG
      rw [decide_eq_false (fun h => h hG)]
      rfl
     ·rw [good_no hG]
      unfold Good at hG
      rw [hds] at hG
      rw [decide_eq_true hG]
      rfl
    rw [hg]
abbrev dubox (u v : Value) : Obj := .cells #[u, v] 64
theorem bxs_b2 {w W : World} {a b c : Obj} {os : List Obj} (h : Bxs w (a :: b :: c :: os) W) : W.heap[w.heap.size + 1 + 1]? = some c := h.2.2 2 _ rfl
structure DnSt (w : World) (os : List Obj) (D : FFld.FD) (va : Option Addr) (m vc kk : Nat) (xs : List Nat) (g7 g8 : Nat) (ea pa : Option Addr) (ec pc c : Nat) (vs L : List Nat) (qa : Option Addr) (nq qc : Nat) (Q : List Int) (ev : Option Addr) (ne ecc : Nat) (E : List Int) (W : World) : Prop where
 lw : LwAt w D va m vc kk xs g7 g8 W
 bx : Bxs w os W
 sv : Sl .i64 W (.slice ea m ec) (ints vs)
 sl : Sl .i64 W (.slice pa c pc) (ints L)
 sq : Sl .i64 W (.slice qa nq qc) Q
 se : Sl .i64 W (.slice ev ne ecc) E
 lq : Q.length = nq
 le : E.length = ne
theorem DnSt.below {w : World} {os : List Obj} {D : FFld.FD} {va : Option Addr} {m vc kk : Nat} {xs : List Nat} {g7 g8 : Nat} {ea pa : Option Addr} {ec pc c : Nat} {vs L : List Nat} {qa : Option Addr} {nq qc : Nat} {Q : List Int} {ev : Option Addr} {ne ecc : Nat} {E : List Int} {W W' : World} (h : DnSt w os D va m vc kk xs g7 g8 ea pa ec pc c vs L qa nq qc Q ev ne ecc E W) (hb : Below W.heap.size W W') : DnSt w os D va m vc kk xs g7 g8 ea pa ec pc c vs L qa nq qc Q ev ne ecc E W' :=
 ⟨h.lw.below hb, h.bx.below hb, h.sv.below hb, h.sl.below hb, h.sq.below hb, h.se.below hb, h.lq, h.le⟩
set_option maxRecDepth 20000 in
theorem codeDenies_any (o : Int) (ao : Option Addr) (n0 cap : Nat) (k : Int) (ys : List Int) (v2a v2b : Value) (xs2 ys2 : List Int) (v3a v3b : Value) (xs3 ys3 : List Int) (w : World) (hl : ys.length = n0) (hs : Sl .i64 w (.slice ao n0 cap) ys) (hi : I64s ys) (o0 : -9223372036854775808 <= o) (o1 : o <= 9223372036854775807) (k0 : -9223372036854775808 <= k) (k1 : k <= 9223372036854775807) (s2 : Sl .i64 w v2a xs2) (w2 : I64s xs2) (t2 : Sl .i64 w v2b ys2) (x2 : I64s ys2) (s3 : Sl .i64 w v3a xs3) (w3 : I64s xs3) (t3 : Sl .i64 w v3b ys3) (x3 : I64s ys3) :
 Calls Tryz.prog 6 #[cdv o ao n0 cap k, .agg #[v2a, v2b], .agg #[v3a, v3b]] w (RB w (.bool true)) := by
 obtain ⟨a2, c2, rfl, hn2, hm2⟩ := s2.form
 obtain ⟨n2, hn2'⟩ : ∃ x, xs2.length = x := ⟨_, rfl⟩
 rw [hn2'] at s2 hn2 ⊢
 obtain ⟨a3, c3, rfl, hn3, hm3⟩ := t2.form
 obtain ⟨n3, hn3'⟩ : ∃ x, ys2.length = x := ⟨_, rfl⟩
 rw [hn3'] at t2 hn3 ⊢
 obtain ⟨a4, c4, rfl, hn4, hm4⟩ := s3.form
 obtain ⟨n4, hn4'⟩ : ∃ x, xs3.length = x := ⟨_, rfl⟩
 rw [hn4'] at s3 hn4 ⊢
 obtain ⟨a5, c5, rfl, hn5, hm5⟩ := t3.form
 obtain ⟨n5, hn5'⟩ : ∃ x, ys3.length = x := ⟨_, rfl⟩
 rw [hn5'] at t3 hn5 ⊢
 unfold maxLen at hm2 hm3 hm4 hm5
 have HX0 : Kept (Bxs w [rcdbox o ao n0 cap k, dubox (.slice a2 n2 c2) (.slice a3 n3 c3), dubox (.slice a4 n4 c4) (.slice a5 n5 c5)] (((w.alloc (rcdbox o ao n0 cap k)).alloc (dubox (.slice a2 n2 c2) (.slice a3 n3 c3))).alloc (dubox (.slice a4 n4 c4) (.slice a5 n5 c5)))) := ⟨(((Bxs.start w).alloc (by simp) _).alloc (by simp) _).alloc (by simp) _⟩
 have HTM : Kept (∀ W, Below w.heap.size w W -> Calls Tryz.prog 30 #[cdv o ao n0 cap k, .int .i64 8] W (TaRet 8 W)) := ⟨fun W hW => tame_any o k ao n0 cap 8 ys W hl (hs.below hW) hi o0 o1 k0 k1 (by omega)⟩
 have HAW := Kept.mk (fun W => cawake_any W)
 have HEA : Kept (∀ W, Below w.heap.size w W -> ∀ q len : Nat, 1 <= q -> q <= 300 -> len <= 20 -> Calls Tryz.prog 37 #[.int .i64 q, .slice a2 n2 c2, .int .i64 len] W (RetP W (elL q xs2 len) len)) := ⟨fun W hW q len hq1 hq3 hk => (elements_any q len (.slice a2 n2 c2) xs2 W (s2.below hW) w2 hq1 (by omega) (by omega)).mono fun e w' h => h.parts (elL_len _ _ _)⟩
 have HPB : Kept (∀ W, Below w.heap.size w W -> ∀ q most : Nat, 1 <= q -> q <= 20 -> most <= 20 -> Calls Tryz.prog 41 #[.slice a3 n3 c3, .int .i64 q, .int .i64 most] W (RetM W (ints (plF ys2 q most ys2.length)))) := ⟨fun W hW q most hq1 hq3 hm => places_any q most (.slice a3 n3 c3) ys2 W (t2.below hW) x2 hq1 (by omega) (by omega)⟩
 have HEC : Kept (∀ W, Below w.heap.size w W -> ∀ q len : Nat, 1 <= q -> q <= 300 -> len <= 20 -> Calls Tryz.prog 37 #[.int .i64 q, .slice a4 n4 c4, .int .i64 len] W (RetP W (elL q xs3 len) len)) := ⟨fun W hW q len hq1 hq3 hk => (elements_any q len (.slice a4 n4 c4) xs3 W (s3.below hW) w3 hq1 (by omega) (by omega)).mono fun e w' h => h.parts (elL_len _ _ _)⟩
 have HED : Kept (∀ W, Below w.heap.size w W -> ∀ q len : Nat, 1 <= q -> q <= 300 -> len <= 20 -> Calls Tryz.prog 37 #[.int .i64 q, .slice a5 n5 c5, .int .i64 len] W (RetP W (elL q ys3 len) len)) := ⟨fun W hW q len hq1 hq3 hk => (elements_any q len (.slice a5 n5 c5) ys3 W (t3.below hW) x3 hq1 (by omega) (by omega)).mono fun e w' h => h.parts (elL_len _ _ _)⟩
 have HRC : Kept (∀ W, Below w.heap.size w W -> Calls Tryz.prog 18 #[.slice a4 n4 c4, .int .i64 12] W (fun e w' => Below W.heap.size W w' /\ ∃ (va : Option Addr) (vc m : Nat), e = .returned (.slice va m vc) /\ (xs3.take 12).length = m /\ Sl .i64 w' (.slice va m vc) (xs3.take 12))) := ⟨fun W hW => (raw3_any (.slice a4 n4 c4) xs3 12 W (s3.below hW) (by omega)).mono fun e w' ⟨hb, v', he, hmm⟩ => by
  obtain ⟨va, vc, rfl, _, _⟩ := hmm.sl.form
  exact ⟨hb, va, vc, _, he, rfl, hmm.sl⟩⟩
 have HRD : Kept (∀ W, Below w.heap.size w W -> Calls Tryz.prog 18 #[.slice a5 n5 c5, .int .i64 12] W (fun e w' => Below W.heap.size W w' /\ ∃ (va : Option Addr) (vc m : Nat), e = .returned (.slice va m vc) /\ (ys3.take 12).length = m /\ Sl .i64 w' (.slice va m vc) (ys3.take 12))) := ⟨fun W hW => (raw3_any (.slice a5 n5 c5) ys3 12 W (t3.below hW) (by omega)).mono fun e w' ⟨hb, v', he, hmm⟩ => by
  obtain ⟨va, vc, rfl, _, _⟩ := hmm.sl.form
  exact ⟨hb, va, vc, _, he, rfl, hmm.sl⟩⟩
 have HNW := Kept.mk (fun W (o : Int) (a : -9223372036854775808 <= o) (b : o <= 9223372036854775807) => rnew_any o W a b)
 clear hl hs hi o0 o1 k0 k1 s2 w2 t2 x2 s3 w3 t3 x3 hn2' hn3' hn4' hn5' hn2 hn3 hn4 hn5
 go_enter Tryz.func6, Tryz.ntmps6
 obtain ⟨c0, c1, c2, _⟩ := three_cells HX0.out.b0
 have hbx := HX0.out.1
 go_wp2_with fail
 (with_reducible refine (HTM.out _ hbx).mono ?_)
 rintro e w1 ⟨hb1, D, va, m, vc, kk, xs, hD, hq3, hcv, hmm, rfl, hsl⟩
 have HX1 := Kept.mk (HX0.out.below hb1)
 have HD := Kept.mk hD
 have HCV := Kept.mk hcv
 have hm1 : m <= 8 := by omega
 have hkk1 := hcv.k1
 have hkkm := hcv.kn
 have hq1 : 1 <= D.q := Nat.le_of_lt hD.pre.pk.one_lt
 have hal : Below w1.heap.size w1 (w1.alloc (rcdbox D.q va m vc kk)) := (Below.refl _ _).alloc (Nat.le_refl _) _
 have hg7 := heap_alloc_new w1 (rcdbox D.q va m vc kk)
 have hbw : Below w.heap.size w (w1.alloc (rcdbox D.q va m vc kk)) := (hbx.trans (hb1.mono hbx.size)).trans (hal.mono (Nat.le_trans hbx.size hb1.size))
 have hsl2 := hsl.below hal
 have HX2 := Kept.mk (HX1.out.below hal)
 obtain ⟨g7, hg⟩ : ∃ x, w1.heap.size = x := ⟨_, rfl⟩
 obtain ⟨W2, hW2⟩ : ∃ W, w1.alloc (rcdbox D.q va m vc kk) = W := ⟨_, rfl⟩
 rw [hW2, hg] at hg7
 rw [hW2] at hbw hsl2 HX2
 have HG7 := Kept.mk hg7
 have HBW := Kept.mk hbw
 have HSL := Kept.mk hsl2
 obtain ⟨p0, p1, p2, _⟩ := three_cells hg7
 have HGI := Kept.mk (give_any (D.q : Int) (kk : Int) va m vc W2)
 go_upto_region 2 with fail
 try rw [hW2]
 try rw [hg]
 clear hbx hb1 hD hcv hmm hsl hal hg7 hbw hsl2 c0 c1 c2 hW2 hg HX0 HX1 HTM
 go_wp2_with fail
 (with_reducible refine HGI.out.mono ?_)
 rintro e w3 ⟨hb3, rfl⟩
 have hal : Below w3.heap.size w3 (w3.alloc (cdbox D.q va m vc kk)) := (Below.refl _ _).alloc (Nat.le_refl _) _
 have hg8 := heap_alloc_new w3 (cdbox D.q va m vc kk)
 have hb4 := bstep hb3 hal
 have HX4 := Kept.mk (HX2.out.below hb4)
 obtain ⟨g8, hg⟩ : ∃ x, w3.heap.size = x := ⟨_, rfl⟩
 obtain ⟨W4, hW4⟩ : ∃ W, w3.alloc (cdbox D.q va m vc kk) = W := ⟨_, rfl⟩
 rw [hW4, hg] at hg8
 rw [hW4] at hb4 HX4
 have HL4 : Kept (LwAt w D va m vc kk xs g7 g8 W4) := ⟨⟨HBW.out.trans (hb4.mono HBW.out.size), (hb4.block _ (Array.getElem?_eq_some_iff.1 HG7.out).1).trans HG7.out, hg8, HSL.out.below hb4⟩⟩
 go_upto_region 3 with fail
 try rw [hW4]
 try rw [hg]
 clear hb3 hal hg8 hb4 hg hW4 p0 p1 p2 HGI HBW HG7 HSL HX2
 obtain ⟨p0, p1, p2, _⟩ := three_cells HL4.out.b7
 obtain ⟨r0, r1, r2, _⟩ := three_cells HL4.out.b8
 obtain ⟨u0, u1, _, _⟩ := two_cells HX4.out.b1
 obtain ⟨vs, hvs⟩ : ∃ l, elL D.q xs2 m = l := ⟨_, rfl⟩
 have HVL : Kept (vs.length = m) := ⟨by rw [<- hvs]; exact elL_len _ _ _⟩
 have HVQ : Kept (∀ a ∈ vs, a < D.p ^ D.k) := ⟨by rw [<- hvs]; exact elL_lt (q := D.q) hq1 _ _⟩
 have HEL : Kept (∀ W, Below W4.heap.size W4 W -> Calls Tryz.prog 37 #[.int .i64 D.q, .slice a2 n2 c2, .int .i64 m] W (RetP W vs m)) := ⟨fun W hW => by rw [<- hvs]; exact HEA.out W (HL4.out.bel.trans (hW.mono HL4.out.bel.size)) D.q m hq1 hq3 (by omega)⟩
 obtain ⟨mo, hmo⟩ : ∃ x, m - kk = x := ⟨_, rfl⟩
 have ed : (m : Int) - (kk : Int) = (mo : Nat) := by omega
 obtain ⟨L, hL⟩ : ∃ l, plF ys2 m mo ys2.length = l := ⟨_, rfl⟩
 obtain ⟨c, hc⟩ : ∃ x, L.length = x := ⟨_, rfl⟩
 have HLB : Kept (∀ a ∈ L, a < m) := ⟨by rw [<- hL]; exact plF_lt (by omega) _ _ _⟩
 have HDF : Kept (difB (ints L) c = true) := ⟨by rw [<- hc, <- hL]; exact dif_nodup (plF_nodup _ _ _ _)⟩
 have HLC := Kept.mk hc
 have hcm : c <= mo := by have h := (plF_len ys2 m mo ys2.length).1; rw [hL, hc] at h; omega
 have HPL : Kept (∀ W, Below W4.heap.size W4 W -> Calls Tryz.prog 41 #[.slice a3 n3 c3, .int .i64 m, .int .i64 (mo : Nat)] W (RetP W L c)) := ⟨fun W hW => (HPB.out W (HL4.out.bel.trans (hW.mono HL4.out.bel.size)) m mo (by omega) (by omega) (by omega)).mono fun e w' h => (by rw [hL] at h; exact h.parts hc)⟩
 clear HEA HPB hvs hL hc
 have ewm : IntKind.i64.wrap (mo : Int) = mo := wi (by omega) (by omega)
 have f0 := p0
 have f1 := p2
 have f2 := u0
 have f3 := u1
 go_upto_region 4 with fail
 go_region_held3 (fun w' => w'.cell? ⟨g7, 0, none⟩ = some (.int .i64 D.q) /\ w'.cell? ⟨g7, 2, none⟩ = some (.int .i64 kk) /\ w'.cell? ⟨w.heap.size + 1, 0, none⟩ = some (.slice a2 n2 c2) /\ w'.cell? ⟨w.heap.size + 1, 1, none⟩ = some (.slice a3 n3 c3))
  (first | exact ⟨j0, j1, j2, j3⟩ | exact ⟨h0, h1, h2, h3⟩ | exact ⟨f0, f1, f2, f3⟩ | go_keep)
  ((first
    | (go_at_call 37; (with_reducible refine (HEL.out _ ?h1).mono ?_); (case h1 => exact (by first | exact Below.refl _ _ | exact (Below.refl _ _).drew)); rintro e va1 ⟨hba1, ea, ec, rfl, hms⟩; have hya1 := Kept.mk (bstep (show Below W4.heap.size W4 _ from (by first | exact Below.refl _ _ | exact (Below.refl _ _).drew)) hba1); have h0 := belowCell hya1.out f0; have h1 := belowCell hya1.out f1; have h2 := belowCell hya1.out f2; have h3 := belowCell hya1.out f3; have HSV1 := Kept.mk hms.sl; clear hms; clear hba1)
    | (go_at_call 41; (with_reducible refine (HPL.out _ ?h1).mono ?_); (case h1 => exact (by first | exact hya1.out | exact hya1.out.drew)); rintro e va2 ⟨hba2, pa, pc, rfl, hmp⟩; have hya2 := Kept.mk (bstep (show Below W4.heap.size W4 _ from (by first | exact hya1.out | exact hya1.out.drew)) hba2); have j0 := belowCell hya2.out f0; have j1 := belowCell hya2.out f1; have j2 := belowCell hya2.out f2; have j3 := belowCell hya2.out f3; have HSL := Kept.mk hmp.sl; have HSV := Kept.mk (show Sl .i64 va2 (.slice ea m ec) (ints vs) from (by first | exact HSV1.out.below hba2 | exact (HSV1.out.below (Below.refl _ _).drew).below hba2)); clear hmp; clear hba2)))
 have HL6 := Kept.mk (HL4.out.below hya2.out)
 have HX6 := Kept.mk (HX4.out.below hya2.out)
 obtain ⟨W6, hW6⟩ : ∃ W, va2 = W := ⟨_, rfl⟩
 rw [hW6] at HSV HSL HL6 HX6 ⊢
 clear ewm f0 f1 f2 f3 h0 h1 h2 h3 j0 j1 j2 j3 p0 p1 p2 r0 r1 r2 u0 u1 HSV1 HEL HPL hya1 hya2 hW6 HL4 HX4
 obtain ⟨f0, f1, _, _⟩ := two_cells (bxs_b2 HX6.out)
 have HRC6 : Kept (∀ W, Below W6.heap.size W6 W -> Calls Tryz.prog 18 #[.slice a4 n4 c4, .int .i64 12] W (fun e w' => Below W.heap.size W w' /\ ∃ (va : Option Addr) (vc m : Nat), e = .returned (.slice va m vc) /\ (xs3.take 12).length = m /\ Sl .i64 w' (.slice va m vc) (xs3.take 12))) := ⟨fun W hW => HRC.out W (HL6.out.bel.trans (hW.mono HL6.out.bel.size))⟩
 have HRD6 : Kept (∀ W, Below W6.heap.size W6 W -> Calls Tryz.prog 18 #[.slice a5 n5 c5, .int .i64 12] W (fun e w' => Below W.heap.size W w' /\ ∃ (va : Option Addr) (vc m : Nat), e = .returned (.slice va m vc) /\ (ys3.take 12).length = m /\ Sl .i64 w' (.slice va m vc) (ys3.take 12))) := ⟨fun W hW => HRD.out W (HL6.out.bel.trans (hW.mono HL6.out.bel.size))⟩
 clear HRC HRD
 go_upto_region 5 with fail
 go_region_held3 (fun w' => w'.cell? ⟨w.heap.size + 1 + 1, 0, none⟩ = some (.slice a4 n4 c4) /\ w'.cell? ⟨w.heap.size + 1 + 1, 1, none⟩ = some (.slice a5 n5 c5))
  (first | exact ⟨j0, j1⟩ | exact ⟨h0, h1⟩ | exact ⟨f0, f1⟩ | go_keep)
  ((first
    | (go_at_call 18; (with_reducible refine (HRC6.out _ ?h1).mono ?_); (case h1 => exact (by first | exact Below.refl _ _ | exact (Below.refl _ _).drew)); rintro e vb1 ⟨hbb1, qa, qc, nq, rfl, hlq, hsq⟩; have hyb1 := Kept.mk (bstep (show Below W6.heap.size W6 _ from (by first | exact Below.refl _ _ | exact (Below.refl _ _).drew)) hbb1); have h0 := belowCell hyb1.out f0; have h1 := belowCell hyb1.out f1; have HLQ := Kept.mk hlq; have HSQ1 := Kept.mk hsq; clear hlq hsq; clear hbb1)
    | (go_at_call 18; (with_reducible refine (HRD6.out _ ?h1).mono ?_); (case h1 => exact (by first | exact hyb1.out | exact hyb1.out.drew)); rintro e vb2 ⟨hbb2, fa, fc, ne, rfl, hle, hse⟩; have hyb2 := Kept.mk (bstep (show Below W6.heap.size W6 _ from (by first | exact hyb1.out | exact hyb1.out.drew)) hbb2); have j0 := belowCell hyb2.out f0; have j1 := belowCell hyb2.out f1; have HLE := Kept.mk hle; have HSE := Kept.mk hse; have HSQ := Kept.mk (show Sl .i64 vb2 (.slice qa nq qc) (xs3.take 12) from (by first | exact HSQ1.out.below hbb2 | exact (HSQ1.out.below (Below.refl _ _).drew).below hbb2)); clear hle hse; clear hbb2)))
 have HS0 : Kept (DnSt w [rcdbox o ao n0 cap k, dubox (.slice a2 n2 c2) (.slice a3 n3 c3), dubox (.slice a4 n4 c4) (.slice a5 n5 c5)] D va m vc kk xs g7 g8 ea pa ec pc c vs L qa nq qc (xs3.take 12) fa ne fc (ys3.take 12) vb2) := ⟨⟨HL6.out.below hyb2.out, HX6.out.below hyb2.out, HSV.out.below hyb2.out, HSL.out.below hyb2.out, HSQ.out, HSE.out, HLQ.out, HLE.out⟩⟩
 clear f0 f1 h0 h1 j0 j1 HRC6 HRD6 HSQ1 HSQ HSE HLQ HLE HSV HSL HL6 HX6 hyb1 hyb2
 go_wp2
 go_loopw [12, 13, 14] (fun qv ev kv wr => ∃ (kx nq ne qc fc : Nat) (qa fa : Option Addr) (Q E : List Int), kx <= 3 /\ qv = .slice qa nq qc /\ ev = .slice fa ne fc /\ kv = .int .i64 kx /\ Kept (DnSt w [rcdbox o ao n0 cap k, dubox (.slice a2 n2 c2) (.slice a3 n3 c3), dubox (.slice a4 n4 c4) (.slice a5 n5 c5)] D va m vc kk xs g7 g8 ea pa ec pc c vs L qa nq qc Q fa ne fc E wr)) (fun _ _ kv _ => 3 - (intOf kv).toNat)
 case atStart => exact ⟨0, nq, ne, qc, fc, qa, fa, _, _, by omega, rfl, rfl, rfl, HS0⟩
 case round =>
  clear HS0
  obtain ⟨kx, nq, ne, qc, fc, qa, fa, Q, E, hk3, rfl, rfl, rfl, hst⟩ := hrel
  obtain ⟨p0, p1, p2, _⟩ := three_cells hst.out.lw.b7
  obtain ⟨r0, r1, r2, _⟩ := three_cells hst.out.lw.b8
  obtain ⟨u0, u1, _, _⟩ := two_cells (bxs_b2 hst.out.bx)
  by_cases hlt : kx < 3
  ·obtain ⟨bb, hdn⟩ := denies_same3 HD.out va ea pa vc ec pc m c kk nq ne xs vs (ints L) HCV.out HVL.out (by rw [FFld.ints_len]; exact HLC.out) HVQ.out (by omega) (bel_lt HLB.out) HDF.out Q E hst.out.lq hst.out.le
   have D1 := Kept.mk (fun W (hW : Below wr.heap.size wr W) => hdn.own qa fa qc fc W (hst.out.lw.sl.below hW) (hst.out.sv.below hW) (hst.out.sl.below hW) (hst.out.sq.below hW) (hst.out.se.below hW))
   have D2 := Kept.mk (fun W (hW : Below wr.heap.size wr W) => hdn.ref qa fa qc fc W (hst.out.lw.sl.below hW) (hst.out.sv.below hW) (hst.out.sl.below hW) (hst.out.sq.below hW) (hst.out.se.below hW))
   have ett : (bb != bb) = false := by simp
   have f0 := r0
   have f1 := r1
   have f2 := r2
   have f3 := p0
   have f4 := p1
   have f5 := p2
   clear hdn p0 p1 p2 r0 r1 r2 u0 u1
   go_wp2_with fail
   go_upto_region 9 with fail
   go_region_held3 (fun w' => w'.cell? ⟨g8, 0, none⟩ = some (.int .i64 D.q) /\ w'.cell? ⟨g8, 1, none⟩ = some (.slice va m vc) /\ w'.cell? ⟨g8, 2, none⟩ = some (.int .i64 kk) /\ w'.cell? ⟨g7, 0, none⟩ = some (.int .i64 D.q) /\ w'.cell? ⟨g7, 1, none⟩ = some (.slice va m vc) /\ w'.cell? ⟨g7, 2, none⟩ = some (.int .i64 kk))
    (first | exact ⟨j0, j1, j2, j3, j4, j5⟩ | exact ⟨h0, h1, h2, h3, h4, h5⟩ | exact ⟨f0, f1, f2, f3, f4, f5⟩ | go_keep)
    ((first
      | (go_at_call 29; (with_reducible refine (D1.out _ ?h1).mono ?_); (case h1 => exact (by first | exact Below.refl _ _ | exact (Below.refl _ _).drew)); rintro e vd1 ⟨hbd1, rfl⟩; have hyd1 := Kept.mk (bstep (show Below wr.heap.size wr _ from (by first | exact Below.refl _ _ | exact (Below.refl _ _).drew)) hbd1); have h0 := belowCell hyd1.out f0; have h1 := belowCell hyd1.out f1; have h2 := belowCell hyd1.out f2; have h3 := belowCell hyd1.out f3; have h4 := belowCell hyd1.out f4; have h5 := belowCell hyd1.out f5; clear hbd1)
      | (go_at_call 40; (with_reducible refine (D2.out _ ?h1).mono ?_); (case h1 => exact (by first | exact hyd1.out | exact hyd1.out.drew)); rintro e vd2 ⟨hbd2, rfl⟩; have hyd2 := Kept.mk (bstep (show Below wr.heap.size wr _ from (by first | exact hyd1.out | exact hyd1.out.drew)) hbd2); have j0 := belowCell hyd2.out f0; have j1 := belowCell hyd2.out f1; have j2 := belowCell hyd2.out f2; have j3 := belowCell hyd2.out f3; have j4 := belowCell hyd2.out f4; have j5 := belowCell hyd2.out f5; clear hbd2)))
   have HS1 := Kept.mk (hst.out.below hyd2.out)
   clear f0 f1 f2 f3 f4 f5 h0 h1 h2 h3 h4 h5 j0 j1 j2 j3 j4 j5 D1 D2 hyd1 hyd2 hst
   obtain ⟨p0, p1, p2, _⟩ := three_cells HS1.out.lw.b7
   obtain ⟨r0, r1, r2, _⟩ := three_cells HS1.out.lw.b8
   obtain ⟨u0, u1, _, _⟩ := two_cells (bxs_b2 HS1.out.bx)
   obtain ⟨t, ht⟩ : ∃ x, (m - c - kk) / 2 = x := ⟨_, rfl⟩
   have HRA : Kept (∀ W, Calls Tryz.prog 42 #[cdv D.q va m vc kk, .int .i64 c] W (RB W (.int .i64 (t : Nat)))) := ⟨fun W => by
    have h := rradius_any (D.q : Int) va m vc kk c W (by omega) (by omega)
    rw [ht] at h
    exact h⟩
   obtain ⟨l1, hl1⟩ : ∃ x, min n5 (t + 1) = x := ⟨_, rfl⟩
   obtain ⟨l2, hl2⟩ : ∃ x, min n4 (m - c - t) = x := ⟨_, rfl⟩
   have em1 : min (n5 : Int) ((t : Int) + 1) = (l1 : Nat) := by omega
   have er1 : (m : Int) - (c : Int) = ((m - c : Nat) : Int) := by omega
   have er2 : ((m - c : Nat) : Int) - (t : Int) = ((m - c - t : Nat) : Int) := by omega
   have em2 : min (n4 : Int) ((m - c - t : Nat) : Int) = (l2 : Nat) := by omega
   have hl18 : l1 <= 20 := by omega
   have hl28 : l2 <= 20 := by omega
   have hct : t + c <= m := by omega
   clear ht hl1 hl2
   go_wp2_with fail
   (with_reducible refine (HRA.out _).mono ?_)
   rintro e w1 ⟨hb1, rfl⟩
   have HS2 := Kept.mk (HS1.out.below hb1)
   clear hb1 HRA HS1 p0 p1 p2 r0 r1 r2 u0 u1
   obtain ⟨p0, p1, p2, _⟩ := three_cells HS2.out.lw.b7
   obtain ⟨r0, r1, r2, _⟩ := three_cells HS2.out.lw.b8
   obtain ⟨u0, u1, _, _⟩ := two_cells (bxs_b2 HS2.out.bx)
   obtain ⟨E2, hE2⟩ : ∃ l, elL D.q ys3 l1 = l := ⟨_, rfl⟩
   obtain ⟨Q2, hQ2⟩ : ∃ l, elL D.q xs3 l2 = l := ⟨_, rfl⟩
   have HE2L : Kept (E2.length = l1) := ⟨by rw [<- hE2]; exact elL_len _ _ _⟩
   have HQ2L : Kept (Q2.length = l2) := ⟨by rw [<- hQ2]; exact elL_len _ _ _⟩
   have HE2 : Kept (∀ W, Below w.heap.size w W -> Calls Tryz.prog 37 #[.int .i64 D.q, .slice a5 n5 c5, .int .i64 (l1 : Nat)] W (RetP W E2 l1)) := ⟨fun W hW => by rw [<- hE2]; exact HED.out W hW D.q l1 hq1 hq3 hl18⟩
   have HQ2 : Kept (∀ W, Below w.heap.size w W -> Calls Tryz.prog 37 #[.int .i64 D.q, .slice a4 n4 c4, .int .i64 (l2 : Nat)] W (RetP W Q2 l2)) := ⟨fun W hW => by rw [<- hQ2]; exact HEC.out W hW D.q l2 hq1 hq3 hl28⟩
   have HTR : Kept (∀ (l : List Nat) (ln : Nat) (a : Option Addr) (cp : Nat) (W : World), l.length = ln -> ln <= 20 -> Sl .i64 W (.slice a ln cp) (ints l) -> Calls Tryz.prog 43 #[.slice a ln cp] W (fun e w' => W = w' /\ e = .returned (.slice a (FFld.trm l).length cp) /\ Sl .i64 W (.slice a (FFld.trm l).length cp) (ints (FFld.trm l)))) := ⟨fun l ln a cp W hl hl2 hs => by
    subst hl
    exact (rtrim_any l a cp W hs (by omega)).mono fun e w' ⟨h1, h2⟩ => ⟨h1, h2, trm_sl hs⟩⟩
   clear hE2 hQ2
   go_wp2_with fail
   (with_reducible refine (HE2.out _ HS2.out.lw.bel).mono ?_)
   rintro e w2 ⟨hb2, ya, yc, rfl, hms⟩
   have HSE := Kept.mk hms.sl
   have HS3 := Kept.mk (HS2.out.below hb2)
   clear hb2 hms HE2 HS2 p0 p1 p2 r0 r1 r2 u0 u1
   obtain ⟨p0, p1, p2, _⟩ := three_cells HS3.out.lw.b7
   obtain ⟨r0, r1, r2, _⟩ := three_cells HS3.out.lw.b8
   obtain ⟨u0, u1, _, _⟩ := two_cells (bxs_b2 HS3.out.bx)
   go_wp2_with fail
   (with_reducible refine (HTR.out E2 l1 _ _ _ HE2L.out hl18 HSE.out).mono ?_)
   rintro e w3 ⟨rfl, rfl, hse⟩
   obtain ⟨le2, hle2⟩ : ∃ x, (FFld.trm E2).length = x := ⟨_, rfl⟩
   rw [hle2] at hse ⊢
   have HSE := Kept.mk hse
   have HLE2 : Kept ((ints (FFld.trm E2)).length = le2) := ⟨by rw [FFld.ints_len]; exact hle2⟩
   clear hse hle2
   go_wp2_with fail
   (with_reducible refine (HQ2.out _ HS3.out.lw.bel).mono ?_)
   rintro e w4 ⟨hb4, za, zc, rfl, hms⟩
   have HSQ := Kept.mk hms.sl
   have HS4 := Kept.mk (HS3.out.below hb4)
   have HSE := Kept.mk (HSE.out.below hb4)
   clear hb4 hms HQ2 HS3 p0 p1 p2 r0 r1 r2 u0 u1
   obtain ⟨p0, p1, p2, _⟩ := three_cells HS4.out.lw.b7
   obtain ⟨r0, r1, r2, _⟩ := three_cells HS4.out.lw.b8
   obtain ⟨u0, u1, _, _⟩ := two_cells (bxs_b2 HS4.out.bx)
   go_wp2_with fail
   (with_reducible refine (HTR.out Q2 l2 _ _ _ HQ2L.out hl28 HSQ.out).mono ?_)
   rintro e w5 ⟨rfl, rfl, hsq⟩
   obtain ⟨lq2, hlq2⟩ : ∃ x, (FFld.trm Q2).length = x := ⟨_, rfl⟩
   rw [hlq2] at hsq ⊢
   have HSQ := Kept.mk hsq
   have HLQ2 : Kept ((ints (FFld.trm Q2)).length = lq2) := ⟨by rw [FFld.ints_len]; exact hlq2⟩
   clear hsq hlq2
   by_cases hk1 : kx = 1
   ·have e5 : ((kx : Int) == 1) = true := by rw [beq_iff_eq]; omega
    have HS5 : Kept (DnSt w [rcdbox o ao n0 cap k, dubox (.slice a2 n2 c2) (.slice a3 n3 c3), dubox (.slice a4 n4 c4) (.slice a5 n5 c5)] D va m vc kk xs g7 g8 ea pa ec pc c vs L za lq2 zc (ints (FFld.trm Q2)) ya le2 yc (ints (FFld.trm E2)) w4) := ⟨⟨HS4.out.lw, HS4.out.bx, HS4.out.sv, HS4.out.sl, HSQ.out, HSE.out, HLQ2.out, HLE2.out⟩⟩
    clear hk1 HS4 HSQ HSE HLQ2 HLE2
    have HN5 := Kept.mk (HNW.out w4 (D.q : Int) (by omega) (by omega))
    go_wp2_with fail
    (with_reducible refine HN5.out.mono ?_)
    rintro e w6 ⟨hb6, ⟨D', hD', hq', rfl⟩ | ⟨hno, rfl⟩⟩
    ·obtain rfl : D' = D := FFld.FD.uniq hD' HD.out (by omega)
     have hal : Below w6.heap.size w6 (w6.alloc (rbox D'.q D'.p D'.k D'.m)) := (Below.refl _ _).alloc (Nat.le_refl _) _
     have hG := heap_alloc_new w6 (rbox D'.q D'.p D'.k D'.m)
     have HS6 := Kept.mk ((HS5.out.below hb6).below hal)
     obtain ⟨g9, hg⟩ : ∃ x, w6.heap.size = x := ⟨_, rfl⟩
     obtain ⟨W7, hW7⟩ : ∃ W, w6.alloc (rbox D'.q D'.p D'.k D'.m) = W := ⟨_, rfl⟩
     rw [hW7, hg] at hG
     rw [hW7] at HS6
     go_upto_region 16 with fail
     try rw [hW7]
     try rw [hg]
     clear hb6 hq' hal hg hW7 hD' HN5 HS5 p0 p1 p2 r0 r1 r2 u0 u1
     have HG := Kept.mk hG
     clear hG
     obtain ⟨p0, p1, p2, _⟩ := three_cells HS6.out.lw.b7
     obtain ⟨r0, r1, r2, _⟩ := three_cells HS6.out.lw.b8
     obtain ⟨u0, u1, _, _⟩ := two_cells (bxs_b2 HS6.out.bx)
     obtain ⟨ms, hms'⟩ : ∃ l, elL D'.q xs3 kk = l := ⟨_, rfl⟩
     have HML : Kept (ms.length = kk) := ⟨by rw [<- hms']; exact elL_len _ _ _⟩
     have HMQ : Kept (∀ a ∈ ms, a < D'.p ^ D'.k) := ⟨by rw [<- hms']; exact elL_lt (q := D'.q) hq1 _ _⟩
     have HEM : Kept (∀ W, Below w.heap.size w W -> Calls Tryz.prog 37 #[.int .i64 D'.q, .slice a4 n4 c4, .int .i64 kk] W (RetP W ms kk)) := ⟨fun W hW => by rw [<- hms']; exact HEC.out W hW D'.q kk hq1 hq3 (by omega)⟩
     clear hms'
     go_wp2_with fail
     (with_reducible refine (HEM.out _ HS6.out.lw.bel).mono ?_)
     rintro e w8 ⟨hb8, ma, mc, rfl, hms⟩
     have hal : Below w8.heap.size w8 (w8.alloc (.cells #[.int .i64 1] 3)) := (Below.refl _ _).alloc (Nat.le_refl _) _
     have hb9 := bstep hb8 hal
     have HSM := Kept.mk (hms.sl.below hal)
     have HS9 := Kept.mk (HS6.out.below hb9)
     have HG9 := Kept.mk ((hb9.block _ (Array.getElem?_eq_some_iff.1 HG.out).1).trans HG.out)
     have HS1 : Kept (Sl .i64 (w8.alloc (.cells #[.int .i64 1] 3)) (.slice (some ⟨w8.heap.size, 0, none⟩) 1 1) (ints [1])) := ⟨one_sln w8 1⟩
     have HO1 : Kept (∀ a ∈ ([1] : List Nat), a < D'.p ^ D'.k) := ⟨fun a ha => by rw [List.mem_singleton.1 ha]; exact HD.out.pre.pk.one_lt⟩
     obtain ⟨W9, hW9⟩ : ∃ W, w8.alloc (.cells #[.int .i64 1] 3) = W := ⟨_, rfl⟩
     obtain ⟨gb, hgb⟩ : ∃ x, w8.heap.size = x := ⟨_, rfl⟩
     rw [hW9] at HSM HS9 HG9 HS1
     rw [hgb] at HS1
     have HPD := Kept.mk (fun vp vq pl ql W h1 h2 h3 h4 h5 h6 => rproductp_any HD.out vp vq pl ql W h1 h2 h3 h4 h5 h6)
     have HNG := Kept.mk (fun W x (hx : x < D'.p ^ D'.k) => rneg_any D'.q D'.p D'.k D'.m x W HD.out.pre.pk.p2 HD.out.pre.pk.k1 hx HD.out.pre.small)
     clear hb8 hms hal hb9 HEM HG HS6 p0 p1 p2 r0 r1 r2 u0 u1
     go_upto_region 18 with fail
     try rw [hW9]
     try rw [hgb]
     clear hW9 hgb
     go_wp2
     go_loopw [13, 19] (fun ev iv wr => ∃ (i ln lc : Nat) (la : Option Addr) (el : List Nat), i <= m /\ ev = .slice la ln lc /\ iv = .int .i64 i /\ 1 <= ln /\ ln <= i + 1 /\ Kept (el.length = ln) /\ Kept (∀ a ∈ el, a < D'.p ^ D'.k) /\ Kept (Sl .i64 wr (.slice la ln lc) (ints el)) /\ Kept (Below W9.heap.size W9 wr)) (fun _ iv _ => m - (intOf iv).toNat)
     case atStart => exact ⟨0, 1, 1, some ⟨gb, 0, none⟩, [1], Nat.zero_le _, rfl, rfl, by omega, by omega, ⟨rfl⟩, HO1, HS1, ⟨Below.refl _ _⟩⟩
     case round =>
      clear HS1 HO1
      obtain ⟨i, ln, lc, la, el, him, rfl, rfl, hln1, hln2, hll, hlq, hsl, hbw⟩ := hrel
      have HSr := Kept.mk (HS9.out.below hbw.out)
      have HGr := Kept.mk ((hbw.out.block _ (Array.getElem?_eq_some_iff.1 HG9.out).1).trans HG9.out)
      obtain ⟨f0, f1, f2, f3⟩ := four_cells HGr.out
      by_cases hlt2 : i < m
      ·obtain ⟨bx, ox, rfl, hbx, f5⟩ := HSr.out.lw.sl.news_ i (by rw [FFld.ints_len, HCV.out.len]; exact hlt2)
       obtain ⟨bv, ov, rfl, hbv, f6⟩ := HSr.out.sv.news_ i (by rw [FFld.ints_len, HVL.out]; exact hlt2)
       obtain ⟨_, f4, _, _⟩ := three_cells HSr.out.lw.b7
       rw [FFld.ints_get] at f5 f6
       obtain ⟨x, hxv⟩ : ∃ y, xs[i]?.getD 0 = y := ⟨_, rfl⟩
       obtain ⟨y, hyv⟩ : ∃ y, vs[i]?.getD 0 = y := ⟨_, rfl⟩
       rw [hxv] at f5
       rw [hyv] at f6
       have hxx : x < D'.p ^ D'.k := by rw [<- hxv]; exact HCV.out.lt _ (FFld.get_mem (by rw [HCV.out.len]; exact hlt2))
       obtain ⟨z, hz⟩ : ∃ r, FFld.hornF D' ms x ms.length = r := ⟨_, rfl⟩
       have HVA : Kept (∀ W, Below wr.heap.size wr W -> Calls Tryz.prog 44 #[rfv D'.q D'.p D'.k D'.m, .slice ma kk mc, .int .i64 (x : Nat)] W (RB W (.int .i64 (z : Nat)))) := ⟨fun W hW => by
        rw [<- hz]
        exact rvalue_any HD.out (.slice ma kk mc) ms x W ((HSM.out.below hbw.out).below hW) HMQ.out hxx (by rw [HML.out]; omega)⟩
       obtain ⟨z2, hz2⟩ : ∃ r, FFld.pscl D'.p D'.k (D'.p - 1) x = r := ⟨_, rfl⟩
       have hzq : z2 < D'.p ^ D'.k := by rw [<- hz2]; exact FFld.pscl_lt HD.out.pre.pk _ _
       have hN := Kept.mk (fun W => HNG.out W x hxx)
       rw [hz2] at hN
       have HZ2 := Kept.mk (two_lt HD.out.pre.pk hzq)
       clear hz hz2 hxv hyv hzq hxx
       by_cases hyz : y = z
       ·subst hyz
        have e6 : ((y : Int) != (y : Int)) = false := by simp
        go_wp2_with fail
        go_upto_region 21 with fail
        go_region_held3 (fun w' => w'.cell? ⟨g9, 0, none⟩ = some (.int .i64 D'.q) /\ w'.cell? ⟨g9, 1, none⟩ = some (.int .i64 D'.p) /\ w'.cell? ⟨g9, 2, none⟩ = some (.int .i64 D'.k) /\ w'.cell? ⟨g9, 3, none⟩ = some (.int .i64 D'.m) /\ w'.cell? ⟨g7, 1, none⟩ = some (.slice (some ⟨bx, ox, none⟩) m vc) /\ w'.cell? ⟨bx, ox + i, none⟩ = some (.int .i64 (x : Nat)) /\ w'.cell? ⟨bv, ov + i, none⟩ = some (.int .i64 (y : Nat)))
         (first | exact ⟨h0, h1, h2, h3, h4, h5, h6⟩ | exact ⟨f0, f1, f2, f3, f4, f5, f6⟩ | go_keep)
         ((first
           | (go_at_call 44; (with_reducible refine (HVA.out _ ?h1).mono ?_); (case h1 => exact (by first | exact Below.refl _ _ | exact (Below.refl _ _).drew)); rintro e vl1 ⟨hbl1, rfl⟩; have hyl1 := Kept.mk (bstep (show Below wr.heap.size wr _ from (by first | exact Below.refl _ _ | exact (Below.refl _ _).drew)) hbl1); have h0 := belowCell hyl1.out f0; have h1 := belowCell hyl1.out f1; have h2 := belowCell hyl1.out f2; have h3 := belowCell hyl1.out f3; have h4 := belowCell hyl1.out f4; have h5 := belowCell hyl1.out f5; have h6 := belowCell hyl1.out f6; clear hbl1)))
        go_wp2
        go_roundw
        case rel => exact ⟨i + 1, ln, lc, la, el, by omega, rfl, by go_num, hln1, by omega, hll, hlq, ⟨hsl.out.below hyl1.out⟩, ⟨bstep hbw.out hyl1.out⟩⟩
        case measure => simp [intOf] <;> omega
       ·have e6 : ((y : Int) != (z : Int)) = true := by rw [bne_iff_ne]; omega
        clear hyz
        go_wp2_with fail
        go_upto_region 21 with fail
        go_region_held3 (fun w' => w'.cell? ⟨g9, 0, none⟩ = some (.int .i64 D'.q) /\ w'.cell? ⟨g9, 1, none⟩ = some (.int .i64 D'.p) /\ w'.cell? ⟨g9, 2, none⟩ = some (.int .i64 D'.k) /\ w'.cell? ⟨g9, 3, none⟩ = some (.int .i64 D'.m) /\ w'.cell? ⟨g7, 1, none⟩ = some (.slice (some ⟨bx, ox, none⟩) m vc) /\ w'.cell? ⟨bx, ox + i, none⟩ = some (.int .i64 (x : Nat)) /\ w'.cell? ⟨bv, ov + i, none⟩ = some (.int .i64 (y : Nat)))
         (first | exact ⟨h0, h1, h2, h3, h4, h5, h6⟩ | exact ⟨f0, f1, f2, f3, f4, f5, f6⟩ | go_keep)
         ((first
           | (go_at_call 44; (with_reducible refine (HVA.out _ ?h1).mono ?_); (case h1 => exact (by first | exact Below.refl _ _ | exact (Below.refl _ _).drew)); rintro e vl1 ⟨hbl1, rfl⟩; have hyl1 := Kept.mk (bstep (show Below wr.heap.size wr _ from (by first | exact Below.refl _ _ | exact (Below.refl _ _).drew)) hbl1); have h0 := belowCell hyl1.out f0; have h1 := belowCell hyl1.out f1; have h2 := belowCell hyl1.out f2; have h3 := belowCell hyl1.out f3; have h4 := belowCell hyl1.out f4; have h5 := belowCell hyl1.out f5; have h6 := belowCell hyl1.out f6; clear hbl1)))
        have HSL1 := Kept.mk (hsl.out.below hyl1.out)
        obtain ⟨W1, hW1⟩ : ∃ W, vl1 = W := ⟨_, rfl⟩
        rw [hW1] at hyl1 HSL1 h0 h1 h2 h3 h4 h5 ⊢
        clear hW1 f0 f1 f2 f3 f4 f5 f6 h6 HVA
        have hal : ∀ W : World, Below W.heap.size W (W.alloc (.cells #[.int .i64 (z2 : Int), .int .i64 1] 3)) := fun W => (Below.refl _ _).alloc (Nat.le_refl _) _
        have HML2 : Kept (el.length <= 100000) := ⟨by rw [hll.out]; omega⟩
        go_upto_region 22 with fail
        go_region_held3 (fun w' => w'.cell? ⟨g9, 0, none⟩ = some (.int .i64 D'.q) /\ w'.cell? ⟨g9, 1, none⟩ = some (.int .i64 D'.p) /\ w'.cell? ⟨g9, 2, none⟩ = some (.int .i64 D'.k) /\ w'.cell? ⟨g9, 3, none⟩ = some (.int .i64 D'.m) /\ w'.cell? ⟨g7, 1, none⟩ = some (.slice (some ⟨bx, ox, none⟩) m vc) /\ w'.cell? ⟨bx, ox + i, none⟩ = some (.int .i64 (x : Nat)))
         (first | exact ⟨s0, s1, s2, s3, s4, s5⟩ | exact ⟨q0, q1, q2, q3, q4, q5⟩ | exact ⟨j0, j1, j2, j3, j4, j5⟩ | exact ⟨h0, h1, h2, h3, h4, h5⟩ | go_keep)
         ((first
           | (go_at_call 46; (with_reducible refine (hN.out _).mono ?_); rintro e v3 ⟨hb3, rfl⟩; have HB3 := Kept.mk (bstep (show Below W1.heap.size W1 _ from (by first | exact Below.refl _ _ | exact (Below.refl _ _).drew)) hb3); have j0 := belowCell HB3.out h0; have j1 := belowCell HB3.out h1; have j2 := belowCell HB3.out h2; have j3 := belowCell HB3.out h3; have j4 := belowCell HB3.out h4; have j5 := belowCell HB3.out h5; have q0 := belowCell (hal v3) j0; have q1 := belowCell (hal v3) j1; have q2 := belowCell (hal v3) j2; have q3 := belowCell (hal v3) j3; have q4 := belowCell (hal v3) j4; have q5 := belowCell (hal v3) j5; have HSO := Kept.mk ((HSL1.out.below HB3.out).below (hal v3)); have HS2 := Kept.mk (two_sl v3 (z2 : Int) 1); have HB4 := Kept.mk (bstep HB3.out (hal v3)); clear hb3)
           | (go_at_call 45; (refine (HPD.out _ _ _ [z2, 1] _ HSO.out HS2.out hlq.out HZ2.out HML2.out (by simp)).mono ?_); rintro e v5 ⟨hb5, vo, rfl, hs5⟩; have HB5 := Kept.mk (bstep HB4.out hb5); have s0 := belowCell hb5 q0; have s1 := belowCell hb5 q1; have s2 := belowCell hb5 q2; have s3 := belowCell hb5 q3; have s4 := belowCell hb5 q4; have s5 := belowCell hb5 q5; clear hb5)))
        have HLX : Kept ((FFld.mulL D' el [z2, 1]).length = ln + 1) := ⟨by rw [mulL_len2 _ _ _ _ (by rw [hll.out]; omega), hll.out]⟩
        have HLQX := Kept.mk (FFld.mulL_lt HD.out.pre.pk el [z2, 1])
        obtain ⟨la5, lc5, rfl, ho5, hm5⟩ := hs5.form
        rw [FFld.ints_len, HLX.out] at hs5 ⊢
        have HS5' := Kept.mk hs5
        have HB9 := Kept.mk (bstep (bstep hbw.out hyl1.out) HB5.out)
        clear hs5 ho5
        go_wp2
        go_roundw
        case rel => exact ⟨i + 1, ln + 1, lc5, la5, _, by omega, rfl, by go_num, by omega, by omega, HLX, HLQX, HS5', HB9⟩
        case measure => simp [intOf] <;> omega
      ·obtain rfl : i = m := by omega
       have HTRM : Kept (∀ W, Below wr.heap.size wr W -> Calls Tryz.prog 43 #[.slice ma kk mc] W (fun e w' => Below W.heap.size W w' /\ W = w' /\ e = .returned (.slice ma (FFld.trm ms).length mc) /\ Sl .i64 W (.slice ma (FFld.trm ms).length mc) (ints (FFld.trm ms)))) := ⟨fun W hW => (HTR.out ms kk ma mc W HML.out (by omega) ((HSM.out.below hbw.out).below hW)).mono fun e w' ⟨h1, h2, h3⟩ => ⟨h1 ▸ Below.refl _ _, h1, h2, h3⟩⟩
       have HTQ := Kept.mk (FFld.trm_lt HMQ.out)
       have HTL : Kept ((FFld.trm ms).length <= 100000) := ⟨by have := FFld.trm_len_le ms; rw [HML.out] at this; omega⟩
       have HML2 : Kept (el.length <= 100000) := ⟨by rw [hll.out]; omega⟩
       go_wp2_with fail
       go_upto_region 23 with fail
       go_region_held3 (fun w' => w'.cell? ⟨g9, 0, none⟩ = some (.int .i64 D'.q) /\ w'.cell? ⟨g9, 1, none⟩ = some (.int .i64 D'.p) /\ w'.cell? ⟨g9, 2, none⟩ = some (.int .i64 D'.k) /\ w'.cell? ⟨g9, 3, none⟩ = some (.int .i64 D'.m))
        (first | exact ⟨j0, j1, j2, j3⟩ | exact ⟨f0, f1, f2, f3⟩ | go_keep)
        ((first
          | (go_at_call 43; (with_reducible refine (HTRM.out _ ?h1).mono ?_); (case h1 => first | exact Below.refl _ _ | exact (Below.refl _ _).drew); rintro e v5 ⟨_, rfl, rfl, hs5⟩; have HS5 := Kept.mk hs5; clear hs5)
          | (go_at_call 45; (refine (HPD.out _ _ _ _ _ (by first | exact HS5.out | exact HS5.out.below (Below.refl _ _).drew) (by first | exact hsl.out | exact hsl.out.below (Below.refl _ _).drew) HTQ.out hlq.out HTL.out HML2.out).mono ?_); rintro e v6 ⟨hb6, vo, rfl, hs6⟩; have hy6 := Kept.mk (bstep (show Below wr.heap.size wr _ from (by first | exact Below.refl _ _ | exact (Below.refl _ _).drew)) hb6); have j0 := belowCell hy6.out f0; have j1 := belowCell hy6.out f1; have j2 := belowCell hy6.out f2; have j3 := belowCell hy6.out f3; clear hb6)))
       obtain ⟨qa6, qc6, rfl, ho6, hm6⟩ := hs6.form
       obtain ⟨nq6, hn6⟩ : ∃ x, (ints (FFld.mulL D' (FFld.trm ms) el)).length = x := ⟨_, rfl⟩
       rw [hn6] at hs6 ⊢
       have HS6' := Kept.mk hs6
       have HN6 := Kept.mk hn6
       have HSZ := Kept.mk (HSr.out.below hy6.out)
       have HSE6 := Kept.mk (hsl.out.below hy6.out)
       have HST6 : Kept (DnSt w [rcdbox o ao n0 cap k, dubox (.slice a2 n2 c2) (.slice a3 n3 c3), dubox (.slice a4 n4 c4) (.slice a5 n5 c5)] D' va i vc kk xs g7 g8 ea pa ec pc c vs L qa6 nq6 qc6 (ints (FFld.mulL D' (FFld.trm ms) el)) la ln lc (ints el) v6) := ⟨⟨HSZ.out.lw, HSZ.out.bx, HSZ.out.sv, HSZ.out.sl, HS6'.out, HSE6.out, HN6.out, by rw [FFld.ints_len]; exact hll.out⟩⟩
       clear hs6 hn6 ho6
       go_wp2
       go_roundw
       case rel => exact ⟨kx + 1, nq6, ln, qc6, lc, qa6, la, _, _, by omega, rfl, rfl, by go_num, HST6⟩
       case measure => simp [intOf] <;> omega
    ·exact absurd ⟨D, HD.out, rfl⟩ hno
   ·have e5 : ((kx : Int) == 1) = false := by rw [beq_eq_false_iff_ne]; omega
    have HS5 : Kept (DnSt w [rcdbox o ao n0 cap k, dubox (.slice a2 n2 c2) (.slice a3 n3 c3), dubox (.slice a4 n4 c4) (.slice a5 n5 c5)] D va m vc kk xs g7 g8 ea pa ec pc c vs L za lq2 zc (ints (FFld.trm Q2)) ya le2 yc (ints (FFld.trm E2)) w4) := ⟨⟨HS4.out.lw, HS4.out.bx, HS4.out.sv, HS4.out.sl, HSQ.out, HSE.out, HLQ2.out, HLE2.out⟩⟩
    clear hk1 HS4 HSQ HSE HLQ2 HLE2
    go_wp2
    go_roundw
    case rel => exact ⟨kx + 1, lq2, le2, zc, yc, za, ya, _, _, by omega, rfl, rfl, by go_num, HS5⟩
    case measure => simp [intOf] <;> omega
  ·obtain rfl : kx = 3 := by omega
   go_wp2_with fail
   (with_reducible refine (HAW.out _).mono ?_)
   rintro e w12 ⟨hb12, rfl⟩
   have HBZ := Kept.mk (hst.out.lw.bel.trans (hb12.mono hst.out.lw.bel.size))
   clear hb12 hst
   go_wp2
   go_ret
   exact ⟨HBZ.out, rfl⟩
end Go.Proofs.YtdnheaafcbihbaaGreat
