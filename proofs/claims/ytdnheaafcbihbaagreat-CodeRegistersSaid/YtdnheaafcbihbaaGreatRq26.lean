/-
  Texts of the proof, merged by program: Cdc Neu Rc3 Rc4 Ren Lma Lh1 Lh2 Lh3 Cen Cdd Awp Awc Law.
-/
import Derived.Test.YtdnheaafcbihbaaGreatRq25
set_option linter.unusedSimpArgs false
set_option linter.unusedVariables false
set_option maxHeartbeats 16000000
namespace Go.Proofs.YtdnheaafcbihbaaGreat
open Go Go.RowKit Go.Deep
open FFld (ints)
def GaRet2 {D : FFld.FD} (hD : D.Ok) (xs ys : List Nat) (n rad : Nat) (w : World) (e : Ending) (w' : World) : Prop := Below w.heap.size w w' /\ ∃ (aq : Option Addr) (cq : Nat) (av : Option Addr) (cv nQ nE : Nat) (Q E bf el : List Nat), e = .returned (.agg #[.slice aq nQ cq, .slice av nE cv]) /\ Q.length = nQ /\ E.length = nE /\ Sl .i64 w' (.slice aq nQ cq) (ints Q) /\ Sl .i64 w' (.slice av nE cv) (ints E) /\ FFld.GaoOk hD xs ys n bf Q el E /\ Q.length + rad <= n /\ n < bf.length + rad
theorem GaRet.two {D : FFld.FD} {hD : D.Ok} {xs ys : List Nat} {n rad : Nat} {w : World} {e : Ending} {w' : World} (h : GaRet hD xs ys n rad w e w') : GaRet2 hD xs ys n rad w e w' := by
 obtain ⟨hb, vq, ve, Q, E, bf, el, rfl, h1, h2, h3, h4, h5⟩ := h
 obtain ⟨aq, cq, rfl, _, _⟩ := h1.form
 obtain ⟨av, cv, rfl, _, _⟩ := h2.form
 exact ⟨hb, aq, cq, av, cv, _, _, Q, E, bf, el, rfl, (FFld.ints_len Q).symm, (FFld.ints_len E).symm, h1, h2, h3, h4, h5⟩
theorem good_of {D : FFld.FD} {xs ys Qu Rs : List Nat} {k rad : Nat} (h : goodB D xs ys Qu Rs k rad = true) : Good D xs ys Qu Rs k rad := Classical.byContradiction fun hn => by
 rw [good_no hn] at h
 cases h
theorem good_not {D : FFld.FD} {xs ys Qu Rs : List Nat} {k rad : Nat} (h : goodB D xs ys Qu Rs k rad = false) : ¬ Good D xs ys Qu Rs k rad := fun hg => by
 rw [good_yes hg] at h
 cases h
def NqRet (D : FFld.FD) (P W : List Nat) (k t : Nat) (w : World) (e : Ending) (w' : World) : Prop := Below w.heap.size w w' /\ ∃ (v : Value) (bb : Bool), e = .returned (.tuple #[v, .bool bb]) /\ (bb = true -> ∃ Po, Near D P W k t Po /\ Sl .i64 w' v (ints Po)) /\ (bb = false -> ∀ Po, ¬ Near D P W k t Po)
def DcRet (D : FFld.FD) (P W X : List Nat) (k t : Nat) (w : World) (e : Ending) (w' : World) : Prop := Below w.heap.size w w' /\ ((∃ Po v, Near D P W k t Po /\ e = .returned (.tuple #[v, .int .i64 0]) /\ Sl .i64 w' v (ints (FFld.valsF D Po X X.length))) \/ ((∀ Po, ¬ Near D P W k t Po) /\ e = .returned (.tuple #[nilv, .int .i64 30])))
set_option maxRecDepth 20000 in
theorem cdecode_any {D : FFld.FD} (hD : D.Ok) (ax aw ae : Option Addr) (cx cw ce n m k : Nat) (xs ws : List Nat) (es : List Int) (w : World) (hx : Sl .i64 w (.slice ax n cx) (ints xs)) (hw : Sl .i64 w (.slice aw n cw) (ints ws)) (he : Sl .i64 w (.slice ae m ce) es) (hc : CodeV D xs n k) (lw : ws.length = n) (le : es.length = m) (hwq : ∀ a ∈ ws, a < D.p ^ D.k) (hkm : m + k <= n) (hb : belB n es = true) (hd : difB es m = true) :
 Calls Tryz.prog 25 #[cdv D.q ax n cx k, .slice aw n cw, .slice ae m ce] w (DcRet D (kpL es n xs) (kpL es n ws) xs k ((n - m - k) / 2) w) := by
 have HX0 : Kept (Bxs w [cdbox D.q ax n cx k] (w.alloc (cdbox D.q ax n cx k))) := ⟨(Bxs.start w).alloc (by simp) _⟩
 have hRC : ∀ W, Below w.heap.size w W -> Calls Tryz.prog 90 #[cdv D.q ax n cx k, .slice aw n cw, .slice ae m ce] W (ReRet hD k ((n - m - k) / 2) (kpL es n xs) (kpL es n ws) W) := fun W hW => creceive_ok hD ax aw ae cx cw ce n m k xs ws es W (hx.below hW) (hw.below hW) (he.below hW) hc.len lw le hc.lt hwq hc.chk hc.k1 hkm hc.n64 hb hd
 have hkl := kp_len hb hd le
 have hPl := kpL_len es n xs
 have hWl := kpL_len es n ws
 have hPq := kpL_lt (es := es) hc.len hc.lt
 have hWq := kpL_lt (es := es) lw hwq
 have hPd := kpL_dif (es := es) hc.dif
 obtain ⟨P, hP⟩ : ∃ l, kpL es n xs = l := ⟨_, rfl⟩
 obtain ⟨Wd, hWd⟩ : ∃ l, kpL es n ws = l := ⟨_, rfl⟩
 obtain ⟨np, hnp⟩ : ∃ l, (kpF es n).length = l := ⟨_, rfl⟩
 obtain ⟨rad, hrad⟩ : ∃ r, (n - m - k) / 2 = r := ⟨_, rfl⟩
 rw [hP, hWd, hrad] at hRC
 rw [hP, hWd, hrad]
 rw [hP] at hPl hPq hPd
 rw [hWd] at hWl hWq
 rw [hnp] at hkl hPl hWl
 try rw [hnp]
 rw [hPl] at hPd
 have hr1 : 2 * rad + k <= np := by omega
 have h64 := hc.n64
 have hk1 := hc.k1
 have hlx := hc.len
 have hxq := hc.lt
 have HRC := Kept.mk hRC
 have HPL := Kept.mk hPl
 have HWL := Kept.mk hWl
 have HPA : Kept (∀ W b pa ea pc ec, FldB D W b -> Sl .i64 W (.slice pa np pc) (ints P) -> Sl .i64 W (.slice ea np ec) (ints Wd) -> Calls Tryz.prog 92 #[rcv b (.slice pa np pc) (.slice ea np ec) k rad] W (GaRet2 hD P Wd np rad W)) := ⟨fun W b pa ea pc ec hf hp hq => (cpair_any hD pa ea pc ec k rad np P Wd W hf hp hq hPl hWl hPq hWq hPd (by omega) (by omega) (by omega)).mono fun e w' h => GaRet.two h⟩
 have HQU : Kept (∀ W b pa ea pc ec aq cq av cv nQ nE Q E bf el, FldB D W b -> Sl .i64 W (.slice pa np pc) (ints P) -> Sl .i64 W (.slice ea np ec) (ints Wd) -> Sl .i64 W (.slice aq nQ cq) (ints Q) -> Sl .i64 W (.slice av nE cv) (ints E) -> Q.length = nQ -> E.length = nE -> FFld.GaoOk hD P Wd np bf Q el E -> Q.length + rad <= np -> np < bf.length + rad -> Calls Tryz.prog 91 #[rcv b (.slice pa np pc) (.slice ea np ec) k rad, .agg #[.slice aq nQ cq, .slice av nE cv]] W (NqRet D P Wd k rad W)) := ⟨fun W b pa ea pc ec aq cq av cv nQ nE Q E bf el hf hp hq hQ hE lQ lE g h1 h2 => by
  subst lQ lE
  have g1 := g.len
  have g2 := g.up
  have h := cquot_any hD pa ea aq av pc ec cq cv k rad np P Wd Q E W hf hp hq hPl hWl hPq hWq (by omega) (by omega) (by omega) hQ hE g.nlt g.elt g.tn g.te (by omega) (by omega) (by omega)
  exact h.mono fun e w' ⟨hb, v, he, hv⟩ => ⟨hb, v, _, he, fun hg => ⟨_, good_near hD g (good_of hg), hv (good_of hg)⟩, fun hg Po hN => good_not hg (near_good hD g hPl hPq hPd h1 h2 hr1 hN)⟩⟩
 have HVA : Kept (∀ W, Below w.heap.size w W -> ∀ b ap cp nP Po, FldB D W b -> (∀ a ∈ Po, a < D.p ^ D.k) -> Po.length <= 64 -> Po.length = nP -> Sl .i64 W (.slice ap nP cp) (ints Po) -> Calls Tryz.prog 87 #[.pointer (some ⟨b, 0, none⟩), .slice ax n cx, .slice ap nP cp] W (fun e w' => Below W.heap.size W w' /\ ∃ v, e = .returned v /\ Sl .i64 w' v (ints (FFld.valsF D Po xs xs.length)))) := ⟨fun W hW b ap cp nP Po hf hq h64 hnP hs => by
  subst hnP
  have h := cvalues_any hD ax ap cx cp xs Po W hf (by rw [hlx]; exact hx.below hW) hs hxq hq (by omega) (by omega)
  rw [hlx] at h ⊢
  exact h.mono fun e w' ⟨hb, he, hw⟩ => ⟨hb, _, he, hw.sl (by rw [FFld.valsF_len, hlx]) (Nat.le_refl _) (by unfold maxLen; omega)⟩⟩
 clear hx hw he lw le hwq hb hd hRC hPl hWl hPq hWq hPd hP hWd hnp hrad hlx hxq hc
 go_enter Tryz.func25, Tryz.ntmps25
 obtain ⟨c0, c1, c2, _⟩ := three_cells HX0.out.b0
 have hbx := HX0.out.1
 go_wp2_with fail
 (with_reducible refine (HRC.out _ hbx).mono ?_)
 rintro e w1 ⟨hb1, b, pv, ev, rfl, hf, hp, hev⟩
 obtain ⟨pa, pc, rfl, _, _⟩ := hp.form
 obtain ⟨ea, ec, rfl, _, _⟩ := hev.form
 rw [FFld.ints_len, HPL.out] at hp
 rw [FFld.ints_len, HWL.out] at hev
 rw [FFld.ints_len, FFld.ints_len, HPL.out, HWL.out]
 have HX1 := Kept.mk (HX0.out.below hb1)
 have hal : Below w1.heap.size w1 (w1.alloc (rcbox b (.slice pa np pc) (.slice ea np ec) k rad)) := (Below.refl _ _).alloc (Nat.le_refl _) _
 have hbox := heap_alloc_new w1 (rcbox b (.slice pa np pc) (.slice ea np ec) k rad)
 obtain ⟨W2, hW2⟩ : ∃ W, w1.alloc (rcbox b (.slice pa np pc) (.slice ea np ec) k rad) = W := ⟨_, rfl⟩
 rw [hW2] at hal hbox
 have HX2 := Kept.mk (HX1.out.below hal)
 have HF2 := Kept.mk (hf.below hal)
 have HP2 := Kept.mk (hp.below hal)
 have HE2 := Kept.mk (hev.below hal)
 clear hb1 c0 c1 c2 HRC HX1 hal hf hp hev hbx
 obtain ⟨c0, c1, c2, _⟩ := three_cells HX2.out.b0
 obtain ⟨j0, j1, j2, j3, j4⟩ := five_cells_ hbox
 go_wp2_with fail
 try rw [hW2]
 obtain ⟨g, hg⟩ : ∃ x, w1.heap.size = x := ⟨_, rfl⟩
 try rw [hg]
 rw [hg] at j0 j1 j2 j3 j4 hbox
 clear hW2 hg
 go_upto_region 4 with fail
 go_region_held3 (fun w' => w'.cell? ⟨g, 0, none⟩ = some (.pointer (some ⟨b, 0, none⟩)) /\ w'.cell? ⟨g, 1, none⟩ = some (.slice pa np pc) /\ w'.cell? ⟨g, 2, none⟩ = some (.slice ea np ec) /\ w'.cell? ⟨g, 3, none⟩ = some (.int .i64 k) /\ w'.cell? ⟨g, 4, none⟩ = some (.int .i64 rad))
  (first | exact ⟨l0, l1, l2, l3, l4⟩ | exact ⟨k0, k1, k2, k3, k4⟩ | exact ⟨j0, j1, j2, j3, j4⟩ | go_keep)
  ((first
    | (go_at_call 92; (with_reducible refine (HPA.out _ _ _ _ _ _ ?h1 ?h2 ?h3).mono ?_); (case h1 => first | exact HF2.out | exact HF2.out.below (Below.refl _ _).drew); (case h2 => first | exact HP2.out | exact HP2.out.below (Below.refl _ _).drew); (case h3 => first | exact HE2.out | exact HE2.out.below (Below.refl _ _).drew); rintro e v1 ⟨hb3, aq, cq, av, cv, nQ, nE, Q, E, bf, el, rfl, lQ, lE, hsQ, hsE, hga, hl1, hl2⟩; have HB3 := Kept.mk (bstep (show Below W2.heap.size W2 _ from (by first | exact Below.refl _ _ | exact (Below.refl _ _).drew)) hb3); have k0 := belowCell HB3.out j0; have k1 := belowCell HB3.out j1; have k2 := belowCell HB3.out j2; have k3 := belowCell HB3.out j3; have k4 := belowCell HB3.out j4; have HLQ := Kept.mk lQ; have HLE := Kept.mk lE; have HSQ := Kept.mk hsQ; have HSE := Kept.mk hsE; have HGA := Kept.mk hga; have HL1 := Kept.mk hl1; have HL2 := Kept.mk hl2; clear hb3 lQ lE hsQ hsE hga hl1 hl2)
    | (go_at_call 91; (with_reducible refine (HQU.out _ _ _ _ _ _ _ _ _ _ _ _ Q E bf el ?h1 ?h2 ?h3 ?h4 ?h5 HLQ.out HLE.out HGA.out HL1.out HL2.out).mono ?_); (case h1 => first | exact HF2.out.below HB3.out | exact HF2.out.below HB3.out.drew); (case h2 => first | exact HP2.out.below HB3.out | exact HP2.out.below HB3.out.drew); (case h3 => first | exact HE2.out.below HB3.out | exact HE2.out.below HB3.out.drew); (case h4 => first | exact HSQ.out | exact HSQ.out.below (Below.refl _ _).drew); (case h5 => first | exact HSE.out | exact HSE.out.below (Below.refl _ _).drew); rintro e v2 ⟨hb4, vv, bb, rfl, hyes, hno⟩; have HB4 := Kept.mk (bstep (show Below W2.heap.size W2 _ from (by first | exact HB3.out | exact HB3.out.drew)) hb4); have l0 := belowCell HB4.out j0; have l1 := belowCell HB4.out j1; have l2 := belowCell HB4.out j2; have l3 := belowCell HB4.out j3; have l4 := belowCell HB4.out j4; have HYES := Kept.mk hyes; have HNO := Kept.mk hno; clear hb4 hyes hno)))
 have HX4 := Kept.mk (HX2.out.below HB4.out)
 have HF4 := Kept.mk (HF2.out.below HB4.out)
 clear HB3 HSQ HSE HGA HL1 HL2 HLQ HLE HPA HQU HP2 HE2 HF2 HX2 c0 c1 c2 k0 k1 k2 k3 k4 j0 j1 j2 j3 j4
 obtain ⟨c0, c1, c2, _⟩ := three_cells HX4.out.b0
 cases bb with
 | false =>
   have HN := Kept.mk (HNO.out rfl)
   clear HYES HNO
   go_wp2
   exact bodyPost_ret (v := .tuple #[nilv, .int .i64 30]) (by simp [results, Tryz.results25, go_sem]) rfl ⟨HX4.out.1, .inr ⟨HN.out, rfl⟩⟩
 | true =>
   obtain ⟨Po, hN, hsl⟩ := HYES.out rfl
   obtain ⟨ap, cp, rfl, _, _⟩ := hsl.form
   obtain ⟨nP, hnP⟩ : ∃ x, Po.length = x := ⟨_, rfl⟩
   rw [FFld.ints_len, hnP] at hsl
   rw [FFld.ints_len, hnP]
   have HN := Kept.mk hN
   have HSL := Kept.mk hsl
   have HNP := Kept.mk hnP
   have hk6 : Po.length <= 64 := by have := hN.len; omega
   have HK6 := Kept.mk hk6
   have hbx := HX4.out.1
   clear HYES HNO hN hsl hnP hk6
   go_wp2_with fail
   (with_reducible refine (HVA.out _ hbx _ _ _ _ Po HF4.out HN.out.lt HK6.out HNP.out HSL.out).mono ?_)
   rintro e w5 ⟨hb5, v5, rfl, hs5⟩
   have HB5 := Kept.mk (bstep hbx hb5)
   have HS5 := Kept.mk hs5
   clear hb5 hs5
   go_wp2
   exact bodyPost_ret (v := .tuple #[v5, .int .i64 0]) (by simp [results, Tryz.results25, go_sem]) rfl ⟨HB5.out, .inl ⟨Po, v5, HN.out, rfl, HS5.out⟩⟩

set_option maxRecDepth 20000 in
theorem raw3_any (v : Value) (xs : List Int) (most : Nat) (w : World) (h : Sl .i64 w v xs) (hm : most <= 1000) :
 Calls Tryz.prog 18 #[v, .int .i64 most] w (RetM w (xs.take most)) := by
 obtain ⟨ao, cap, rfl, hcap, hmax, hc⟩ := h
 obtain ⟨n, hN⟩ : ∃ n, xs.length = n := ⟨_, rfl⟩
 obtain ⟨k, hk⟩ : ∃ k, min n most = k := ⟨_, rfl⟩
 have hlen : (xs.take most).length = k := by rw [List.length_take, hN, <- hk]; omega
 rw [hN] at hcap ⊢
 have HSL : Kept (Sl .i64 w (.slice ao k cap) (xs.take most)) := ⟨⟨ao, cap, by rw [hlen], by omega, hmax, fun i hi => by
  obtain ⟨b, o, e, hb, hcell⟩ := hc i (by omega)
  exact ⟨b, o, e, hb, by rw [hcell, List.getElem?_take, if_pos (by omega)]⟩⟩⟩
 have em : min (n : Int) (most : Int) = k := by omega
 have hk0 : (0 : Int) <= (k : Int) := by omega
 have hk1 : (k : Int) <= (cap : Int) := by omega
 have hk2 : k <= cap := by omega
 have H1 := Kept.mk (show (([] : List Int).length + (xs.take most).length) * 8 <= 140737488355328 by rw [hlen]; simp; omega)
 have H2 := Kept.mk (show ([] : List Int).length + (xs.take most).length <= maxLen by rw [hlen]; unfold maxLen; simp; omega)
 unfold maxLen at hmax
 have hc0 := Kept.mk hc
 have HN := Kept.mk hN
 clear hc hN hlen
 cases ao with
 | none =>
   clear H1 H2 HSL em hk0 hk1 hk2
   obtain rfl : xs = [] := by
    cases xs with
    | nil => rfl
    | cons x t => obtain ⟨b, o, e, _⟩ := hc0.out 0 (by simp); cases e
   obtain rfl : n = 0 := by have := HN.out; simp at this; omega
   have hm0 : ¬ (most : Int) < ((0 : Nat) : Int) := by omega
   go_enter Tryz.func18, Tryz.ntmps18
   go_wp2
   go_ret
   exact ⟨Below.refl _ _, .slice none 0 0, rfl, by first | exact Mine.nil _ _ _ _ | (rw [List.take_nil]; exact Mine.nil _ _ _ _)⟩
 | some ad =>
   clear hc0 HN
   by_cases hlt : most < n
   ·obtain rfl : k = most := by omega
    have hlt' : (k : Int) < (n : Int) := by omega
    go_enter Tryz.func18, Tryz.ntmps18
    go_wp2_with (at_builtin; refine wpList_append_sl _ rfl _ _ 22 rfl 3 .i64 8 Tryz.underlying22 info_i64 w.heap.size _ [] rfl (Mine.nil _ _ _ _) (Nat.le_refl _) _ _ rfl HSL.out H1.out H2.out ?_)
    intro v' w5 hm5 hg5
    have HM5 := Kept.mk hm5
    have HB5 := Kept.mk ((Below.refl _ _).grown hg5 (Nat.le_refl _) (fun k hk => by simp [Value.ownBlock] at hk))
    clear hm5 hg5
    go_wp2
    go_ret
    exact ⟨HB5.out, _, rfl, by simpa using HM5.out⟩
   ·obtain rfl : k = n := by omega
    have hlt' : ¬ (most : Int) < (k : Int) := by omega
    go_enter Tryz.func18, Tryz.ntmps18
    go_wp2_with (at_builtin; refine wpList_append_sl _ rfl _ _ 22 rfl 3 .i64 8 Tryz.underlying22 info_i64 w.heap.size _ [] rfl (Mine.nil _ _ _ _) (Nat.le_refl _) _ _ rfl HSL.out H1.out H2.out ?_)
    intro v' w5 hm5 hg5
    have HM5 := Kept.mk hm5
    have HB5 := Kept.mk ((Below.refl _ _).grown hg5 (Nat.le_refl _) (fun k hk => by simp [Value.ownBlock] at hk))
    clear hm5 hg5
    go_wp2
    go_ret
    exact ⟨HB5.out, _, rfl, by simpa using HM5.out⟩
theorem els_bel (D : FFld.FD) (xs : List Int) : elsB D xs = belB (D.q : Int) xs := rfl
abbrev rcdbox (o : Int) (ao : Option Addr) (n cap : Nat) (k : Int) : Obj := .cells #[.int .i64 o, .slice ao n cap, .int .i64 k] 24


def hasB (l : List Int) (n : Int) : Bool := l.any fun a => decide (a = n)
def OdRet (n most : Int) (w : World) (e : Ending) (w' : World) : Prop := Below w.heap.size w w' /\ ∃ (D : FFld.FD), D.Ok /\ ((D.q : Int) <= most \/ D.q <= 16) /\ e = .returned (.int .i64 D.q)
def s3L : List Nat := [2, 3, 4, 5, 7, 8, 9, 11, 13, 16]
theorem s3_fit (t : Nat) (ht : t < 10) : FFld.Fit ((s3L[t]?.getD 0 : Nat) : Int) /\ s3L[t]?.getD 0 <= 16 := by
 have h : ∀ p k : Nat, FFld.isP p = true -> 1 <= k -> p ^ k <= 16 -> FFld.Fit ((p ^ k : Nat) : Int) /\ p ^ k <= 16 := fun p k hp hk hq => ⟨FFld.fit_pow (FFld.prime_of hp) hk (by omega), hq⟩
 have : t = 0 \/ t = 1 \/ t = 2 \/ t = 3 \/ t = 4 \/ t = 5 \/ t = 6 \/ t = 7 \/ t = 8 \/ t = 9 := by omega
 rcases this with rfl | rfl | rfl | rfl | rfl | rfl | rfl | rfl | rfl | rfl
 ·exact h 2 1 (by decide) (by decide) (by decide)
 ·exact h 3 1 (by decide) (by decide) (by decide)
 ·exact h 2 2 (by decide) (by decide) (by decide)
 ·exact h 5 1 (by decide) (by decide) (by decide)
 ·exact h 7 1 (by decide) (by decide) (by decide)
 ·exact h 2 3 (by decide) (by decide) (by decide)
 ·exact h 3 2 (by decide) (by decide) (by decide)
 ·exact h 11 1 (by decide) (by decide) (by decide)
 ·exact h 13 1 (by decide) (by decide) (by decide)
 ·exact h 2 4 (by decide) (by decide) (by decide)
abbrev s3box : Obj := .cells #[.int .i64 2, .int .i64 3, .int .i64 4, .int .i64 5, .int .i64 7, .int .i64 8, .int .i64 9, .int .i64 11, .int .i64 13, .int .i64 16] 109
theorem s3_cell {W : World} {g : Nat} (h : W.heap[g]? = some s3box) (t : Nat) (ht : t < 10) : W.cell? ⟨g, t, none⟩ = some (.int .i64 ((s3L[t]?.getD 0 : Nat) : Int)) := by
 rw [cell_of_row W g t _ _ (0, 0) h]
 have : t = 0 \/ t = 1 \/ t = 2 \/ t = 3 \/ t = 4 \/ t = 5 \/ t = 6 \/ t = 7 \/ t = 8 \/ t = 9 := by omega
 rcases this with rfl | rfl | rfl | rfl | rfl | rfl | rfl | rfl | rfl | rfl <;> rfl
set_option maxRecDepth 20000 in
theorem order3_any (n most : Int) (w : World) (h0 : -9223372036854775808 <= n) (h1 : n <= 9223372036854775807) :
 Calls Tryz.prog 58 #[.int .i64 n, .int .i64 most] w (OdRet n most w) := by
 have HR := Kept.mk (fun W => rnew_any n W h0 h1)
 have HX0 : Kept (Bxs w [s3box] (w.alloc s3box)) := ⟨(Bxs.start w).alloc (by simp) _⟩
 obtain ⟨U, hU⟩ : ∃ U, IntKind.u64.wrap n = U := ⟨_, rfl⟩
 obtain ⟨hU0, hU1⟩ : 0 <= U /\ U <= 18446744073709551615 := by rw [<- hU, IntKind.wrap_u64]; omega
 obtain ⟨t, ht⟩ : ∃ t : Nat, U % 10 = (t : Int) := ⟨(U % 10).toNat, by omega⟩
 have ht10 : t < 10 := by omega
 obtain ⟨sm, hsm⟩ : ∃ s, s3L[t]?.getD 0 = s := ⟨_, rfl⟩
 obtain ⟨hfit, hs16⟩ := s3_fit t ht10
 rw [hsm] at hfit hs16
 obtain ⟨D', hD', hq'⟩ := hfit
 have HFIT : Kept (D'.Ok /\ (D'.q : Int) = sm) := ⟨⟨hD', hq'.symm⟩⟩
 have hu0 : 0 <= U % 10 := by omega
 have hu1 : U % 10 < 10 := by omega
 have hu2 : (U % 10).toNat = t := by omega
 clear hD' hq'
 go_enter Tryz.func58, Tryz.ntmps58
 go_wp2_with fail
 refine (HR.out _).mono ?_
 rintro e w1 ⟨hb1, h⟩
 have HX1 := Kept.mk (HX0.out.below hb1)
 clear hb1 HX0
 rcases h with ⟨D, hD, hq, rfl⟩ | ⟨hn, rfl⟩
 ·have HX2 := Kept.mk (HX1.out.below ((Below.refl _ _).alloc (Nat.le_refl _) (rbox D.q D.p D.k D.m)))
  clear HX1
  by_cases hle : n <= most
  ·have HRS : Kept (D.Ok /\ (D.q : Int) = n /\ n <= most) := ⟨⟨hD, by omega, hle⟩⟩
   have eg : decide (n <= most) = true := decide_eq_true hle
   clear hD hq ht hU hsm hle
   go_wp2
   go_ret
   exact ⟨HX2.out.1, D, HRS.out.1, .inl (by have := HRS.out.2; omega), by rw [HRS.out.2.1]; rfl⟩
  ·have eg : decide (n <= most) = false := decide_eq_false hle
   have hcell := s3_cell HX2.out.b0 t ht10
   rw [hsm] at hcell
   clear hD hq hsm ht hle
   go_wp2
   go_ret
   exact ⟨HX2.out.1, D', HFIT.out.1, .inr (by have := HFIT.out.2; omega), by rw [HFIT.out.2]; rfl⟩
 ·have HX2 := Kept.mk (HX1.out.below ((Below.refl _ _).alloc (Nat.le_refl _) rzbox))
  have hcell := s3_cell HX2.out.b0 t ht10
  rw [hsm] at hcell
  clear HX1 hn hsm ht
  go_wp2
  go_ret
  exact ⟨HX2.out.1, D', HFIT.out.1, .inr (by have := HFIT.out.2; omega), by rw [HFIT.out.2]; rfl⟩
def elE (q : Nat) (xs : List Int) (i : Nat) : Nat := if i < xs.length then (IntKind.u64.wrap (xs[i]?.getD 0) % (q : Int)).toNat else 0
theorem umod_nat (q : Nat) (hq : 1 <= q) (a : Int) : ∃ U r : Nat, IntKind.u64.wrap a = U /\ (U : Int) % (q : Int) = r /\ (U : Int).tmod (q : Int) = r /\ r < q /\ (IntKind.u64.wrap a % (q : Int)).toNat = r /\ U <= 18446744073709551615 := by
 have h0 : 0 <= IntKind.u64.wrap a /\ IntKind.u64.wrap a <= 18446744073709551615 := by rw [IntKind.wrap_u64]; omega
 obtain ⟨U, hU⟩ : ∃ U : Nat, IntKind.u64.wrap a = U := ⟨(IntKind.u64.wrap a).toNat, by omega⟩
 have e : (U : Int) % (q : Int) = ((U % q : Nat) : Int) := by omega
 refine ⟨U, U % q, hU, e, ?_, Nat.mod_lt _ (by omega), ?_, by omega⟩
 ·rw [Int.tmod_eq_emod_of_nonneg (by omega)]
  exact e
 ·rw [hU, e]
  rfl
def elL (q : Nat) (xs : List Int) (len : Nat) : List Nat := (List.range len).map (elE q xs)
theorem elL_len (q : Nat) (xs : List Int) (len : Nat) : (elL q xs len).length = len := by simp [elL]
theorem elL_next (q : Nat) (xs : List Int) (i : Nat) : elL q xs (i + 1) = elL q xs i ++ [elE q xs i] := by
 unfold elL
 rw [List.range_succ, List.map_append]
 rfl
set_option maxRecDepth 20000 in
theorem elements_any (q len : Nat) (v : Value) (xs : List Int) (w : World) (h : Sl .i64 w v xs) (hi : I64s xs) (hq1 : 1 <= q) (hq6 : q <= 65536) (hlen : len <= 1000) :
 Calls Tryz.prog 37 #[.int .i64 q, v, .int .i64 len] w (RetM w (ints (elL q xs len))) := by
 obtain ⟨ao, cap, rfl, hcap, hmax, hc⟩ := h
 obtain ⟨n, hN⟩ : ∃ n, xs.length = n := ⟨_, rfl⟩
 have HC := Kept.mk hc
 have HBD := Kept.mk hi
 rw [hN] at hcap ⊢
 have HN := Kept.mk hN
 unfold maxLen at hmax
 have eq1 : IntKind.u64.wrap (q : Int) = q := by rw [IntKind.wrap_u64]; omega
 have eq0 : ¬ ((q : Int) = 0) := by omega
 have eq2 : ¬ (q = 0) := by omega
 clear hc hN hi
 go_enter Tryz.func37, Tryz.ntmps37
 go_wp2
 go_loopw [7, 8] (fun ov iv wr => ∃ (i : Nat) (l : List Nat), i <= len /\ iv = .int .i64 i /\ l.length = i /\ Kept (elL q xs i = l) /\ Kept (Mine 3 .i64 w.heap.size wr ov (ints l)) /\ Kept (Below w.heap.size w wr)) (fun _ iv _ => len - (intOf iv).toNat)
 case atStart => exact ⟨0, [], Nat.zero_le _, rfl, rfl, ⟨rfl⟩, ⟨Mine.nil _ _ _ _⟩, ⟨Below.refl _ _⟩⟩
 case round =>
  obtain ⟨i, l, hik, rfl, hll, hat, hmn, hbw⟩ := hrel
  obtain ⟨ov0, oc, rfl, hoc, hom⟩ := hmn.out.sl.form
  rw [FFld.ints_len, hll] at hoc hmn ⊢
  by_cases hlt : i < len
  ·by_cases hin : i < n
   ·obtain ⟨g, o, rfl, hg, hcell⟩ := HC.out i (by rw [HN.out]; exact hin)
    obtain ⟨a, ha⟩ : ∃ a, xs[i]?.getD 0 = a := ⟨_, rfl⟩
    have hab : -9223372036854775808 <= a /\ a <= 9223372036854775807 := by
     rw [<- ha, List.getElem?_eq_getElem (by rw [HN.out]; exact hin)]
     exact HBD.out _ (List.getElem_mem _)
    obtain ⟨a0, a1⟩ := hab
    rw [ha] at hcell
    have p0 := belowCell hbw.out hcell
    obtain ⟨U, r, hU, hr1, hr2, hrq, hr3, hUm⟩ := umod_nat q hq1 a
    have HL : Kept (elL q xs (i + 1) = l ++ [r]) := ⟨by rw [elL_next, hat.out]; unfold elE; rw [if_pos (by rw [HN.out]; exact hin), ha, hr3]⟩
    clear ha hcell hr3
    have hal : Below wr.heap.size wr (wr.alloc (.cells #[.int .i64 (r : Nat)] 3)) := (Below.refl _ _).alloc (Nat.le_refl _) _
    have HM3 := Kept.mk (hmn.out.alloc (.cells #[.int .i64 (r : Nat)] 3))
    have HNW := Kept.mk (new_one (K := .i64) (x := ((r : Nat) : Int)) (w := wr.alloc (.cells #[.int .i64 (r : Nat)] 3)) (b := wr.heap.size) (o := 0) (by exact (Row.new (E := 3) (K := .i64) wr [((r : Nat) : Int)]).cell (i := 0) (by simp)))
    have hsz := hbw.out.size
    have HBB := Kept.mk (show w.heap.size <= (wr.alloc (.cells #[.int .i64 (r : Nat)] 3)).heap.size by simp; omega)
    have HBQ := Kept.mk (hbw.out.alloc hsz (.cells #[.int .i64 (r : Nat)] 3))
    have HOW := Kept.mk HM3.out.own
    have H1 := Kept.mk (show ((ints l).length + [((r : Nat) : Int)].length) * 8 <= 140737488355328 by rw [FFld.ints_len, hll]; simp; omega)
    have H2 := Kept.mk (show (ints l).length + [((r : Nat) : Int)].length <= maxLen by rw [FFld.ints_len, hll]; unfold maxLen; simp; omega)
    clear hal
    go_wp2_with (at_builtin; refine wpList_append_mine _ rfl _ _ 22 (by rfl) 3 .i64 8 Tryz.underlying22 info_i64 w.heap.size (.slice ov0 i oc) (ints l) (by rfl) HM3.out HBB.out ⟨wr.heap.size, 0, none⟩ 1 1 [((r : Nat) : Int)] (by rfl) rfl HNW.out H1.out H2.out ?_)
    intro v' w5 hm5 hg5 hn5
    have HM5 := Kept.mk hm5
    have HB5 := Kept.mk (HBQ.out.grown hg5 HBB.out (fun j hj => (HOW.out j hj).1))
    clear hm5 hg5 hn5
    go_wp2
    go_roundw
    case rel => exact ⟨i + 1, l ++ [r], by omega, by go_num, by simp [hll], HL, ⟨by rw [FFld.ints_append]; exact HM5.out⟩, HB5⟩
    case measure => simp [intOf] <;> omega
   ·have HL : Kept (elL q xs (i + 1) = l ++ [0]) := ⟨by rw [elL_next, hat.out]; unfold elE; rw [if_neg (by rw [HN.out]; exact hin)]⟩
    have hal : Below wr.heap.size wr (wr.alloc (.cells #[.int .i64 (0 : Nat)] 3)) := (Below.refl _ _).alloc (Nat.le_refl _) _
    have HM3 := Kept.mk (hmn.out.alloc (.cells #[.int .i64 (0 : Nat)] 3))
    have HNW := Kept.mk (new_one (K := .i64) (x := ((0 : Nat) : Int)) (w := wr.alloc (.cells #[.int .i64 (0 : Nat)] 3)) (b := wr.heap.size) (o := 0) (by exact (Row.new (E := 3) (K := .i64) wr [((0 : Nat) : Int)]).cell (i := 0) (by simp)))
    have hsz := hbw.out.size
    have HBB := Kept.mk (show w.heap.size <= (wr.alloc (.cells #[.int .i64 (0 : Nat)] 3)).heap.size by simp; omega)
    have HBQ := Kept.mk (hbw.out.alloc hsz (.cells #[.int .i64 (0 : Nat)] 3))
    have HOW := Kept.mk HM3.out.own
    have H1 := Kept.mk (show ((ints l).length + [((0 : Nat) : Int)].length) * 8 <= 140737488355328 by rw [FFld.ints_len, hll]; simp; omega)
    have H2 := Kept.mk (show (ints l).length + [((0 : Nat) : Int)].length <= maxLen by rw [FFld.ints_len, hll]; unfold maxLen; simp; omega)
    clear hal
    go_wp2_with (at_builtin; refine wpList_append_mine _ rfl _ _ 22 (by rfl) 3 .i64 8 Tryz.underlying22 info_i64 w.heap.size (.slice ov0 i oc) (ints l) (by rfl) HM3.out HBB.out ⟨wr.heap.size, 0, none⟩ 1 1 [((0 : Nat) : Int)] (by rfl) rfl HNW.out H1.out H2.out ?_)
    intro v' w5 hm5 hg5 hn5
    have HM5 := Kept.mk hm5
    have HB5 := Kept.mk (HBQ.out.grown hg5 HBB.out (fun j hj => (HOW.out j hj).1))
    clear hm5 hg5 hn5
    go_wp2
    go_roundw
    case rel => exact ⟨i + 1, l ++ [0], by omega, by go_num, by simp [hll], HL, ⟨by rw [FFld.ints_append]; exact HM5.out⟩, HB5⟩
    case measure => simp [intOf] <;> omega
  ·obtain rfl : i = len := by omega
   go_wp2
   go_ret
   exact ⟨hbw.out, _, rfl, by rw [hat.out]; exact hmn.out⟩
def plF (xs : List Int) (n most : Nat) : Nat -> List Nat
 | 0 => []
 | i + 1 => if (plF xs n most i).length < most /\ elE n xs i ∉ plF xs n most i then plF xs n most i ++ [elE n xs i] else plF xs n most i
structure TaAt (w : World) (o k : Int) (ao : Option Addr) (n cap g q : Nat) (pv : Value) (L : List Nat) (kk : Int) (W : World) : Prop where
 bel : Below w.heap.size w W
 b0 : W.heap[w.heap.size]? = some (rcdbox o ao n cap k)
 b1 : W.heap[w.heap.size + 1]? = some (rcdbox 0 none 0 0 0)
 bg : W.heap[g]? = some (.cells #[.int .i64 q, pv, .int .i64 kk] 24)
 mn : Mine 3 .i64 (g + 1) W pv (ints L)
 lg : w.heap.size + 1 < g
section
variable {w : World} {o k : Int} {ao : Option Addr} {n cap g q : Nat} {pv : Value} {L : List Nat} {kk : Int} {W W' : World}
end
def TaRet (most : Nat) (w : World) (e : Ending) (w' : World) : Prop := Below w.heap.size w w' /\ ∃ (D : FFld.FD) (va : Option Addr) (m vc k : Nat) (xs : List Nat), D.Ok /\ D.q <= 300 /\ CodeV D xs m k /\ (m <= most \/ m <= 2) /\ e = .returned (cdv D.q va m vc k) /\ Sl .i64 w' (.slice va m vc) (ints xs)
def EnRet (D : FFld.FD) (xs ms : List Nat) (n : Nat) (w : World) (e : Ending) (w' : World) : Prop := Below w.heap.size w w' /\ ∃ (wa : Option Addr) (wc : Nat), e = .returned (.tuple #[.slice wa n wc, .int .i64 0]) /\ Sl .i64 w' (.slice wa n wc) (ints (FFld.valsF D ms xs n))
def DyRet {D : FFld.FD} (hD : D.Ok) (P W : List Nat) (n k t : Nat) (w : World) (e : Ending) (w' : World) : Prop := Below w.heap.size w w' /\ ((∃ (vq ve : Value) (Q E bf el : List Nat), (∀ Po, ¬ Near D P W k t Po) /\ e = .returned (.tuple #[.agg #[vq, ve], .bool true]) /\ Sl .i64 w' vq (ints Q) /\ Sl .i64 w' ve (ints E) /\ FFld.GaoOk hD P W n bf Q el E /\ Q.length + t <= n /\ n < bf.length + t) \/ ((∃ Po, Near D P W k t Po) /\ e = .returned (.tuple #[.agg #[nilv, nilv], .bool false])))
set_option maxRecDepth 20000 in
theorem cdeny_any {D : FFld.FD} (hD : D.Ok) (ax aw ae : Option Addr) (cx cw ce n m k : Nat) (xs ws : List Nat) (es : List Int) (w : World) (hx : Sl .i64 w (.slice ax n cx) (ints xs)) (hw : Sl .i64 w (.slice aw n cw) (ints ws)) (he : Sl .i64 w (.slice ae m ce) es) (hc : CodeV D xs n k) (lw : ws.length = n) (le : es.length = m) (hwq : ∀ a ∈ ws, a < D.p ^ D.k) (hkm : m + k <= n) (hb : belB n es = true) (hd : difB es m = true) :
 Calls Tryz.prog 26 #[cdv D.q ax n cx k, .slice aw n cw, .slice ae m ce] w (DyRet hD (kpL es n xs) (kpL es n ws) (kpF es n).length k ((n - m - k) / 2) w) := by
 have HX0 : Kept (Bxs w [cdbox D.q ax n cx k, fabox nilv nilv] ((w.alloc (cdbox D.q ax n cx k)).alloc (fabox nilv nilv))) := ⟨((Bxs.start w).alloc (by simp) _).alloc (by simp) _⟩
 have hRC : ∀ W, Below w.heap.size w W -> Calls Tryz.prog 90 #[cdv D.q ax n cx k, .slice aw n cw, .slice ae m ce] W (ReRet hD k ((n - m - k) / 2) (kpL es n xs) (kpL es n ws) W) := fun W hW => creceive_ok hD ax aw ae cx cw ce n m k xs ws es W (hx.below hW) (hw.below hW) (he.below hW) hc.len lw le hc.lt hwq hc.chk hc.k1 hkm hc.n64 hb hd
 have hkl := kp_len hb hd le
 have hPl := kpL_len es n xs
 have hWl := kpL_len es n ws
 have hPq := kpL_lt (es := es) hc.len hc.lt
 have hWq := kpL_lt (es := es) lw hwq
 have hPd := kpL_dif (es := es) hc.dif
 obtain ⟨P, hP⟩ : ∃ l, kpL es n xs = l := ⟨_, rfl⟩
 obtain ⟨Wd, hWd⟩ : ∃ l, kpL es n ws = l := ⟨_, rfl⟩
 obtain ⟨np, hnp⟩ : ∃ l, (kpF es n).length = l := ⟨_, rfl⟩
 obtain ⟨rad, hrad⟩ : ∃ r, (n - m - k) / 2 = r := ⟨_, rfl⟩
 rw [hP, hWd, hrad] at hRC
 rw [hP, hWd, hrad]
 rw [hP] at hPl hPq hPd
 rw [hWd] at hWl hWq
 rw [hnp] at hkl hPl hWl
 try rw [hnp]
 rw [hPl] at hPd
 have hr1 : 2 * rad + k <= np := by omega
 have h64 := hc.n64
 have hk1 := hc.k1
 have hlx := hc.len
 have hxq := hc.lt
 have HRC := Kept.mk hRC
 have HPL := Kept.mk hPl
 have HWL := Kept.mk hWl
 have HPA : Kept (∀ W b pa ea pc ec, FldB D W b -> Sl .i64 W (.slice pa np pc) (ints P) -> Sl .i64 W (.slice ea np ec) (ints Wd) -> Calls Tryz.prog 92 #[rcv b (.slice pa np pc) (.slice ea np ec) k rad] W (GaRet2 hD P Wd np rad W)) := ⟨fun W b pa ea pc ec hf hp hq => (cpair_any hD pa ea pc ec k rad np P Wd W hf hp hq hPl hWl hPq hWq hPd (by omega) (by omega) (by omega)).mono fun e w' h => GaRet.two h⟩
 have HQU : Kept (∀ W b pa ea pc ec aq cq av cv nQ nE Q E bf el, FldB D W b -> Sl .i64 W (.slice pa np pc) (ints P) -> Sl .i64 W (.slice ea np ec) (ints Wd) -> Sl .i64 W (.slice aq nQ cq) (ints Q) -> Sl .i64 W (.slice av nE cv) (ints E) -> Q.length = nQ -> E.length = nE -> FFld.GaoOk hD P Wd np bf Q el E -> Q.length + rad <= np -> np < bf.length + rad -> Calls Tryz.prog 91 #[rcv b (.slice pa np pc) (.slice ea np ec) k rad, .agg #[.slice aq nQ cq, .slice av nE cv]] W (NqRet D P Wd k rad W)) := ⟨fun W b pa ea pc ec aq cq av cv nQ nE Q E bf el hf hp hq hQ hE lQ lE g h1 h2 => by
  subst lQ lE
  have g1 := g.len
  have g2 := g.up
  have h := cquot_any hD pa ea aq av pc ec cq cv k rad np P Wd Q E W hf hp hq hPl hWl hPq hWq (by omega) (by omega) (by omega) hQ hE g.nlt g.elt g.tn g.te (by omega) (by omega) (by omega)
  exact h.mono fun e w' ⟨hb, v, he, hv⟩ => ⟨hb, v, _, he, fun hg => ⟨_, good_near hD g (good_of hg), hv (good_of hg)⟩, fun hg Po hN => good_not hg (near_good hD g hPl hPq hPd h1 h2 hr1 hN)⟩⟩
 have HVA : Kept (∀ W, Below w.heap.size w W -> ∀ b ap cp nP Po, FldB D W b -> (∀ a ∈ Po, a < D.p ^ D.k) -> Po.length <= 64 -> Po.length = nP -> Sl .i64 W (.slice ap nP cp) (ints Po) -> Calls Tryz.prog 87 #[.pointer (some ⟨b, 0, none⟩), .slice ax n cx, .slice ap nP cp] W (fun e w' => Below W.heap.size W w' /\ ∃ v, e = .returned v /\ Sl .i64 w' v (ints (FFld.valsF D Po xs xs.length)))) := ⟨fun W hW b ap cp nP Po hf hq h64 hnP hs => by
  subst hnP
  have h := cvalues_any hD ax ap cx cp xs Po W hf (by rw [hlx]; exact hx.below hW) hs hxq hq (by omega) (by omega)
  rw [hlx] at h ⊢
  exact h.mono fun e w' ⟨hb, he, hw⟩ => ⟨hb, _, he, hw.sl (by rw [FFld.valsF_len, hlx]) (Nat.le_refl _) (by unfold maxLen; omega)⟩⟩
 clear hx hw he lw le hwq hb hd hRC hPl hWl hPq hWq hPd hP hWd hnp hrad hlx hxq hc
 go_enter Tryz.func26, Tryz.ntmps26
 obtain ⟨c0, c1, c2, _⟩ := three_cells HX0.out.b0
 have hbx := HX0.out.1
 go_wp2_with fail
 (with_reducible refine (HRC.out _ hbx).mono ?_)
 rintro e w1 ⟨hb1, b, pv, ev, rfl, hf, hp, hev⟩
 obtain ⟨pa, pc, rfl, _, _⟩ := hp.form
 obtain ⟨ea, ec, rfl, _, _⟩ := hev.form
 rw [FFld.ints_len, HPL.out] at hp
 rw [FFld.ints_len, HWL.out] at hev
 rw [FFld.ints_len, FFld.ints_len, HPL.out, HWL.out]
 have HX1 := Kept.mk (HX0.out.below hb1)
 have hal : Below w1.heap.size w1 (w1.alloc (rcbox b (.slice pa np pc) (.slice ea np ec) k rad)) := (Below.refl _ _).alloc (Nat.le_refl _) _
 have hbox := heap_alloc_new w1 (rcbox b (.slice pa np pc) (.slice ea np ec) k rad)
 obtain ⟨W2, hW2⟩ : ∃ W, w1.alloc (rcbox b (.slice pa np pc) (.slice ea np ec) k rad) = W := ⟨_, rfl⟩
 rw [hW2] at hal hbox
 have HX2 := Kept.mk (HX1.out.below hal)
 have HF2 := Kept.mk (hf.below hal)
 have HP2 := Kept.mk (hp.below hal)
 have HE2 := Kept.mk (hev.below hal)
 clear hb1 c0 c1 c2 HRC HX1 hal hf hp hev hbx
 obtain ⟨c0, c1, c2, _⟩ := three_cells HX2.out.b0
 obtain ⟨j0, j1, j2, j3, j4⟩ := five_cells_ hbox
 go_wp2_with fail
 try rw [hW2]
 obtain ⟨g, hg⟩ : ∃ x, w1.heap.size = x := ⟨_, rfl⟩
 try rw [hg]
 rw [hg] at j0 j1 j2 j3 j4 hbox
 clear hW2 hg
 go_wp2_with fail
 (with_reducible refine (HPA.out _ _ _ _ _ _ HF2.out HP2.out HE2.out).mono ?_)
 rintro e w3 ⟨hb3, aq, cq, av, cv, nQ, nE, Q, E, bf, el, rfl, lQ, lE, hsQ, hsE, hga, hl1, hl2⟩
 have hal : Below w3.heap.size w3 (w3.alloc (fabox (.slice aq nQ cq) (.slice av nE cv))) := (Below.refl _ _).alloc (Nat.le_refl _) _
 have hfb := heap_alloc_new w3 (fabox (.slice aq nQ cq) (.slice av nE cv))
 obtain ⟨W4, hW4⟩ : ∃ W, w3.alloc (fabox (.slice aq nQ cq) (.slice av nE cv)) = W := ⟨_, rfl⟩
 rw [hW4] at hal hfb
 have hb24 : Below W2.heap.size W2 W4 := hb3.trans (hal.mono hb3.size)
 have k0 := belowCell hb24 j0
 have k1 := belowCell hb24 j1
 have k2 := belowCell hb24 j2
 have k3 := belowCell hb24 j3
 have k4 := belowCell hb24 j4
 obtain ⟨f0, f1, _, _⟩ := two_cells hfb
 have HFB := Kept.mk hfb
 have HX4 := Kept.mk (HX2.out.below hb24)
 have HF4 := Kept.mk (HF2.out.below hb24)
 have HP4 := Kept.mk (HP2.out.below hb24)
 have HE4 := Kept.mk (HE2.out.below hb24)
 have HSQ := Kept.mk (hsQ.below hal)
 have HSE := Kept.mk (hsE.below hal)
 have HLQ := Kept.mk lQ
 have HLE := Kept.mk lE
 have HGA := Kept.mk hga
 have HL1 := Kept.mk hl1
 have HL2 := Kept.mk hl2
 clear hb3 hal hb24 hsQ hsE lQ lE hga hl1 hl2 HX2 HF2 HP2 HE2 c0 c1 c2 j0 j1 j2 j3 j4 hbox hfb
 obtain ⟨c0, c1, c2, _⟩ := three_cells HX4.out.b0
 go_wp2_with fail
 try rw [hW4]
 obtain ⟨g4, hg4⟩ : ∃ x, w3.heap.size = x := ⟨_, rfl⟩
 try rw [hg4]
 rw [hg4] at f0 f1 HFB
 clear hW4 hg4
 go_wp2_with fail
 (with_reducible refine (HQU.out _ _ _ _ _ _ _ _ _ _ _ _ Q E bf el HF4.out HP4.out HE4.out HSQ.out HSE.out HLQ.out HLE.out HGA.out HL1.out HL2.out).mono ?_)
 rintro e w5 ⟨hb5, vv, bb, rfl, hyes, hno⟩
 have HX5 := Kept.mk (HX4.out.below hb5)
 have HQ5 := Kept.mk (HSQ.out.below hb5)
 have HE5 := Kept.mk (HSE.out.below hb5)
 have q0 := belowCell hb5 f0
 have q1 := belowCell hb5 f1
 have HYES := Kept.mk hyes
 have HNO := Kept.mk hno
 clear hb5 hyes hno c0 c1 c2 k0 k1 k2 k3 k4 f0 f1 HX4 HSQ HSE
 obtain ⟨c0, c1, c2, _⟩ := three_cells HX5.out.b0
 obtain ⟨d0, d1, f0, f1⟩ := two_cells HX5.out.b1
 have hx1 := HX5.out.1
 cases bb with
 | true =>
   obtain ⟨Po, hN, _⟩ := HYES.out rfl
   have HN : Kept (∃ Po, Near D P Wd k rad Po) := ⟨⟨Po, hN⟩⟩
   have HSET := Kept.mk (two_set HX5.out.b1 nilv nilv)
   have HB2 : Kept (Below w.heap.size w ((w5.setCell ⟨w.heap.size + 1, 0, none⟩ nilv).setCell ⟨w.heap.size + 1, 1, none⟩ nilv)) := ⟨(hx1.setCell (p := ⟨w.heap.size + 1, 0, none⟩) (by simp) _).setCell (p := ⟨w.heap.size + 1, 1, none⟩) (by simp) _⟩
   clear HYES HNO hN hx1
   go_wp2
   obtain ⟨s0, s1, _, _⟩ := two_cells HSET.out
   exact bodyPost_ret (v := .tuple #[.agg #[nilv, nilv], .bool false]) (by simp [results, Tryz.results26, go_sem, s0, s1]) rfl ⟨HB2.out, .inr ⟨HN.out, rfl⟩⟩
 | false =>
   have HN := Kept.mk (HNO.out rfl)
   have HSET := Kept.mk (two_set HX5.out.b1 (.slice aq nQ cq) (.slice av nE cv))
   have HB2 : Kept (Below w.heap.size w ((w5.setCell ⟨w.heap.size + 1, 0, none⟩ (.slice aq nQ cq)).setCell ⟨w.heap.size + 1, 1, none⟩ (.slice av nE cv))) := ⟨(hx1.setCell (p := ⟨w.heap.size + 1, 0, none⟩) (by simp) _).setCell (p := ⟨w.heap.size + 1, 1, none⟩) (by simp) _⟩
   have hnq := HQ5.out.not_box_ HX5.out.b1 (by intro i n; rcases i with _ | _ | i <;> simp)
   have hne := HE5.out.not_box_ HX5.out.b1 (by intro i n; rcases i with _ | _ | i <;> simp)
   have HQ6 : Kept (Sl .i64 ((w5.setCell ⟨w.heap.size + 1, 0, none⟩ (.slice aq nQ cq)).setCell ⟨w.heap.size + 1, 1, none⟩ (.slice av nE cv)) (.slice aq nQ cq) (ints Q)) := ⟨HQ5.out.kept (growSet (growSet (growRefl _ (some (w.heap.size + 1))) _ _) _ _) (fun k hk e => hnq (by cases e; exact hk))⟩
   have HE6 : Kept (Sl .i64 ((w5.setCell ⟨w.heap.size + 1, 0, none⟩ (.slice aq nQ cq)).setCell ⟨w.heap.size + 1, 1, none⟩ (.slice av nE cv)) (.slice av nE cv) (ints E)) := ⟨HE5.out.kept (growSet (growSet (growRefl _ (some (w.heap.size + 1))) _ _) _ _) (fun k hk e => hne (by cases e; exact hk))⟩
   clear hnq hne
   clear HYES HNO hx1
   go_wp2
   obtain ⟨s0, s1, _, _⟩ := two_cells HSET.out
   exact bodyPost_ret (v := .tuple #[.agg #[.slice aq nQ cq, .slice av nE cv], .bool true]) (by simp [results, Tryz.results26, go_sem, s0, s1]) rfl ⟨HB2.out, .inl ⟨_, _, Q, E, bf, el, HN.out, rfl, HQ6.out, HE6.out, HGA.out, HL1.out, HL2.out⟩⟩
theorem bm5 (g : Nat) (h : FFld.PK 5 1 5) : (FFld.padF (FFld.bmF ⟨5, 1, 5, g⟩ h [1, 2, 4, 3] 4).reg ((FFld.bmF ⟨5, 1, 5, g⟩ h [1, 2, 4, 3] 4).len + 1)).drop 1 = [3] := by kernel_rfl
theorem vals7 (g : Nat) : FFld.valsF ⟨7, 1, 7, g⟩ [1, 2] [0, 1, 2, 3, 4, 5] 6 = [1, 3, 5, 0, 2, 4] := by kernel_rfl
theorem tab7 (g : Nat) : ((List.range 7).all fun a => (List.range 7).all fun b => (Nat.blt 2 (disF (ints (FFld.valsF ⟨7, 1, 7, g⟩ [a, b] [0, 1, 2, 3, 4, 5] 6)) (ints [1, 3, 5, 0, 0, 0]) 6)) || (Nat.beq a 1 && Nat.beq b 2)) = true := by kernel_rfl
theorem far7 (g : Nat) : ((List.range 7).all fun a => (List.range 7).all fun b => (Nat.blt 2 (disF (ints (FFld.valsF ⟨7, 1, 7, g⟩ [a, b] [0, 1, 2, 3, 4, 5] 6)) (ints [1, 3, 6, 6, 0, 0]) 6))) = true := by kernel_rfl
theorem dis7 (g : Nat) : disF (ints (FFld.valsF ⟨7, 1, 7, g⟩ [1, 2] [0, 1, 2, 3, 4, 5] 6)) (ints [1, 3, 5, 0, 0, 0]) 6 = 2 := by kernel_rfl
theorem two_trm {P : List Nat} (h : FFld.Tz P) (hl : P.length <= 2) : ∃ a b, a = P[0]?.getD 0 /\ b = P[1]?.getD 0 /\ FFld.trm [a, b] = P := by
 refine ⟨_, _, rfl, rfl, ?_⟩
 match P, h, hl with
 | [], _, _ => rfl
 | [a], h, _ =>
   refine FFld.trm_is (n := 1) (by simp) (fun i hi => ?_) (.inr ?_)
   ·rcases i with _ | _ | i
    ·omega
    ·rfl
    ·rfl
   ·rcases h with h | h
    ·cases h
    ·exact h
 | [a, b], h, _ =>
   refine FFld.trm_is (n := 2) (by simp) (fun i hi => ?_) (.inr ?_)
   ·rcases i with _ | _ | i
    ·omega
    ·omega
    ·rfl
   ·rcases h with h | h
    ·cases h
    ·exact h
theorem vals_trm {D : FFld.FD} {P Q : List Nat} (h : FFld.trm P = Q) (tQ : FFld.Tz Q) (xs : List Nat) (i : Nat) : FFld.valsF D P xs i = FFld.valsF D Q xs i := by
 unfold FFld.valsF
 rw [h, FFld.trm_self tQ]
theorem near7 {g : Nat} {P : List Nat} (h : Near ⟨7, 1, 7, g⟩ [0, 1, 2, 3, 4, 5] [1, 3, 5, 0, 0, 0] 2 2 P) : P = [1, 2] := by
 obtain ⟨a, b, ha, hb, e⟩ := two_trm h.tz h.len
 have h1 : a < 7 := by rw [ha]; exact FFld.getD_lt (p := 7) (show 0 < 7 by decide) (fun x hx => h.lt x hx) 0
 have h2 : b < 7 := by rw [hb]; exact FFld.getD_lt (p := 7) (show 0 < 7 by decide) (fun x hx => h.lt x hx) 1
 have ht := tab7 g
 simp only [List.all_eq_true, List.mem_range] at ht
 have ht' := ht a h1 b h2
 have hd := h.dis
 rw [<- vals_trm e h.tz] at hd
 rw [Bool.or_eq_true, Bool.and_eq_true, Nat.blt_eq] at ht'
 rcases ht' with h3 | ⟨h3, h4⟩
 ·exact absurd hd (Nat.not_le.2 h3)
 ·rw [<- e, Nat.eq_of_beq_eq_true h3, Nat.eq_of_beq_eq_true h4]; rfl
theorem near7_is (g : Nat) : Near ⟨7, 1, 7, g⟩ [0, 1, 2, 3, 4, 5] [1, 3, 5, 0, 0, 0] 2 2 [1, 2] := ⟨show ∀ a ∈ [1, 2], a < 7 ^ 1 by decide, .inr (by decide), by decide, Nat.le_of_eq (dis7 g)⟩
theorem near7_no {g : Nat} {P : List Nat} (h : Near ⟨7, 1, 7, g⟩ [0, 1, 2, 3, 4, 5] [1, 3, 6, 6, 0, 0] 2 2 P) : False := by
 obtain ⟨a, b, ha, hb, e⟩ := two_trm h.tz h.len
 have h1 : a < 7 := by rw [ha]; exact FFld.getD_lt (p := 7) (show 0 < 7 by decide) (fun x hx => h.lt x hx) 0
 have h2 : b < 7 := by rw [hb]; exact FFld.getD_lt (p := 7) (show 0 < 7 by decide) (fun x hx => h.lt x hx) 1
 have ht := far7 g
 simp only [List.all_eq_true, List.mem_range] at ht
 have ht' := ht a h1 b h2
 have hd := h.dis
 rw [<- vals_trm e h.tz] at hd
 rw [Nat.blt_eq] at ht'
 exact absurd hd (Nat.not_le.2 ht')
theorem q7 : ∃ g, FFld.FD.Ok ⟨7, 1, 7, g⟩ := FFld.FD.prime_exists 7 (FFld.prime_of (by decide)) (by decide)
theorem q5' : ∃ g, FFld.FD.Ok ⟨5, 1, 5, g⟩ := FFld.FD.prime_exists 5 (FFld.prime_of (by decide)) (by decide)
theorem caw_codeV {g : Nat} (hD : FFld.FD.Ok ⟨7, 1, 7, g⟩) : CodeV ⟨7, 1, 7, g⟩ [0, 1, 2, 3, 4, 5] 6 2 := CodeV.of hD rfl (by decide) (by decide) (by decide) (show ∀ a ∈ [0, 1, 2, 3, 4, 5], a < 7 ^ 1 by decide) (by decide)
theorem kpl6 (xs : List Nat) (h : xs.length = 6) : kpL [] 6 xs = xs := by
 unfold kpL
 rw [kp_nil]
 match xs, h with
 | [a, b, c, d, e, f], _ => rfl
theorem kpf6 : (kpF [] 6).length = 6 := rfl
abbrev pt6 (a : Option Addr) : Value := .agg #[.int .i64 7, .slice a 6 6, .int .i64 2]
theorem caw_dec (ax aw : Option Addr) (W : World) (hx : Sl .i64 W (.slice ax 6 6) [0, 1, 2, 3, 4, 5]) (hw : Sl .i64 W (.slice aw 6 6) [1, 3, 5, 0, 0, 0]) :
 Calls Tryz.prog 25 #[pt6 ax, .slice aw 6 6, nilv] W (fun e w' => Below W.heap.size W w' /\ ∃ b o c, e = .returned (.tuple #[.slice (some ⟨b, o, none⟩) 6 c, .int .i64 0]) /\ 6 <= c /\ c <= maxLen /\ w'.cell? ⟨b, o + 4, none⟩ = some (.int .i64 2)) := by
 obtain ⟨g, hD⟩ := q7
 have h := cdecode_any hD ax aw none 6 6 0 6 0 2 [0, 1, 2, 3, 4, 5] [1, 3, 5, 0, 0, 0] [] W hx hw (Sl.nil _ W) (caw_codeV hD) rfl rfl (show ∀ a ∈ [1, 3, 5, 0, 0, 0], a < 7 ^ 1 by decide) (by omega) rfl rfl
 rw [kpl6 _ rfl, kpl6 _ rfl] at h
 refine Calls.mono h ?_
 rintro e w' ⟨hb, ⟨Po, v, hN, rfl, hs⟩ | ⟨hno, _⟩⟩
 ·obtain rfl := near7 hN
  rw [show ([0, 1, 2, 3, 4, 5] : List Nat).length = 6 from rfl, vals7] at hs
  obtain ⟨ao, c, rfl, hc, hm⟩ := hs.form
  obtain ⟨b, o, rfl, _, hcell⟩ := hs.news_ 4 (by decide)
  exact ⟨hb, b, o, c, rfl, hc, hm, hcell⟩
 ·exact absurd (near7_is g) (hno _)
theorem caw_far (ax aw : Option Addr) (W : World) (hx : Sl .i64 W (.slice ax 6 6) [0, 1, 2, 3, 4, 5]) (hw : Sl .i64 W (.slice aw 6 6) [1, 3, 6, 6, 0, 0]) :
 Calls Tryz.prog 25 #[pt6 ax, .slice aw 6 6, nilv] W (fun e w' => Below W.heap.size W w' /\ e = .returned (.tuple #[nilv, .int .i64 30])) := by
 obtain ⟨g, hD⟩ := q7
 have h := cdecode_any hD ax aw none 6 6 0 6 0 2 [0, 1, 2, 3, 4, 5] [1, 3, 6, 6, 0, 0] [] W hx hw (Sl.nil _ W) (caw_codeV hD) rfl rfl (show ∀ a ∈ [1, 3, 6, 6, 0, 0], a < 7 ^ 1 by decide) (by omega) rfl rfl
 rw [kpl6 _ rfl, kpl6 _ rfl] at h
 refine Calls.mono h ?_
 rintro e w' ⟨hb, ⟨Po, v, hN, rfl, hs⟩ | ⟨hno, rfl⟩⟩
 ·exact (near7_no hN).elim
 ·exact ⟨hb, rfl⟩
theorem caw_deny (ax aw : Option Addr) (W : World) (hx : Sl .i64 W (.slice ax 6 6) [0, 1, 2, 3, 4, 5]) (hw : Sl .i64 W (.slice aw 6 6) [1, 3, 6, 6, 0, 0]) :
 Calls Tryz.prog 26 #[pt6 ax, .slice aw 6 6, nilv] W (fun e w' => Below W.heap.size W w' /\ ∃ (aq av : Option Addr) (nQ nE cq cv : Nat), e = .returned (.tuple #[.agg #[.slice aq nQ cq, .slice av nE cv], .bool true]) /\ 1 <= nE /\ nE <= 100 /\ nQ <= 100) := by
 obtain ⟨g, hD⟩ := q7
 have h := cdeny_any hD ax aw none 6 6 0 6 0 2 [0, 1, 2, 3, 4, 5] [1, 3, 6, 6, 0, 0] [] W hx hw (Sl.nil _ W) (caw_codeV hD) rfl rfl (show ∀ a ∈ [1, 3, 6, 6, 0, 0], a < 7 ^ 1 by decide) (by omega) rfl rfl
 rw [kpl6 _ rfl, kpl6 _ rfl, kpf6] at h
 refine Calls.mono h ?_
 rintro e w' ⟨hb, ⟨vq, ve, Q, E, bf, el, hno, rfl, hq, he, hga, h1, h2⟩ | ⟨⟨Po, hN⟩, _⟩⟩
 ·obtain ⟨aq, cq, rfl, _, _⟩ := hq.form
  obtain ⟨av, cv, rfl, _, _⟩ := he.form
  have h3 := hga.len
  have h4 := hga.up
  refine ⟨hb, aq, av, _, _, cq, cv, rfl, ?_, ?_, ?_⟩ <;> rw [FFld.ints_len] <;> omega
 ·exact (near7_no hN).elim
theorem caw_reg (as_ : Option Addr) (W : World) (hs : Sl .i64 W (.slice as_ 4 4) [1, 2, 4, 3]) :
 Calls Tryz.prog 62 #[.int .i64 5, .slice as_ 4 4] W (fun e w' => Below W.heap.size W w' /\ ∃ a c, e = .returned (.tuple #[.slice a 1 c, .int .i64 0])) := by
 obtain ⟨g, hD⟩ := q5'
 have h := cShortest_any hD as_ 4 4 [1, 2, 4, 3] W hs rfl (show ∀ a ∈ [1, 2, 4, 3], a < 5 ^ 1 by decide) (by omega)
 rw [bm5] at h
 refine Calls.mono h ?_
 rintro e w' ⟨hb, vt, rfl, ht⟩
 obtain ⟨a, c, rfl, _, _⟩ := ht.form
 exact ⟨hb, a, c, rfl⟩
abbrev awX : Obj := .cells #[.int .i64 0, .int .i64 1, .int .i64 2, .int .i64 3, .int .i64 4, .int .i64 5] 3
abbrev awN : Obj := .cells #[.int .i64 1, .int .i64 3, .int .i64 5, .int .i64 0, .int .i64 0, .int .i64 0] 3
abbrev awF : Obj := .cells #[.int .i64 1, .int .i64 3, .int .i64 6, .int .i64 6, .int .i64 0, .int .i64 0] 3
abbrev awS : Obj := .cells #[.int .i64 1, .int .i64 2, .int .i64 4, .int .i64 3] 3
abbrev awC (g : Nat) : Obj := .cells #[.int .i64 7, .slice (some ⟨g, 0, none⟩) 6 6, .int .i64 2] 27
theorem row_six {W : World} {g : Nat} {a b c d e f : Int} (h : W.heap[g]? = some (.cells #[.int .i64 a, .int .i64 b, .int .i64 c, .int .i64 d, .int .i64 e, .int .i64 f] 3)) : Sl .i64 W (.slice (some ⟨g, 0, none⟩) 6 6) [a, b, c, d, e, f] :=
 Row.slAll (E := 3) (K := .i64) (xs := [a, b, c, d, e, f]) h (n := 6) (cap := 6) rfl (Nat.le_refl _) (by unfold maxLen; omega)
theorem row_four {W : World} {g : Nat} {a b c d : Int} (h : W.heap[g]? = some (.cells #[.int .i64 a, .int .i64 b, .int .i64 c, .int .i64 d] 3)) : Sl .i64 W (.slice (some ⟨g, 0, none⟩) 4 4) [a, b, c, d] :=
 Row.slAll (E := 3) (K := .i64) (xs := [a, b, c, d]) h (n := 4) (cap := 4) rfl (Nat.le_refl _) (by unfold maxLen; omega)
set_option maxRecDepth 20000 in
theorem cawake_any (w : World) : Calls Tryz.prog 22 #[] w (RB w (.bool true)) := by
 have HX0 : Kept (Bxs w [awX, awC w.heap.size, awN] (((w.alloc awX).alloc (awC w.heap.size)).alloc awN)) := ⟨(((Bxs.start w).alloc (by simp) _).alloc (by simp) _).alloc (by simp) _⟩
 have HD1 := Kept.mk (caw_dec (some ⟨w.heap.size, 0, none⟩) (some ⟨w.heap.size + 2, 0, none⟩) _ (row_six HX0.out.b0) (row_six (HX0.out.2.2 2 _ rfl)))
 go_enter Tryz.func22, Tryz.ntmps22
 obtain ⟨c0, c1, c2, _⟩ := three_cells HX0.out.b1
 go_wp2_with fail
 (with_reducible refine HD1.out.mono ?_)
 rintro e w1 ⟨hb1, b, o, c, rfl, hc6, hcm, hcell⟩
 have HX1 := Kept.mk ((HX0.out.below hb1).below ((Below.refl _ _).alloc (Nat.le_refl _) awF))
 have hr1 := heap_alloc_new w1 awF
 have q1 := belowCell ((Below.refl _ _).alloc (Nat.le_refl _) awF) hcell
 have HD2 := Kept.mk (caw_far (some ⟨w.heap.size, 0, none⟩) (some ⟨w1.heap.size, 0, none⟩) _ (row_six HX1.out.b0) (row_six hr1))
 clear c0 c1 c2
 obtain ⟨c0, c1, c2, _⟩ := three_cells (HX0.out.below hb1).b1
 clear hb1 hcell hr1 HX0 HD1
 go_wp2_with fail
 (with_reducible refine HD2.out.mono ?_)
 rintro e w2 ⟨hb2, rfl⟩
 have HX2 := Kept.mk ((HX1.out.below hb2).below ((Below.refl _ _).alloc (Nat.le_refl _) awF))
 have hr2 := heap_alloc_new w2 awF
 have q2 := belowCell ((Below.refl _ _).alloc (Nat.le_refl _) awF) (belowCell hb2 q1)
 have HD3 := Kept.mk (caw_deny (some ⟨w.heap.size, 0, none⟩) (some ⟨w2.heap.size, 0, none⟩) _ (row_six HX2.out.b0) (row_six hr2))
 clear c0 c1 c2
 obtain ⟨c0, c1, c2, _⟩ := three_cells (HX1.out.below hb2).b1
 clear hb2 hr2 HX1 HD2 q1
 go_wp2_with fail
 (with_reducible refine HD3.out.mono ?_)
 rintro e w3 ⟨hb3, aq, av, nQ, nE, cq, cv, rfl, hn1, hn2, hn3⟩
 have hal : Below w3.heap.size w3 ((w3.alloc (fabox (.slice aq nQ cq) (.slice av nE cv))).alloc awS) := ((Below.refl _ _).alloc (Nat.le_refl _) _).alloc (by simp) _
 have HX3 := Kept.mk ((HX2.out.below hb3).below hal)
 have hr3 := heap_alloc_new (w3.alloc (fabox (.slice aq nQ cq) (.slice av nE cv))) awS
 have hfb := heap_alloc_new w3 (fabox (.slice aq nQ cq) (.slice av nE cv))
 have q3 := belowCell hal (belowCell hb3 q2)
 have hes : (w3.alloc (fabox (.slice aq nQ cq) (.slice av nE cv))).heap.size = w3.heap.size + 1 := by simp
 rw [hes] at hr3
 have hfb2 := (heap_alloc_old (w3.alloc (fabox (.slice aq nQ cq) (.slice av nE cv))) awS (show w3.heap.size < (w3.alloc (fabox (.slice aq nQ cq) (.slice av nE cv))).heap.size by rw [hes]; omega)).trans hfb
 have HD4 := Kept.mk (caw_reg (some ⟨w3.heap.size + 1, 0, none⟩) _ (row_four hr3))
 clear hb3 hr3 hfb hal c0 c1 c2 HX2 HD3 q2 hes
 go_wp2_with fail
 (with_reducible refine HD4.out.mono ?_)
 rintro e w4 ⟨hb4, ta, tc, rfl⟩
 have HB4 := Kept.mk (HX3.out.below hb4).1
 have hfb3 := (hb4.block _ (Array.getElem?_eq_some_iff.1 hfb2).1).trans hfb2
 obtain ⟨f0, f1, _, _⟩ := two_cells hfb3
 have q4 := belowCell hb4 q3
 have g1 : decide ((0 : Int) < (nQ : Int) + (nE : Int)) = true := decide_eq_true (by omega)
 clear hb4 hfb2 hfb3 q3 HD4 HX3
 go_wp2
 go_ret
 exact ⟨HB4.out, rfl⟩
structure LwAt (w : World) (D : FFld.FD) (va : Option Addr) (m vc k : Nat) (xs : List Nat) (g7 g8 : Nat) (W : World) : Prop where
 bel : Below w.heap.size w W
 b7 : W.heap[g7]? = some (rcdbox D.q va m vc k)
 b8 : W.heap[g8]? = some (cdbox D.q va m vc k)
 sl : Sl .i64 W (.slice va m vc) (ints xs)
def RetP (w : World) (l : List Nat) (n : Nat) (e : Ending) (w' : World) : Prop := Below w.heap.size w w' /\ ∃ (va : Option Addr) (vc : Nat), e = .returned (.slice va n vc) /\ Mine 3 .i64 w.heap.size w' (.slice va n vc) (ints l)
theorem RetM.parts {w : World} {l : List Nat} {n : Nat} {e : Ending} {w' : World} (h : RetM w (ints l) e w') (hn : l.length = n) : RetP w l n e w' := by
 obtain ⟨hb, v, rfl, hm⟩ := h
 obtain ⟨va, vc, rfl, _⟩ := hm.sl
 rw [FFld.ints_len, hn] at hm ⊢
 exact ⟨hb, va, vc, rfl, hm⟩
end Go.Proofs.YtdnheaafcbihbaaGreat
