/-
  Texts of the proof, merged by program: Cpa Cer Ce2 Rc3 Rc4 Lma Lh1 Lh2 Tpa Ce4 Csq Cco Bmp.
-/
import Derived.Test.YtdnheaafcbihbaaGreatTq18
import Derived.WalkMore
set_option linter.unusedSimpArgs false
set_option linter.unusedVariables false
set_option maxHeartbeats 16000000
namespace Go.Proofs.YtdnheaafcbihbaaGreat
open Go Go.RowKit Go.Deep
open FFld (ints)
abbrev rcv (b : Nat) (pv ev : Value) (k r : Nat) : Value := .agg #[.pointer (some ⟨b, 0, none⟩), pv, ev, .int .i64 k, .int .i64 r]
abbrev rcbox (b : Nat) (pv ev : Value) (k r : Nat) : Obj := .cells #[.pointer (some ⟨b, 0, none⟩), pv, ev, .int .i64 k, .int .i64 r] 119
abbrev fabox (u v : Value) : Obj := .cells #[u, v] 36
theorem five_cells_ {w : World} {g : Nat} {a b c d e : Value} {T : TypeId} (h : w.heap[g]? = some (.cells #[a, b, c, d, e] T (0, 0))) :
 w.cell? ⟨g, 0, none⟩ = some a /\ w.cell? ⟨g, 1, none⟩ = some b /\ w.cell? ⟨g, 2, none⟩ = some c /\ w.cell? ⟨g, 3, none⟩ = some d /\ w.cell? ⟨g, 4, none⟩ = some e :=
 ⟨by rw [cell_of_row w g 0 _ T (0, 0) h]; rfl, by rw [cell_of_row w g 1 _ T (0, 0) h]; rfl, by rw [cell_of_row w g 2 _ T (0, 0) h]; rfl, by rw [cell_of_row w g 3 _ T (0, 0) h]; rfl, by rw [cell_of_row w g 4 _ T (0, 0) h]; rfl⟩
set_option maxRecDepth 20000 in
theorem clongest_any (b n cx k rad : Nat) (ax : Option Addr) (ev : Value) (w : World) (hr : rad <= n) (hn : n <= 1000) :
 Calls Tryz.prog 164 #[rcv b (.slice ax n cx) ev k rad] w (RB w (.int .i64 ((n - rad : Nat) : Int))) := by
 have HX0 : Kept (Bxs w [rcbox b (.slice ax n cx) ev k rad] (w.alloc (rcbox b (.slice ax n cx) ev k rad))) := ⟨(Bxs.start w).alloc (by simp) _⟩
 obtain ⟨c0, c1, c2, c3, c4⟩ := five_cells_ HX0.out.b0
 have e1 : ((n - rad : Nat) : Int) = (n : Int) - rad := by omega
 rw [e1]
 go_enter Tryz.func164, Tryz.ntmps164
 go_wp2
 go_ret
 exact ⟨HX0.out.1, rfl⟩
theorem Sl.not_box_ {K : IntKind} {w : World} {v : Value} {xs : List Int} {g : Nat} {cs : Array Value} {T : TypeId} {fr : Nat × Nat} (h : Sl K w v xs) (hg : w.heap[g]? = some (.cells cs T fr)) (hc : ∀ (i : Nat) (n : Int), cs[i]? ≠ some (Value.int K n)) : live v ≠ some g := by
 intro hl
 obtain ⟨ao, cap, rfl, hcap, hm, hx⟩ := h
 by_cases h0 : 0 < xs.length
 ·obtain ⟨b, o, rfl, hb, hcell⟩ := hx 0 h0
  have := live_own hl
  simp only [Value.ownBlock, Option.some.injEq] at this
  subst this
  rw [cell_of_row w b (o + 0) cs T fr hg] at hcell
  exact hc _ _ hcell
 ·have : xs.length = 0 := by omega
  rw [this] at hl
  cases ao <;> simp [live] at hl
def GaRet {D : FFld.FD} (hD : D.Ok) (xs ys : List Nat) (n rad : Nat) (w : World) (e : Ending) (w' : World) : Prop := Below w.heap.size w w' /\ ∃ (vq ve : Value) (Q E bf el : List Nat), e = .returned (.agg #[vq, ve]) /\ Sl .i64 w' vq (ints Q) /\ Sl .i64 w' ve (ints E) /\ FFld.GaoOk hD xs ys n bf Q el E /\ Q.length + rad <= n /\ n < bf.length + rad
set_option maxRecDepth 20000 in
theorem cpair_any {D : FFld.FD} {b : Nat} (hD : D.Ok) (ax ay : Option Addr) (cx cy k rad n : Nat) (xs ys : List Nat) (w : World) (hf : FldB D w b) (hx : Sl .i64 w (.slice ax n cx) (ints xs)) (hy : Sl .i64 w (.slice ay n cy) (ints ys)) (lx : xs.length = n) (ly : ys.length = n) (hxq : ∀ a ∈ xs, a < D.p ^ D.k) (hyq : ∀ a ∈ ys, a < D.p ^ D.k) (hd : ∀ i j, j < i -> i < n -> xs[i]?.getD 0 ≠ xs[j]?.getD 0) (hn : n <= 64) (hr : rad <= n) (hk6 : k <= 64) :
 Calls Tryz.prog 92 #[rcv b (.slice ax n cx) (.slice ay n cy) k rad] w (GaRet hD xs ys n rad w) := by
 have hq6 : D.p ^ D.k <= 65536 := hD.pre.small
 have hk := hD.pre.pk
 have hq1 := hk.one_lt
 have HX0 : Kept (Bxs w [rcbox b (.slice ax n cx) (.slice ay n cy) k rad, fabox (.slice none 0 0) (.slice none 0 0)] ((w.alloc (rcbox b (.slice ax n cx) (.slice ay n cy) k rad)).alloc (fabox (.slice none 0 0) (.slice none 0 0)))) := ⟨((Bxs.start w).alloc (by simp) _).alloc (by simp) _⟩
 obtain ⟨mi, hmi⟩ : ∃ mi, FFld.padd D.p D.k 0 (FFld.pscl D.p D.k (D.p - 1) 1) = mi := ⟨_, rfl⟩
 have hmlt : mi < D.p ^ D.k := by rw [<- hmi]; exact FFld.padd_lt hk _ _
 have hmE : FFld.toE hk mi = (FFld.FD.dom hD.nzd).neg (FFld.FD.dom hD.nzd).one := by
  rw [<- hmi, FFld.toE_add hD (Nat.pow_pos hk.p0) (FFld.pscl_lt hk _ _), FFld.toE_neg hD hq1, FFld.toE_zero hD, FFld.toE_one hD, FFld.Dom.zero_add]
 have HSB := Kept.mk (fun (W : World) (hW : Below w.heap.size w W) => fsub_any (0 : Int) (1 : Int) W (hf.below hW) (by omega) (by omega) (by omega) (by omega) 0 1 (by simp) (md_nat hq1) (Nat.pow_pos hk.p0) hq1)
 rw [hmi] at HSB
 have HTH := Kept.mk (fun (W : World) (hW : Below w.heap.size w W) => fthrough_good hD (.slice ax n cx) (.slice ay n cy) xs ys n W (hf.below hW) (hx.below hW) (hy.below hW) hxq hyq lx ly (by omega))
 have HVN := Kept.mk (fun (W : World) (hW : Below w.heap.size w W) => cvanish_any hD ax cx xs W (hf.below hW) (by rw [lx]; exact hx.below hW) hxq (by omega))
 rw [lx] at HVN
 have HLO := Kept.mk (fun (W : World) => clongest_any b n cx k rad ax (.slice ay n cy) W hr (by omega))
 have HDV := Kept.mk (fun (W : World) (hW : Below w.heap.size w W) (vp vq : Value) (pl ql : List Nat) (h1 : Sl .i64 W vp (ints pl)) (h2 : Sl .i64 W vq (ints ql)) (hp : ∀ a ∈ pl, a < D.p ^ D.k) (hq : ∀ a ∈ ql, a < D.p ^ D.k) (tp : FFld.Tz pl) (tq : FFld.Tz ql) (h0 : 0 < ql.length) (lp : pl.length <= 200) (lq : ql.length <= 200) =>
  fpdivide_any vp vq pl ql W (hf.below hW) h1 h2 (cErr_poly hp tp lp) (cErr_poly hq tq lq) hD hp hq h0 tq (by omega) (by omega))
 have HPR := Kept.mk (fun (W : World) (hW : Below w.heap.size w W) (af : Option Addr) (cf : Nat) (p q : List Nat) (hs : Sls W af [ints p, ints q]) (h1 : 2 <= cf) (h2 : cf <= maxLen) (hp : ∀ a ∈ p, a < D.p ^ D.k) (hq : ∀ a ∈ q, a < D.p ^ D.k) (tp : FFld.Tz p) (tq : FFld.Tz q) (lp : p.length <= 100) (lq : q.length <= 100) => cproduct_any hD af cf [p, q] W (hf.below hW) hs h1 h2 (fun l hl => by
  rcases List.mem_cons.1 hl with rfl | hl
  ·exact hp
  ·obtain rfl := List.mem_singleton.1 hl
   exact hq) (fun l hl => by
  rcases List.mem_cons.1 hl with rfl | hl
  ·exact tp
  ·obtain rfl := List.mem_singleton.1 hl
   exact tq) (fun l hl => by
  rcases List.mem_cons.1 hl with rfl | hl
  ·omega
  ·obtain rfl := List.mem_singleton.1 hl
   omega) (fun i hi => by
  have h1 := FFld.mulL_one (D := D) hD hp tp
  rcases i with _ | _ | _ | i
  ·simp [FFld.prodF]
  ·show (FFld.mulL D [1] p).length <= 200
   rw [h1]
   omega
  ·show (FFld.mulL D (FFld.mulL D [1] p) q).length <= 200
   rw [h1]
   by_cases hz : p.length = 0 \/ q.length = 0
   ·unfold FFld.mulL
    rw [if_pos hz]
    simp
   ·rw [FFld.mulL_len_is (by omega) (by omega)]
    omega
  ·simp at hi) (by simp))
 have HPL := Kept.mk (fun (W : World) (hW : Below w.heap.size w W) (ap aq : Option Addr) (cp cq : Nat) (pl ql : List Nat) (h1 : Sl .i64 W (.slice ap pl.length cp) (ints pl)) (h2 : Sl .i64 W (.slice aq ql.length cq) (ints ql)) (hp : ∀ a ∈ pl, a < D.p ^ D.k) (hq : ∀ a ∈ ql, a < D.p ^ D.k) (lp : pl.length <= 200) (lq : ql.length <= 200) => cplus_any hD ap aq cp cq pl ql mi 0 W (hf.below hW) h1 h2 hp hq hmlt (by omega) (by omega))
 have HGS := Kept.mk (fun (nw : List Nat) (h1 : ∀ a ∈ nw, a < D.p ^ D.k) (h2 : FFld.Tz nw) (h3 : nw.length <= n) (h4 : ∀ j, j < n -> FFld.evE hD nw (FFld.plE hD xs j) = FFld.plE hD ys j) => FFld.GaoOk.start hD hxq h1 h2 h3 (FFld.thV_tz hD (by omega)) h4)
 have HGN := Kept.mk (fun (bf nw el e : List Nat) (h : FFld.GaoOk hD xs ys n bf nw el e) (h0 : nw.length ≠ 0) => FFld.GaoOk.next hD h h0 hmlt hmE)
 have HNW : Kept ((∀ a, a < n -> FFld.thA D xs a ≠ 0) -> FFld.GaoOk hD xs ys n (FFld.thV D xs n) (FFld.trm (FFld.thR D hD.pre.pk xs ys n n)) [] [1]) := ⟨fun hA => HGS.out _ (FFld.trm_lt (FFld.thR_lt hk xs ys n n)) (FFld.trm_tz _) (by have h1 := FFld.trm_len_le (FFld.thR D hk xs ys n n); rw [FFld.thR_len] at h1; exact h1) fun j hj => by rw [FFld.evE_trm]; exact FFld.thR_ev hD hxq hyq n (Nat.le_refl _) hA j hj⟩
 have HVL : Kept (n < (FFld.thV D xs n).length + rad) := ⟨by rw [FFld.thV_len]; omega⟩
 have HDS := Kept.mk hd
 have HNL := Kept.mk (fun (bf nw el e : List Nat) (h : FFld.GaoOk hD xs ys n bf nw el e) => (⟨by have := h.len; have := h.low; have := h.up; omega, by have := h.len; have := h.low; have := h.up; omega, by have := h.len; have := h.low; have := h.up; omega, by have := h.len; have := h.low; have := h.up; omega⟩ : bf.length <= 66 /\ nw.length <= 66 /\ el.length <= 66 /\ e.length <= 66))
 clear hf hx hy lx ly hxq hyq hmi hmlt hmE hq1 hd HGS
 go_enter Tryz.func92, Tryz.ntmps92
 obtain ⟨c0, c1, c2, c3, c4⟩ := five_cells_ HX0.out.b0
 go_wp2_with fail
 refine (HSB.out _ HX0.out.1).mono ?_
 rintro e w1 ⟨hb1, rfl⟩
 have HX1 := Kept.mk (HX0.out.below hb1)
 clear hb1 c0 c1 c2 c3 c4 HSB
 obtain ⟨c0, c1, c2, c3, c4⟩ := five_cells_ HX1.out.b0
 go_wp2_with fail
 refine (HTH.out _ HX1.out.1).mono ?_
 rintro e w2 ⟨hb2, ⟨i, j, hji, hin, hxx, rfl⟩ | ⟨hA, v4, rfl, hs4⟩⟩
 ·exact absurd hxx (HDS.out i j hji hin)
 ·have HGA := Kept.mk (HNW.out hA)
  obtain ⟨NW, hNW⟩ : ∃ l, FFld.trm (FFld.thR D hD.pre.pk xs ys n n) = l := ⟨_, rfl⟩
  rw [hNW] at HGA hs4
  obtain ⟨a4, m4, rfl, _, _⟩ := hs4.form
  have HX2 := Kept.mk (HX1.out.below hb2)
  have HS4 := Kept.mk hs4
  clear hb2 hA hs4 hNW HNW c0 c1 c2 c3 c4
  obtain ⟨c0, c1, c2, c3, c4⟩ := five_cells_ HX2.out.b0
  go_wp2_with fail
  refine (HVN.out _ HX2.out.1).mono ?_
  rintro e w3 ⟨hb3, v3, rfl, hs3⟩
  have HX3 := Kept.mk (HX2.out.below hb3)
  have HS4' := Kept.mk (HS4.out.below hb3)
  have HS3 := Kept.mk hs3
  obtain ⟨a3, m3, rfl, _, _⟩ := hs3.form
  have hal : Below w3.heap.size w3 (w3.alloc (.cells #[.int .i64 1] 3)) := (Below.refl _ _).alloc (Nat.le_refl _) _
  have HSe : Kept (Sl .i64 (w3.alloc (.cells #[.int .i64 1] 3)) (.slice (some ⟨w3.heap.size, 0, none⟩) 1 1) (ints [1])) := ⟨cone_sl w3 1⟩
  have HSb := Kept.mk (HS3.out.below hal)
  have HSn := Kept.mk (HS4'.out.below hal)
  have HXb := Kept.mk (HX3.out.below hal)
  have HSl : Kept (Sl .i64 (w3.alloc (.cells #[.int .i64 1] 3)) (.slice none 0 0) (ints [])) := ⟨Sl.nil _ _⟩
  clear hb3 hs3 hal HS4 HS4' HS3 HX3 HX2 HX1 c0 c1 c2 c3 c4 HTH HVN
  go_wp2
  go_loopw [6, 7, 8, 9] (fun bv nv lv ev wr => ∃ (bf nw el e : List Nat), Kept (Sl .i64 wr bv (ints bf)) /\ Kept (Sl .i64 wr nv (ints nw)) /\ Kept (Sl .i64 wr lv (ints el)) /\ Kept (Sl .i64 wr ev (ints e)) /\ Kept (FFld.GaoOk hD xs ys n bf nw el e) /\ Kept (n < bf.length + rad) /\ Kept (Bxs w [rcbox b (.slice ax n cx) (.slice ay n cy) k rad, fabox (.slice none 0 0) (.slice none 0 0)] wr)) (fun _ nv _ _ _ => sliceLen nv)
  case atStart => exact ⟨_, _, _, _, HSb, HSn, HSl, HSe, HGA, HVL, HXb⟩
  case round =>
   clear HSb HSn HSl HSe HGA HVL HXb
   obtain ⟨bf, nw, el, e, hsb, hsn, hsl, hse, hga, hlo, hbx⟩ := hrel
   obtain ⟨hl1, hl2, hl3, hl4⟩ := HNL.out _ _ _ _ hga.out
   obtain ⟨an, mn, rfl, hmn, hmn'⟩ := hsn.out.form
   obtain ⟨ab, mb, rfl, _, _⟩ := hsb.out.form
   obtain ⟨al, ml, rfl, _, _⟩ := hsl.out.form
   obtain ⟨ae, me, rfl, hme, hme'⟩ := hse.out.form
   simp only [FFld.ints_len] at hsb hsn hsl hse hmn hme ⊢
   obtain ⟨c0, c1, c2, c3, c4⟩ := five_cells_ hbx.out.b0
   obtain ⟨nn, hnn⟩ : ∃ x, nw.length = x := ⟨_, rfl⟩
   have HNN := Kept.mk hnn
   have HHL : Kept (bf.length <= 66 /\ nw.length <= 66 /\ el.length <= 66 /\ e.length <= 66) := ⟨⟨hl1, hl2, hl3, hl4⟩⟩
   obtain ⟨nb, hnb⟩ : ∃ x, bf.length = x := ⟨_, rfl⟩
   obtain ⟨nl, hnl⟩ : ∃ x, el.length = x := ⟨_, rfl⟩
   obtain ⟨ne, hne⟩ : ∃ x, e.length = x := ⟨_, rfl⟩
   have HNE := Kept.mk hne
   have HNL2 := Kept.mk hnl
   rw [hnn] at hsn hl2 hmn
   rw [hnb] at hsb hl1
   rw [hnl] at hsl hl3
   rw [hne] at hse hl4 hme
   try rw [hnn, hnb, hnl, hne]
   clear hnn hnb hnl hne
   go_wp2_with fail
   refine (HLO.out _).mono ?_
   rintro e' w4 ⟨hb4, rfl⟩
   have HX4 := Kept.mk (hbx.out.below hb4)
   have HSB4 := Kept.mk (hsb.out.below hb4)
   have HSN4 := Kept.mk (hsn.out.below hb4)
   have HSL4 := Kept.mk (hsl.out.below hb4)
   have HSE4 := Kept.mk (hse.out.below hb4)
   clear hb4 hsb hsn hsl hse hbx c0 c1 c2 c3 c4
   obtain ⟨c0, c1, c2, c3, c4⟩ := five_cells_ HX4.out.b0
   by_cases hgo : n - rad < nn
   ·have g1 : decide (((n - rad : Nat) : Int) < nn) = true := decide_eq_true (by omega)
    have hn0 : nw.length ≠ 0 := by rw [HNN.out]; omega
    have HNX := Kept.mk (HGN.out _ _ _ _ hga.out hn0)
    have HLT := Kept.mk (FFld.rst_short hD hga.out.nlt hga.out.blt (by omega) (by rcases hga.out.tn with h | h; exact absurd h hn0; exact h))
    have HDC := Kept.mk (HDV.out w4 HX4.out.1 _ _ bf nw HSB4.out HSN4.out hga.out.blt hga.out.nlt hga.out.tb hga.out.tn (by omega) (by have := HHL.out.1; omega) (by have := HHL.out.2.1; omega))
    have HQQ := Kept.mk (FFld.quoF_lt (D := D) hD.pre.pk nw (FFld.invT D hD.pre.pk nw) bf)
    have HQT := Kept.mk (FFld.quo_tz hD hga.out.nlt hga.out.blt (by omega) (by rcases hga.out.tn with h | h; exact absurd h hn0; exact h) hga.out.tb)
    have HQL := Kept.mk (FFld.quoF_len D nw (FFld.invT D hD.pre.pk nw) bf)
    have HML := Kept.mk (FFld.mulL_lt (D := D) hD.pre.pk (FFld.quoF D nw (FFld.invT D hD.pre.pk nw) bf) e)
    have HPE : Kept (FFld.prodF D [FFld.quoF D nw (FFld.invT D hD.pre.pk nw) bf, e] [FFld.quoF D nw (FFld.invT D hD.pre.pk nw) bf, e].length = FFld.mulL D (FFld.quoF D nw (FFld.invT D hD.pre.pk nw) bf) e) := ⟨by
     show FFld.mulL D (FFld.mulL D [1] (FFld.quoF D nw (FFld.invT D hD.pre.pk nw) bf)) e = _
     rw [FFld.mulL_one hD HQQ.out HQT.out]⟩
    have HNLO : Kept (n < nw.length + rad) := ⟨by rw [HNN.out]; omega⟩
    obtain ⟨qu, hqu⟩ : ∃ l, FFld.quoF D nw (FFld.invT D hD.pre.pk nw) bf = l := ⟨_, rfl⟩
    obtain ⟨rs, hrs⟩ : ∃ l, FFld.rstF D nw (FFld.invT D hD.pre.pk nw) bf = l := ⟨_, rfl⟩
    rw [hqu] at HNX HDC HQQ HQT HQL HML HPE
    rw [hrs] at HNX HDC HLT
    clear hqu hrs hn0
    go_wp2_with fail
    refine HDC.out.mono ?_
    rintro e'' w5 ⟨hb5, vq, vr, rfl, hsq, hsr⟩
    obtain ⟨qa, qc, rfl, hqc, hqc'⟩ := hsq.form
    obtain ⟨ra, rc, rfl, hrc, hrc'⟩ := hsr.form
    rw [FFld.ints_len] at hsq hqc hsr hrc ⊢
    rw [FFld.ints_len]
    have HX5 := Kept.mk (HX4.out.below hb5)
    have HSN5 := Kept.mk (HSN4.out.below hb5)
    have HSL5 := Kept.mk (HSL4.out.below hb5)
    have HSE5 := Kept.mk (HSE4.out.below hb5)
    have HSQ5 := Kept.mk hsq
    have HSR5 := Kept.mk hsr
    obtain ⟨nq, hnq⟩ : ∃ x, qu.length = x := ⟨_, rfl⟩
    obtain ⟨nr, hnr⟩ : ∃ x, rs.length = x := ⟨_, rfl⟩
    have HNQ := Kept.mk hnq
    have HNR := Kept.mk hnr
    rw [hnq] at HSQ5 ⊢
    rw [hnr] at HSR5 ⊢
    clear hb5 hsq hsr hnq hnr HX4 HSB4 HSN4 HSL4 HSE4 HDC c0 c1 c2 c3 c4
    obtain ⟨c0, c1, c2, c3, c4⟩ := five_cells_ HX5.out.b0
    obtain ⟨PE, hPE⟩ : ∃ l, FFld.mulL D qu e = l := ⟨_, rfl⟩
    have HPLL : Kept (PE.length <= 150) := ⟨by
     rw [<- hPE]
     by_cases hz : qu.length = 0 \/ e.length = 0
     ·unfold FFld.mulL
      rw [if_pos hz]
      simp
     ·rw [FFld.mulL_len_is (by omega) (by omega)]
      have := HQL.out
      have := HHL.out
      omega⟩
    rw [hPE] at HNX HPE HML
    have HPX : Kept (∀ W, Below w.heap.size w W -> ∀ pa pc, Sl .i64 W (.slice al nl ml) (ints el) -> Sl .i64 W (.slice pa PE.length pc) (ints PE) -> Calls Tryz.prog 165 #[.pointer (some ⟨b, 0, none⟩), .slice al nl ml, .slice pa PE.length pc, .int .i64 mi, .int .i64 0] W (fun e' w' => Below W.heap.size W w' /\ ∃ v, e' = .returned v /\ Sl .i64 w' v (ints (FFld.plusF D el PE mi 0)))) := ⟨fun W hW pa pc h1 h2 => by
     have h := HPL.out W hW al pa ml pc el PE (by rw [HNL2.out]; exact h1) h2 hga.out.llt HML.out (by have := HHL.out; omega) (by have := HPLL.out; omega)
     rw [HNL2.out] at h
     refine h.mono ?_
     rintro e' w' ⟨hb, rfl, hw⟩
     refine ⟨hb, _, rfl, hw.sl rfl ?_ ?_⟩
     ·unfold FFld.plusF
      refine Nat.le_trans (FFld.trm_len_le _) ?_
      rw [FFld.addm_len, FFld.padF_len (by omega), HNL2.out]
      exact Nat.le_refl _
     ·have := HPLL.out
      unfold maxLen
      omega⟩
    have HPRX : Kept (∀ W, Below w.heap.size w W -> ∀ af, Sls W af [ints qu, ints e] -> Calls Tryz.prog 166 #[.pointer (some ⟨b, 0, none⟩), .slice af 2 2] W (fun e' w' => Below W.heap.size W w' /\ ∃ v, e' = .returned v /\ Sl .i64 w' v (ints PE))) := ⟨fun W hW af h => by
     have h2 := HPR.out W hW af 2 qu e h (Nat.le_refl _) (by decide) HQQ.out hga.out.elt HQT.out hga.out.te (by have := HQL.out; have := HHL.out; omega) (by have := HHL.out; omega)
     rw [HPE.out] at h2
     exact h2⟩
    have hal : Below w5.heap.size w5 ((w5.alloc (.cells #[.slice qa nq qc, .slice ae ne me] 22)).drew) := ((Below.refl _ _).alloc (Nat.le_refl _) _).drew
    have hblk : ((w5.alloc (.cells #[.slice qa nq qc, .slice ae ne me] 22)).drew).heap[w5.heap.size]? = some (.cells #[.slice qa nq qc, .slice ae ne me] 22 (0, 0)) := heap_alloc_new w5 _
    have e0 := belowCell hal c0
    clear hPE HPR HPL HPE HDV
    go_upto_region 9 with fail
    refine wp_region_held_drew (S := fun w' => w'.cell? ⟨w.heap.size, 0, none⟩ = some (.pointer (some ⟨b, 0, none⟩))) (by kernel_rfl) c0 (fun hHeld => ?_)
    refine wpAnyH_take (i := 0) (v := ?_) rfl (by kernel_rfl) (by kernel_rfl) (by kernel_rfl) (fun _ _ _ h => h) (Or.inl ⟨by rfl, ?_⟩) (by assumption) ?_
    rotate_left
    ·(intro w hSw; (try dsimp only at hSw); go_simp; (try with_reducible rfl))
    try simp only [Act.put, List.getElem_toArray, List.getElem_cons_succ, List.getElem_cons_zero, List.setIfInBounds_toArray, List.set_cons_zero, List.set_cons_succ]
    refine wpAnyH_take (i := 1) (v := ?_) rfl (by kernel_rfl) (by kernel_rfl) (by kernel_rfl) (fun _ _ _ h => h) (Or.inl ⟨by rfl, ?_⟩) (by assumption) ?_
    rotate_left
    ·(intro w hSw; (try dsimp only at hSw); go_simp; (try with_reducible rfl))
    try simp only [Act.put, List.getElem_toArray, List.getElem_cons_succ, List.getElem_cons_zero, List.setIfInBounds_toArray, List.set_cons_zero, List.set_cons_succ]
    refine wpAnyH_take (i := 2) (v := ?_) rfl (by kernel_rfl) (by kernel_rfl) (by kernel_rfl) (fun _ _ _ h => h) (Or.inl ⟨by rfl, ?_⟩) (by assumption) ?_
    rotate_left
    ·(intro w hSw; (try dsimp only at hSw); go_simp; (try with_reducible rfl))
    try simp only [Act.put, List.getElem_toArray, List.getElem_cons_succ, List.getElem_cons_zero, List.setIfInBounds_toArray, List.set_cons_zero, List.set_cons_succ]
    refine wpAnyH_take (i := 3) (v := ?_) rfl (by kernel_rfl) (by kernel_rfl) (by kernel_rfl) (fun _ _ _ h => h) (Or.inl ⟨by rfl, ?_⟩) (by assumption) ?_
    rotate_left
    ·(intro w hSw; (try dsimp only at hSw); go_simp; (try with_reducible rfl))
    try simp only [Act.put, List.getElem_toArray, List.getElem_cons_succ, List.getElem_cons_zero, List.setIfInBounds_toArray, List.set_cons_zero, List.set_cons_succ]
    refine wpAnyH_take (i := 4) (v := ?_) rfl (by kernel_rfl) (by kernel_rfl) (by kernel_rfl) (fun _ _ _ h => h) (Or.inl ⟨by rfl, ?_⟩) (by assumption) ?_
    rotate_left
    ·(intro w hSw; (try dsimp only at hSw); go_simp; (try with_reducible rfl))
    try simp only [Act.put, List.getElem_toArray, List.getElem_cons_succ, List.getElem_cons_zero, List.setIfInBounds_toArray, List.set_cons_zero, List.set_cons_succ]
    refine wpAnyH_take (i := 5) (v := ?_) rfl (by kernel_rfl) (by kernel_rfl) (by kernel_rfl) (fun _ _ _ h => h) (Or.inl ⟨by rfl, ?_⟩) (by assumption) ?_
    rotate_left
    ·(intro w hSw; (try dsimp only at hSw); go_simp; (try with_reducible rfl))
    try simp only [Act.put, List.getElem_toArray, List.getElem_cons_succ, List.getElem_cons_zero, List.setIfInBounds_toArray, List.set_cons_zero, List.set_cons_succ]
    refine wpAnyH_take (i := 6) (v := ?_) rfl (by kernel_rfl) (by kernel_rfl) (by kernel_rfl) (fun _ _ _ h => h) (Or.inl ⟨by rfl, ?_⟩) (by assumption) ?_
    rotate_left
    ·(intro w hSw; (try dsimp only at hSw); go_simp; (try with_reducible rfl))
    try simp only [Act.put, List.getElem_toArray, List.getElem_cons_succ, List.getElem_cons_zero, List.setIfInBounds_toArray, List.set_cons_zero, List.set_cons_succ]
    refine wpAnyH_take (i := 9) (v := ?_) rfl (by kernel_rfl) (by kernel_rfl) (by kernel_rfl) (fun _ _ _ h => h) (Or.inl ⟨by rfl, ?_⟩) (by assumption) ?_
    rotate_left
    ·(intro w hSw; (try dsimp only at hSw); go_simp; (try with_reducible rfl))
    try simp only [Act.put, List.getElem_toArray, List.getElem_cons_succ, List.getElem_cons_zero, List.setIfInBounds_toArray, List.set_cons_zero, List.set_cons_succ]
    refine wpAnyH_ready (rs := [7]) (by kernel_rfl) (by simp) ?_
    refine (AllReadyH.cons rfl (fun K hK => ?_) AllReadyH.nil)
    go_simp
    refine hK.out _ _ e0 (fun hHeld => ?_)
    clear hK K
    try simp only [Act.put, List.getElem_toArray, List.getElem_cons_succ, List.getElem_cons_zero, List.setIfInBounds_toArray, List.set_cons_zero, List.set_cons_succ]
    obtain ⟨W6, hW6⟩ : ∃ W, (w5.alloc (.cells #[.slice qa nq qc, .slice ae ne me] 22)).drew = W := ⟨_, rfl⟩
    rw [hW6] at hal hblk e0 ⊢
    clear hW6
    have HX6 := Kept.mk (HX5.out.below hal)
    have HSN6 := Kept.mk (HSN5.out.below hal)
    have HSL6 := Kept.mk (HSL5.out.below hal)
    have HSE6 := Kept.mk (HSE5.out.below hal)
    have HSR6 := Kept.mk (HSR5.out.below hal)
    have HSQ6 := Kept.mk (HSQ5.out.below hal)
    have HSS : Kept (Sls W6 (some ⟨w5.heap.size, 0, none⟩) [ints qu, ints e]) := ⟨fun i hi => by
     obtain ⟨k0, k1, _, _⟩ := two_cells hblk
     have hl : w5.heap.size < W6.heap.size := (Array.getElem?_eq_some_iff.1 hblk).1
     rcases i with _ | _ | i
     ·exact ⟨w5.heap.size, 0, _, rfl, hl, k0, HSQ6.out⟩
     ·exact ⟨w5.heap.size, 0, _, rfl, hl, k1, HSE6.out⟩
     ·simp at hi
      omega⟩
    clear hal hblk HX5 HSN5 HSL5 HSE5 HSR5 HSQ5
    refine wpAnyH_ready (rs := [8]) (by kernel_rfl) (by simp) ?_
    refine (AllReadyH.cons rfl (fun K hK => ?_) AllReadyH.nil)
    go_simp
    refine (HPRX.out _ HX6.out.1 _ HSS.out).mono ?_
    rintro e' w7 ⟨hb7, vp, rfl, hsp⟩
    obtain ⟨pa, pc, rfl, _, _⟩ := hsp.form
    rw [FFld.ints_len] at hsp ⊢
    have HX7 := Kept.mk (HX6.out.below hb7)
    have HSN7 := Kept.mk (HSN6.out.below hb7)
    have HSL7 := Kept.mk (HSL6.out.below hb7)
    have HSE7 := Kept.mk (HSE6.out.below hb7)
    have HSR7 := Kept.mk (HSR6.out.below hb7)
    have HSP7 := Kept.mk hsp
    have e7 := belowCell hb7 e0
    clear hb7 hsp e0 HX6 HSN6 HSL6 HSE6 HSR6 HSQ6 HSS
    refine hK.out _ _ e7 (fun hHeld => ?_)
    clear hK K
    try simp only [Act.put, List.getElem_toArray, List.getElem_cons_succ, List.getElem_cons_zero, List.setIfInBounds_toArray, List.set_cons_zero, List.set_cons_succ]
    refine wpAnyH_ready (rs := [10]) (by kernel_rfl) (by simp) ?_
    refine (AllReadyH.cons rfl (fun K hK => ?_) AllReadyH.nil)
    go_simp
    refine (HPX.out _ HX7.out.1 _ _ HSL7.out HSP7.out).mono ?_
    rintro e' w8 ⟨hb8, vs, rfl, hss⟩
    obtain ⟨sa, sc, rfl, _, _⟩ := hss.form
    have HX8 := Kept.mk (HX7.out.below hb8)
    have HSN8 := Kept.mk (HSN7.out.below hb8)
    have HSE8 := Kept.mk (HSE7.out.below hb8)
    have HSR8 := Kept.mk (HSR7.out.below hb8)
    have HSS8 := Kept.mk hss
    have e8 := belowCell hb8 e7
    clear hb8 hss e7 HX7 HSN7 HSL7 HSE7 HSR7 HSP7
    refine hK.out _ _ e8 (fun hHeld => ?_)
    clear hK K
    try simp only [Act.put, List.getElem_toArray, List.getElem_cons_succ, List.getElem_cons_zero, List.setIfInBounds_toArray, List.set_cons_zero, List.set_cons_succ]
    refine wpAnyH_ready (rs := [11]) (by kernel_rfl) (by simp) ?_
    refine (AllReadyH.cons rfl (fun K hK => ?_) AllReadyH.nil)
    go_simp
    refine hK.out _ _ e8 (fun hHeld => ?_)
    clear hK K
    try simp only [Act.put, List.getElem_toArray, List.getElem_cons_succ, List.getElem_cons_zero, List.setIfInBounds_toArray, List.set_cons_zero, List.set_cons_succ]
    refine wpAnyH_done (by kernel_rfl) ?_ _
    go_wp2
    go_roundw
    case rel => exact ⟨_, _, _, _, HSN8, HSR8, HSE8, HSS8, HNX, HNLO, HX8⟩
    case measure =>
     have h1 := HLT.out
     rw [HNR.out, HNN.out] at h1
     simp only [sliceLen]
     omega
   ·have g1 : decide (((n - rad : Nat) : Int) < nn) = false := decide_eq_false (by omega)
    obtain ⟨d0, d1, f0, f1⟩ := two_cells HX4.out.b1
    have HQL : Kept (nw.length + rad <= n) := ⟨by rw [HNN.out]; omega⟩
    have hset := two_set HX4.out.b1 (.slice an nn mn) (.slice ae ne me)
    have hgr : w4.grownBy ((w4.setCell ⟨w.heap.size + 1, 0, none⟩ (.slice an nn mn)).setCell ⟨w.heap.size + 1, 1, none⟩ (.slice ae ne me)) (some (w.heap.size + 1)) := growSet (growSet (growRefl _ _) _ _) _ _
    have HSN6 : Kept (Sl .i64 ((w4.setCell ⟨w.heap.size + 1, 0, none⟩ (.slice an nn mn)).setCell ⟨w.heap.size + 1, 1, none⟩ (.slice ae ne me)) (.slice an nn mn) (ints nw)) := ⟨HSN4.out.kept hgr (fun k hk e => HSN4.out.not_box_ HX4.out.b1 (fun i m e => by rcases i with _ | _ | i <;> simp at e) (hk.trans e.symm))⟩
    have HSE6 : Kept (Sl .i64 ((w4.setCell ⟨w.heap.size + 1, 0, none⟩ (.slice an nn mn)).setCell ⟨w.heap.size + 1, 1, none⟩ (.slice ae ne me)) (.slice ae ne me) (ints e)) := ⟨HSE4.out.kept hgr (fun k hk e => HSE4.out.not_box_ HX4.out.b1 (fun i m e => by rcases i with _ | _ | i <;> simp at e) (hk.trans e.symm))⟩
    have HB6 : Kept (Below w.heap.size w ((w4.setCell ⟨w.heap.size + 1, 0, none⟩ (.slice an nn mn)).setCell ⟨w.heap.size + 1, 1, none⟩ (.slice ae ne me))) := ⟨(HX4.out.1.setCell (p := ⟨w.heap.size + 1, 0, none⟩) (by simp) _).setCell (p := ⟨w.heap.size + 1, 1, none⟩) (by simp) _⟩
    obtain ⟨t0, t1, _, _⟩ := two_cells hset
    clear hset hgr
    go_wp2
    exact bodyPost_ret (v := .agg #[.slice an nn mn, .slice ae ne me]) (by simp [results, Tryz.results92, go_sem, t0, t1]) rfl ⟨HB6.out, _, _, _, _, _, _, rfl, HSN6.out, HSE6.out, hga.out, HQL.out, hlo.out⟩
abbrev nilv : Value := .slice none 0 0
abbrev rczv : Value := .agg #[.pointer none, nilv, nilv, .int .i64 0, .int .i64 0]
abbrev rczb : Obj := .cells #[.pointer none, nilv, nilv, .int .i64 0, .int .i64 0] 119
theorem five_free {w : World} {g : Nat} {a b c d e : Value} {T : TypeId} (h : w.heap[g]? = some (.cells #[a, b, c, d, e] T (0, 0))) :
 w.frozen? ⟨g, 0, none⟩ = false /\ w.frozen? ⟨g, 1, none⟩ = false /\ w.frozen? ⟨g, 2, none⟩ = false /\ w.frozen? ⟨g, 3, none⟩ = false /\ w.frozen? ⟨g, 4, none⟩ = false :=
 ⟨frozen_of_row w g 0 _ T h, frozen_of_row w g 1 _ T h, frozen_of_row w g 2 _ T h, frozen_of_row w g 3 _ T h, frozen_of_row w g 4 _ T h⟩
theorem five_set_ {w : World} {g : Nat} {a b c d e : Value} {T : TypeId} (h : w.heap[g]? = some (.cells #[a, b, c, d, e] T (0, 0))) (a' b' c' d' e' : Value) :
 (((((w.setCell ⟨g, 0, none⟩ a').setCell ⟨g, 1, none⟩ b').setCell ⟨g, 2, none⟩ c').setCell ⟨g, 3, none⟩ d').setCell ⟨g, 4, none⟩ e').heap[g]? = some (.cells #[a', b', c', d', e'] T (0, 0)) := by
 have h1 := heap_setCell_same w g 0 _ T a' h
 have h2 := heap_setCell_same _ g 1 _ T b' h1
 have h3 := heap_setCell_same _ g 2 _ T c' h2
 have h4 := heap_setCell_same _ g 3 _ T d' h3
 have h5 := heap_setCell_same _ g 4 _ T e' h4
 simpa using h5
structure BadC (o k : Int) (ao : Option Addr) (n cap : Nat) (xs : List Int) (r : Nat) (w : World) : Prop where
 sl : Sl .i64 w (.slice ao n cap) xs
 len : xs.length = n
 o0 : -9223372036854775808 <= o
 o1 : o <= 9223372036854775807
 k0 : -9223372036854775808 <= k
 k1 : k <= 9223372036854775807
 is : chkE o xs k = r
 ne : r ≠ 0
section
variable {o k : Int} {ao : Option Addr} {n cap : Nat} {xs : List Int} {r : Nat}
end
section
variable {o k : Int} {ao : Option Addr} {n cap : Nat} {xs : List Int} {r : Nat}
end

abbrev rcdbox (o : Int) (ao : Option Addr) (n cap : Nat) (k : Int) : Obj := .cells #[.int .i64 o, .slice ao n cap, .int .i64 k] 24

def hasB (l : List Int) (n : Int) : Bool := l.any fun a => decide (a = n)
theorem hasB_iff {l : List Int} {n : Int} : hasB l n = true ↔ n ∈ l := by
 unfold hasB
 rw [List.any_eq_true]
 constructor
 ·rintro ⟨a, ha, h⟩
  exact of_decide_eq_true h ▸ ha
 ·exact fun h => ⟨n, h, decide_eq_true rfl⟩
def OdRet (n most : Int) (w : World) (e : Ending) (w' : World) : Prop := Below w.heap.size w w' /\ ∃ (D : FFld.FD), D.Ok /\ ((D.q : Int) <= most \/ D.q <= 16) /\ e = .returned (.int .i64 D.q)
def s3L : List Nat := [2, 3, 4, 5, 7, 8, 9, 11, 13, 16]
abbrev s3box : Obj := .cells #[.int .i64 2, .int .i64 3, .int .i64 4, .int .i64 5, .int .i64 7, .int .i64 8, .int .i64 9, .int .i64 11, .int .i64 13, .int .i64 16] 109
def elE (q : Nat) (xs : List Int) (i : Nat) : Nat := if i < xs.length then (IntKind.u64.wrap (xs[i]?.getD 0) % (q : Int)).toNat else 0
theorem umod_nat (q : Nat) (hq : 1 <= q) (a : Int) : ∃ U r : Nat, IntKind.u64.wrap a = U /\ (U : Int) % (q : Int) = r /\ (U : Int).tmod (q : Int) = r /\ r < q /\ (IntKind.u64.wrap a % (q : Int)).toNat = r /\ U <= 18446744073709551615 := by
 have h0 : 0 <= IntKind.u64.wrap a /\ IntKind.u64.wrap a <= 18446744073709551615 := by rw [IntKind.wrap_u64]; omega
 obtain ⟨U, hU⟩ : ∃ U : Nat, IntKind.u64.wrap a = U := ⟨(IntKind.u64.wrap a).toNat, by omega⟩
 have e : (U : Int) % (q : Int) = ((U % q : Nat) : Int) := by omega
 refine ⟨U, U % q, hU, e, ?_, Nat.mod_lt _ (by omega), ?_, by omega⟩
 ·rw [Int.tmod_eq_emod_of_nonneg (by omega)]
  exact e
 ·rw [hU, e]
  rfl
def elL (q : Nat) (xs : List Int) (len : Nat) : List Nat := (List.range len).map (elE q xs)
def plF (xs : List Int) (n most : Nat) : Nat -> List Nat
 | 0 => []
 | i + 1 => if (plF xs n most i).length < most /\ elE n xs i ∉ plF xs n most i then plF xs n most i ++ [elE n xs i] else plF xs n most i
theorem has_ints {l : List Nat} {r : Nat} : hasB (ints l) r = decide (r ∈ l) := by
 rcases Classical.em (r ∈ l) with h | h
 ·rw [decide_eq_true h, hasB_iff]
  exact List.mem_map.2 ⟨r, h, rfl⟩
 ·rw [decide_eq_false h]
  cases e : hasB (ints l) r with
  | false => rfl
  | true =>
    obtain ⟨a, ha, e2⟩ := List.mem_map.1 (hasB_iff.1 e)
    have : a = r := Int.ofNat.inj e2
    exact absurd (this ▸ ha) h
def smE (a : Int) (q : Nat) : Nat := (IntKind.u64.wrap a % (q : Int)).toNat
theorem smE_lt (a : Int) {q : Nat} (hq : 1 <= q) : smE a q < q := by
 obtain ⟨U, r, _, _, _, h, e, _⟩ := umod_nat q hq a
 unfold smE
 rw [e]
 exact h
set_option maxRecDepth 20000 in
theorem tsmall_any (a : Int) (q : Nat) (m : Int) (w : World) (a0 : -9223372036854775808 <= a) (a1 : a <= 9223372036854775807) (hq1 : 1 <= q) (hq6 : q <= 65536) (hm : m = (q : Int) - 1) :
 Calls Tryz.prog 72 #[.int .i64 a, .int .i64 m] w (fun e w' => w = w' /\ e = .returned (.int .i64 (smE a q))) := by
 have eq1 : IntKind.u64.wrap (q : Int) = q := by rw [IntKind.wrap_u64]; omega
 have eq0 : ¬ ((q : Int) = 0) := by omega
 have eq2 : ¬ (q = 0) := by omega
 have eqm : m + 1 = (q : Int) := by omega
 have eqw : IntKind.i64.wrap (q : Int) = q := by rw [IntKind.wrap_i64]; omega
 obtain ⟨U, r, hU, hr1, hr2, hrq, hr3, hUm⟩ := umod_nat q hq1 a
 have HE : Kept (smE a q = r) := ⟨hr3⟩
 have er : IntKind.i64.wrap (r : Int) = r := by rw [IntKind.wrap_i64]; omega
 clear hr3
 go_enter Tryz.func72, Tryz.ntmps72
 go_wp2
 go_ret
 exact ⟨rfl, by rw [HE.out]; try rfl⟩
set_option maxRecDepth 20000 in
theorem thas_any (v : Value) (xs : List Int) (x : Int) (w : World) (h : Sl .i64 w v xs) :
 Calls Tryz.prog 74 #[v, .int .i64 x] w (fun e w' => w = w' /\ e = .returned (.bool (hasB xs x))) := by
 obtain ⟨ao, cap, rfl, hcap, hmax, hc⟩ := h
 obtain ⟨n, hN⟩ : ∃ n, xs.length = n := ⟨_, rfl⟩
 have HC := Kept.mk hc
 rw [hN] at hcap ⊢
 have HN := Kept.mk hN
 unfold maxLen at hmax
 clear hc hN
 go_enter Tryz.func74, Tryz.ntmps74
 go_wp2
 go_loopw [5] (fun iv wr => ∃ (i : Nat), i <= n /\ iv = .int .i64 i /\ Kept (hasB (xs.take i) x = false) /\ w = wr) (fun iv _ => n - (intOf iv).toNat)
 case atStart => exact ⟨0, Nat.zero_le _, rfl, ⟨rfl⟩, rfl⟩
 case round =>
  obtain ⟨i, hin, rfl, hat, rfl⟩ := hrel
  by_cases hlt : i < n
  ·obtain ⟨g, o, rfl, hg, hcell⟩ := HC.out i (by rw [HN.out]; exact hlt)
   obtain ⟨a, ha⟩ : ∃ a, xs[i]?.getD 0 = a := ⟨_, rfl⟩
   rw [ha] at hcell
   have hT : xs.take (i + 1) = xs.take i ++ [a] := by
    rw [List.take_add_one]
    congr 1
    rw [<- ha, List.getElem?_eq_getElem (by rw [HN.out]; exact hlt)]
    rfl
   have HM : Kept (a ∈ xs) := ⟨by rw [<- ha]; exact FFld.get_mem (by rw [HN.out]; exact hlt)⟩
   have HT : Kept (hasB (xs.take (i + 1)) x = decide (a = x)) := ⟨by
    have := hat.out
    unfold hasB at this ⊢
    rw [hT, List.any_append, this]
    simp only [List.any_cons, List.any_nil, Bool.or_false, Bool.false_or]⟩
   clear ha hT
   by_cases h1 : a = x
   ·have HE : Kept (hasB xs x = true) := ⟨hasB_iff.2 (h1 ▸ HM.out)⟩
    have d1 : (a == x) = true := beq_iff_eq.2 h1
    go_wp2
    go_ret
    exact ⟨rfl, by rw [HE.out]; rfl⟩
   ·have d1 : (a == x) = false := beq_eq_false_iff_ne.2 h1
    have HT' : Kept (hasB (xs.take (i + 1)) x = false) := ⟨by rw [HT.out]; exact decide_eq_false h1⟩
    go_wp2
    go_roundw
    case rel => exact ⟨i + 1, by omega, by go_num, HT', trivial⟩
    case measure => simp [intOf] <;> omega
  ·obtain rfl : i = n := by omega
   have HE : Kept (hasB xs x = false) := ⟨by have := hat.out; rw [<- HN.out, List.take_length] at this; exact this⟩
   go_wp2
   go_ret
   exact ⟨rfl, by rw [HE.out]; rfl⟩
set_option maxRecDepth 20000 in
theorem samet_eq (va vb : Value) (xs : List Int) (w : World) (ha : Sl .i64 w va xs) (hb : Sl .i64 w vb xs) (hn : xs.length <= 1000000) :
 Calls Tryz.prog 76 #[va, vb] w (RB w (.bool true)) := by
 obtain ⟨a1, k1, rfl, hk1, hm1, hx1⟩ := ha
 obtain ⟨a2, k2, rfl, hk2, hm2, hx2⟩ := hb
 obtain ⟨n, hN⟩ : ∃ n, xs.length = n := ⟨_, rfl⟩
 rw [hN] at hk1 hk2 hn ⊢
 have HN := Kept.mk hN
 have H1 := Kept.mk hx1
 have H2 := Kept.mk hx2
 unfold maxLen at hm1 hm2
 have e0 : ((n : Int) == (n : Int)) = true := by simp
 clear hx1 hx2 hN
 go_enter Tryz.func76, Tryz.ntmps76
 go_wp2
 go_loopw [5] (fun iv wr => ∃ (i : Nat), i <= n /\ iv = .int .i64 i /\ Kept (Below w.heap.size w wr)) (fun iv _ => n - (intOf iv).toNat)
 case atStart => exact ⟨0, Nat.zero_le _, rfl, ⟨Below.refl _ _⟩⟩
 case round =>
  obtain ⟨i, hin, rfl, hbx⟩ := hrel
  by_cases hlt : i < n
  ·obtain ⟨g1, o1, rfl, hg1, u1⟩ := H1.out i (by rw [HN.out]; exact hlt)
   obtain ⟨g2, o2, rfl, hg2, u2⟩ := H2.out i (by rw [HN.out]; exact hlt)
   obtain ⟨x, hx⟩ : ∃ x, xs[i]?.getD 0 = x := ⟨_, rfl⟩
   rw [hx] at u1 u2
   have u1 := (hbx.out.cell (p := ⟨g1, o1 + i, none⟩) hg1).trans u1
   have u2 := (hbx.out.cell (p := ⟨g2, o2 + i, none⟩) hg2).trans u2
   clear hx
   go_wp2
   go_quiet (fail)
   go_wp2
   go_roundw
   case rel => exact ⟨i + 1, by omega, by go_num, ⟨below_drewN hbx.out _⟩⟩
   case measure => simp [intOf] <;> omega
  ·obtain rfl : i = n := by omega
   go_wp2
   go_ret
   exact ⟨hbx.out, rfl⟩
section
variable {o k : Int} {ao : Option Addr} {n cap : Nat} {xs : List Int} {r : Nat}
end
end Go.Proofs.YtdnheaafcbihbaaGreat
namespace Go.Proofs.YtdnheaafcbihbaaGreat
open Go Go.RowKit Go.Deep
open FFld (ints)
namespace FFld
def difF (D : FD) (c s : List Nat) (i : Nat) : Nat -> Nat
 | 0 => 0
 | j + 1 => padd D.p D.k (difF D c s i j) (pmul D.p D.k D.m (c[j]?.getD 0) D.k (s[i - j]?.getD 0))
theorem difF_lt {D : FD} (hk : PK D.p D.k D.m) (c s : List Nat) (i : Nat) : ∀ j, difF D c s i j < D.p ^ D.k
 | 0 => Nat.pow_pos hk.p0
 | j + 1 => padd_lt hk _ _
end FFld
set_option maxRecDepth 20000 in
theorem cdifference_any {D : FFld.FD} {b : Nat} (hD : D.Ok) (ac as_ : Option Addr) (cc cs i : Nat) (cl sl : List Nat) (w : World) (hf : FldB D w b) (hc : Sl .i64 w (.slice ac cl.length cc) (ints cl)) (hs : Sl .i64 w (.slice as_ sl.length cs) (ints sl)) (hcq : ∀ a ∈ cl, a < D.p ^ D.k) (hsq : ∀ a ∈ sl, a < D.p ^ D.k) (hci : cl.length <= i + 1) (hi : i < sl.length) (hsl : sl.length <= 1000) :
 Calls Tryz.prog 126 #[.pointer (some ⟨b, 0, none⟩), .slice ac cl.length cc, .slice as_ sl.length cs, .int .i64 i] w (RB w (.int .i64 (FFld.difF D cl sl i cl.length : Nat))) := by
 have hq6 : D.p ^ D.k <= 65536 := hD.pre.small
 have HP := Kept.mk (fun (W : World) (hW : Below w.heap.size w W) (r t : Nat) (h1 : r < D.p ^ D.k) (h2 : t < D.p ^ D.k) => fmul_any (r : Int) (t : Int) W (hf.below hW) (by omega) (by omega) (by omega) (by omega) r t (md_nat h1) (md_nat h2) h1 h2)
 have HS := Kept.mk (fun (W : World) (hW : Below w.heap.size w W) (r t : Nat) (h1 : r < D.p ^ D.k) (h2 : t < D.p ^ D.k) => fadd_any (r : Int) (t : Int) W (hf.below hW) (by omega) (by omega) (by omega) (by omega) r t (md_nat h1) (md_nat h2) h1 h2)
 have HCS := Kept.mk hc
 have HSS := Kept.mk hs
 have HCQ := Kept.mk (fun j => FFld.getD_lt (Nat.pow_pos hD.pre.pk.p0) hcq j)
 have HSQ := Kept.mk (fun j => FFld.getD_lt (Nat.pow_pos hD.pre.pk.p0) hsq j)
 have HDL := Kept.mk (fun j => FFld.difF_lt (D := D) hD.pre.pk cl sl i j)
 have HML := Kept.mk (fun x y => FFld.pmul_lt (p := D.p) (k := D.k) (m := D.m) hD.pre.pk x D.k y)
 obtain ⟨n, hn⟩ : ∃ n, cl.length = n := ⟨_, rfl⟩
 obtain ⟨m, hm⟩ : ∃ m, sl.length = m := ⟨_, rfl⟩
 rw [hn] at HCS hci ⊢
 rw [hm] at HSS hi hsl ⊢
 have HN := Kept.mk hn
 have HM := Kept.mk hm
 clear hf hc hs hcq hsq hn hm
 go_enter Tryz.func126, Tryz.ntmps126
 go_wp2
 go_loopw [9, 14] (fun tv jv wr => ∃ (j t : Nat), j <= n /\ jv = .int .i64 j /\ tv = .int .i64 t /\ Kept (FFld.difF D cl sl i j = t) /\ Kept (Below w.heap.size w wr)) (fun _ jv _ => n - (intOf jv).toNat)
 case atStart => exact ⟨0, 0, Nat.zero_le _, rfl, rfl, ⟨rfl⟩, ⟨Below.refl _ _⟩⟩
 case round =>
  obtain ⟨j, t, hj, rfl, rfl, hat, hbw⟩ := hrel
  by_cases hlt : j < n
  ·obtain ⟨ac', cc', e, hcc, hmc, hxc⟩ := HCS.out.below hbw.out
   simp only [Value.slice.injEq] at e
   obtain ⟨rfl, e2, rfl⟩ := e
   obtain ⟨as', cs', e', hcs, hms, hxs⟩ := HSS.out.below hbw.out
   simp only [Value.slice.injEq] at e'
   obtain ⟨rfl, e2', rfl⟩ := e'
   clear e2 e2'
   obtain ⟨bc, oc, rfl, hbc, hcell⟩ := hxc j (by rw [FFld.ints_len, HN.out]; exact hlt)
   obtain ⟨bs, os, rfl, hbs, hcell2⟩ := hxs (i - j) (by rw [FFld.ints_len, HM.out]; omega)
   rw [FFld.ints_get] at hcell hcell2
   rw [FFld.ints_len, HN.out] at hcc
   rw [FFld.ints_len, HM.out] at hcs
   unfold maxLen at hmc hms
   have h1 := HCQ.out j
   have h2 := HSQ.out (i - j)
   have h3 := HDL.out j
   have HNX : Kept (FFld.difF D cl sl i (j + 1) = FFld.padd D.p D.k t (FFld.pmul D.p D.k D.m (cl[j]?.getD 0) D.k (sl[i - j]?.getD 0))) := ⟨by rw [<- hat.out]; rfl⟩
   rw [hat.out] at h3
   obtain ⟨c, hc⟩ : ∃ c, cl[j]?.getD 0 = c := ⟨_, rfl⟩
   obtain ⟨s, hs⟩ : ∃ s, sl[i - j]?.getD 0 = s := ⟨_, rfl⟩
   rw [hc] at h1 hcell HNX
   rw [hs] at h2 hcell2 HNX
   have HMU := Kept.mk (HP.out wr hbw.out c s h1 h2)
   have h4 := HML.out c s
   obtain ⟨z, hz⟩ : ∃ z, FFld.pmul D.p D.k D.m c D.k s = z := ⟨_, rfl⟩
   rw [hz] at HMU HNX h4
   have HAD := Kept.mk (fun W hW => HS.out W hW t z h3 h4)
   obtain ⟨v, hv⟩ : ∃ v, FFld.padd D.p D.k t z = v := ⟨_, rfl⟩
   rw [hv] at HAD HNX
   have hij : j <= i := by omega
   have e1 : (i : Int) - (j : Int) = ((i - j : Nat) : Int) := by omega
   have him : i - j < m := by omega
   clear hc hs hz hv hxc hxs h1 h2 h3 h4 hat
   go_wp2_with fail
   (with_reducible refine HMU.out.mono ?_)
   rintro e w2 ⟨hb2, rfl⟩
   have HB2 := Kept.mk (bstep hbw.out hb2)
   have HA2 := Kept.mk (HAD.out w2 HB2.out)
   clear hb2
   go_wp2_with fail
   (with_reducible refine HA2.out.mono ?_)
   rintro e w3 ⟨hb3, rfl⟩
   have HB3 := Kept.mk (bstep HB2.out hb3)
   clear hb3
   go_wp2
   go_roundw
   case rel => exact ⟨j + 1, v, by omega, by go_num, rfl, HNX, HB3⟩
   case measure => simp [intOf] <;> omega
  ·obtain rfl : j = n := by omega
   go_wp2
   go_ret
   exact ⟨hbw.out, by rw [hat.out]; rfl⟩
open Classical in
noncomputable def seqE (o : Int) (xs : List Int) : Nat := if FFld.Fit o then (if 200 < xs.length then 2 else if belB o xs = false then 1 else 0) else 20
set_option maxRecDepth 20000 in
theorem ccheckSeq_any (o : Int) (ao : Option Addr) (cap : Nat) (xs : List Int) (w : World) (h : Sl .i64 w (.slice ao xs.length cap) xs) (o0 : -9223372036854775808 <= o) (o1 : o <= 9223372036854775807) :
 Calls Tryz.prog 125 #[.int .i64 o, .slice ao xs.length cap] w (RB w (.int .i64 (seqE o xs : Nat))) := by
 have HO := Kept.mk (fun W => ccheckOrder_any o W o0 o1)
 have HS := Kept.mk h
 have hm : xs.length <= 9223372036854775807 := by
  obtain ⟨_, _, e, h1, h2, _⟩ := h
  unfold maxLen at h2
  omega
 have HC0 : Kept (¬ FFld.Fit o -> seqE o xs = 20) := ⟨fun hn => by unfold seqE; rw [if_neg hn]⟩
 have HC1 : Kept (FFld.Fit o -> 200 < xs.length -> seqE o xs = 2) := ⟨fun hn h1 => by unfold seqE; rw [if_pos hn, if_pos h1]⟩
 have HC2 : Kept (FFld.Fit o -> ¬ 200 < xs.length -> belB o xs = false -> seqE o xs = 1) := ⟨fun hn h1 h2 => by unfold seqE; rw [if_pos hn, if_neg h1, if_pos h2]⟩
 have HC3 : Kept (FFld.Fit o -> ¬ 200 < xs.length -> ¬ (belB o xs = false) -> seqE o xs = 0) := ⟨fun hn h1 h2 => by unfold seqE; rw [if_pos hn, if_neg h1, if_neg h2]⟩
 obtain ⟨r, hr⟩ : ∃ r, seqE o xs = r := ⟨_, rfl⟩
 rw [hr] at HC0 HC1 HC2 HC3 ⊢
 obtain ⟨n, hn⟩ : ∃ n, xs.length = n := ⟨_, rfl⟩
 rw [hn] at HS HC1 HC2 HC3 hm ⊢
 clear h hr hn
 go_enter Tryz.func125, Tryz.ntmps125
 go_wp2_with fail
 refine (HO.out _).mono ?_
 rintro e w1 ⟨hb1, ⟨hf, rfl⟩ | ⟨hf, rfl⟩⟩
 ·have HB1 := Kept.mk hb1
  replace HC1 := Kept.mk (HC1.out hf)
  replace HC2 := Kept.mk (HC2.out hf)
  replace HC3 := Kept.mk (HC3.out hf)
  have HS1 := Kept.mk (HS.out.below hb1)
  clear hb1 hf HC0 HO
  by_cases h64 : 200 < n
  ·have d1 : decide ((200 : Int) < n) = true := decide_eq_true (by omega)
   obtain rfl := HC1.out h64
   go_wp2
   go_ret
   exact ⟨HB1.out, rfl⟩
  ·have d1 : decide ((200 : Int) < n) = false := decide_eq_false (by omega)
   have HA := Kept.mk (careBelow_any o _ xs w1 HS1.out)
   obtain ⟨t, ht⟩ : ∃ t, belB o xs = t := ⟨_, rfl⟩
   rw [ht] at HA HC2 HC3
   clear ht
   go_wp2_with fail
   (with_reducible refine HA.out.mono ?_)
   rintro e w2 ⟨rfl, rfl⟩
   cases t with
   | false =>
     obtain rfl := HC2.out h64 rfl
     go_wp2
     go_ret
     exact ⟨HB1.out, rfl⟩
   | true =>
     obtain rfl := HC3.out h64 (by simp)
     go_wp2
     go_ret
     exact ⟨HB1.out, rfl⟩
 ·have HB1 := Kept.mk hb1
  obtain rfl := HC0.out hf
  clear hb1 hf
  go_wp2
  go_ret
  exact ⟨HB1.out, rfl⟩
end Go.Proofs.YtdnheaafcbihbaaGreat
namespace Go.Proofs.YtdnheaafcbihbaaGreat
open Go Go.RowKit Go.Deep
open FFld (ints)
structure CapAt (b g : Nat) (oa : Option Addr) (on oc last : Nat) (since : Int) (w : World) : Prop where
 f : w.heap[g]? = some (.cells #[.pointer (some ⟨b, 0, none⟩)] 105 (0, 0))
 old : w.heap[g + 1]? = some (.cells #[.slice oa on oc] 22 (0, 0))
 last : w.heap[g + 2]? = some (.cells #[.int .i64 last] 3 (0, 0))
 since : w.heap[g + 3]? = some (.cells #[.int .i64 since] 3 (0, 0))
theorem CapAt.below {b g : Nat} {oa : Option Addr} {on oc last : Nat} {since : Int} {w w' : World} (h : CapAt b g oa on oc last since w) (hb : Below w.heap.size w w') : CapAt b g oa on oc last since w' :=
 ⟨(hb.block _ (Array.getElem?_eq_some_iff.1 h.f).1).trans h.f, (hb.block _ (Array.getElem?_eq_some_iff.1 h.old).1).trans h.old, (hb.block _ (Array.getElem?_eq_some_iff.1 h.last).1).trans h.last, (hb.block _ (Array.getElem?_eq_some_iff.1 h.since).1).trans h.since⟩
theorem one_cell_ {w : World} {g : Nat} {a : Value} {T : TypeId} (h : w.heap[g]? = some (.cells #[a] T (0, 0))) : w.cell? ⟨g, 0, none⟩ = some a := by
 rw [cell_of_row w g 0 _ T (0, 0) h]
 rfl
abbrev cofn (g : Nat) : Value := .func (.func 229) #[] #[.pointer (some ⟨g, 0, none⟩), .pointer (some ⟨g + 2, 0, none⟩), .pointer (some ⟨g + 1, 0, none⟩), .pointer (some ⟨g + 3, 0, none⟩)]
set_option maxRecDepth 20000 in
theorem ccorr_any (b : Nat) (oa : Option Addr) (on oc last : Nat) (since : Int) (w : World) :
 Calls Tryz.prog 189 #[.pointer (some ⟨b, 0, none⟩), .slice oa on oc, .int .i64 last, .int .i64 since] w (fun e w' => Below w.heap.size w w' /\ e = .returned (cofn w.heap.size) /\ CapAt b w.heap.size oa on oc last since w') := by
 have hmf : ∀ (fn : Fn) (first cap : Array Value) (w : World), (Instr.makeFunc fn first cap).run Tryz.prog w = .ok (.func fn first cap) w := fun _ _ _ _ => rfl
 obtain ⟨W, hW⟩ : ∃ W, (((w.alloc (.cells #[.pointer (some ⟨b, 0, none⟩)] 105)).alloc (.cells #[.slice oa on oc] 22)).alloc (.cells #[.int .i64 last] 3)).alloc (.cells #[.int .i64 since] 3) = W := ⟨_, rfl⟩
 have HX : Kept (Bxs w [.cells #[.pointer (some ⟨b, 0, none⟩)] 105, .cells #[.slice oa on oc] 22, .cells #[.int .i64 last] 3, .cells #[.int .i64 since] 3] W) := ⟨by rw [<- hW]; exact ((((Bxs.start w).alloc (by simp) _).alloc (by simp) _).alloc (by simp) _).alloc (by simp) _⟩
 have HC : Kept (CapAt b w.heap.size oa on oc last since W) := ⟨⟨HX.out.b0, HX.out.b1, HX.out.2.2 2 _ rfl, HX.out.2.2 3 _ rfl⟩⟩
 go_enter Tryz.func189, Tryz.ntmps189
 go_wp2
 go_ret
 try rw [hW]
 exact ⟨HX.out.1, rfl, HC.out⟩
set_option maxRecDepth 20000 in
theorem ccorr1_any {D : FFld.FD} {b g : Nat} (hD : D.Ok) (ra oa : Option Addr) (rc on oc last df sh : Nat) (since at_ : Int) (rl ol : List Nat) (w : World) (hf : FldB D w b) (hcap : CapAt b g oa on oc last since w) (hr : Sl .i64 w (.slice ra rl.length rc) (ints rl)) (ho : Sl .i64 w (.slice oa ol.length oc) (ints ol)) (hon : ol.length = on) (hrq : ∀ a ∈ rl, a < D.p ^ D.k) (hoq : ∀ a ∈ ol, a < D.p ^ D.k) (hl : last < D.p ^ D.k) (hl0 : last ≠ 0) (hd : df < D.p ^ D.k) (hsh : at_ - since = (sh : Nat)) (ha0 : 0 <= at_) (ha1 : at_ <= 1000) (hs0 : -1 <= since) (hs1 : since <= 1000) (hrl : rl.length <= 1000) (hol : sh + ol.length <= 1000) :
 Calls Tryz.prog 229 #[.slice ra rl.length rc, .int .i64 df, .int .i64 at_, .pointer (some ⟨g, 0, none⟩), .pointer (some ⟨g + 2, 0, none⟩), .pointer (some ⟨g + 1, 0, none⟩), .pointer (some ⟨g + 3, 0, none⟩)] w (fun e w' => Below w.heap.size w w' /\ ∃ v, e = .returned v /\ Sl .i64 w' v (ints (FFld.plusF D rl ol (FFld.padd D.p D.k 0 (FFld.pscl D.p D.k (D.p - 1) (FFld.pmul D.p D.k D.m df D.k (FFld.ppow hD.pre.pk last (D.q - 2))))) sh)) /\ ∀ k, live v = some k -> w.heap.size <= k) := by
 have hq6 : D.p ^ D.k <= 65536 := hD.pre.small
 have hk := hD.pre.pk
 have HDV := Kept.mk (fun (W : World) (hW : Below w.heap.size w W) => fdiv_any hD (df : Int) (last : Int) W (hf.below hW) (by omega) (by omega) (by omega) (by omega) df last (md_nat hd) (md_nat hl) hd hl hl0)
 obtain ⟨ra', hra⟩ : ∃ x, FFld.pmul D.p D.k D.m df D.k (FFld.ppow hD.pre.pk last (D.q - 2)) = x := ⟨_, rfl⟩
 have hrlt : ra' < D.p ^ D.k := by rw [<- hra]; exact FFld.pmul_lt hk _ _ _
 rw [hra] at HDV ⊢
 have HSB := Kept.mk (fun (W : World) (hW : Below w.heap.size w W) => fsub_any (0 : Int) (ra' : Int) W (hf.below hW) (by omega) (by omega) (by omega) (by omega) 0 ra' (by simp) (md_nat hrlt) (Nat.pow_pos hk.p0) hrlt)
 obtain ⟨mi, hmi⟩ : ∃ x, FFld.padd D.p D.k 0 (FFld.pscl D.p D.k (D.p - 1) ra') = x := ⟨_, rfl⟩
 have hmlt : mi < D.p ^ D.k := by rw [<- hmi]; exact FFld.padd_lt hk _ _
 rw [hmi] at HSB ⊢
 have HPL : Kept (∀ W, Below w.heap.size w W -> Calls Tryz.prog 165 #[.pointer (some ⟨b, 0, none⟩), .slice ra rl.length rc, .slice oa on oc, .int .i64 mi, .int .i64 sh] W (fun e w' => Below W.heap.size W w' /\ ∃ v, e = .returned v /\ Sl .i64 w' v (ints (FFld.plusF D rl ol mi sh)) /\ ∀ k, live v = some k -> W.heap.size <= k)) := ⟨fun W hW => by
  have h := cplus_any hD ra oa rc oc rl ol mi sh W (hf.below hW) (hr.below hW) (ho.below hW) hrq hoq hmlt (by omega) (by omega)
  rw [hon] at h
  refine h.mono ?_
  rintro e w' ⟨hb, rfl, hw⟩
  refine ⟨hb, _, rfl, hw.sl rfl ?_ ?_, fun k hk => (by have h9 := live_own hk; simp [Value.ownBlock] at h9; omega)⟩
  ·unfold FFld.plusF
   refine Nat.le_trans (FFld.trm_len_le _) ?_
   rw [FFld.addm_len, FFld.padF_len (by omega), hon]
   exact Nat.le_refl _
  ·unfold maxLen
   omega⟩
 have HCP := Kept.mk hcap
 have e1 : at_ - since = (sh : Int) := hsh
 have e2 : IntKind.i64.wrap (sh : Int) = sh := wi (by omega) (by omega)
 obtain ⟨nr, hnr⟩ : ∃ x, rl.length = x := ⟨_, rfl⟩
 rw [hnr] at HPL hrl ⊢
 clear hf hcap hr ho hrq hoq hl hl0 hd hra hrlt hmi hmlt hsh hnr hk
 go_enter Tryz.func229, Tryz.ntmps229
 have c0 := one_cell_ HCP.out.f
 have c1 := one_cell_ HCP.out.old
 have c2 := one_cell_ HCP.out.last
 have c3 := one_cell_ HCP.out.since
 go_wp2_with fail
 (with_reducible refine (HDV.out _ (Below.refl _ _)).mono ?_)
 rintro e w1 ⟨hb1, rfl⟩
 have HB1 := Kept.mk hb1
 have i0 := belowCell hb1 c0
 have i1 := belowCell hb1 c1
 have i2 := belowCell hb1 c3
 have HS1 := Kept.mk (fun (W : World) (hW : Below w1.heap.size w1 W) => HSB.out W (bstep HB1.out hW))
 have HS2 := Kept.mk (fun (W : World) (hW : Below w1.heap.size w1 W) => HPL.out W (bstep HB1.out hW))
 clear hb1 c0 c1 c2 c3 HSB HPL HDV
 go_upto_region 2 with fail
 go_region_held3 (fun w' => w'.cell? ⟨g, 0, none⟩ = some (.pointer (some ⟨b, 0, none⟩)) /\ w'.cell? ⟨g + 1, 0, none⟩ = some (.slice oa on oc) /\ w'.cell? ⟨g + 3, 0, none⟩ = some (.int .i64 since))
  (first | exact ⟨jb0, jb1, jb2⟩ | exact ⟨ja0, ja1, ja2⟩ | exact ⟨i0, i1, i2⟩ | go_keep)
  ((first
    | (go_at_call 115; (with_reducible refine (HS1.out _ ?h1).mono ?_); (case h1 => exact (by first | exact Below.refl _ _ | exact (Below.refl _ _).drew)); rintro e v1 ⟨hb1, rfl⟩; have hy1 := Kept.mk (bstep (show Below w1.heap.size w1 _ from (by first | exact Below.refl _ _ | exact (Below.refl _ _).drew)) hb1); have ja0 := belowCell hy1.out i0; have ja1 := belowCell hy1.out i1; have ja2 := belowCell hy1.out i2; clear hb1)
    | (go_at_call 165; (with_reducible refine (HS2.out _ ?h1).mono ?_); (case h1 => exact hy1.out); rintro e v2 ⟨hb2, va, rfl, hva, hfr⟩; have hy2 := Kept.mk (bstep (show Below w1.heap.size w1 _ from hy1.out) hb2); have jb0 := belowCell hy2.out i0; have jb1 := belowCell hy2.out i1; have jb2 := belowCell hy2.out i2; clear hb2)))
 have HB3 := Kept.mk (bstep HB1.out hy2.out)
 have HV := Kept.mk hva
 have HFR : Kept (∀ k, live va = some k -> w.heap.size <= k) := ⟨fun k hk => Nat.le_trans (bstep HB1.out hy1.out).size (hfr k hk)⟩
 obtain ⟨va1, vn1, vc1, rfl⟩ : ∃ a n c, va = .slice a n c := by
  obtain ⟨a, c, e, _, _⟩ := HV.out.form
  exact ⟨_, _, _, e⟩
 clear hy1 hy2 hva hfr
 go_wp2
 go_ret
 exact ⟨HB3.out, _, rfl, HV.out, HFR.out⟩
end Go.Proofs.YtdnheaafcbihbaaGreat
namespace Go.Proofs.YtdnheaafcbihbaaGreat
namespace FFld
structure Bm where
 reg : List Nat
 len : Nat
 old : List Nat
 last : Nat
 since : Int
 prof : List Nat
def bmD (D : FD) (s : List Nat) (i : Nat) (st : Bm) : Nat := difF D st.reg s i st.reg.length
def bmR (D : FD) (h : PK D.p D.k D.m) (s : List Nat) (i : Nat) (st : Bm) : List Nat := plusF D st.reg st.old (padd D.p D.k 0 (pscl D.p D.k (D.p - 1) (pmul D.p D.k D.m (bmD D s i st) D.k (ppow h st.last (D.q - 2))))) ((i : Int) - st.since).toNat
def bmStep (D : FD) (h : PK D.p D.k D.m) (s : List Nat) (i : Nat) (st : Bm) : Bm :=
 if bmD D s i st = 0 then ⟨st.reg, st.len, st.old, st.last, st.since, st.prof ++ [st.len]⟩
 else if 2 * st.len <= i then ⟨bmR D h s i st, i + 1 - st.len, st.reg, bmD D s i st, i, st.prof ++ [i + 1 - st.len]⟩
 else ⟨bmR D h s i st, st.len, st.old, st.last, st.since, st.prof ++ [st.len]⟩
def bmF (D : FD) (h : PK D.p D.k D.m) (s : List Nat) : Nat -> Bm
 | 0 => ⟨[1], 0, [1], 1, -1, []⟩
 | i + 1 => bmStep D h s i (bmF D h s i)
structure BmOk (D : FD) (i : Nat) (st : Bm) : Prop where
 rq : ∀ a ∈ st.reg, a < D.p ^ D.k
 oq : ∀ a ∈ st.old, a < D.p ^ D.k
 rl : st.reg.length <= st.len + 1
 ol : (st.old.length : Int) + st.len <= st.since + 2
 li : st.len <= i
 ls : st.last < D.p ^ D.k
 l0 : st.last ≠ 0
 s0 : -1 <= st.since
 s1 : st.since < i
 pl : st.prof.length = i
theorem plusF_le (D : FD) (p q : List Nat) (c s : Nat) : (plusF D p q c s).length <= max p.length (s + q.length) := by
 unfold plusF
 refine Nat.le_trans (trm_len_le _) ?_
 rw [addm_len, padF_len (by omega)]
 exact Nat.le_refl _
theorem BmOk.step {D : FD} (h : PK D.p D.k D.m) {s : List Nat} {i : Nat} {st : Bm} (ho : BmOk D i st) : BmOk D (i + 1) (bmStep D h s i st) := by
 have h1 := ho.ol
 have h2 := ho.rl
 have h3 := ho.li
 have h4 := ho.s0
 have h5 := ho.s1
 have h6 := ho.pl
 have hl := plusF_le D st.reg st.old (padd D.p D.k 0 (pscl D.p D.k (D.p - 1) (pmul D.p D.k D.m (bmD D s i st) D.k (ppow h st.last (D.q - 2))))) ((i : Int) - st.since).toNat
 unfold bmStep
 split
 ·exact ⟨ho.rq, ho.oq, h2, h1, by simp only []; omega, ho.ls, ho.l0, h4, by simp only []; omega, by simp [h6]⟩
 ·rename_i hd
  have hdl : bmD D s i st < D.p ^ D.k := difF_lt h _ _ _ _
  have hr : ∀ a ∈ bmR D h s i st, a < D.p ^ D.k := plusF_lt h ho.rq
  split
  ·rename_i h7
   refine ⟨hr, ho.rq, ?_, ?_, by simp only []; omega, hdl, hd, by simp only []; omega, by simp only []; omega, by simp [h6]⟩
   ·show (bmR D h s i st).length <= i + 1 - st.len + 1
    unfold bmR
    omega
   ·show (st.reg.length : Int) + ((i + 1 - st.len : Nat) : Int) <= (i : Int) + 2
    omega
  ·refine ⟨hr, ho.oq, ?_, h1, by simp only []; omega, ho.ls, ho.l0, h4, by simp only []; omega, by simp [h6]⟩
   show (bmR D h s i st).length <= st.len + 1
   unfold bmR
   omega
theorem bm_ok {D : FD} (h : PK D.p D.k D.m) (s : List Nat) : ∀ i, BmOk D i (bmF D h s i)
 | 0 => ⟨fun a ha => (by rw [List.mem_singleton.1 ha]; exact h.one_lt), fun a ha => (by rw [List.mem_singleton.1 ha]; exact h.one_lt), by simp [bmF], by simp [bmF], Nat.le_refl _, h.one_lt, by simp [bmF], by simp [bmF], by simp [bmF], rfl⟩
 | i + 1 => (bm_ok h s i).step h
end FFld
end Go.Proofs.YtdnheaafcbihbaaGreat
