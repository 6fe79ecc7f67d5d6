/-
  Texts of the proof, merged by program: Cpa Cer Ce2 Ce4 Rcv Cqu Cnp.
-/
import Derived.Test.YtdnheaafcbihbaaGreatM20
import Derived.Test.YtdnheaafcbihbaaGreatM18
import Derived.Test.YtdnheaafcbihbaaGreatM16
import Derived.WalkMore
import Derived.Test.YtdnheaafcbihbaaGreatM19
import Derived.Test.YtdnheaafcbihbaaGreatM15
set_option linter.unusedVariables false
set_option linter.unusedSimpArgs false
namespace Go.Proofs.YtdnheaafcbihbaaGreat
open Go Go.RowKit Go.Deep
open FFld (ints)
abbrev rcv (b : Nat) (pv ev : Value) (k r : Nat) : Value := .agg #[.pointer (some ⟨b, 0, none⟩), pv, ev, .int .i64 k, .int .i64 r]
abbrev rcbox (b : Nat) (pv ev : Value) (k r : Nat) : Obj := .cells #[.pointer (some ⟨b, 0, none⟩), pv, ev, .int .i64 k, .int .i64 r] 119
abbrev fabox (u v : Value) : Obj := .cells #[u, v] 36
theorem five_cells_ {w : World} {g : Nat} {a b c d e : Value} {T : TypeId} (h : w.heap[g]? = some (.cells #[a, b, c, d, e] T (0, 0))) :
    w.cell? ⟨g, 0, none⟩ = some a ∧ w.cell? ⟨g, 1, none⟩ = some b ∧ w.cell? ⟨g, 2, none⟩ = some c ∧ w.cell? ⟨g, 3, none⟩ = some d ∧ w.cell? ⟨g, 4, none⟩ = some e :=
  ⟨by rw [cell_of_row w g 0 _ T (0, 0) h]; rfl, by rw [cell_of_row w g 1 _ T (0, 0) h]; rfl, by rw [cell_of_row w g 2 _ T (0, 0) h]; rfl, by rw [cell_of_row w g 3 _ T (0, 0) h]; rfl, by rw [cell_of_row w g 4 _ T (0, 0) h]; rfl⟩
set_option maxRecDepth 20000 in
set_option maxHeartbeats 2000000 in
theorem clongest_any (b n cx k rad : Nat) (ax : Option Addr) (ev : Value) (w : World) (hr : rad ≤ n) (hn : n ≤ 1000) :
    Calls Tryz.prog 164 #[rcv b (.slice ax n cx) ev k rad] w (RB w (.int .i64 ((n - rad : Nat) : Int))) := by
  have HX0 : Kept (Bxs w [rcbox b (.slice ax n cx) ev k rad] (w.alloc (rcbox b (.slice ax n cx) ev k rad))) := ⟨(Bxs.start w).alloc (by simp) _⟩
  obtain ⟨c0, c1, c2, c3, c4⟩ := five_cells_ HX0.out.b0
  have e1 : ((n - rad : Nat) : Int) = (n : Int) - rad := by omega
  rw [e1]
  go_enter Tryz.func164, Tryz.ntmps164
  go_wp2
  go_ret
  exact ⟨HX0.out.1, rfl⟩
theorem Sl.not_box_ {K : IntKind} {w : World} {v : Value} {xs : List Int} {g : Nat} {cs : Array Value} {T : TypeId} {fr : Nat × Nat} (h : Sl K w v xs) (hg : w.heap[g]? = some (.cells cs T fr)) (hc : ∀ (i : Nat) (n : Int), cs[i]? ≠ some (Value.int K n)) : live v ≠ some g := by
  intro hl
  obtain ⟨ao, cap, rfl, hcap, hm, hx⟩ := h
  by_cases h0 : 0 < xs.length
  · obtain ⟨b, o, rfl, hb, hcell⟩ := hx 0 h0
    have := live_own hl
    simp only [Value.ownBlock, Option.some.injEq] at this
    subst this
    rw [cell_of_row w b (o + 0) cs T fr hg] at hcell
    exact hc _ _ hcell
  · have : xs.length = 0 := by omega
    rw [this] at hl
    cases ao <;> simp [live] at hl
/-- What pair returns: polynomials that fit, and are short. -/
def GaRet {D : FFld.FD} (hD : D.Ok) (xs ys : List Nat) (n rad : Nat) (w : World) (e : Ending) (w' : World) : Prop := Below w.heap.size w w' ∧ ∃ (vq ve : Value) (Q E bf el : List Nat), e = .returned (.agg #[vq, ve]) ∧ Sl .i64 w' vq (ints Q) ∧ Sl .i64 w' ve (ints E) ∧ FFld.GaoOk hD xs ys n bf Q el E ∧ Q.length + rad ≤ n ∧ n < bf.length + rad
set_option maxRecDepth 20000 in
set_option maxHeartbeats 8000000 in
theorem cpair_any {D : FFld.FD} {b : Nat} (hD : D.Ok) (ax ay : Option Addr) (cx cy k rad n : Nat) (xs ys : List Nat) (w : World) (hf : FldB D w b) (hx : Sl .i64 w (.slice ax n cx) (ints xs)) (hy : Sl .i64 w (.slice ay n cy) (ints ys)) (lx : xs.length = n) (ly : ys.length = n) (hxq : ∀ a ∈ xs, a < D.p ^ D.k) (hyq : ∀ a ∈ ys, a < D.p ^ D.k) (hd : ∀ i j, j < i → i < n → xs[i]?.getD 0 ≠ xs[j]?.getD 0) (hn : n ≤ 64) (hr : rad ≤ n) (hk6 : k ≤ 64) :
    Calls Tryz.prog 92 #[rcv b (.slice ax n cx) (.slice ay n cy) k rad] w (GaRet hD xs ys n rad w) := by
  have hq6 : D.p ^ D.k ≤ 65536 := hD.pre.small
  have hk := hD.pre.pk
  have hq1 := hk.one_lt
  have HX0 : Kept (Bxs w [rcbox b (.slice ax n cx) (.slice ay n cy) k rad, fabox (.slice none 0 0) (.slice none 0 0)] ((w.alloc (rcbox b (.slice ax n cx) (.slice ay n cy) k rad)).alloc (fabox (.slice none 0 0) (.slice none 0 0)))) := ⟨((Bxs.start w).alloc (by simp) _).alloc (by simp) _⟩
  obtain ⟨mi, hmi⟩ : ∃ mi, FFld.padd D.p D.k 0 (FFld.pscl D.p D.k (D.p - 1) 1) = mi := ⟨_, rfl⟩
  have hmlt : mi < D.p ^ D.k := by rw [← hmi]; exact FFld.padd_lt hk _ _
  have hmE : FFld.toE hk mi = (FFld.FD.dom hD.nzd).neg (FFld.FD.dom hD.nzd).one := by
    rw [← hmi, FFld.toE_add hD (Nat.pow_pos hk.p0) (FFld.pscl_lt hk _ _), FFld.toE_neg hD hq1, FFld.toE_zero hD, FFld.toE_one hD, FFld.Dom.zero_add]
  have HSB := Kept.mk (fun (W : World) (hW : Below w.heap.size w W) => fsub_any (0 : Int) (1 : Int) W (hf.below hW) (by omega) (by omega) (by omega) (by omega) 0 1 (by simp) (md_nat hq1) (Nat.pow_pos hk.p0) hq1)
  rw [hmi] at HSB
  have HTH := Kept.mk (fun (W : World) (hW : Below w.heap.size w W) => fthrough_good hD (.slice ax n cx) (.slice ay n cy) xs ys n W (hf.below hW) (hx.below hW) (hy.below hW) hxq hyq lx ly (by omega))
  have HVN := Kept.mk (fun (W : World) (hW : Below w.heap.size w W) => cvanish_any hD ax cx xs W (hf.below hW) (by rw [lx]; exact hx.below hW) hxq (by omega))
  rw [lx] at HVN
  have HLO := Kept.mk (fun (W : World) => clongest_any b n cx k rad ax (.slice ay n cy) W hr (by omega))
  have HDV := Kept.mk (fun (W : World) (hW : Below w.heap.size w W) (vp vq : Value) (pl ql : List Nat) (h1 : Sl .i64 W vp (ints pl)) (h2 : Sl .i64 W vq (ints ql)) (hp : ∀ a ∈ pl, a < D.p ^ D.k) (hq : ∀ a ∈ ql, a < D.p ^ D.k) (tp : FFld.Tz pl) (tq : FFld.Tz ql) (h0 : 0 < ql.length) (lp : pl.length ≤ 200) (lq : ql.length ≤ 200) =>
    fpdivide_any vp vq pl ql W (hf.below hW) h1 h2 (cErr_poly hp tp lp) (cErr_poly hq tq lq) hD hp hq h0 tq (by omega) (by omega))
  have HPR := Kept.mk (fun (W : World) (hW : Below w.heap.size w W) (af : Option Addr) (cf : Nat) (p q : List Nat) (hs : Sls W af [ints p, ints q]) (h1 : 2 ≤ cf) (h2 : cf ≤ maxLen) (hp : ∀ a ∈ p, a < D.p ^ D.k) (hq : ∀ a ∈ q, a < D.p ^ D.k) (tp : FFld.Tz p) (tq : FFld.Tz q) (lp : p.length ≤ 100) (lq : q.length ≤ 100) => cproduct_any hD af cf [p, q] W (hf.below hW) hs h1 h2 (fun l hl => by
      rcases List.mem_cons.1 hl with rfl | hl
      · exact hp
      · obtain rfl := List.mem_singleton.1 hl
        exact hq) (fun l hl => by
      rcases List.mem_cons.1 hl with rfl | hl
      · exact tp
      · obtain rfl := List.mem_singleton.1 hl
        exact tq) (fun l hl => by
      rcases List.mem_cons.1 hl with rfl | hl
      · omega
      · obtain rfl := List.mem_singleton.1 hl
        omega) (fun i hi => by
      have h1 := FFld.mulL_one (D := D) hD hp tp
      rcases i with _ | _ | _ | i
      · simp [FFld.prodF]
      · show (FFld.mulL D [1] p).length ≤ 200
        rw [h1]
        omega
      · show (FFld.mulL D (FFld.mulL D [1] p) q).length ≤ 200
        rw [h1]
        by_cases hz : p.length = 0 ∨ q.length = 0
        · unfold FFld.mulL
          rw [if_pos hz]
          simp
        · rw [FFld.mulL_len_is (by omega) (by omega)]
          omega
      · simp at hi) (by simp))
  have HPL := Kept.mk (fun (W : World) (hW : Below w.heap.size w W) (ap aq : Option Addr) (cp cq : Nat) (pl ql : List Nat) (h1 : Sl .i64 W (.slice ap pl.length cp) (ints pl)) (h2 : Sl .i64 W (.slice aq ql.length cq) (ints ql)) (hp : ∀ a ∈ pl, a < D.p ^ D.k) (hq : ∀ a ∈ ql, a < D.p ^ D.k) (lp : pl.length ≤ 200) (lq : ql.length ≤ 200) => cplus_any hD ap aq cp cq pl ql mi 0 W (hf.below hW) h1 h2 hp hq hmlt (by omega) (by omega))
  have HGS := Kept.mk (fun (nw : List Nat) (h1 : ∀ a ∈ nw, a < D.p ^ D.k) (h2 : FFld.Tz nw) (h3 : nw.length ≤ n) (h4 : ∀ j, j < n → FFld.evE hD nw (FFld.plE hD xs j) = FFld.plE hD ys j) => FFld.GaoOk.start hD hxq h1 h2 h3 (FFld.thV_tz hD (by omega)) h4)
  have HGN := Kept.mk (fun (bf nw el e : List Nat) (h : FFld.GaoOk hD xs ys n bf nw el e) (h0 : nw.length ≠ 0) => FFld.GaoOk.next hD h h0 hmlt hmE)
  have HNW : Kept ((∀ a, a < n → FFld.thA D xs a ≠ 0) → FFld.GaoOk hD xs ys n (FFld.thV D xs n) (FFld.trm (FFld.thR D hD.pre.pk xs ys n n)) [] [1]) := ⟨fun hA => HGS.out _ (FFld.trm_lt (FFld.thR_lt hk xs ys n n)) (FFld.trm_tz _) (by have h1 := FFld.trm_len_le (FFld.thR D hk xs ys n n); rw [FFld.thR_len] at h1; exact h1) fun j hj => by rw [FFld.evE_trm]; exact FFld.thR_ev hD hxq hyq n (Nat.le_refl _) hA j hj⟩
  have HVL : Kept (n < (FFld.thV D xs n).length + rad) := ⟨by rw [FFld.thV_len]; omega⟩
  have HDS := Kept.mk hd
  have HNL := Kept.mk (fun (bf nw el e : List Nat) (h : FFld.GaoOk hD xs ys n bf nw el e) => (⟨by have := h.len; have := h.low; have := h.up; omega, by have := h.len; have := h.low; have := h.up; omega, by have := h.len; have := h.low; have := h.up; omega, by have := h.len; have := h.low; have := h.up; omega⟩ : bf.length ≤ 66 ∧ nw.length ≤ 66 ∧ el.length ≤ 66 ∧ e.length ≤ 66))
  clear hf hx hy lx ly hxq hyq hmi hmlt hmE hq1 hd HGS
  go_enter Tryz.func92, Tryz.ntmps92
  obtain ⟨c0, c1, c2, c3, c4⟩ := five_cells_ HX0.out.b0
  go_wp2_with fail
  refine (HSB.out _ HX0.out.1).mono ?_
  rintro e w1 ⟨hb1, rfl⟩
  have HX1 := Kept.mk (HX0.out.below hb1)
  clear hb1 c0 c1 c2 c3 c4 HSB
  obtain ⟨c0, c1, c2, c3, c4⟩ := five_cells_ HX1.out.b0
  go_wp2_with fail
  refine (HTH.out _ HX1.out.1).mono ?_
  rintro e w2 ⟨hb2, ⟨i, j, hji, hin, hxx, rfl⟩ | ⟨hA, v4, rfl, hs4⟩⟩
  · exact absurd hxx (HDS.out i j hji hin)
  · have HGA := Kept.mk (HNW.out hA)
    obtain ⟨NW, hNW⟩ : ∃ l, FFld.trm (FFld.thR D hD.pre.pk xs ys n n) = l := ⟨_, rfl⟩
    rw [hNW] at HGA hs4
    obtain ⟨a4, m4, rfl, _, _⟩ := hs4.form
    have HX2 := Kept.mk (HX1.out.below hb2)
    have HS4 := Kept.mk hs4
    clear hb2 hA hs4 hNW HNW c0 c1 c2 c3 c4
    obtain ⟨c0, c1, c2, c3, c4⟩ := five_cells_ HX2.out.b0
    go_wp2_with fail
    refine (HVN.out _ HX2.out.1).mono ?_
    rintro e w3 ⟨hb3, v3, rfl, hs3⟩
    have HX3 := Kept.mk (HX2.out.below hb3)
    have HS4' := Kept.mk (HS4.out.below hb3)
    have HS3 := Kept.mk hs3
    obtain ⟨a3, m3, rfl, _, _⟩ := hs3.form
    have hal : Below w3.heap.size w3 (w3.alloc (.cells #[.int .i64 1] 3)) := (Below.refl _ _).alloc (Nat.le_refl _) _
    have HSe : Kept (Sl .i64 (w3.alloc (.cells #[.int .i64 1] 3)) (.slice (some ⟨w3.heap.size, 0, none⟩) 1 1) (ints [1])) := ⟨cone_sl w3 1⟩
    have HSb := Kept.mk (HS3.out.below hal)
    have HSn := Kept.mk (HS4'.out.below hal)
    have HXb := Kept.mk (HX3.out.below hal)
    have HSl : Kept (Sl .i64 (w3.alloc (.cells #[.int .i64 1] 3)) (.slice none 0 0) (ints [])) := ⟨Sl.nil _ _⟩
    clear hb3 hs3 hal HS4 HS4' HS3 HX3 HX2 HX1 c0 c1 c2 c3 c4 HTH HVN
    go_wp2
    go_loopw [6, 7, 8, 9] (fun bv nv lv ev wr => ∃ (bf nw el e : List Nat), Kept (Sl .i64 wr bv (ints bf)) ∧ Kept (Sl .i64 wr nv (ints nw)) ∧ Kept (Sl .i64 wr lv (ints el)) ∧ Kept (Sl .i64 wr ev (ints e)) ∧ Kept (FFld.GaoOk hD xs ys n bf nw el e) ∧ Kept (n < bf.length + rad) ∧ Kept (Bxs w [rcbox b (.slice ax n cx) (.slice ay n cy) k rad, fabox (.slice none 0 0) (.slice none 0 0)] wr)) (fun _ nv _ _ _ => sliceLen nv)
    case atStart => exact ⟨_, _, _, _, HSb, HSn, HSl, HSe, HGA, HVL, HXb⟩
    case round =>
      clear HSb HSn HSl HSe HGA HVL HXb
      obtain ⟨bf, nw, el, e, hsb, hsn, hsl, hse, hga, hlo, hbx⟩ := hrel
      obtain ⟨hl1, hl2, hl3, hl4⟩ := HNL.out _ _ _ _ hga.out
      obtain ⟨an, mn, rfl, hmn, hmn'⟩ := hsn.out.form
      obtain ⟨ab, mb, rfl, _, _⟩ := hsb.out.form
      obtain ⟨al, ml, rfl, _, _⟩ := hsl.out.form
      obtain ⟨ae, me, rfl, hme, hme'⟩ := hse.out.form
      simp only [FFld.ints_len] at hsb hsn hsl hse hmn hme ⊢
      obtain ⟨c0, c1, c2, c3, c4⟩ := five_cells_ hbx.out.b0
      obtain ⟨nn, hnn⟩ : ∃ x, nw.length = x := ⟨_, rfl⟩
      have HNN := Kept.mk hnn
      have HHL : Kept (bf.length ≤ 66 ∧ nw.length ≤ 66 ∧ el.length ≤ 66 ∧ e.length ≤ 66) := ⟨⟨hl1, hl2, hl3, hl4⟩⟩
      obtain ⟨nb, hnb⟩ : ∃ x, bf.length = x := ⟨_, rfl⟩
      obtain ⟨nl, hnl⟩ : ∃ x, el.length = x := ⟨_, rfl⟩
      obtain ⟨ne, hne⟩ : ∃ x, e.length = x := ⟨_, rfl⟩
      have HNE := Kept.mk hne
      have HNL2 := Kept.mk hnl
      rw [hnn] at hsn hl2 hmn
      rw [hnb] at hsb hl1
      rw [hnl] at hsl hl3
      rw [hne] at hse hl4 hme
      try rw [hnn, hnb, hnl, hne]
      clear hnn hnb hnl hne
      go_wp2_with fail
      refine (HLO.out _).mono ?_
      rintro e' w4 ⟨hb4, rfl⟩
      have HX4 := Kept.mk (hbx.out.below hb4)
      have HSB4 := Kept.mk (hsb.out.below hb4)
      have HSN4 := Kept.mk (hsn.out.below hb4)
      have HSL4 := Kept.mk (hsl.out.below hb4)
      have HSE4 := Kept.mk (hse.out.below hb4)
      clear hb4 hsb hsn hsl hse hbx c0 c1 c2 c3 c4
      obtain ⟨c0, c1, c2, c3, c4⟩ := five_cells_ HX4.out.b0
      by_cases hgo : n - rad < nn
      · have g1 : decide (((n - rad : Nat) : Int) < nn) = true := decide_eq_true (by omega)
        have hn0 : nw.length ≠ 0 := by rw [HNN.out]; omega
        have HNX := Kept.mk (HGN.out _ _ _ _ hga.out hn0)
        have HLT := Kept.mk (FFld.rst_short hD hga.out.nlt hga.out.blt (by omega) (by rcases hga.out.tn with h | h; exact absurd h hn0; exact h))
        have HDC := Kept.mk (HDV.out w4 HX4.out.1 _ _ bf nw HSB4.out HSN4.out hga.out.blt hga.out.nlt hga.out.tb hga.out.tn (by omega) (by have := HHL.out.1; omega) (by have := HHL.out.2.1; omega))
        have HQQ := Kept.mk (FFld.quoF_lt (D := D) hD.pre.pk nw (FFld.invT D hD.pre.pk nw) bf)
        have HQT := Kept.mk (FFld.quo_tz hD hga.out.nlt hga.out.blt (by omega) (by rcases hga.out.tn with h | h; exact absurd h hn0; exact h) hga.out.tb)
        have HQL := Kept.mk (FFld.quoF_len D nw (FFld.invT D hD.pre.pk nw) bf)
        have HML := Kept.mk (FFld.mulL_lt (D := D) hD.pre.pk (FFld.quoF D nw (FFld.invT D hD.pre.pk nw) bf) e)
        have HPE : Kept (FFld.prodF D [FFld.quoF D nw (FFld.invT D hD.pre.pk nw) bf, e] [FFld.quoF D nw (FFld.invT D hD.pre.pk nw) bf, e].length = FFld.mulL D (FFld.quoF D nw (FFld.invT D hD.pre.pk nw) bf) e) := ⟨by
          show FFld.mulL D (FFld.mulL D [1] (FFld.quoF D nw (FFld.invT D hD.pre.pk nw) bf)) e = _
          rw [FFld.mulL_one hD HQQ.out HQT.out]⟩
        have HNLO : Kept (n < nw.length + rad) := ⟨by rw [HNN.out]; omega⟩
        obtain ⟨qu, hqu⟩ : ∃ l, FFld.quoF D nw (FFld.invT D hD.pre.pk nw) bf = l := ⟨_, rfl⟩
        obtain ⟨rs, hrs⟩ : ∃ l, FFld.rstF D nw (FFld.invT D hD.pre.pk nw) bf = l := ⟨_, rfl⟩
        rw [hqu] at HNX HDC HQQ HQT HQL HML HPE
        rw [hrs] at HNX HDC HLT
        clear hqu hrs hn0
        go_wp2_with fail
        refine HDC.out.mono ?_
        rintro e'' w5 ⟨hb5, vq, vr, rfl, hsq, hsr⟩
        obtain ⟨qa, qc, rfl, hqc, hqc'⟩ := hsq.form
        obtain ⟨ra, rc, rfl, hrc, hrc'⟩ := hsr.form
        rw [FFld.ints_len] at hsq hqc hsr hrc ⊢
        rw [FFld.ints_len]
        have HX5 := Kept.mk (HX4.out.below hb5)
        have HSN5 := Kept.mk (HSN4.out.below hb5)
        have HSL5 := Kept.mk (HSL4.out.below hb5)
        have HSE5 := Kept.mk (HSE4.out.below hb5)
        have HSQ5 := Kept.mk hsq
        have HSR5 := Kept.mk hsr
        obtain ⟨nq, hnq⟩ : ∃ x, qu.length = x := ⟨_, rfl⟩
        obtain ⟨nr, hnr⟩ : ∃ x, rs.length = x := ⟨_, rfl⟩
        have HNQ := Kept.mk hnq
        have HNR := Kept.mk hnr
        rw [hnq] at HSQ5 ⊢
        rw [hnr] at HSR5 ⊢
        clear hb5 hsq hsr hnq hnr HX4 HSB4 HSN4 HSL4 HSE4 HDC c0 c1 c2 c3 c4
        obtain ⟨c0, c1, c2, c3, c4⟩ := five_cells_ HX5.out.b0
        obtain ⟨PE, hPE⟩ : ∃ l, FFld.mulL D qu e = l := ⟨_, rfl⟩
        have HPLL : Kept (PE.length ≤ 150) := ⟨by
          rw [← hPE]
          by_cases hz : qu.length = 0 ∨ e.length = 0
          · unfold FFld.mulL
            rw [if_pos hz]
            simp
          · rw [FFld.mulL_len_is (by omega) (by omega)]
            have := HQL.out
            have := HHL.out
            omega⟩
        rw [hPE] at HNX HPE HML
        have HPX : Kept (∀ W, Below w.heap.size w W → ∀ pa pc, Sl .i64 W (.slice al nl ml) (ints el) → Sl .i64 W (.slice pa PE.length pc) (ints PE) → Calls Tryz.prog 165 #[.pointer (some ⟨b, 0, none⟩), .slice al nl ml, .slice pa PE.length pc, .int .i64 mi, .int .i64 0] W (fun e' w' => Below W.heap.size W w' ∧ ∃ v, e' = .returned v ∧ Sl .i64 w' v (ints (FFld.plusF D el PE mi 0)))) := ⟨fun W hW pa pc h1 h2 => by
          have h := HPL.out W hW al pa ml pc el PE (by rw [HNL2.out]; exact h1) h2 hga.out.llt HML.out (by have := HHL.out; omega) (by have := HPLL.out; omega)
          rw [HNL2.out] at h
          refine h.mono ?_
          rintro e' w' ⟨hb, rfl, hw⟩
          refine ⟨hb, _, rfl, hw.sl rfl ?_ ?_⟩
          · unfold FFld.plusF
            refine Nat.le_trans (FFld.trm_len_le _) ?_
            rw [FFld.addm_len, FFld.padF_len (by omega), HNL2.out]
            exact Nat.le_refl _
          · have := HPLL.out
            unfold maxLen
            omega⟩
        have HPRX : Kept (∀ W, Below w.heap.size w W → ∀ af, Sls W af [ints qu, ints e] → Calls Tryz.prog 166 #[.pointer (some ⟨b, 0, none⟩), .slice af 2 2] W (fun e' w' => Below W.heap.size W w' ∧ ∃ v, e' = .returned v ∧ Sl .i64 w' v (ints PE))) := ⟨fun W hW af h => by
          have h2 := HPR.out W hW af 2 qu e h (Nat.le_refl _) (by decide) HQQ.out hga.out.elt HQT.out hga.out.te (by have := HQL.out; have := HHL.out; omega) (by have := HHL.out; omega)
          rw [HPE.out] at h2
          exact h2⟩
        have hal : Below w5.heap.size w5 ((w5.alloc (.cells #[.slice qa nq qc, .slice ae ne me] 22)).drew) := ((Below.refl _ _).alloc (Nat.le_refl _) _).drew
        have hblk : ((w5.alloc (.cells #[.slice qa nq qc, .slice ae ne me] 22)).drew).heap[w5.heap.size]? = some (.cells #[.slice qa nq qc, .slice ae ne me] 22 (0, 0)) := heap_alloc_new w5 _
        have e0 := belowCell hal c0
        clear hPE HPR HPL HPE HDV
        go_upto_region 9 with fail
        refine wp_region_held_drew (S := fun w' => w'.cell? ⟨w.heap.size, 0, none⟩ = some (.pointer (some ⟨b, 0, none⟩))) (by kernel_rfl) c0 (fun hHeld => ?_)
        refine wpAnyH_take (i := 0) (v := ?_) rfl (by kernel_rfl) (by kernel_rfl) (by kernel_rfl) (fun _ _ _ h => h) (Or.inl ⟨by rfl, ?_⟩) (by assumption) ?_
        rotate_left
        · (intro w hSw; (try dsimp only at hSw); go_simp; (try with_reducible rfl))
        try simp only [Act.put, List.getElem_toArray, List.getElem_cons_succ, List.getElem_cons_zero, List.setIfInBounds_toArray, List.set_cons_zero, List.set_cons_succ]
        refine wpAnyH_take (i := 1) (v := ?_) rfl (by kernel_rfl) (by kernel_rfl) (by kernel_rfl) (fun _ _ _ h => h) (Or.inl ⟨by rfl, ?_⟩) (by assumption) ?_
        rotate_left
        · (intro w hSw; (try dsimp only at hSw); go_simp; (try with_reducible rfl))
        try simp only [Act.put, List.getElem_toArray, List.getElem_cons_succ, List.getElem_cons_zero, List.setIfInBounds_toArray, List.set_cons_zero, List.set_cons_succ]
        refine wpAnyH_take (i := 2) (v := ?_) rfl (by kernel_rfl) (by kernel_rfl) (by kernel_rfl) (fun _ _ _ h => h) (Or.inl ⟨by rfl, ?_⟩) (by assumption) ?_
        rotate_left
        · (intro w hSw; (try dsimp only at hSw); go_simp; (try with_reducible rfl))
        try simp only [Act.put, List.getElem_toArray, List.getElem_cons_succ, List.getElem_cons_zero, List.setIfInBounds_toArray, List.set_cons_zero, List.set_cons_succ]
        refine wpAnyH_take (i := 3) (v := ?_) rfl (by kernel_rfl) (by kernel_rfl) (by kernel_rfl) (fun _ _ _ h => h) (Or.inl ⟨by rfl, ?_⟩) (by assumption) ?_
        rotate_left
        · (intro w hSw; (try dsimp only at hSw); go_simp; (try with_reducible rfl))
        try simp only [Act.put, List.getElem_toArray, List.getElem_cons_succ, List.getElem_cons_zero, List.setIfInBounds_toArray, List.set_cons_zero, List.set_cons_succ]
        refine wpAnyH_take (i := 4) (v := ?_) rfl (by kernel_rfl) (by kernel_rfl) (by kernel_rfl) (fun _ _ _ h => h) (Or.inl ⟨by rfl, ?_⟩) (by assumption) ?_
        rotate_left
        · (intro w hSw; (try dsimp only at hSw); go_simp; (try with_reducible rfl))
        try simp only [Act.put, List.getElem_toArray, List.getElem_cons_succ, List.getElem_cons_zero, List.setIfInBounds_toArray, List.set_cons_zero, List.set_cons_succ]
        refine wpAnyH_take (i := 5) (v := ?_) rfl (by kernel_rfl) (by kernel_rfl) (by kernel_rfl) (fun _ _ _ h => h) (Or.inl ⟨by rfl, ?_⟩) (by assumption) ?_
        rotate_left
        · (intro w hSw; (try dsimp only at hSw); go_simp; (try with_reducible rfl))
        try simp only [Act.put, List.getElem_toArray, List.getElem_cons_succ, List.getElem_cons_zero, List.setIfInBounds_toArray, List.set_cons_zero, List.set_cons_succ]
        refine wpAnyH_take (i := 6) (v := ?_) rfl (by kernel_rfl) (by kernel_rfl) (by kernel_rfl) (fun _ _ _ h => h) (Or.inl ⟨by rfl, ?_⟩) (by assumption) ?_
        rotate_left
        · (intro w hSw; (try dsimp only at hSw); go_simp; (try with_reducible rfl))
        try simp only [Act.put, List.getElem_toArray, List.getElem_cons_succ, List.getElem_cons_zero, List.setIfInBounds_toArray, List.set_cons_zero, List.set_cons_succ]
        refine wpAnyH_take (i := 9) (v := ?_) rfl (by kernel_rfl) (by kernel_rfl) (by kernel_rfl) (fun _ _ _ h => h) (Or.inl ⟨by rfl, ?_⟩) (by assumption) ?_
        rotate_left
        · (intro w hSw; (try dsimp only at hSw); go_simp; (try with_reducible rfl))
        try simp only [Act.put, List.getElem_toArray, List.getElem_cons_succ, List.getElem_cons_zero, List.setIfInBounds_toArray, List.set_cons_zero, List.set_cons_succ]
        refine wpAnyH_ready (rs := [7]) (by kernel_rfl) (by simp) ?_
        refine (AllReadyH.cons rfl (fun K hK => ?_) AllReadyH.nil)
        go_simp
        refine hK.out _ _ e0 (fun hHeld => ?_)
        clear hK K
        try simp only [Act.put, List.getElem_toArray, List.getElem_cons_succ, List.getElem_cons_zero, List.setIfInBounds_toArray, List.set_cons_zero, List.set_cons_succ]
        obtain ⟨W6, hW6⟩ : ∃ W, (w5.alloc (.cells #[.slice qa nq qc, .slice ae ne me] 22)).drew = W := ⟨_, rfl⟩
        rw [hW6] at hal hblk e0 ⊢
        clear hW6
        have HX6 := Kept.mk (HX5.out.below hal)
        have HSN6 := Kept.mk (HSN5.out.below hal)
        have HSL6 := Kept.mk (HSL5.out.below hal)
        have HSE6 := Kept.mk (HSE5.out.below hal)
        have HSR6 := Kept.mk (HSR5.out.below hal)
        have HSQ6 := Kept.mk (HSQ5.out.below hal)
        have HSS : Kept (Sls W6 (some ⟨w5.heap.size, 0, none⟩) [ints qu, ints e]) := ⟨fun i hi => by
          obtain ⟨k0, k1, _, _⟩ := two_cells hblk
          have hl : w5.heap.size < W6.heap.size := (Array.getElem?_eq_some_iff.1 hblk).1
          rcases i with _ | _ | i
          · exact ⟨w5.heap.size, 0, _, rfl, hl, k0, HSQ6.out⟩
          · exact ⟨w5.heap.size, 0, _, rfl, hl, k1, HSE6.out⟩
          · simp at hi
            omega⟩
        clear hal hblk HX5 HSN5 HSL5 HSE5 HSR5 HSQ5
        refine wpAnyH_ready (rs := [8]) (by kernel_rfl) (by simp) ?_
        refine (AllReadyH.cons rfl (fun K hK => ?_) AllReadyH.nil)
        go_simp
        refine (HPRX.out _ HX6.out.1 _ HSS.out).mono ?_
        rintro e' w7 ⟨hb7, vp, rfl, hsp⟩
        obtain ⟨pa, pc, rfl, _, _⟩ := hsp.form
        rw [FFld.ints_len] at hsp ⊢
        have HX7 := Kept.mk (HX6.out.below hb7)
        have HSN7 := Kept.mk (HSN6.out.below hb7)
        have HSL7 := Kept.mk (HSL6.out.below hb7)
        have HSE7 := Kept.mk (HSE6.out.below hb7)
        have HSR7 := Kept.mk (HSR6.out.below hb7)
        have HSP7 := Kept.mk hsp
        have e7 := belowCell hb7 e0
        clear hb7 hsp e0 HX6 HSN6 HSL6 HSE6 HSR6 HSQ6 HSS
        refine hK.out _ _ e7 (fun hHeld => ?_)
        clear hK K
        try simp only [Act.put, List.getElem_toArray, List.getElem_cons_succ, List.getElem_cons_zero, List.setIfInBounds_toArray, List.set_cons_zero, List.set_cons_succ]
        refine wpAnyH_ready (rs := [10]) (by kernel_rfl) (by simp) ?_
        refine (AllReadyH.cons rfl (fun K hK => ?_) AllReadyH.nil)
        go_simp
        refine (HPX.out _ HX7.out.1 _ _ HSL7.out HSP7.out).mono ?_
        rintro e' w8 ⟨hb8, vs, rfl, hss⟩
        obtain ⟨sa, sc, rfl, _, _⟩ := hss.form
        have HX8 := Kept.mk (HX7.out.below hb8)
        have HSN8 := Kept.mk (HSN7.out.below hb8)
        have HSE8 := Kept.mk (HSE7.out.below hb8)
        have HSR8 := Kept.mk (HSR7.out.below hb8)
        have HSS8 := Kept.mk hss
        have e8 := belowCell hb8 e7
        clear hb8 hss e7 HX7 HSN7 HSL7 HSE7 HSR7 HSP7
        refine hK.out _ _ e8 (fun hHeld => ?_)
        clear hK K
        try simp only [Act.put, List.getElem_toArray, List.getElem_cons_succ, List.getElem_cons_zero, List.setIfInBounds_toArray, List.set_cons_zero, List.set_cons_succ]
        refine wpAnyH_ready (rs := [11]) (by kernel_rfl) (by simp) ?_
        refine (AllReadyH.cons rfl (fun K hK => ?_) AllReadyH.nil)
        go_simp
        refine hK.out _ _ e8 (fun hHeld => ?_)
        clear hK K
        try simp only [Act.put, List.getElem_toArray, List.getElem_cons_succ, List.getElem_cons_zero, List.setIfInBounds_toArray, List.set_cons_zero, List.set_cons_succ]
        refine wpAnyH_done (by kernel_rfl) ?_ _
        go_wp2
        go_roundw
        case rel => exact ⟨_, _, _, _, HSN8, HSR8, HSE8, HSS8, HNX, HNLO, HX8⟩
        case measure =>
          have h1 := HLT.out
          rw [HNR.out, HNN.out] at h1
          simp only [sliceLen]
          omega
      · have g1 : decide (((n - rad : Nat) : Int) < nn) = false := decide_eq_false (by omega)
        obtain ⟨d0, d1, f0, f1⟩ := two_cells HX4.out.b1
        have HQL : Kept (nw.length + rad ≤ n) := ⟨by rw [HNN.out]; omega⟩
        have hset := two_set HX4.out.b1 (.slice an nn mn) (.slice ae ne me)
        have hgr : w4.grownBy ((w4.setCell ⟨w.heap.size + 1, 0, none⟩ (.slice an nn mn)).setCell ⟨w.heap.size + 1, 1, none⟩ (.slice ae ne me)) (some (w.heap.size + 1)) := growSet (growSet (growRefl _ _) _ _) _ _
        have HSN6 : Kept (Sl .i64 ((w4.setCell ⟨w.heap.size + 1, 0, none⟩ (.slice an nn mn)).setCell ⟨w.heap.size + 1, 1, none⟩ (.slice ae ne me)) (.slice an nn mn) (ints nw)) := ⟨HSN4.out.kept hgr (fun k hk e => HSN4.out.not_box_ HX4.out.b1 (fun i m e => by rcases i with _ | _ | i <;> simp at e) (hk.trans e.symm))⟩
        have HSE6 : Kept (Sl .i64 ((w4.setCell ⟨w.heap.size + 1, 0, none⟩ (.slice an nn mn)).setCell ⟨w.heap.size + 1, 1, none⟩ (.slice ae ne me)) (.slice ae ne me) (ints e)) := ⟨HSE4.out.kept hgr (fun k hk e => HSE4.out.not_box_ HX4.out.b1 (fun i m e => by rcases i with _ | _ | i <;> simp at e) (hk.trans e.symm))⟩
        have HB6 : Kept (Below w.heap.size w ((w4.setCell ⟨w.heap.size + 1, 0, none⟩ (.slice an nn mn)).setCell ⟨w.heap.size + 1, 1, none⟩ (.slice ae ne me))) := ⟨(HX4.out.1.setCell (p := ⟨w.heap.size + 1, 0, none⟩) (by simp) _).setCell (p := ⟨w.heap.size + 1, 1, none⟩) (by simp) _⟩
        obtain ⟨t0, t1, _, _⟩ := two_cells hset
        clear hset hgr
        go_wp2
        exact bodyPost_ret (v := .agg #[.slice an nn mn, .slice ae ne me]) (by simp [results, Tryz.results92, go_sem, t0, t1]) rfl ⟨HB6.out, _, _, _, _, _, _, rfl, HSN6.out, HSE6.out, hga.out, HQL.out, hlo.out⟩
end Go.Proofs.YtdnheaafcbihbaaGreat

set_option linter.unusedVariables false
set_option linter.unusedSimpArgs false
namespace Go.Proofs.YtdnheaafcbihbaaGreat
open Go Go.RowKit Go.Deep
open FFld (ints)
abbrev nilv : Value := .slice none 0 0
abbrev rczv : Value := .agg #[.pointer none, nilv, nilv, .int .i64 0, .int .i64 0]
abbrev rczb : Obj := .cells #[.pointer none, nilv, nilv, .int .i64 0, .int .i64 0] 119
theorem five_free {w : World} {g : Nat} {a b c d e : Value} {T : TypeId} (h : w.heap[g]? = some (.cells #[a, b, c, d, e] T (0, 0))) :
    w.frozen? ⟨g, 0, none⟩ = false ∧ w.frozen? ⟨g, 1, none⟩ = false ∧ w.frozen? ⟨g, 2, none⟩ = false ∧ w.frozen? ⟨g, 3, none⟩ = false ∧ w.frozen? ⟨g, 4, none⟩ = false :=
  ⟨frozen_of_row w g 0 _ T h, frozen_of_row w g 1 _ T h, frozen_of_row w g 2 _ T h, frozen_of_row w g 3 _ T h, frozen_of_row w g 4 _ T h⟩
theorem five_set_ {w : World} {g : Nat} {a b c d e : Value} {T : TypeId} (h : w.heap[g]? = some (.cells #[a, b, c, d, e] T (0, 0))) (a' b' c' d' e' : Value) :
    (((((w.setCell ⟨g, 0, none⟩ a').setCell ⟨g, 1, none⟩ b').setCell ⟨g, 2, none⟩ c').setCell ⟨g, 3, none⟩ d').setCell ⟨g, 4, none⟩ e').heap[g]? = some (.cells #[a', b', c', d', e'] T (0, 0)) := by
  have h1 := heap_setCell_same w g 0 _ T a' h
  have h2 := heap_setCell_same _ g 1 _ T b' h1
  have h3 := heap_setCell_same _ g 2 _ T c' h2
  have h4 := heap_setCell_same _ g 3 _ T d' h3
  have h5 := heap_setCell_same _ g 4 _ T e' h4
  simpa using h5
/-- A code that is not valid. -/
structure BadC (o k : Int) (ao : Option Addr) (n cap : Nat) (xs : List Int) (r : Nat) (w : World) : Prop where
  sl : Sl .i64 w (.slice ao n cap) xs
  len : xs.length = n
  o0 : -9223372036854775808 ≤ o
  o1 : o ≤ 9223372036854775807
  k0 : -9223372036854775808 ≤ k
  k1 : k ≤ 9223372036854775807
  is : chkE o xs k = r
  ne : r ≠ 0
section
variable {o k : Int} {ao : Option Addr} {n cap : Nat} {xs : List Int} {r : Nat}
end
end Go.Proofs.YtdnheaafcbihbaaGreat

set_option linter.unusedVariables false
set_option linter.unusedSimpArgs false
namespace Go.Proofs.YtdnheaafcbihbaaGreat
open Go Go.RowKit Go.Deep
open FFld (ints)
section
variable {o k : Int} {ao : Option Addr} {n cap : Nat} {xs : List Int} {r : Nat}
end
end Go.Proofs.YtdnheaafcbihbaaGreat

set_option linter.unusedVariables false
set_option linter.unusedSimpArgs false
namespace Go.Proofs.YtdnheaafcbihbaaGreat
open Go Go.RowKit Go.Deep
open FFld (ints)
section
variable {o k : Int} {ao : Option Addr} {n cap : Nat} {xs : List Int} {r : Nat}
end
end Go.Proofs.YtdnheaafcbihbaaGreat

set_option linter.unusedVariables false
set_option linter.unusedSimpArgs false
namespace Go.Proofs.YtdnheaafcbihbaaGreat
open Go Go.RowKit Go.Deep
open FFld (ints)
/-- What is received so far, in memory. -/
structure RcAt (b B g k rad : Nat) (pv ev : Value) (P W : List Nat) (w : World) : Prop where
  box : w.heap[g]? = some (rcbox b pv ev k rad)
  pm : Mine 3 .i64 B w pv (ints P)
  em : Mine 3 .i64 B w ev (ints W)
  ne : ∀ j, pv.ownBlock = some j → ev.ownBlock ≠ some j
  gB : g < B
theorem RcAt.below {b B g k rad : Nat} {pv ev : Value} {P W : List Nat} {w w' : World} (h : RcAt b B g k rad pv ev P W w) (hb : Below w.heap.size w w') : RcAt b B g k rad pv ev P W w' :=
  ⟨(hb.block _ (Array.getElem?_eq_some_iff.1 h.box).1).trans h.box, h.pm.below hb, h.em.below hb, h.ne, h.gB⟩
theorem Mine.setOther {B g i : Nat} {w : World} {v x : Value} {xs : List Int} (h : Mine 3 .i64 B w v xs) (hg : g < B) : Mine 3 .i64 B (w.setCell ⟨g, i, none⟩ x) v xs := by
  refine h.kept (growSet (growRefl _ (some g)) _ _) ?_
  cases hv : v.ownBlock with
  | none => exact .inl rfl
  | some j => exact .inr (fun e => by have := (h.own j hv).1; cases e; omega)
/-- A point more. -/
theorem RcAt.point {b B g k rad x : Nat} {pv ev v' : Value} {P W : List Nat} {w w' : World} (h : RcAt b B g k rad pv ev P W w) (hm : Mine 3 .i64 B w' v' (ints (P ++ [x]))) (hg : w.grownBy w' pv.ownBlock) (hn : v'.ownBlock = pv.ownBlock ∨ Frm w.heap.size v') : RcAt b B g k rad v' ev (P ++ [x]) W (w'.setCell ⟨g, 1, none⟩ v') := by
  have hgB := h.gB
  have hb : w'.heap[g]? = some (rcbox b pv ev k rad) := (hg.block g (Array.getElem?_eq_some_iff.1 h.box).1 (fun e => by have := (h.pm.own g e.symm).1; omega)).trans h.box
  refine ⟨?_, hm.setOther hgB, Mine.setOther (h.em.kept hg ?_) hgB, fun j hj e => ?_, hgB⟩
  · have := heap_setCell_same w' g 1 _ _ v' hb
    simpa using this
  · cases hv : ev.ownBlock with
    | none => exact .inl rfl
    | some j => exact .inr (fun e => h.ne j e.symm hv)
  · rcases hn with h1 | h1
    · exact h.ne j (h1 ▸ hj) e
    · have h2 := h1 j hj
      have h3 := (h.em.own j e).2
      omega
/-- An element more. -/
theorem RcAt.element {b B g k rad x : Nat} {pv ev v' : Value} {P W : List Nat} {w w' : World} (h : RcAt b B g k rad pv ev P W w) (hm : Mine 3 .i64 B w' v' (ints (W ++ [x]))) (hg : w.grownBy w' ev.ownBlock) (hn : v'.ownBlock = ev.ownBlock ∨ Frm w.heap.size v') : RcAt b B g k rad pv v' P (W ++ [x]) (w'.setCell ⟨g, 2, none⟩ v') := by
  have hgB := h.gB
  have hb : w'.heap[g]? = some (rcbox b pv ev k rad) := (hg.block g (Array.getElem?_eq_some_iff.1 h.box).1 (fun e => by have := (h.em.own g e.symm).1; omega)).trans h.box
  refine ⟨?_, Mine.setOther (h.pm.kept hg ?_) hgB, hm.setOther hgB, fun j hj e => ?_, hgB⟩
  · have := heap_setCell_same w' g 2 _ _ v' hb
    simpa using this
  · cases hv : pv.ownBlock with
    | none => exact .inl rfl
    | some j => exact .inr (fun e => h.ne j hv e.symm)
  · rcases hn with h1 | h1
    · exact h.ne j hj (h1 ▸ e)
    · have h2 := h1 j e
      have h3 := (h.pm.own j hj).2
      omega
/-- The places that are not erased. -/
def kpF (es : List Int) (i : Nat) : List Nat := (List.range i).filter fun j => es.all fun e => decide (e ≠ (j : Int))
theorem kpF_next (es : List Int) (i : Nat) : kpF es (i + 1) = if es.all (fun e => decide (e ≠ (i : Int))) = true then kpF es i ++ [i] else kpF es i := by
  unfold kpF
  rw [List.range_succ, List.filter_append, List.filter_cons, List.filter_nil]
  split
  · rfl
  · rw [List.append_nil]
end Go.Proofs.YtdnheaafcbihbaaGreat

set_option linter.unusedVariables false
set_option linter.unusedSimpArgs false
namespace Go.Proofs.YtdnheaafcbihbaaGreat
open Go Go.RowKit Go.Deep
open FFld (ints)
/-- A quotient that is the polynomial of a word within the radius. -/
def Good (D : FFld.FD) (xs ys Qu Rs : List Nat) (k rad : Nat) : Prop := Rs = [] ∧ Qu.length ≤ k ∧ disF (ints (FFld.valsF D Qu xs xs.length)) (ints ys) xs.length ≤ rad
open Classical in
noncomputable def goodB (D : FFld.FD) (xs ys Qu Rs : List Nat) (k rad : Nat) : Bool := decide (Good D xs ys Qu Rs k rad)
/-- What quotient returns. -/
def QuRet (D : FFld.FD) (xs ys Qu Rs : List Nat) (k rad : Nat) (w : World) (e : Ending) (w' : World) : Prop := Below w.heap.size w w' ∧ ∃ v, e = .returned (.tuple #[v, .bool (goodB D xs ys Qu Rs k rad)]) ∧ (Good D xs ys Qu Rs k rad → Sl .i64 w' v (ints Qu))
open Classical in
theorem good_no {D : FFld.FD} {xs ys Qu Rs : List Nat} {k rad : Nat} (h : ¬ Good D xs ys Qu Rs k rad) : goodB D xs ys Qu Rs k rad = false := by
  unfold goodB
  exact decide_eq_false h
open Classical in
theorem good_yes {D : FFld.FD} {xs ys Qu Rs : List Nat} {k rad : Nat} (h : Good D xs ys Qu Rs k rad) : goodB D xs ys Qu Rs k rad = true := by
  unfold goodB
  exact decide_eq_true h
set_option maxRecDepth 20000 in
set_option maxHeartbeats 8000000 in
theorem cquot_any {D : FFld.FD} {b : Nat} (hD : D.Ok) (ax ay aq ae : Option Addr) (cx cy cq ce k rad n : Nat) (xs ys Q E : List Nat) (w : World) (hf : FldB D w b) (hx : Sl .i64 w (.slice ax n cx) (ints xs)) (hy : Sl .i64 w (.slice ay n cy) (ints ys)) (lx : xs.length = n) (ly : ys.length = n) (hxq : ∀ a ∈ xs, a < D.p ^ D.k) (hyq : ∀ a ∈ ys, a < D.p ^ D.k) (hn : n ≤ 64) (hr : rad ≤ 64) (hk6 : k ≤ 64)
    (hQ : Sl .i64 w (.slice aq Q.length cq) (ints Q)) (hE : Sl .i64 w (.slice ae E.length ce) (ints E)) (qQ : ∀ a ∈ Q, a < D.p ^ D.k) (qE : ∀ a ∈ E, a < D.p ^ D.k) (tQ : FFld.Tz Q) (tE : FFld.Tz E) (lQ : Q.length ≤ 200) (lE : E.length ≤ 200) (hE0 : E.length ≠ 0) :
    Calls Tryz.prog 91 #[rcv b (.slice ax n cx) (.slice ay n cy) k rad, .agg #[.slice aq Q.length cq, .slice ae E.length ce]] w (QuRet D xs ys (FFld.quoF D E (FFld.invT D hD.pre.pk E) Q) (FFld.rstF D E (FFld.invT D hD.pre.pk E) Q) k rad w) := by
  have hk := hD.pre.pk
  have HX0 : Kept (Bxs w [rcbox b (.slice ax n cx) (.slice ay n cy) k rad, fabox (.slice aq Q.length cq) (.slice ae E.length ce)] ((w.alloc (rcbox b (.slice ax n cx) (.slice ay n cy) k rad)).alloc (fabox (.slice aq Q.length cq) (.slice ae E.length ce)))) := ⟨((Bxs.start w).alloc (by simp) _).alloc (by simp) _⟩
  have HDV := Kept.mk (fun (W : World) (hW : Below w.heap.size w W) => fpdivide_any (.slice aq Q.length cq) (.slice ae E.length ce) Q E W (hf.below hW) (hQ.below hW) (hE.below hW) (cErr_poly qQ tQ lQ) (cErr_poly qE tE lE) hD qQ qE (by omega) tE (by omega) (by omega))
  obtain ⟨Qu, hQu⟩ : ∃ l, FFld.quoF D E (FFld.invT D hD.pre.pk E) Q = l := ⟨_, rfl⟩
  obtain ⟨Rs, hRs⟩ : ∃ l, FFld.rstF D E (FFld.invT D hD.pre.pk E) Q = l := ⟨_, rfl⟩
  have qQu : ∀ a ∈ Qu, a < D.p ^ D.k := by rw [← hQu]; exact FFld.quoF_lt hk _ _ _
  rw [hQu, hRs] at HDV ⊢
  have HVA := Kept.mk (fun (W : World) (hW : Below w.heap.size w W) (aa : Option Addr) (ca : Nat) (h : Sl .i64 W (.slice aa Qu.length ca) (ints Qu)) (hl : Qu.length ≤ 200) => cvalues_any hD ax aa cx ca xs Qu W (hf.below hW) (by rw [lx]; exact hx.below hW) h hxq qQu (by omega) hl)
  rw [lx] at HVA
  have HYS := Kept.mk hy
  have HVL : Kept ((FFld.valsF D Qu xs n).length = n) := ⟨by rw [FFld.valsF_len, lx]⟩
  have HYL := Kept.mk ly
  have HGD : Kept (Good D xs ys Qu Rs k rad ↔ Rs = [] ∧ Qu.length ≤ k ∧ disF (ints (FFld.valsF D Qu xs n)) (ints ys) n ≤ rad) := ⟨by unfold Good; rw [lx]⟩
  have HGN := Kept.mk (fun h => good_no (D := D) (xs := xs) (ys := ys) (Qu := Qu) (Rs := Rs) (k := k) (rad := rad) h)
  have HGY := Kept.mk (fun h => good_yes (D := D) (xs := xs) (ys := ys) (Qu := Qu) (Rs := Rs) (k := k) (rad := rad) h)
  obtain ⟨nQ, hnQ⟩ : ∃ n, Q.length = n := ⟨_, rfl⟩
  obtain ⟨nE, hnE⟩ : ∃ n, E.length = n := ⟨_, rfl⟩
  rw [hnQ, hnE] at HX0 HDV ⊢
  clear hf hx hy hxq hyq hQ hE qQ qE tQ tE hQu hRs qQu lx ly hnQ hnE lQ lE hE0
  go_enter Tryz.func91, Tryz.ntmps91
  obtain ⟨c0, c1, c2, c3, c4⟩ := five_cells_ HX0.out.b0
  obtain ⟨d0, d1, _, _⟩ := two_cells HX0.out.b1
  go_wp2_with fail
  refine (HDV.out _ HX0.out.1).mono ?_
  rintro e w1 ⟨hb1, v1, v2, rfl, hs1, hs2⟩
  obtain ⟨a1, m1, rfl, hm1, hm1'⟩ := hs1.form
  obtain ⟨a2, m2, rfl, hm2, hm2'⟩ := hs2.form
  rw [FFld.ints_len] at hs1 hs2 hm1 hm2 ⊢
  rw [FFld.ints_len]
  have HX1 := Kept.mk (HX0.out.below hb1)
  have HS1 := Kept.mk hs1
  obtain ⟨nu, hnu⟩ : ∃ n, Qu.length = n := ⟨_, rfl⟩
  obtain ⟨nr, hnr⟩ : ∃ n, Rs.length = n := ⟨_, rfl⟩
  have HNU := Kept.mk hnu
  rw [hnu] at HS1 HVA ⊢
  rw [hnr] at hm2 ⊢
  have HNR : Kept (Rs = [] ↔ nr = 0) := ⟨by rw [← hnr]; exact List.length_eq_zero_iff.symm⟩
  clear hb1 hs1 hs2 c0 c1 c2 c3 c4 d0 d1 hnu hnr HDV
  obtain ⟨c0, c1, c2, c3, c4⟩ := five_cells_ HX1.out.b0
  by_cases h1 : 0 < nr
  · have HNO := Kept.mk (HGN.out (by rw [HGD.out, HNR.out]; omega))
    have HNG : Kept (¬ Good D xs ys Qu Rs k rad) := ⟨by rw [HGD.out, HNR.out]; omega⟩
    have g1 : decide ((0 : Int) < nr) = true := decide_eq_true (by omega)
    go_wp2
    exact bodyPost_ret (v := .tuple #[.slice none 0 0, .bool false]) (by simp [results, Tryz.results91, go_sem]) rfl ⟨HX1.out.1, _, by rw [HNO.out], fun h => absurd h HNG.out⟩
  · have g1 : decide ((0 : Int) < nr) = false := decide_eq_false (by omega)
    by_cases h2 : k < nu
    · have HNG : Kept (¬ Good D xs ys Qu Rs k rad) := ⟨by rw [HGD.out, HNU.out]; omega⟩
      have HNO := Kept.mk (HGN.out HNG.out)
      have g2 : decide ((k : Int) < nu) = true := decide_eq_true (by omega)
      go_wp2
      exact bodyPost_ret (v := .tuple #[.slice none 0 0, .bool false]) (by simp [results, Tryz.results91, go_sem]) rfl ⟨HX1.out.1, _, by rw [HNO.out], fun h => absurd h HNG.out⟩
    · have g2 : decide ((k : Int) < nu) = false := decide_eq_false (by omega)
      obtain ⟨ds, hds⟩ : ∃ d, disF (ints (FFld.valsF D Qu xs n)) (ints ys) n = d := ⟨_, rfl⟩
      have hdl : ds ≤ n := by rw [← hds]; exact disF_le _ _ _
      have HS2 : Kept (∀ W, Below w1.heap.size w1 W → Calls Tryz.prog 87 #[.pointer (some ⟨b, 0, none⟩), .slice ax n cx, .slice a1 nu m1] W (fun e w' => Below W.heap.size W w' ∧ ∃ v, e = .returned v ∧ Sl .i64 w' v (ints (FFld.valsF D Qu xs n)))) := ⟨fun W hW => (HVA.out W (bstep HX1.out.1 hW) a1 m1 (HS1.out.below hW) (by omega)).mono fun e w' ⟨hb, he, hw⟩ => ⟨hb, _, he, hw.sl HVL.out.symm (Nat.le_refl _) (by unfold maxLen; omega)⟩⟩
      have HS3 : Kept (∀ W v, Below w1.heap.size w1 W → Sl .i64 W v (ints (FFld.valsF D Qu xs n)) → Calls Tryz.prog 96 #[v, .slice ay n cy] W (RB W (.int .i64 (ds : Nat)))) := ⟨fun W v hW hv => by
        have h := cdistance_any v (.slice ay n cy) _ _ W hv (HYS.out.below (bstep HX1.out.1 hW)) (by rw [FFld.ints_len, FFld.ints_len, HVL.out, HYL.out])
        rw [FFld.ints_len, HVL.out, hds] at h
        exact h.mono fun e w' ⟨h1, h2⟩ => ⟨by rw [← h1]; exact Below.refl _ _, h2⟩⟩
      have HGD2 : Kept (Good D xs ys Qu Rs k rad ↔ ds ≤ rad) := ⟨by rw [HGD.out, HNR.out, HNU.out, hds]; omega⟩
      clear hds HGD HVA
      go_upto_region 4 with fail
      go_region_held3 (fun w' => w'.cell? ⟨w.heap.size, 0, none⟩ = some (.pointer (some ⟨b, 0, none⟩)) ∧ w'.cell? ⟨w.heap.size, 1, none⟩ = some (.slice ax n cx) ∧ w'.cell? ⟨w.heap.size, 2, none⟩ = some (.slice ay n cy) ∧ w'.cell? ⟨w.heap.size, 4, none⟩ = some (.int .i64 rad))
        (first | exact ⟨jb0, jb1, jb2, jb3⟩ | exact ⟨ja0, ja1, ja2, ja3⟩ | exact ⟨c0, c1, c2, c4⟩ | go_keep)
        ((first
          | (go_at_call 87; (with_reducible refine (HS2.out _ ?h1).mono ?_); (case h1 => exact (by first | exact Below.refl _ _ | exact (Below.refl _ _).drew)); rintro e v1 ⟨hb1, va, rfl, hva⟩; have hy1 := Kept.mk (bstep (show Below w1.heap.size w1 _ from (by first | exact Below.refl _ _ | exact (Below.refl _ _).drew)) hb1); have ja0 := belowCell hy1.out c0; have ja1 := belowCell hy1.out c1; have ja2 := belowCell hy1.out c2; have ja3 := belowCell hy1.out c4; clear hb1)
          | (go_at_call 96; (with_reducible refine (HS3.out _ _ ?h1 ?h2).mono ?_); (case h1 => exact hy1.out); (case h2 => first | exact hva | exact hva.below (Below.refl _ _).drew); rintro e v2 ⟨hb2, rfl⟩; have hy2 := Kept.mk (bstep (show Below w1.heap.size w1 _ from hy1.out) hb2); have jb0 := belowCell hy2.out c0; have jb1 := belowCell hy2.out c1; have jb2 := belowCell hy2.out c2; have jb3 := belowCell hy2.out c4; clear hb2)))
      have HB4 := Kept.mk (bstep HX1.out.1 hy2.out)
      have HS4 := Kept.mk (HS1.out.below hy2.out)
      by_cases h3 : ds ≤ rad
      · have HG := Kept.mk (HGY.out (HGD2.out.2 h3))
        have g3 : decide ((ds : Int) ≤ rad) = true := decide_eq_true (by omega)
        clear hy1 hy2 hva
        go_wp2
        exact bodyPost_ret (v := .tuple #[.slice a1 nu m1, .bool true]) (by simp [results, Tryz.results91, go_sem]; omega) rfl ⟨HB4.out, _, by rw [HG.out], fun _ => HS4.out⟩
      · have HNG : Kept (¬ Good D xs ys Qu Rs k rad) := ⟨fun h => h3 (HGD2.out.1 h)⟩
        have HG := Kept.mk (HGN.out HNG.out)
        have g3 : decide ((ds : Int) ≤ rad) = false := decide_eq_false (by omega)
        clear hy1 hy2 hva
        go_wp2
        exact bodyPost_ret (v := .tuple #[.slice a1 nu m1, .bool false]) (by simp [results, Tryz.results91, go_sem]; omega) rfl ⟨HB4.out, _, by rw [HG.out], fun h => absurd h HNG.out⟩
end Go.Proofs.YtdnheaafcbihbaaGreat

set_option linter.unusedVariables false
set_option linter.unusedSimpArgs false
namespace Go.Proofs.YtdnheaafcbihbaaGreat
open Go Go.RowKit Go.Deep
open FFld (ints)
/-- A polynomial whose word is within the radius. -/
structure Near (D : FFld.FD) (xs ys : List Nat) (k t : Nat) (P : List Nat) : Prop where
  lt : ∀ a ∈ P, a < D.p ^ D.k
  tz : FFld.Tz P
  len : P.length ≤ k
  dis : disF (ints (FFld.valsF D P xs xs.length)) (ints ys) xs.length ≤ t
def sameL (xs ys : List Int) (n : Nat) : List Nat := (List.range n).filter fun j => decide (xs[j]?.getD 0 = ys[j]?.getD 0)
theorem same_len (xs ys : List Int) : ∀ n, (sameL xs ys n).length + disF xs ys n = n
  | 0 => rfl
  | n + 1 => by
    have ih := same_len xs ys n
    unfold sameL at ih ⊢
    rw [List.range_succ, List.filter_append, List.filter_cons, List.filter_nil, disF, List.length_append]
    by_cases h : xs[n]?.getD 0 = ys[n]?.getD 0
    · rw [if_pos (decide_eq_true h), if_pos h]
      simp only [List.length_cons, List.length_nil]
      omega
    · rw [if_neg (by simpa using h), if_neg h]
      simp only [List.length_nil]
      omega
theorem vals_get {D : FFld.FD} (P xs : List Nat) {j : Nat} (hj : j < xs.length) : (FFld.valsF D P xs xs.length)[j]?.getD 0 = FFld.hornF D (FFld.trm P) (xs[j]?.getD 0) (FFld.trm P).length := by
  unfold FFld.valsF
  rw [List.getElem?_map, List.getElem?_range hj]
  simp [hj]
theorem vals_ev {D : FFld.FD} (hD : D.Ok) {P xs : List Nat} (hP : ∀ a ∈ P, a < D.p ^ D.k) (tP : FFld.Tz P) (hx : ∀ a ∈ xs, a < D.p ^ D.k) {j : Nat} (hj : j < xs.length) : FFld.toE hD.pre.pk ((FFld.valsF D P xs xs.length)[j]?.getD 0) = FFld.evE hD P (FFld.plE hD xs j) := by
  rw [vals_get P xs hj, FFld.trm_self tP]
  exact FFld.horn_ev hD hP (FFld.at_lt hD hx j)
theorem gao_near {D : FFld.FD} (hD : D.Ok) {xs ys bf Q el E P : List Nat} {n k t : Nat} (g : FFld.GaoOk hD xs ys n bf Q el E) (lx : xs.length = n) (hx : ∀ a ∈ xs, a < D.p ^ D.k) (hd : ∀ i j, j < i → i < n → xs[i]?.getD 0 ≠ xs[j]?.getD 0) (lQ : Q.length + t ≤ n) (lb : n < bf.length + t) (hk : 2 * t + k ≤ n) (hN : Near D xs ys k t P) : FFld.quoF D E (FFld.invT D hD.pre.pk E) Q = P ∧ FFld.rstF D E (FFld.invT D hD.pre.pk E) Q = [] := by
  have h1 := g.len
  have h2 := g.up
  have h3 := hN.len
  have h4 := same_len (ints (FFld.valsF D P xs xs.length)) (ints ys) n
  have h5 := hN.dis
  rw [lx] at h4 h5
  refine FFld.near hD (xs := xs) (ys := ys) (n := n) (t := t) g.nlt g.elt hN.lt g.tn g.te hN.tz hx (by omega) (fun a b ha hb hab => ?_) lQ (by omega) g.ev2 (sameL (ints (FFld.valsF D P xs n)) (ints ys) n) (List.Pairwise.filter _ List.nodup_range) (fun j hj => ?_) (by omega) (fun j hj => ?_)
  · rcases Nat.lt_or_ge a b with h | h
    · exact (hd b a h hb).symm
    · exact hd a b (by omega) ha
  · exact List.mem_range.1 (List.mem_filter.1 hj).1
  · obtain ⟨h6, h7⟩ := List.mem_filter.1 hj
    have h8 := of_decide_eq_true h7
    rw [FFld.ints_get, FFld.ints_get] at h8
    have h9 := vals_ev hD hN.lt hN.tz hx (j := j) (by rw [lx]; exact List.mem_range.1 h6)
    rw [← h9, lx]
    unfold FFld.plE
    exact congrArg _ (Int.ofNat.inj h8)
theorem near_good {D : FFld.FD} (hD : D.Ok) {xs ys bf Q el E P : List Nat} {n k t : Nat} (g : FFld.GaoOk hD xs ys n bf Q el E) (lx : xs.length = n) (hx : ∀ a ∈ xs, a < D.p ^ D.k) (hd : ∀ i j, j < i → i < n → xs[i]?.getD 0 ≠ xs[j]?.getD 0) (lQ : Q.length + t ≤ n) (lb : n < bf.length + t) (hk : 2 * t + k ≤ n) (hN : Near D xs ys k t P) : Good D xs ys (FFld.quoF D E (FFld.invT D hD.pre.pk E) Q) (FFld.rstF D E (FFld.invT D hD.pre.pk E) Q) k t := by
  obtain ⟨h1, h2⟩ := gao_near hD g lx hx hd lQ lb hk hN
  rw [h1, h2]
  exact ⟨rfl, hN.len, hN.dis⟩
theorem good_near {D : FFld.FD} (hD : D.Ok) {xs ys bf Q el E : List Nat} {n k t : Nat} (g : FFld.GaoOk hD xs ys n bf Q el E) (h : Good D xs ys (FFld.quoF D E (FFld.invT D hD.pre.pk E) Q) (FFld.rstF D E (FFld.invT D hD.pre.pk E) Q) k t) : Near D xs ys k t (FFld.quoF D E (FFld.invT D hD.pre.pk E) Q) := by
  have h2 := g.up
  refine ⟨FFld.quoF_lt hD.pre.pk _ _ _, FFld.quo_tz hD g.elt g.nlt (by omega) ?_ g.tn, h.2.1, h.2.2⟩
  rcases g.te with h1 | h1
  · omega
  · exact h1
/-! The places that are kept. -/
theorem dif_get {es : List Int} {m i j : Nat} (h : difB es m = true) (hj : j < i) (hi : i < m) : es[i]?.getD 0 ≠ es[j]?.getD 0 := fun e => by
  have h1 := difB_no hj hi e
  rw [h1] at h
  cases h
theorem nodup_dif {es : List Int} {m : Nat} (h : difB es m = true) (hm : es.length = m) : es.Nodup := by
  refine List.pairwise_iff_getElem.2 fun i j hi hj hij e => ?_
  have h1 := dif_get h hij (by omega)
  rw [List.getElem?_eq_getElem hi, List.getElem?_eq_getElem hj] at h1
  exact h1 e.symm
theorem nodup_get {L : List Nat} (h : L.Nodup) {i j : Nat} (hj : j < i) (hi : i < L.length) : L[i]?.getD 0 ≠ L[j]?.getD 0 := by
  have h1 := List.pairwise_iff_getElem.1 h j i (by omega) hi hj
  rw [List.getElem?_eq_getElem hi, List.getElem?_eq_getElem (show j < L.length by omega)]
  exact fun e => h1 e.symm
theorem one_out (a : Nat) : ∀ (L : List Nat), L.Nodup → a ∈ L → (L.filter fun j : Nat => decide ((a : Int) ≠ (j : Int))).length + 1 = L.length
  | [], _, h => (by cases h)
  | b :: L, hn, h => by
    obtain ⟨h1, h2⟩ := List.nodup_cons.1 hn
    rw [List.filter_cons]
    by_cases e : b = a
    · subst e
      have hF : (L.filter fun j : Nat => decide ((b : Int) ≠ (j : Int))) = L := List.filter_eq_self.2 (fun j hj => decide_eq_true (fun e => h1 (by have e' : b = j := Int.ofNat.inj e; exact e' ▸ hj)))
      rw [if_neg (by simp), hF]
      rfl
    · rw [if_pos (decide_eq_true (p := ((a : Int) ≠ (b : Int))) (fun e' => e (Int.ofNat.inj e').symm))]
      have h3 := one_out a L h2 (by
        rcases List.mem_cons.1 h with h4 | h4
        · exact absurd h4.symm e
        · exact h4)
      simp only [List.length_cons]
      omega
theorem filter_out (n : Nat) : ∀ (es : List Int), es.Nodup → (∀ e ∈ es, 0 ≤ e ∧ e < n) → ((List.range n).filter fun j : Nat => es.all fun e => decide (e ≠ (j : Int))).length + es.length = n
  | [], _, _ => by
    have hF : ((List.range n).filter fun j : Nat => ([] : List Int).all fun e => decide (e ≠ (j : Int))) = List.range n := List.filter_eq_self.2 (fun _ _ => rfl)
    rw [hF]
    simp
  | e :: es, hn, hb => by
    obtain ⟨h1, h2⟩ := List.nodup_cons.1 hn
    have ih := filter_out n es h2 fun x hx => hb x (List.mem_cons_of_mem _ hx)
    obtain ⟨h3, h4⟩ := hb e (List.mem_cons_self ..)
    obtain ⟨a, rfl⟩ := Int.eq_ofNat_of_zero_le h3
    have h5 := one_out a ((List.range n).filter fun j : Nat => es.all fun e => decide (e ≠ (j : Int))) (List.Pairwise.filter _ List.nodup_range) (by
      rw [List.mem_filter]
      refine ⟨List.mem_range.2 (by omega), ?_⟩
      rw [List.all_eq_true]
      exact fun x hx => decide_eq_true fun ex => h1 (ex ▸ hx))
    rw [List.filter_filter] at h5
    simp only [List.all_cons, List.length_cons]
    omega
theorem kp_len {es : List Int} {n m : Nat} (hb : belB n es = true) (hd : difB es m = true) (hm : es.length = m) : (kpF es n).length + m = n := by
  have h := filter_out n es (nodup_dif hd hm) fun e he => by
    have := List.all_eq_true.1 hb e he
    exact of_decide_eq_true this
  rw [hm] at h
  exact h
theorem kp_nodup (es : List Int) (n : Nat) : (kpF es n).Nodup := List.Pairwise.filter _ List.nodup_range
theorem kp_lt {es : List Int} {n j : Nat} (h : j ∈ kpF es n) : j < n := List.mem_range.1 (List.mem_filter.1 h).1
theorem kp_nil (n : Nat) : kpF [] n = List.range n := by
  unfold kpF
  rw [List.filter_eq_self]
  intro a _
  rfl
/-- What is kept of a list. -/
def kpL (es : List Int) (n : Nat) (xs : List Nat) : List Nat := (kpF es n).map fun j => xs[j]?.getD 0
theorem kpL_len (es : List Int) (n : Nat) (xs : List Nat) : (kpL es n xs).length = (kpF es n).length := List.length_map ..
theorem kpL_lt {q : Nat} {es : List Int} {n : Nat} {xs : List Nat} (lx : xs.length = n) (h : ∀ a ∈ xs, a < q) : ∀ a ∈ kpL es n xs, a < q := fun a ha => by
  obtain ⟨j, hj, rfl⟩ := List.mem_map.1 ha
  exact h _ (FFld.get_mem (by rw [lx]; exact kp_lt hj))
theorem kpL_dif {es : List Int} {n : Nat} {xs : List Nat} (hd : ∀ i j, j < i → i < n → xs[i]?.getD 0 ≠ xs[j]?.getD 0) : ∀ i j, j < i → i < (kpL es n xs).length → (kpL es n xs)[i]?.getD 0 ≠ (kpL es n xs)[j]?.getD 0 := by
  have hnd : (kpL es n xs).Nodup := by
    unfold kpL
    have h1 := kp_nodup es n
    have h2 : ∀ j ∈ kpF es n, j < n := fun j hj => kp_lt hj
    generalize kpF es n = L at h1 h2
    induction L with
    | nil => exact List.nodup_nil
    | cons a L ih =>
      rw [List.map_cons, List.nodup_cons]
      obtain ⟨h3, h4⟩ := List.nodup_cons.1 h1
      refine ⟨fun hm => ?_, ih h4 fun j hj => h2 j (List.mem_cons_of_mem _ hj)⟩
      obtain ⟨b, hb, e⟩ := List.mem_map.1 hm
      have ha := h2 a (List.mem_cons_self ..)
      have hb' := h2 b (List.mem_cons_of_mem _ hb)
      rcases Nat.lt_trichotomy a b with h | h | h
      · exact hd b a h hb' e
      · exact h3 (h ▸ hb)
      · exact hd a b h ha e.symm
  exact fun i j hj hi => nodup_get hnd hj hi
/-- A valid code. -/
structure CodeV (D : FFld.FD) (xs : List Nat) (n k : Nat) : Prop where
  len : xs.length = n
  n64 : n ≤ 64
  k1 : 1 ≤ k
  kn : k ≤ n
  lt : ∀ a ∈ xs, a < D.p ^ D.k
  dif : ∀ i j, j < i → i < n → xs[i]?.getD 0 ≠ xs[j]?.getD 0
  chk : chkE (D.q : Int) (ints xs) k = 0
theorem CodeV.of {D : FFld.FD} (hD : D.Ok) {xs : List Nat} {n k : Nat} (lx : xs.length = n) (n64 : n ≤ 64) (k1 : 1 ≤ k) (kn : k ≤ n) (hx : ∀ a ∈ xs, a < D.p ^ D.k) (hd : difB (ints xs) n = true) : CodeV D xs n k := by
  refine ⟨lx, n64, k1, kn, hx, fun i j hj hi e => dif_get hd hj hi (by rw [FFld.ints_get, FFld.ints_get, e]), ?_⟩
  unfold chkE
  rw [FFld.ints_len, lx, if_pos ⟨D, hD, rfl⟩, if_neg (by omega), if_neg]
  rw [bel_ints hx, hd]
  simp
  omega
end Go.Proofs.YtdnheaafcbihbaaGreat
