/-
  Texts of the proof, merged by program: Mr Ms.
-/
import Derived.Test.YtfhhnfpapgfnmaaZ24
set_option linter.unusedVariables false
set_option linter.unusedSimpArgs false
namespace Go.Proofs.Ytfhhnfpapgfnmaa
open Go Go.RowKit Go.Deep
open FFld (ints)
theorem unitR_lt {q n i : Nat} (hq : 1 < q) : ∀ a ∈ unitR n i, a < q := FFld.mem_set (fun c hc => by rw [List.eq_of_mem_replicate hc]; omega) hq
theorem idM_wf {D : FFld.FD} (h : FFld.PK D.p D.k D.m) (n : Nat) : FFld.Wfm D n (idM n) := fun r hr => by
  obtain ⟨i, _, rfl⟩ := List.mem_map.1 hr
  exact ⟨by simp [unitR], unitR_lt h.one_lt⟩
theorem eok_start {D : FFld.FD} (h : FFld.PK D.p D.k D.m) {rows : List (List Nat)} {wd n : Nat} (hw : FFld.Wfm D wd rows) (hn : rows.length = n) : FFld.EOk D wd n n ⟨rows, idM n, []⟩ :=
  ⟨hn, by simp [idM], hw, idM_wf h n, Nat.zero_le _⟩
theorem cols_lt {D : FFld.FD} (h : FFld.PK D.p D.k D.m) {s : FFld.ESt} (h0 : s.cols = []) (c : Nat) : ∀ x ∈ (FFld.elimF D h s c).cols, x < c := by
  induction c with
  | zero => intro x hx; simp only [FFld.elimF] at hx; rw [h0] at hx; simp at hx
  | succ c ih =>
    intro x hx
    simp only [FFld.elimF, FFld.stepF] at hx
    split at hx
    · exact Nat.lt_succ_of_lt (ih x hx)
    · simp only at hx
      rcases List.mem_append.1 hx with h1 | h1
      · exact Nat.lt_succ_of_lt (ih x h1)
      · have := List.mem_singleton.1 h1
        omega
theorem wid_eq {D : FFld.FD} {wd m n : Nat} {s : FFld.ESt} (h : FFld.EOk D wd m n s) (h0 : n = 0 → wd = 0) : wid s.A = wd := by
  unfold wid
  by_cases hn : n = 0
  · have := h.la
    unfold FFld.rowAt
    rw [List.getElem?_eq_none (by omega), h0 hn]
    rfl
  · exact (h.wa.row (i := 0) (by have := h.la; omega)).1
theorem RH.ok.sl {w : World} {r : RH} (h : r.ok w) : Sl .i64 w r.val (ints r.xs) := by
  obtain ⟨b, c, l⟩ := r
  cases b with
  | none =>
    have : l = [] := h
    subst this
    exact Sl.nil _ _
  | some g => exact h.1.sl rfl h.2.1 h.2.2
/-- A row of the record. -/
theorem ElS.rrow {B hi b G1 G2 n : Nat} {w W : World} {sv : Value} {cols : List Nat} {A R : List (List Nat)} (h : ElS B hi b G1 G2 n w sv cols A R W) {D : FFld.FD} {m i : Nat} (hR : FFld.Wfm D m R) (hi' : i < n) : ∃ ao c, W.cell? ⟨G2, i, none⟩ = some (.slice ao m c) ∧ Sl .i64 W (.slice ao m c) (ints (FFld.rowAt R i)) ∧ (0 < m → ∃ g, ao = some ⟨g, 0, none⟩) := by
  have hlen := h.len.2
  obtain ⟨L1, L2, h⟩ := h
  have hx : (rowH L2 i).xs = FFld.rowAt R i := by rw [rowH_xs, h.r]
  have hw := (hR.row (i := i) (by omega)).1
  have hok := h.pr.m2.ok _ (rowH_mem (i := i) (by rw [h.lr]; exact hi'))
  have hcell := h.pr.m2.cell (i := i) (by rw [h.lr]; exact hi')
  have hsl := hok.sl
  obtain ⟨cap, hv, h1, h2⟩ := hok.form
  rw [hx] at hsl
  rw [hv, hx, hw] at hcell hsl
  refine ⟨_, cap, hcell, hsl, fun hm => ?_⟩
  obtain ⟨g, hg, _⟩ := hok.blk1 (by rw [hx]; omega)
  exact ⟨g, by rw [hg]; rfl⟩
theorem Sl.news_at {K : IntKind} {w : World} {ao : Option Addr} {n cap : Nat} {xs : List Int} (h : Sl K w (.slice ao n cap) xs) (i : Nat) (hi : i < xs.length) : ∃ g o, ao = some ⟨g, o, none⟩ ∧ g < w.heap.size ∧ w.cell? ⟨g, o + i, none⟩ = some (.int K (xs[i]?.getD 0)) := by
  obtain ⟨ao', cap', e, hc, hm, hx⟩ := h
  simp only [Value.slice.injEq] at e
  obtain ⟨rfl, _, _⟩ := e
  obtain ⟨b, o, e2, h1, h2⟩ := hx i hi
  exact ⟨b, o, e2, h1, h2⟩
/-- The value of the record's row j. -/
def sopV (D : FFld.FD) (s : FFld.ESt) (bl : List Nat) (j : Nat) : Nat := sopF D (FFld.rowAt s.R j) bl (FFld.rowAt s.R j).length
/-- The solution, as far as it is laid. -/
def solF (D : FFld.FD) (s : FFld.ESt) (bl : List Nat) (wd : Nat) : Nat → List Nat
  | 0 => List.replicate wd 0
  | i + 1 => (solF D s bl wd i).set (s.cols[i]?.getD 0) (sopV D s bl i)
theorem solF_len (D : FFld.FD) (s : FFld.ESt) (bl : List Nat) (wd i : Nat) : (solF D s bl wd i).length = wd := by
  induction i with
  | zero => simp [solF]
  | succ i ih => simp only [solF, List.length_set, ih]
/-- What solve returns. -/
def SvRet (D : FFld.FD) (s : FFld.ESt) (bl : List Nat) (wd n : Nat) (w : World) (e : Ending) (w' : World) : Prop := Below w.heap.size w w' ∧ ∃ vx vd, e = .returned (.tuple #[vx, vd]) ∧
  ((∃ i, s.cols.length ≤ i ∧ i < n ∧ (∀ j, s.cols.length ≤ j → j < i → sopV D s bl j = 0) ∧ sopV D s bl i ≠ 0 ∧ vx = .slice none 0 0 ∧ (∃ g c, vd = .slice (some ⟨g, 0, none⟩) n c) ∧ Sl .i64 w' vd (ints (FFld.rowAt s.R i))) ∨
   ((∀ j, s.cols.length ≤ j → j < n → sopV D s bl j = 0) ∧ vd = .slice none 0 0 ∧ (∃ g c, vx = .slice (some ⟨g, 0, none⟩) wd c) ∧ Sl .i64 w' vx (ints (solF D s bl wd s.cols.length))))
set_option maxRecDepth 20000 in
set_option maxHeartbeats 8000000 in
theorem solve_any {D : FFld.FD} {b : Nat} (hD : D.Ok) (rows : List (List Nat)) (ao : Option Addr) (cap : Nat) (vb : Value) (bl : List Nat) (wd n : Nat) (w : World) (hf : FldB D w b) (h : Sls w ao (rows.map ints)) (hb : Sl .i64 w vb (ints bl)) (hN : rows.length = n) (hn : n ≤ 64) (hw : FFld.Wfm D wd rows) (hwd : wd ≤ 64) (h0 : n = 0 → wd = 0) (hbl : bl.length = n) (hbq : ∀ a ∈ bl, a < D.p ^ D.k) :
    Calls Try.prog 109 #[.pointer (some ⟨b, 0, none⟩), .slice ao n cap, vb] w (SvRet D (FFld.elimF D hD.pre.pk ⟨rows, idM n, []⟩ wd) bl wd n w) := by
  have hk := hD.pre.pk
  have HRC := Kept.mk (fun W (hW : Below w.heap.size w W) => recorded_any b rows ao cap W (h.below hW) (by omega) (fun r hr => by rw [(hw r hr).1]; omega))
  rw [hN] at HRC
  have hes := eok_start hk hw hN
  have HEL := Kept.mk (fun hi G1 G2 L1 L2 W (hbW : Below w.heap.size w W) (hhi : hi ≤ W.heap.size) (hp : Pr w.heap.size hi W G1 G2 L1 L2) (e1 : L1.map RH.xs = rows) (e2 : L2.map RH.xs = idM n) => eliminate_any hD hi b G1 G2 n wd n L1 L2 ⟨rows, idM n, []⟩ w W hf hbW hhi hp hes e1 e2 rfl (by omega) (by omega) (by omega) (wid_eq hes h0))
  have hef := hes.elim hk wd
  have HCL := Kept.mk (cols_lt hk (s := ⟨rows, idM n, []⟩) rfl wd)
  obtain ⟨s, hs⟩ : ∃ s, FFld.elimF D hk ⟨rows, idM n, []⟩ wd = s := ⟨_, rfl⟩
  rw [hs] at hef HCL
  have hsx : FFld.elimF D hD.pre.pk ⟨rows, idM n, []⟩ wd = s := hs
  rw [hsx] at HEL ⊢
  have HEF := Kept.mk hef
  have HWI := Kept.mk (wid_eq hef h0)
  have HSOP := Kept.mk (fun W (hW : Below w.heap.size w W) i va (hi : i < n) (hva : Sl .i64 W va (ints (FFld.rowAt s.R i))) => show Calls Try.prog 112 #[.pointer (some ⟨b, 0, none⟩), va, vb] W (RB W (.int .i64 (sopV D s bl i : Nat))) from
    sop_any va vb (FFld.rowAt s.R i) bl W (hf.below hW) hva (hb.below hW) (by have := (hef.wr.row (i := i) (by rw [hef.lr]; exact hi)).1; omega) (hef.wr.row (i := i) (by rw [hef.lr]; exact hi)).2 hbq (by have := (hef.wr.row (i := i) (by rw [hef.lr]; exact hi)).1; omega))
  obtain ⟨k, hkk⟩ : ∃ k, s.cols.length = k := ⟨_, rfl⟩
  have hkn : k ≤ n := by rw [← hkk]; exact hef.cl
  have HKK := Kept.mk hkk
  have HN := Kept.mk hN
  unfold SvRet
  rw [hkk]
  clear hs hsx hes hef hf h hb hN hw hbq hbl hkk
  go_enter Try.func109, Try.ntmps109
  go_wp2_with fail
  refine (HRC.out _ (Below.refl _ _)).mono ?_
  rintro e w1 ⟨hb1, G1, G2, L1, L2, hi, rfl, hhi, hp1, hx1, hx2⟩
  rw [HN.out] at hx2
  rw [HN.out]
  have hs1 := hb1.size
  have hbx : Below w1.heap.size w1 (w1.alloc (prbox b G1 G2 n)) := (Below.refl _ _).alloc (Nat.le_refl _) _
  have hw1 := bstep hb1 hbx
  have hEl := Kept.mk (HEL.out hi G1 G2 L1 L2 _ hw1 (by simp; omega) (hp1.below hbx) hx1 hx2)
  have HBW := Kept.mk hw1
  obtain ⟨b0, b1, b2, b3⟩ := four_cells_ (heap_alloc_new w1 (prbox b G1 G2 n))
  have hp_b1 := hp1.b1
  have hp_b2 := hp1.b2
  have hp_b3 := hp1.b3
  have hns : w1.heap.size < (w1.alloc (prbox b G1 G2 n)).heap.size := by simp
  clear hb1 hp1 hx1 hx2 HEL HRC hbx hw1
  go_wp2_with fail
  obtain ⟨W1, hW1⟩ : ∃ W, w1.alloc (prbox b G1 G2 n) = W := ⟨_, rfl⟩
  rw [hW1] at hEl HBW b0 b1 b2 b3 hns
  try rw [hW1]
  clear hW1
  refine hEl.out.mono ?_
  rintro e w2 ⟨vc, rfl, hes⟩
  have HES := Kept.mk hes
  have hcg := hes.chg
  have HB2 := Kept.mk (hcg.below HBW.out)
  have c0 := hcg.cell b0 (.inr (by omega))
  have c1 := hcg.cell b1 (.inr (by omega))
  have c2 := hcg.cell b2 (.inr (by omega))
  have c3 := hcg.cell b3 (.inr (by omega))
  have hcz := hcg.size
  have hcm := hes.colsM
  obtain ⟨ac, cc, rfl, hcc, hcx⟩ := hcm.sl.form
  rw [FFld.ints_len, HKK.out] at hcc ⊢
  have HCM := Kept.mk hcm
  clear hes hcg hcm hEl b0 b1 b2 b3
  have hi1 : (k : Int) ≤ n := by omega
  have hi2 : (0 : Int) ≤ (k : Int) := by omega
  by_cases hkl : k = n
  · obtain rfl := hkl
    obtain ⟨nk, hnk⟩ : ∃ m, k - k = m := ⟨_, rfl⟩
    have hnk0 : nk = 0 := by omega
    go_wp2
    go_loopw [26] (fun iv wr => ∃ (i : Nat), i ≤ nk ∧ iv = .int .i64 i ∧ Kept (∀ j, k ≤ j → j < k + i → sopV D s bl j = 0) ∧ Kept (Below w2.heap.size w2 wr)) (fun iv _ => nk - (intOf iv).toNat)
    case atStart => exact ⟨0, Nat.zero_le _, rfl, ⟨fun j h1 h2 => by omega⟩, ⟨Below.refl _ _⟩⟩
    case round =>
      obtain ⟨i, hin, rfl, hz, hbx⟩ := hrel
      by_cases hlt : i < nk
      · exfalso
        omega
      · obtain rfl : i = nk := by omega
        have HZ : Kept (∀ j, k ≤ j → j < k → sopV D s bl j = 0) := ⟨fun j h1 h2 => hz.out j h1 (by omega)⟩
        have c0 := belowCell hbx.out c0
        have c1 := belowCell hbx.out c1
        have c3 := belowCell hbx.out c3
        have HES2 := Kept.mk (HES.out.below hbx.out)
        have HWD : Kept (Calls Try.prog 111 #[mxv b G1 k] wr (RB wr (.int .i64 wd))) := ⟨by
          obtain ⟨L1', L2', hx⟩ := HES2.out
          have := width_any b G1 k L1' wr hx.pr.m1 hx.la
          rw [hx.a, HWI.out] at this
          exact this⟩
        go_wp2_with fail
        refine HWD.out.mono ?_
        rintro e w4 ⟨hb4, rfl⟩
        have HB4 := Kept.mk (bstep (bstep HB2.out hbx.out) hb4)
        have HES4 := Kept.mk (HES2.out.below hb4)
        have c3 := belowCell hb4 c3
        have HCC := Kept.mk (((HCM.out.sl).below hbx.out).below hb4)
        have hz4 := hb4.size
        have hzx := hbx.out.size
        have hz0 := HB4.out.size
        clear hb4 HES2 HWD
        go_wp2_with (at_make; refine wpList_make_zeros _ rfl _ _ 34 rfl 3 .i64 Try.underlying34 info_i64 _ _ wd rfl rfl (by omega) (by omega) (by omega) ?_)
        intro w5 hrow hbel
        rw [FFld.ints_rep] at hrow
        have HQ5 := Kept.mk hrow.wv
        have HB5 := Kept.mk hbel
        clear hrow hbel
        obtain ⟨g5, hg5⟩ : ∃ g, w4.heap.size = g := ⟨_, rfl⟩
        have hz : True := trivial
        go_wp2
        rw [hg5] at HQ5 ⊢
        go_loopw [43] (fun iv wr => ∃ (i : Nat) (xs : List Nat), i ≤ k ∧ iv = .int .i64 i ∧ Kept (solF D s bl wd i = xs) ∧ Kept (Wv wr g5 xs) ∧ Kept (Below w4.heap.size w4 wr)) (fun iv _ => k - (intOf iv).toNat)
        case atStart => exact ⟨0, _, Nat.zero_le _, rfl, ⟨rfl⟩, HQ5, HB5⟩
        case round =>
          obtain ⟨i, xs, hin, rfl, hxs, hwv, hbw⟩ := hrel
          have hxl : xs.length = wd := by rw [← hxs.out]; exact solF_len _ _ _ _ _
          by_cases hlt : i < k
          · obtain ⟨ag, ao1, hao, hagl, hac⟩ := (HCC.out.below hbw.out).news_at i (by rw [FFld.ints_len, HKK.out]; exact hlt)
            subst hao
            rw [FFld.ints_get] at hac
            obtain ⟨col, hcol⟩ : ∃ col, s.cols[i]?.getD 0 = col := ⟨_, rfl⟩
            rw [hcol] at hac
            have hcw : col < wd := by
              rw [← hcol, List.getElem?_eq_getElem (by rw [HKK.out]; exact hlt)]
              exact HCL.out _ (List.getElem_mem _)
            have hes := HES4.out.below hbw.out
            have d3 := belowCell hbw.out c3
            obtain ⟨ra, rc, hrc, hrs, hrg⟩ := hes.rrow HEF.out.wr (i := i) (by omega)
            have hbw0 := bstep HB4.out hbw.out
            have hS := Kept.mk (HSOP.out wr hbw0 i _ (by omega) hrs)
            obtain ⟨v, hv⟩ : ∃ v, sopV D s bl i = v := ⟨_, rfl⟩
            rw [hv] at hS
            have HNX : Kept (solF D s bl wd (i + 1) = xs.set col v) := ⟨by simp only [solF]; rw [hxs.out, hcol, hv]⟩
            clear hes hrs hbw0 hcol hv
            go_wp2_with fail
            refine hS.out.mono ?_
            rintro e w6 ⟨hb6, rfl⟩
            have HW6 := Kept.mk (hwv.out.below hb6)
            have HB6 := Kept.mk (bstep hbw.out hb6)
            have u1 := HW6.out.cell (i := col) (by omega)
            have u2 := HW6.out.free col
            clear hb6 hS
            go_wp2
            go_roundw
            case rel => exact ⟨i + 1, _, by omega, by go_num, HNX, ⟨HW6.out.set v⟩, ⟨HB6.out.setCell (p := ⟨g5, col, none⟩) (by simp; omega) _⟩⟩
            case measure => simp [intOf] <;> omega
          · obtain rfl : i = k := by omega
            have HSX := Kept.mk (hwv.out.sl (n := wd) (c := wd) hxl.symm (Nat.le_refl _) (by unfold maxLen; omega))
            go_wp2
            go_ret2
            exact ⟨bstep HB4.out hbw.out, _, _, rfl, .inr ⟨HZ.out, rfl, ⟨g5, wd, rfl⟩, by rw [hxs.out]; exact HSX.out⟩⟩
  · obtain ⟨nk, hnk⟩ : ∃ m, n - k = m := ⟨_, rfl⟩
    have hnk2 : k + nk = n := by omega
    have hkl2 : k < n := by omega
    go_wp2
    go_loopw [26] (fun iv wr => ∃ (i : Nat), i ≤ nk ∧ iv = .int .i64 i ∧ Kept (∀ j, k ≤ j → j < k + i → sopV D s bl j = 0) ∧ Kept (Below w2.heap.size w2 wr)) (fun iv _ => nk - (intOf iv).toNat)
    case atStart => exact ⟨0, Nat.zero_le _, rfl, ⟨fun j h1 h2 => by omega⟩, ⟨Below.refl _ _⟩⟩
    case round =>
      obtain ⟨i, hin, rfl, hz, hbx⟩ := hrel
      by_cases hlt : i < nk
      · obtain ⟨ra, rc, hrc, hrs, hrg⟩ := (HES.out.below hbx.out).rrow HEF.out.wr (i := k + i) (by omega)
        obtain ⟨gr, rfl⟩ := hrg (by omega)
        have HRS := Kept.mk hrs
        have hS := Kept.mk (HSOP.out wr (bstep HB2.out hbx.out) (k + i) _ (by omega) hrs)
        obtain ⟨v, hv⟩ : ∃ v, sopV D s bl (k + i) = v := ⟨_, rfl⟩
        rw [hv] at hS
        have HV := Kept.mk hv
        clear hrs hv hrg
        by_cases hv0 : v = 0
        · subst hv0
          have e0 : (((0 : Nat) : Int) == 0) = true := rfl
          go_wp2_with fail
          refine hS.out.mono ?_
          rintro e w3 ⟨hb3, rfl⟩
          have HB3 := Kept.mk (bstep hbx.out hb3)
          clear hb3 hS
          go_wp2
          go_roundw
          case rel => exact ⟨i + 1, by omega, by go_num, ⟨fun j h1 h2 => by
            by_cases e : j = k + i
            · rw [e]; exact HV.out
            · exact hz.out j h1 (by omega)⟩, HB3⟩
          case measure => simp [intOf] <;> omega
        · have e0 : ((v : Int) == 0) = false := by rw [beq_eq_false_iff_ne]; omega
          have HV0 := Kept.mk hv0
          clear hv0
          go_wp2_with fail
          refine hS.out.mono ?_
          rintro e w3 ⟨hb3, rfl⟩
          have HB3 := Kept.mk hb3
          clear hb3 hS
          go_wp2
          go_ret2
          exact ⟨bstep (bstep HB2.out hbx.out) HB3.out, _, _, rfl, .inl ⟨k + i, by omega, by omega, hz.out, by rw [HV.out]; exact HV0.out, rfl, ⟨gr, rc, rfl⟩, HRS.out.below HB3.out⟩⟩
      · obtain rfl : i = nk := by omega
        have HZ : Kept (∀ j, k ≤ j → j < n → sopV D s bl j = 0) := ⟨fun j h1 h2 => hz.out j h1 (by omega)⟩
        have c0 := belowCell hbx.out c0
        have c1 := belowCell hbx.out c1
        have c3 := belowCell hbx.out c3
        have HES2 := Kept.mk (HES.out.below hbx.out)
        have HWD : Kept (Calls Try.prog 111 #[mxv b G1 n] wr (RB wr (.int .i64 wd))) := ⟨by
          obtain ⟨L1', L2', hx⟩ := HES2.out
          have := width_any b G1 n L1' wr hx.pr.m1 hx.la
          rw [hx.a, HWI.out] at this
          exact this⟩
        go_wp2_with fail
        refine HWD.out.mono ?_
        rintro e w4 ⟨hb4, rfl⟩
        have HB4 := Kept.mk (bstep (bstep HB2.out hbx.out) hb4)
        have HES4 := Kept.mk (HES2.out.below hb4)
        have c3 := belowCell hb4 c3
        have HCC := Kept.mk (((HCM.out.sl).below hbx.out).below hb4)
        have hz4 := hb4.size
        have hzx := hbx.out.size
        have hz0 := HB4.out.size
        clear hb4 HES2 HWD
        go_wp2_with (at_make; refine wpList_make_zeros _ rfl _ _ 34 rfl 3 .i64 Try.underlying34 info_i64 _ _ wd rfl rfl (by omega) (by omega) (by omega) ?_)
        intro w5 hrow hbel
        rw [FFld.ints_rep] at hrow
        have HQ5 := Kept.mk hrow.wv
        have HB5 := Kept.mk hbel
        clear hrow hbel
        obtain ⟨g5, hg5⟩ : ∃ g, w4.heap.size = g := ⟨_, rfl⟩
        have hz : True := trivial
        go_wp2
        rw [hg5] at HQ5 ⊢
        go_loopw [43] (fun iv wr => ∃ (i : Nat) (xs : List Nat), i ≤ k ∧ iv = .int .i64 i ∧ Kept (solF D s bl wd i = xs) ∧ Kept (Wv wr g5 xs) ∧ Kept (Below w4.heap.size w4 wr)) (fun iv _ => k - (intOf iv).toNat)
        case atStart => exact ⟨0, _, Nat.zero_le _, rfl, ⟨rfl⟩, HQ5, HB5⟩
        case round =>
          obtain ⟨i, xs, hin, rfl, hxs, hwv, hbw⟩ := hrel
          have hxl : xs.length = wd := by rw [← hxs.out]; exact solF_len _ _ _ _ _
          by_cases hlt : i < k
          · obtain ⟨ag, ao1, hao, hagl, hac⟩ := (HCC.out.below hbw.out).news_at i (by rw [FFld.ints_len, HKK.out]; exact hlt)
            subst hao
            rw [FFld.ints_get] at hac
            obtain ⟨col, hcol⟩ : ∃ col, s.cols[i]?.getD 0 = col := ⟨_, rfl⟩
            rw [hcol] at hac
            have hcw : col < wd := by
              rw [← hcol, List.getElem?_eq_getElem (by rw [HKK.out]; exact hlt)]
              exact HCL.out _ (List.getElem_mem _)
            have hes := HES4.out.below hbw.out
            have d3 := belowCell hbw.out c3
            obtain ⟨ra, rc, hrc, hrs, hrg⟩ := hes.rrow HEF.out.wr (i := i) (by omega)
            have hbw0 := bstep HB4.out hbw.out
            have hS := Kept.mk (HSOP.out wr hbw0 i _ (by omega) hrs)
            obtain ⟨v, hv⟩ : ∃ v, sopV D s bl i = v := ⟨_, rfl⟩
            rw [hv] at hS
            have HNX : Kept (solF D s bl wd (i + 1) = xs.set col v) := ⟨by simp only [solF]; rw [hxs.out, hcol, hv]⟩
            clear hes hrs hbw0 hcol hv
            go_wp2_with fail
            refine hS.out.mono ?_
            rintro e w6 ⟨hb6, rfl⟩
            have HW6 := Kept.mk (hwv.out.below hb6)
            have HB6 := Kept.mk (bstep hbw.out hb6)
            have u1 := HW6.out.cell (i := col) (by omega)
            have u2 := HW6.out.free col
            clear hb6 hS
            go_wp2
            go_roundw
            case rel => exact ⟨i + 1, _, by omega, by go_num, HNX, ⟨HW6.out.set v⟩, ⟨HB6.out.setCell (p := ⟨g5, col, none⟩) (by simp; omega) _⟩⟩
            case measure => simp [intOf] <;> omega
          · obtain rfl : i = k := by omega
            have HSX := Kept.mk (hwv.out.sl (n := wd) (c := wd) hxl.symm (Nat.le_refl _) (by unfold maxLen; omega))
            go_wp2
            go_ret2
            exact ⟨bstep HB4.out hbw.out, _, _, rfl, .inr ⟨HZ.out, rfl, ⟨g5, wd, rfl⟩, by rw [hxs.out]; exact HSX.out⟩⟩
end Go.Proofs.Ytfhhnfpapgfnmaa

set_option linter.unusedVariables false
set_option linter.unusedSimpArgs false
namespace Go.Proofs.Ytfhhnfpapgfnmaa
open Go Go.RowKit Go.Deep
open FFld (ints)
theorem elsB_ints {D : FFld.FD} {l : List Nat} (h : ∀ a ∈ l, a < D.p ^ D.k) : elsB D (ints l) = true := by
  unfold elsB ints
  rw [List.all_map, List.all_eq_true]
  intro a ha
  have := h a ha
  have hq : D.q = D.p ^ D.k := rfl
  simp only [Function.comp, decide_eq_true_eq]
  rw [hq]
  omega
theorem rows_len (rows : List (List Nat)) (i : Nat) : ((rows.map ints)[i]?.getD []).length = (FFld.rowAt rows i).length := by
  unfold FFld.rowAt
  rw [List.getElem?_map]
  cases rows[i]? with
  | none => rfl
  | some r => simp [ints]
theorem mErr_ok {D : FFld.FD} {wd n : Nat} {rows : List (List Nat)} (hw : FFld.Wfm D wd rows) (hN : rows.length = n) (hn : n ≤ 64) (hwd : wd ≤ 64) : mErr D (rows.map ints) = 0 := by
  unfold mErr
  rw [List.length_map, hN]
  by_cases h0 : n = 0
  · rw [if_pos h0]
  · have h1 : rlen (rows.map ints) 0 = wd := by
      unfold rlen
      rw [rows_len]
      exact (hw.row (i := 0) (by omega)).1
    rw [if_neg h0, h1, if_neg (by omega), if_pos, if_pos]
    · rw [List.all_map, List.all_eq_true]
      intro r hr
      exact elsB_ints (hw r hr).2
    · rw [List.all_map, List.all_eq_true]
      intro r hr
      simp [FFld.ints_len, (hw r hr).1]
theorem qErr_ok {D : FFld.FD} {wd n : Nat} {rows : List (List Nat)} {bl : List Nat} (hw : FFld.Wfm D wd rows) (hN : rows.length = n) (hn : n ≤ 64) (hwd : wd ≤ 64) (hbl : bl.length = n) (hbq : ∀ a ∈ bl, a < D.p ^ D.k) : qErr D (rows.map ints) (ints bl) = 0 := by
  unfold qErr
  rw [mErr_ok hw hN hn hwd, if_pos rfl, FFld.ints_len, List.length_map, if_pos (by omega), elsB_ints hbq]
  rfl
/-- What Deny returns of equations. -/
def DnRet (D : FFld.FD) (s : FFld.ESt) (bl : List Nat) (wd n : Nat) (w : World) (e : Ending) (w' : World) : Prop := Below w.heap.size w w' ∧
  ((∃ i vd, s.cols.length ≤ i ∧ i < n ∧ sopV D s bl i ≠ 0 ∧ e = .returned (.tuple #[vd, .bool true]) ∧ Sl .i64 w' vd (ints (FFld.rowAt s.R i)) ∧ ∃ ao c, vd = .slice ao n c) ∨
   ((∀ j, s.cols.length ≤ j → j < n → sopV D s bl j = 0) ∧ e = .returned (.tuple #[.slice none 0 0, .bool false])))
set_option maxRecDepth 20000 in
set_option maxHeartbeats 2000000 in
theorem deny_any {D : FFld.FD} {b : Nat} (hD : D.Ok) (rows : List (List Nat)) (ao : Option Addr) (cap : Nat) (vb : Value) (bl : List Nat) (wd n : Nat) (w : World) (hf : FldB D w b) (h : Sls w ao (rows.map ints)) (hcap : n ≤ cap) (hmax : cap ≤ maxLen) (hb : Sl .i64 w vb (ints bl)) (hN : rows.length = n) (hn : n ≤ 64) (hw : FFld.Wfm D wd rows) (hwd : wd ≤ 64) (h0 : n = 0 → wd = 0) (hbl : bl.length = n) (hbq : ∀ a ∈ bl, a < D.p ^ D.k) :
    Calls Try.prog 40 #[.pointer (some ⟨b, 0, none⟩), .slice ao n cap, vb] w (DnRet D (FFld.elimF D hD.pre.pk ⟨rows, idM n, []⟩ wd) bl wd n w) := by
  have HC := Kept.mk (checkEquations_any (rows.map ints) ao cap vb (ints bl) w hf h (by rw [List.length_map]; omega) hmax hb)
  rw [qErr_ok hw hN hn hwd hbl hbq, List.length_map, hN] at HC
  have HS := Kept.mk (solve_any hD rows ao cap vb bl wd n w hf h hb hN hn hw hwd h0 hbl hbq)
  have hnil := fun (wx : World) (a : Option Addr) (m c : Nat) => Lib.run_eql_slice_nil (P := Try.prog) wx 34 3 a m c 0 0 Try.underlying34
  generalize FFld.elimF D hD.pre.pk ⟨rows, idM n, []⟩ wd = s at *
  clear hf h hb hN hw hbq hbl
  unfold maxLen at hmax
  go_enter Try.func40, Try.ntmps40
  go_wp2_with fail
  refine HC.out.mono ?_
  rintro e w2 ⟨rfl, rfl⟩
  go_wp2_with fail
  refine HS.out.mono ?_
  rintro e w2 ⟨hb2, vx, vd, rfl, hcase⟩
  have HB2 := Kept.mk hb2
  clear hb2 HC HS
  rcases hcase with ⟨i, h1, h2, hz, hv, rfl, ⟨g, c, rfl⟩, hsl⟩ | ⟨hz, rfl, ⟨g, c, rfl⟩, hsl⟩
  · have HSL := Kept.mk hsl
    have HV := Kept.mk hv
    have hn1 := hnil w2 (some ⟨g, 0, none⟩) n c
    simp only [Option.isNone_some] at hn1
    clear hsl hv hz hnil
    go_wp2
    go_ret2
    exact ⟨HB2.out, .inl ⟨i, _, h1, h2, HV.out, rfl, HSL.out, _, _, rfl⟩⟩
  · have HZ := Kept.mk hz
    have hn1 := hnil w2 none 0 0
    simp only [Option.isNone_none] at hn1
    clear hsl hz hnil
    go_wp2
    go_ret2
    exact ⟨HB2.out, .inr ⟨HZ.out, rfl⟩⟩
set_option maxRecDepth 20000 in
set_option maxHeartbeats 2000000 in
/-- What is no equations is not denied. -/
theorem deny_no {D : FFld.FD} {b : Nat} (rows : List (List Int)) (ao : Option Addr) (cap : Nat) (vb : Value) (bl : List Int) (w : World) (hf : FldB D w b) (h : Sls w ao rows) (hcap : rows.length ≤ cap) (hmax : cap ≤ maxLen) (hb : Sl .i64 w vb bl) (hq : qErr D rows bl ≠ 0) :
    Calls Try.prog 40 #[.pointer (some ⟨b, 0, none⟩), .slice ao rows.length cap, vb] w (fun e w' => w = w' ∧ e = .returned (.tuple #[.slice none 0 0, .bool false])) := by
  have HC := Kept.mk (checkEquations_any rows ao cap vb bl w hf h hcap hmax hb)
  obtain ⟨q, hqq⟩ : ∃ q, qErr D rows bl = q := ⟨_, rfl⟩
  rw [hqq] at HC hq
  have e0 : ((q : Int) == 0) = false := by rw [beq_eq_false_iff_ne]; omega
  clear hf h hb hq hqq
  go_enter Try.func40, Try.ntmps40
  go_wp2_with fail
  refine HC.out.mono ?_
  rintro e w2 ⟨rfl, rfl⟩
  go_wp2
  go_ret2
  exact ⟨rfl, rfl⟩
end Go.Proofs.Ytfhhnfpapgfnmaa
