import Derived.Test.YtfhhnfpapgfnmaaFmx
set_option linter.unusedVariables false
set_option linter.unusedSimpArgs false
namespace Go.Proofs.Ytfhhnfpapgfnmaa
open Go Go.RowKit Go.Deep
open FFld (ints)
namespace FFld
theorem addmF_at {D : FD} (xs : List Nat) (s : Nat) (q : List Nat) (c : Nat) : ∀ (j i : Nat), i < j → s + j ≤ xs.length → (addmF D xs s q c j)[s + i]?.getD 0 = padd D.p D.k (xs[s + i]?.getD 0) (pmul D.p D.k D.m (q[i]?.getD 0) D.k c)
  | 0, i, h, _ => by omega
  | j + 1, i, h, hl => by
    simp only [addmF]
    by_cases e : i = j
    · subst e
      rw [List.getElem?_set_self (by rw [addmF_len]; omega), addmF_old D xs s q c i (s + i) (.inr (Nat.le_refl _))]
      rfl
    · rw [List.getElem?_set_ne (by omega)]
      exact addmF_at xs s q c j i (by omega) (by omega)
end FFld
/-- The sum of the first i rows, each times an element. -/
def totF (D : FFld.FD) (rows : List (List Nat)) (ul : List Nat) (wd : Nat) : Nat → List Nat
  | 0 => List.replicate wd 0
  | i + 1 => FFld.addm D (totF D rows ul wd i) 0 (FFld.rowAt rows i) (ul[i]?.getD 0)
/-- Its element in the column c. -/
def colS (D : FFld.FD) (rows : List (List Nat)) (ul : List Nat) (c : Nat) : Nat → Nat
  | 0 => 0
  | i + 1 => FFld.padd D.p D.k (colS D rows ul c i) (FFld.pmul D.p D.k D.m (ul[i]?.getD 0) D.k (FFld.cellAt rows i c))
theorem totF_len (D : FFld.FD) (rows : List (List Nat)) (ul : List Nat) (wd i : Nat) : (totF D rows ul wd i).length = wd := by
  induction i with
  | zero => simp [totF]
  | succ i ih => simp only [totF]; rw [FFld.addm_len, ih]
theorem totF_lt {D : FFld.FD} (hk : FFld.PK D.p D.k D.m) (rows : List (List Nat)) (ul : List Nat) (wd i : Nat) : ∀ a ∈ totF D rows ul wd i, a < D.p ^ D.k := by
  induction i with
  | zero => intro a ha; rw [(List.mem_replicate.1 ha).2]; exact Nat.pow_pos hk.p0
  | succ i ih => exact FFld.addmF_lt hk _ _ _ _ ih
theorem colS_lt {D : FFld.FD} (hk : FFld.PK D.p D.k D.m) (rows : List (List Nat)) (ul : List Nat) (c i : Nat) : colS D rows ul c i < D.p ^ D.k := by
  cases i with
  | zero => exact Nat.pow_pos hk.p0
  | succ i => exact FFld.padd_lt hk _ _
theorem totF_at {D : FFld.FD} (hk : FFld.PK D.p D.k D.m) {rows : List (List Nat)} {ul : List Nat} {wd c : Nat} (hw : FFld.Wfm D wd rows) (hu : ∀ a ∈ ul, a < D.p ^ D.k) (hc : c < wd) : ∀ i, i ≤ rows.length → (totF D rows ul wd i)[c]?.getD 0 = colS D rows ul c i := by
  intro i
  induction i with
  | zero => intro _; simp [totF, colS, hc]
  | succ i ih =>
    intro hi
    simp only [totF, colS]
    have hl := (hw.row (i := i) (by omega)).1
    unfold FFld.addm
    rw [hl]
    have := FFld.addmF_at (D := D) (totF D rows ul wd i) 0 (FFld.rowAt rows i) (ul[i]?.getD 0) wd c hc (by rw [totF_len]; omega)
    rw [Nat.zero_add] at this
    rw [this, ih (by omega), FFld.pmul_comm hk _ _ (FFld.getD_lt (Nat.pow_pos hk.p0) (FFld.rowAt_lt hw i) c) (FFld.getD_lt (Nat.pow_pos hk.p0) hu i)]
    rfl
/-- w denies m x = b. -/
def dnB (D : FFld.FD) (rows : List (List Nat)) (ul bl : List Nat) (wd n : Nat) : Bool := decide ((∀ c, c < wd → colS D rows ul c n = 0) ∧ sopF D ul bl n ≠ 0)
theorem rows_cell {rows : List (List Nat)} {i : Nat} : (rows.map ints)[i]?.getD [] = ints (FFld.rowAt rows i) := by
  unfold FFld.rowAt
  rw [List.getElem?_map]
  cases rows[i]? <;> rfl
theorem rlen_wd {D : FFld.FD} {wd n : Nat} {rows : List (List Nat)} (hw : FFld.Wfm D wd rows) (hN : rows.length = n) (h0 : n = 0 → wd = 0) : rlen (rows.map ints) 0 = wd := by
  by_cases hn : n = 0
  · rw [h0 hn]
    exact rlen_zero (by rw [List.length_map]; omega)
  · unfold rlen
    rw [rows_cell, FFld.ints_len]
    exact (hw.row (i := 0) (by omega)).1
set_option maxRecDepth 20000 in
set_option maxHeartbeats 2000000 in
/-- The width of a matrix that came in. -/
theorem fwidth_any (fv : Value) (b : Nat) (ao : Option Addr) (rows : List (List Int)) (cap n : Nat) (w : World) (hn : rows.length = n) (hcap : n ≤ cap) (hmax : cap ≤ maxLen) (h : Sls w ao rows) :
    Calls Try.prog 111 #[.agg #[.pointer (some ⟨b, 0, none⟩), .slice ao n cap]] w (RB w (.int .i64 (rlen rows 0 : Nat))) := by
  have hb0 : Below w.heap.size w (w.alloc (.cells #[.pointer (some ⟨b, 0, none⟩), .slice ao n cap] 108)) := (Below.refl _ _).alloc (Nat.le_refl _) _
  obtain ⟨c0, c1, _⟩ := two_cells (heap_alloc_new w (.cells #[.pointer (some ⟨b, 0, none⟩), .slice ao n cap] 108))
  have HB := Kept.mk hb0
  unfold maxLen at hmax
  by_cases h0 : n = 0
  · subst h0
    have HE := Kept.mk (rlen_zero hn)
    rw [HE.out]
    clear h hn hb0
    go_enter Try.func111, Try.ntmps111
    go_wp2
    go_ret
    exact ⟨HB.out, rfl⟩
  · obtain ⟨g, o, rv, rfl, hg, hcell, hsl⟩ := h 0 (by omega)
    obtain ⟨a0, k0, rfl, hc0, hm0⟩ := hsl.form
    obtain ⟨r0, hr0⟩ : ∃ r, (rows[0]?.getD []).length = r := ⟨_, rfl⟩
    have hr : rlen rows 0 = r0 := hr0
    rw [hr0, Nat.add_zero] at hcell
    rw [hr]
    have e0 : ((n : Int) == 0) = false := by rw [beq_eq_false_iff_ne]; omega
    have hn0 : 0 < n := by omega
    have hc2 := (hb0.cell (p := ⟨g, o, none⟩) hg).trans hcell
    clear hr hr0 hsl h0 h hc0 hm0 hn hb0 hcell
    go_enter Try.func111, Try.ntmps111
    go_wp2
    go_ret
    exact ⟨HB.out, rfl⟩
set_option maxRecDepth 20000 in
set_option maxHeartbeats 4000000 in
theorem fdenies_good {D : FFld.FD} {b : Nat} (hD : D.Ok) (rows : List (List Nat)) (ao : Option Addr) (cap : Nat) (vb vw : Value) (bl ul : List Nat) (wd n : Nat) (w : World) (hf : FldB D w b) (h : Sls w ao (rows.map ints)) (hcap : n ≤ cap) (hmax : cap ≤ maxLen) (hb : Sl .i64 w vb (ints bl)) (hu : Sl .i64 w vw (ints ul)) (hN : rows.length = n) (hn : n ≤ 64) (hw : FFld.Wfm D wd rows) (hwd : wd ≤ 64) (h0 : n = 0 → wd = 0) (hbl : bl.length = n) (hbq : ∀ a ∈ bl, a < D.p ^ D.k) (hul : ul.length = n) (huq : ∀ a ∈ ul, a < D.p ^ D.k) :
    Calls Try.prog 48 #[.pointer (some ⟨b, 0, none⟩), .slice ao n cap, vb, vw] w (RB w (.bool (dnB D rows ul bl wd n))) := by
  have HC := Kept.mk (checkEquations_any (rows.map ints) ao cap vb (ints bl) w hf h (by rw [List.length_map]; omega) hmax hb)
  rw [qErr_ok hw hN hn hwd hbl hbq, List.length_map, hN] at HC
  have HA := Kept.mk (areElements_any vw (ints ul) w hf hu)
  rw [elsB_ints huq] at HA
  have HWD := Kept.mk (fun W (hW : Below w.heap.size w W) => fwidth_any (.int .i64 0) b ao (rows.map ints) cap n W (by rw [List.length_map]; exact hN) hcap hmax (h.below hW))
  rw [rlen_wd hw hN h0] at HWD
  have HSP := Kept.mk (fun W (hW : Below w.heap.size w W) => sop_any vw vb ul bl W (hf.below hW) (hu.below hW) (hb.below hW) (by omega) huq hbq (by omega))
  rw [hul] at HSP
  have HAM := Kept.mk (fun W g xs (hW : Below w.heap.size w W) (hg : w.heap.size ≤ g) (hx : Wv W g xs) (hxq : ∀ c ∈ xs, c < D.p ^ D.k) (cc : Nat) q aq cq (hq : Qc g aq q W) (hqq : ∀ c ∈ q, c < D.p ^ D.k) (hs : 0 + q.length ≤ xs.length) a ha hql => addMultiple_any (s := 0) (n := xs.length) (cc := cc) (cap := cq) w W hf hW hg xs hx hxq q hq hqq hs (by omega) a ha hql)
  have HROW : Kept (∀ i, i < n → ∃ g o aq cq, ao = some ⟨g, o, none⟩ ∧ g < w.heap.size ∧ w.cell? ⟨g, o + i, none⟩ = some (.slice aq wd cq) ∧ Sl .i64 w (.slice aq wd cq) (ints (FFld.rowAt rows i))) := ⟨fun i hi => by
    obtain ⟨g, o, rv, e, hg, hc, hs⟩ := h i (by rw [List.length_map]; omega)
    rw [rows_cell] at hs
    obtain ⟨aq, cq, rfl, h1, h2⟩ := hs.form
    rw [FFld.ints_len, (hw.row (i := i) (by omega)).1] at hc hs
    exact ⟨g, o, aq, cq, e, hg, hc, hs⟩⟩
  have HRQ := Kept.mk (fun i => FFld.rowAt_lt hw i)
  have HRL : Kept (∀ i, i < n → (FFld.rowAt rows i).length = wd) := ⟨fun i hi => (hw.row (i := i) (by omega)).1⟩
  have HTL := Kept.mk (fun i => totF_len D rows ul wd i)
  have HTQ := Kept.mk (fun i => totF_lt hD.pre.pk rows ul wd i)
  have HTA : Kept (∀ c, c < wd → (totF D rows ul wd n)[c]?.getD 0 = colS D rows ul c n) := ⟨fun c hc => totF_at hD.pre.pk hw huq hc n (by omega)⟩
  have HUQ := Kept.mk (fun i => FFld.getD_lt (Nat.pow_pos hD.pre.pk.p0) huq i)
  obtain ⟨au, cu, hvu, hcu, hmu⟩ := hu.form
  subst hvu
  rw [FFld.ints_len, hul] at hcu ⊢
  rw [FFld.ints_len, hul] at HA HSP
  rw [FFld.ints_len, hul] at hu
  have HUC := Kept.mk (hu.cells (Nat.le_refl _))
  have HUL := Kept.mk hul
  unfold maxLen at hmax hmu
  have enn : ((n : Int) == (n : Int)) = true := by simp
  have ez : (((0 : Nat) : Int) == 0) = true := rfl
  clear h hb hu hN hw hbq huq hul hbl
  go_enter Try.func48, Try.ntmps48
  go_wp2_with fail
  refine HC.out.mono ?_
  rintro e w2 ⟨rfl, rfl⟩
  go_wp2_with fail
  refine HA.out.mono ?_
  rintro e w2 ⟨rfl, rfl⟩
  go_wp2_with fail
  refine (HWD.out _ (Below.refl _ _)).mono ?_
  rintro e w3 ⟨hb3, rfl⟩
  have HB3 := Kept.mk hb3
  have hz3 := hb3.size
  clear hb3 HC HA HWD
  go_wp2_with (at_make; refine wpList_make_zeros _ rfl _ _ 34 rfl 3 .i64 Try.underlying34 info_i64 _ _ wd rfl rfl (by omega) (by omega) (by omega) ?_)
  intro w4 hrow hbel
  rw [FFld.ints_rep] at hrow
  have HW4 : Kept (Wv w4 w3.heap.size (totF D rows ul wd 0)) := ⟨hrow.wv⟩
  have HB4 := Kept.mk (bstep HB3.out hbel)
  obtain ⟨g, hg⟩ : ∃ g, w3.heap.size = g := ⟨_, rfl⟩
  rw [hg] at HW4 hz3
  clear hrow hbel HB3
  go_wp2
  try rw [hg]
  clear hg
  go_loopw [37] (fun iv wr => ∃ i : Nat, i ≤ n ∧ iv = .int .i64 i ∧ Kept (Wv wr g (totF D rows ul wd i)) ∧ Kept (Below w.heap.size w wr)) (fun iv _ => n - (intOf iv).toNat)
  case atStart => exact ⟨0, Nat.zero_le _, rfl, HW4, HB4⟩
  case round =>
    obtain ⟨i, hin, rfl, hwv, hbw⟩ := hrel
    by_cases hlt : i < n
    · obtain ⟨gr, orr, aq, cq, rfl, hgr, hcr, hsr⟩ := HROW.out i hlt
      have icr := (hbw.out.cell (p := ⟨gr, orr + i, none⟩) hgr).trans hcr
      obtain ⟨bu, ou, rfl, icu⟩ := HUC.out _ hbw.out i (by rw [HUL.out]; exact hlt)
      obtain ⟨u, hu⟩ : ∃ u, ul[i]?.getD 0 = u := ⟨_, rfl⟩
      have huq : u < D.p ^ D.k := by rw [← hu]; exact HUQ.out i
      rw [hu] at icu
      obtain ⟨R, hR⟩ : ∃ R, totF D rows ul wd i = R := ⟨_, rfl⟩
      have HNX : Kept (totF D rows ul wd (i + 1) = FFld.addm D R 0 (FFld.rowAt rows i) u) := ⟨by simp only [totF]; rw [hR, hu]⟩
      have hRl : R.length = wd := by rw [← hR]; exact HTL.out i
      have HRQ2 : Kept (∀ a ∈ R, a < D.p ^ D.k) := ⟨by rw [← hR]; exact HTQ.out i⟩
      rw [hR] at hwv
      have hql := HRL.out i hlt
      have hAm := HAM.out wr g R hbw.out hz3 hwv.out HRQ2.out wd (FFld.rowAt rows i) aq cq (hsr.qc hbw.out hz3) (HRQ.out i) (by rw [hRl, hql]; omega) u huq (by rw [hql]; omega)
      rw [hRl, hql] at hAm
      have HAm := Kept.mk hAm
      clear hAm hu hR hsr hcr hql hRl
      go_wp2_with fail
      refine HAm.out.mono ?_
      rintro e w7 ⟨rfl, hg7, hw7⟩
      have HW7 := Kept.mk hw7
      have HB7 := Kept.mk (belowGrow hg7 hbw.out hz3)
      clear hg7 hw7 HAm
      go_wp2
      go_roundw
      case rel => exact ⟨i + 1, by omega, by go_num, ⟨by rw [HNX.out]; exact HW7.out⟩, HB7⟩
      case measure => simp [intOf] <;> omega
    · obtain rfl : i = n := by omega
      have hTl : (totF D rows ul wd i).length = wd := HTL.out i
      have HTR := Kept.mk (trimmed_any (totF D rows ul wd i) (some ⟨g, 0, none⟩) wd wr (hwv.out.sl (n := (totF D rows ul wd i).length) (c := wd) rfl (by rw [hTl]; exact Nat.le_refl _) (by unfold maxLen; omega)))
      rw [hTl] at HTR
      clear hTl
      go_wp2_with fail
      refine HTR.out.mono ?_
      rintro e w5 ⟨rfl, nt, hnt, rfl, hzz, hnz⟩
      by_cases hnt0 : nt = 0
      · subst hnt0
        obtain ⟨s, hs⟩ : ∃ s, sopF D ul bl i = s := ⟨_, rfl⟩
        have HDN : Kept (dnB D rows ul bl wd i = !((s : Int) == 0)) := ⟨by
          have h1 : ∀ c, c < wd → colS D rows ul c i = 0 := fun c hc => by rw [← HTA.out c hc]; exact hzz c (Nat.zero_le _)
          unfold dnB
          rw [hs]
          by_cases hs0 : s = 0
          · subst hs0; simp
          · have : ((s : Int) == 0) = false := by rw [beq_eq_false_iff_ne]; omega
            rw [this, decide_eq_true (show _ ∧ _ from ⟨h1, hs0⟩)]
            rfl⟩
        have hSP := Kept.mk (HSP.out wr hbw.out)
        rw [hs] at hSP
        clear hs hzz hnz
        go_wp2_with fail
        refine hSP.out.mono ?_
        rintro e w6 ⟨hb6, rfl⟩
        have HB6 := Kept.mk (bstep hbw.out hb6)
        clear hb6 hSP
        by_cases hs0 : s = 0
        · subst hs0
          go_wp2
          go_ret
          exact ⟨HB6.out, by rw [HDN.out]; rfl⟩
        · have es : ((s : Int) == 0) = false := by rw [beq_eq_false_iff_ne]; omega
          have es2 : ((s : Int) != 0) = true := by rw [bne_iff_ne]; omega
          go_wp2
          go_ret
          exact ⟨HB6.out, by rw [HDN.out, es]; rfl⟩
      · have HDN : Kept (dnB D rows ul bl wd i = false) := ⟨by
          rcases hnz with h | h
          · exact absurd h hnt0
          · have hlt2 : nt - 1 < wd := by omega
            unfold dnB
            refine decide_eq_false (fun hh => h ?_)
            rw [HTA.out _ hlt2]
            exact hh.1 _ hlt2⟩
        have ent : ((nt : Int) == 0) = false := by rw [beq_eq_false_iff_ne]; omega
        clear hzz hnz hnt0
        go_wp2
        go_ret
        exact ⟨hbw.out, by rw [HDN.out]; rfl⟩
end Go.Proofs.Ytfhhnfpapgfnmaa
