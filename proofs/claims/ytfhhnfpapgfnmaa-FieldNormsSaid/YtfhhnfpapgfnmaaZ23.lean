/-
  Texts of the proof, merged by program: Mn.
-/
import Derived.Test.YtfhhnfpapgfnmaaZ22
import Derived.WalkMore
set_option linter.unusedVariables false
set_option linter.unusedSimpArgs false
namespace Go.Proofs.Ytfhhnfpapgfnmaa
open Go Go.RowKit Go.Deep
open FFld (ints)
/-- What eliminate returns. -/
def ElRet (B hi b G1 G2 n : Nat) (s : FFld.ESt) (w : World) (e : Ending) (w' : World) : Prop := ∃ v, e = .returned v ∧ ElS B hi b G1 G2 n w v s.cols s.A s.R w'
set_option maxRecDepth 20000 in
set_option maxHeartbeats 8000000 in
theorem eliminate_any {D : FFld.FD} (hD : D.Ok) (hi b G1 G2 n wd m : Nat) (L1 L2 : List RH) (s0 : FFld.ESt) (w0 w : World) (hf : FldB D w0 b) (hb : Below w0.heap.size w0 w) (hhi : hi ≤ w.heap.size) (hp : Pr w0.heap.size hi w G1 G2 L1 L2) (hs : FFld.EOk D wd m n s0) (ha : L1.map RH.xs = s0.A) (hr : L2.map RH.xs = s0.R) (hc0 : s0.cols = [])
    (hn : n ≤ 1000) (hwd : wd ≤ 1000) (hm : m ≤ 1000) (hw : wid s0.A = wd) :
    Calls Try.prog 106 #[prv b G1 G2 n] w (ElRet w0.heap.size hi b G1 G2 n (FFld.elimF D hD.pre.pk s0 wd) w) := by
  have hk := hD.pre.pk
  have hst : ElS w0.heap.size hi b G1 G2 n w (.slice none 0 0) [] s0.A s0.R (w.alloc (prbox b G1 G2 n)) := ⟨L1, L2, hhi, Chg.ofBelow ((Below.refl _ _).alloc (Nat.le_refl _) _), heap_alloc_new _ _, hp.below ((Below.refl _ _).alloc (Nat.le_refl _) _), ha, hr, Mine.nil _ _ _ _, by rw [← hs.la, ← ha, List.length_map], by rw [← hs.lr, ← hr, List.length_map]⟩
  have HST := Kept.mk hst
  have HE := Kept.mk (fun c => hs.elim hk c)
  have HF := Kept.mk hf
  have HB := Kept.mk hb
  have HW := Kept.mk hw
  have HC0 := Kept.mk hc0
  have hB1 := hp.b1
  have hB2 := hp.b2
  have hB3 := hp.b3
  clear hst hp hs ha hr hc0 hf hb hw
  go_enter Try.func106, Try.ntmps106
  obtain ⟨c0, c1, c2, c3⟩ := four_cells_ HST.out.box
  go_wp2_with fail
  obtain ⟨W0, hW0⟩ : ∃ W, w.alloc (prbox b G1 G2 n) = W := ⟨_, rfl⟩
  rw [hW0] at HST c0 c1 c2 c3
  try rw [hW0]
  clear hW0
  refine (els_width HST.out).mono ?_
  rintro e W1 ⟨rfl, h1⟩
  rw [HW.out]
  have HS1 := Kept.mk h1
  clear h1 c0 c1 c2 c3 HST
  go_wp2
  go_loopw [10, 2] (fun cv sv wr => ∃ (c : Nat), c ≤ wd ∧ cv = .int .i64 c ∧ Kept (ElS w0.heap.size hi b G1 G2 n w sv (FFld.elimF D hk s0 c).cols (FFld.elimF D hk s0 c).A (FFld.elimF D hk s0 c).R wr)) (fun cv _ _ => wd - (intOf cv).toNat)
  case atStart => exact ⟨0, Nat.zero_le _, rfl, ⟨by simp only [FFld.elimF]; rw [HC0.out]; exact HS1.out⟩⟩
  case round =>
    obtain ⟨c, hc, rfl, hat⟩ := hrel
    by_cases hlt : c < wd
    · obtain ⟨A, hA⟩ : ∃ A, (FFld.elimF D hk s0 c).A = A := ⟨_, rfl⟩
      obtain ⟨R, hR⟩ : ∃ R, (FFld.elimF D hk s0 c).R = R := ⟨_, rfl⟩
      obtain ⟨cols, hcols⟩ : ∃ R, (FFld.elimF D hk s0 c).cols = R := ⟨_, rfl⟩
      have hok := HE.out c
      have hokA := hok.wa
      have hokR := hok.wr
      have hokl := hok.cl
      rw [hA] at hokA
      rw [hR] at hokR
      rw [hcols] at hokl
      rw [hA, hR, hcols] at hat
      obtain ⟨top, htop⟩ : ∃ top, cols.length = top := ⟨_, rfl⟩
      obtain ⟨_, _, sao, scap, hsv, hsc, hsm, _⟩ := (⟨0, 0, hat.out.colsM.sl⟩ : ∃ _ _ : Nat, Sl .i64 wr _ (ints cols))
      rw [FFld.ints_len, htop] at hsv hsc
      subst hsv
      rw [htop] at hokl
      have HNX : Kept (FFld.elimF D hk s0 (c + 1) = FFld.stepF D hk c ⟨A, R, cols⟩) := ⟨by simp only [FFld.elimF]; congr 1; rw [← hA, ← hR, ← hcols]⟩
      have HOA := Kept.mk hokA
      have HOR := Kept.mk hokR
      have HLA := Kept.mk hat.out.len.1
      have HTOP := Kept.mk htop
      clear hA hR hcols hok hokA hokR htop
      obtain ⟨c0, c1, c2, c3⟩ := four_cells_ hat.out.box
      obtain ⟨tgt, htgt⟩ : ∃ t, FFld.piv A c (n - top) top = t := ⟨_, rfl⟩
      have HTG : Kept (FFld.piv A c (A.length - cols.length) cols.length = tgt) := ⟨by rw [HTOP.out, HLA.out, htgt]⟩
      go_wp2
      go_loopw [5] (fun rv wr' => ∃ (row : Nat), top ≤ row ∧ row ≤ n ∧ rv = .int .i64 row ∧ Kept (FFld.piv A c (n - row) row = tgt) ∧ wr = wr') (fun rv _ => n - (intOf rv).toNat)
      case atStart => exact ⟨top, Nat.le_refl _, hokl, rfl, ⟨htgt⟩, rfl⟩
      case round =>
        obtain ⟨row, hr1, hr2, rfl, hpv, rfl⟩ := hrel
        by_cases hrn : row < n
        · obtain ⟨g, cap, hcr, hcp, hcm, hce⟩ := hat.out.cell HOA.out (i := row) (c := c) hrn hlt
          obtain ⟨x, hx⟩ : ∃ x, FFld.cellAt A row c = x := ⟨_, rfl⟩
          rw [hx] at hce
          by_cases hx0 : x = 0
          · subst hx0
            have e0 : (((0 : Nat) : Int) == 0) = true := rfl
            have HPN : Kept (FFld.piv A c (n - (row + 1)) (row + 1) = tgt) := ⟨by
              have := hpv.out
              rw [show n - row = n - (row + 1) + 1 from by omega] at this
              simp only [FFld.piv] at this
              rw [if_pos hx] at this
              exact this⟩
            clear hx hpv
            go_wp2
            go_roundw
            case rel => exact ⟨row + 1, by omega, by omega, by go_num, HPN, trivial⟩
            case measure => simp [intOf] <;> omega
          · have e0 : ((x : Int) == 0) = false := by rw [beq_eq_false_iff_ne]; omega
            have HRT : Kept (tgt = row) := ⟨by
              have := hpv.out
              rw [show n - row = n - (row + 1) + 1 from by omega] at this
              simp only [FFld.piv] at this
              rw [if_neg (by omega)] at this
              exact this.symm⟩
            have en : ((row : Int) == n) = false := by rw [beq_eq_false_iff_ne]; omega
            have hxq : x < D.p ^ D.k := by rw [← hx]; exact HOA.out.cell hk _ _
            have HXX : Kept (FFld.cellAt (FFld.exch [] A top row) top c = x) := ⟨by
              unfold FFld.cellAt
              rw [rowAt_exch A (by rw [HLA.out]; omega) (by rw [HLA.out]; omega)]
              exact hx⟩
            have HNXT := Kept.mk (HNX.out.trans (step_eq D hk c (HTG.out.trans HRT.out) (by rw [HLA.out]; omega) (by rw [HLA.out, HTOP.out]; omega) hx))
            have HLR := Kept.mk hat.out.len.2
            obtain ⟨iv, hiv⟩ : ∃ iv, FFld.ppow hk x (D.q - 2) = iv := ⟨_, rfl⟩
            have hivq : iv < D.p ^ D.k := by rw [← hiv]; exact FFld.ppow_lt _ _ _
            have hIn := Kept.mk (fun W (hW : Below w0.heap.size w0 W) => inverse_any hD x W (HF.out.below hW) hxq hx0)
            rw [hiv] at hIn
            rw [HTOP.out, HLA.out, hiv] at HNXT
            obtain ⟨A1, hA1⟩ : ∃ A1, FFld.exch [] A top row = A1 := ⟨_, rfl⟩
            obtain ⟨R1, hR1⟩ : ∃ R1, FFld.exch [] R top row = R1 := ⟨_, rfl⟩
            have HOA1 : Kept (FFld.Wfm D wd A1) := ⟨by rw [← hA1]; exact HOA.out.exch (by rw [HLA.out]; omega) (by rw [HLA.out]; omega)⟩
            have HOR1 : Kept (FFld.Wfm D m R1) := ⟨by rw [← hR1]; exact HOR.out.exch (by rw [HLR.out]; omega) (by rw [HLR.out]; omega)⟩
            have htn : top < n := by omega
            have hMu := Kept.mk (fun W hS => els_mult (sv := .slice sao top scap) (cols := cols) (hi := hi) (G1 := G1) (G2 := G2) (W := W) HF.out HB.out hS HOA1.out HOR1.out (by omega) (by omega) htn hivq)
            have hEx := Kept.mk (els_exch hat.out htn hrn)
            rw [hA1, hR1] at hEx
            rw [hA1] at HXX
            rw [hA1, hR1] at HNXT
            clear hpv hx hiv hA1 hR1
            go_wp2_with fail
            refine hEx.out.mono ?_
            rintro e W2 ⟨rfl, hcg2, h2⟩
            have HS2 := Kept.mk h2
            obtain ⟨d0, d1, d2, d3⟩ := four_cells_ h2.box
            obtain ⟨g1, cap1, u1, hcp1, hcm1, u2⟩ := h2.cell HOA1.out (i := top) (c := c) htn hlt
            rw [HXX.out] at u2
            have HB2w := Kept.mk (h2.chg.below HB.out)
            clear hcg2 h2 c0 c1 c2 c3 hcr hce hEx hat
            go_wp2
            refine wp_region_held_drew (S := fun w' => w'.cell? ⟨w.heap.size, 0, none⟩ = some (.pointer (some ⟨b, 0, none⟩)) ∧ w'.cell? ⟨w.heap.size, 1, none⟩ = some (.slice (some ⟨G1, 0, none⟩) n n) ∧ w'.cell? ⟨w.heap.size, 2, none⟩ = some (.pointer (some ⟨b, 0, none⟩)) ∧ w'.cell? ⟨w.heap.size, 3, none⟩ = some (.slice (some ⟨G2, 0, none⟩) n n)) (by kernel_rfl) ⟨d0, d1, d2, d3⟩ (fun hHeld => ?_)
            refine wpAnyH_take (i := 0) (v := ?_) rfl (by kernel_rfl) (by kernel_rfl) (by kernel_rfl) (fun _ _ _ h => h) (Or.inl ⟨by rfl, ?_⟩) (by assumption) ?_
            rotate_left
            · (intro w hSw; (try dsimp only at hSw); go_simp; (try with_reducible rfl))
            try simp only [Act.put, List.getElem_toArray, List.getElem_cons_succ, List.getElem_cons_zero, List.setIfInBounds_toArray, List.set_cons_zero, List.set_cons_succ]
            refine wpAnyH_take (i := 1) (v := ?_) rfl (by kernel_rfl) (by kernel_rfl) (by kernel_rfl) (fun _ _ _ h => h) (Or.inl ⟨by rfl, ?_⟩) (by assumption) ?_
            rotate_left
            · (intro w hSw; (try dsimp only at hSw); go_simp; (try with_reducible rfl))
            try simp only [Act.put, List.getElem_toArray, List.getElem_cons_succ, List.getElem_cons_zero, List.setIfInBounds_toArray, List.set_cons_zero, List.set_cons_succ]
            refine wpAnyH_take (i := 2) (v := ?_) rfl (by kernel_rfl) (by kernel_rfl) (by kernel_rfl) (fun _ _ _ h => h) (Or.inl ⟨by rfl, ?_⟩) (by assumption) ?_
            rotate_left
            · (intro w hSw; (try dsimp only at hSw); go_simp; (try with_reducible rfl))
            try simp only [Act.put, List.getElem_toArray, List.getElem_cons_succ, List.getElem_cons_zero, List.setIfInBounds_toArray, List.set_cons_zero, List.set_cons_succ]
            refine wpAnyH_take (i := 3) (v := ?_) rfl (by kernel_rfl) (by kernel_rfl) (by kernel_rfl) (fun _ _ _ h => h) (Or.inl ⟨by rfl, ?_⟩) (by assumption) ?_
            rotate_left
            · (intro w hSw; (try dsimp only at hSw); go_simp; (try with_reducible rfl))
            try simp only [Act.put, List.getElem_toArray, List.getElem_cons_succ, List.getElem_cons_zero, List.setIfInBounds_toArray, List.set_cons_zero, List.set_cons_succ]
            refine wpAnyH_take (i := 4) (v := ?_) rfl (by kernel_rfl) (by kernel_rfl) (by kernel_rfl) (fun _ _ _ h => h) (Or.inl ⟨by rfl, ?_⟩) (by assumption) ?_
            rotate_left
            · (intro w hSw; (try dsimp only at hSw); go_simp; (try with_reducible rfl))
            try simp only [Act.put, List.getElem_toArray, List.getElem_cons_succ, List.getElem_cons_zero, List.setIfInBounds_toArray, List.set_cons_zero, List.set_cons_succ]
            refine wpAnyH_take (i := 5) (v := ?_) rfl (by kernel_rfl) (by kernel_rfl) (by kernel_rfl) (fun _ _ _ h => h) (Or.inl ⟨by rfl, ?_⟩) (by assumption) ?_
            rotate_left
            · (intro w hSw; (try dsimp only at hSw); go_simp; (try with_reducible rfl))
            try simp only [Act.put, List.getElem_toArray, List.getElem_cons_succ, List.getElem_cons_zero, List.setIfInBounds_toArray, List.set_cons_zero, List.set_cons_succ]
            refine wpAnyH_take (i := 6) (v := ?_) rfl (by kernel_rfl) (by kernel_rfl) (by kernel_rfl) (fun _ _ _ h => h) (Or.inl ⟨by rfl, ?_⟩) (by assumption) ?_
            rotate_left
            · (intro w hSw; (try dsimp only at hSw); go_simp; (try with_reducible rfl))
            try simp only [Act.put, List.getElem_toArray, List.getElem_cons_succ, List.getElem_cons_zero, List.setIfInBounds_toArray, List.set_cons_zero, List.set_cons_succ]
            refine wpAnyH_take (i := 7) (v := ?_) rfl (by kernel_rfl) (by kernel_rfl) (by kernel_rfl) (fun _ _ _ h => h) (Or.inl ⟨by rfl, ?_⟩) (by assumption) ?_
            rotate_left
            · (intro w hSw; (try dsimp only at hSw); go_simp; (try with_reducible rfl))
            try simp only [Act.put, List.getElem_toArray, List.getElem_cons_succ, List.getElem_cons_zero, List.setIfInBounds_toArray, List.set_cons_zero, List.set_cons_succ]
            refine wpAnyH_take (i := 8) (v := ?_) rfl (by kernel_rfl) (by kernel_rfl) (by kernel_rfl) (fun _ _ _ h => h) (Or.inl ⟨by rfl, ?_⟩) (by assumption) ?_
            rotate_left
            · (intro w hSw; (try dsimp only at hSw); go_simp; (try with_reducible rfl))
            try simp only [Act.put, List.getElem_toArray, List.getElem_cons_succ, List.getElem_cons_zero, List.setIfInBounds_toArray, List.set_cons_zero, List.set_cons_succ]
            refine wpAnyH_take (i := 9) (v := ?_) rfl (by kernel_rfl) (by kernel_rfl) (by kernel_rfl) (fun _ _ _ h => h) (Or.inl ⟨by rfl, ?_⟩) (by assumption) ?_
            rotate_left
            · (intro w hSw; (try dsimp only at hSw); go_simp; (try with_reducible rfl))
            try simp only [Act.put, List.getElem_toArray, List.getElem_cons_succ, List.getElem_cons_zero, List.setIfInBounds_toArray, List.set_cons_zero, List.set_cons_succ]
            refine wpAnyH_take (i := 11) (v := ?_) rfl (by kernel_rfl) (by kernel_rfl) (by kernel_rfl) (fun _ _ _ h => h) (Or.inl ⟨by rfl, ?_⟩) (by assumption) ?_
            rotate_left
            · (intro w hSw; (try dsimp only at hSw); go_simp; (try with_reducible rfl))
            try simp only [Act.put, List.getElem_toArray, List.getElem_cons_succ, List.getElem_cons_zero, List.setIfInBounds_toArray, List.set_cons_zero, List.set_cons_succ]
            refine wpAnyH_ready (rs := [10]) (by kernel_rfl) (by simp) ?_
            refine (AllReadyH.cons rfl (fun K hK => ?_) AllReadyH.nil)
            go_simp
            refine hK.out _ _ ⟨d0, d1, d2, d3⟩ (fun hHeld => ?_)
            clear hK K
            try simp only [Act.put, List.getElem_toArray, List.getElem_cons_succ, List.getElem_cons_zero, List.setIfInBounds_toArray, List.set_cons_zero, List.set_cons_succ]
            refine wpAnyH_take (i := 12) (v := ?_) rfl (by kernel_rfl) (by kernel_rfl) (by kernel_rfl) (fun _ _ _ h => h) (Or.inl ⟨by rfl, ?_⟩) (by assumption) ?_
            rotate_left
            · (intro w hSw; (try dsimp only at hSw); go_simp; (try with_reducible rfl))
            try simp only [Act.put, List.getElem_toArray, List.getElem_cons_succ, List.getElem_cons_zero, List.setIfInBounds_toArray, List.set_cons_zero, List.set_cons_succ]
            refine wpAnyH_ready (rs := [13]) (by kernel_rfl) (by simp) ?_
            refine (AllReadyH.cons rfl (fun K hK => ?_) AllReadyH.nil)
            go_simp
            refine hK.out _ _ ⟨d0, d1, d2, d3⟩ (fun hHeld => ?_)
            clear hK K
            try simp only [Act.put, List.getElem_toArray, List.getElem_cons_succ, List.getElem_cons_zero, List.setIfInBounds_toArray, List.set_cons_zero, List.set_cons_succ]
            refine wpAnyH_ready (rs := [14]) (by kernel_rfl) (by simp) ?_
            refine (AllReadyH.cons rfl (fun K hK => ?_) AllReadyH.nil)
            go_simp
            refine (hIn.out _ HB2w.out.drew).mono ?_
            rintro e w4 ⟨hb4, rfl⟩
            have HB4 : Kept (Below W2.heap.size W2 w4) := ⟨(Below.refl _ _).drew.trans hb4⟩
            have HS4 := Kept.mk (HS2.out.below HB4.out)
            have k0 := belowCell HB4.out d0
            have k1 := belowCell HB4.out d1
            have k2 := belowCell HB4.out d2
            have k3 := belowCell HB4.out d3
            clear hb4
            refine hK.out _ _ ⟨k0, k1, k2, k3⟩ (fun hHeld => ?_)
            clear hK K
            try simp only [Act.put, List.getElem_toArray, List.getElem_cons_succ, List.getElem_cons_zero, List.setIfInBounds_toArray, List.set_cons_zero, List.set_cons_succ]
            refine wpAnyH_ready (rs := [15]) (by kernel_rfl) (by simp) ?_
            refine (AllReadyH.cons rfl (fun K hK => ?_) AllReadyH.nil)
            go_simp
            refine (hMu.out _ HS4.out).mono ?_
            rintro e w5 ⟨rfl, hcg5, h5⟩
            have HS5 := Kept.mk h5
            obtain ⟨l0, l1, l2, l3⟩ := four_cells_ h5.box
            clear hcg5 h5
            refine hK.out _ _ ⟨l0, l1, l2, l3⟩ (fun hHeld => ?_)
            clear hK K
            try simp only [Act.put, List.getElem_toArray, List.getElem_cons_succ, List.getElem_cons_zero, List.setIfInBounds_toArray, List.set_cons_zero, List.set_cons_succ]
            refine wpAnyH_done (by kernel_rfl) ?_ _
            obtain ⟨A2, hA2⟩ : ∃ A2, FFld.mulAt D A1 top iv = A2 := ⟨_, rfl⟩
            obtain ⟨R2, hR2⟩ : ∃ R2, FFld.mulAt D R1 top iv = R2 := ⟨_, rfl⟩
            have HOA2 : Kept (FFld.Wfm D wd A2) := ⟨by rw [← hA2]; exact HOA1.out.mul hk _ _⟩
            have HOR2 : Kept (FFld.Wfm D m R2) := ⟨by rw [← hR2]; exact HOR1.out.mul hk _ _⟩
            rw [hA2, hR2] at HS5 HNXT
            clear hA2 hR2 d0 d1 d2 d3 k0 k1 k2 k3 u1 u2 hHeld
            go_wp2
            go_loopw [66] (fun iv' wr' => ∃ (i : Nat), i ≤ n ∧ iv' = .int .i64 i ∧ Kept (ElS w0.heap.size hi b G1 G2 n w (.slice sao top scap) cols (FFld.subsF D top c (A2, R2) i).1 (FFld.subsF D top c (A2, R2) i).2 wr')) (fun iv' _ => n - (intOf iv').toNat)
            case atStart => exact ⟨0, Nat.zero_le _, rfl, HS5⟩
            case round =>
              obtain ⟨i, hin, rfl, hs6⟩ := hrel
              obtain ⟨d0, d1, d2, d3⟩ := four_cells_ hs6.out.box
              by_cases hi6 : i < n
              · by_cases hit : i = top
                · have HSK : Kept (FFld.subsF D top c (A2, R2) (i + 1) = FFld.subsF D top c (A2, R2) i) := ⟨by simp only [FFld.subsF]; rw [if_pos hit]⟩
                  have et : ((i : Int) == (top : Int)) = true := by rw [hit]; simp
                  clear hit
                  go_wp2
                  go_roundw
                  case rel => exact ⟨i + 1, by omega, by go_num, ⟨by rw [HSK.out]; exact hs6.out⟩⟩
                  case measure => simp [intOf] <;> omega
                · have et : ((i : Int) == (top : Int)) = false := by rw [beq_eq_false_iff_ne]; omega
                  have hw3 := FFld.subsF_wf hk top c (s := (A2, R2)) HOA2.out HOR2.out i
                  obtain ⟨A3, hA3⟩ : ∃ A3, (FFld.subsF D top c (A2, R2) i).1 = A3 := ⟨_, rfl⟩
                  obtain ⟨R3, hR3⟩ : ∃ R3, (FFld.subsF D top c (A2, R2) i).2 = R3 := ⟨_, rfl⟩
                  rw [hA3, hR3] at hs6 hw3
                  obtain ⟨x3, hx3⟩ : ∃ x, FFld.cellAt A3 i c = x := ⟨_, rfl⟩
                  have hx3q : x3 < D.p ^ D.k := by rw [← hx3]; exact hw3.1.cell hk _ _
                  have HSK : Kept (FFld.subsF D top c (A2, R2) (i + 1) = (FFld.subAt D A3 i top x3, FFld.subAt D R3 i top x3)) := ⟨by simp only [FFld.subsF]; rw [if_neg hit, hA3, hR3, hx3]⟩
                  obtain ⟨g3, cap3, u1, hcp3, hcm3, u2⟩ := hs6.out.cell hw3.1 (i := i) (c := c) hi6 hlt
                  rw [hx3] at u2
                  have hSu := Kept.mk (fun W hS => els_sub (sv := .slice sao top scap) (cols := cols) (hi := hi) (G1 := G1) (G2 := G2) (W := W) HF.out HB.out hS hw3.1 hw3.2 (by omega) (by omega) hi6 htn hit hx3q)
                  have HS6 := Kept.mk (hs6.out.below (belowDrew _))
                  clear hA3 hR3 hx3 hw3 hit
                  go_wp2
                  refine wp_region_held_drew (S := fun w' => w'.cell? ⟨w.heap.size, 0, none⟩ = some (.pointer (some ⟨b, 0, none⟩)) ∧ w'.cell? ⟨w.heap.size, 1, none⟩ = some (.slice (some ⟨G1, 0, none⟩) n n) ∧ w'.cell? ⟨w.heap.size, 2, none⟩ = some (.pointer (some ⟨b, 0, none⟩)) ∧ w'.cell? ⟨w.heap.size, 3, none⟩ = some (.slice (some ⟨G2, 0, none⟩) n n)) (by kernel_rfl) ⟨d0, d1, d2, d3⟩ (fun hHeld => ?_)
                  refine wpAnyH_take (i := 0) (v := ?_) rfl (by kernel_rfl) (by kernel_rfl) (by kernel_rfl) (fun _ _ _ h => h) (Or.inl ⟨by rfl, ?_⟩) (by assumption) ?_
                  rotate_left
                  · (intro w hSw; (try dsimp only at hSw); go_simp; (try with_reducible rfl))
                  try simp only [Act.put, List.getElem_toArray, List.getElem_cons_succ, List.getElem_cons_zero, List.setIfInBounds_toArray, List.set_cons_zero, List.set_cons_succ]
                  refine wpAnyH_take (i := 1) (v := ?_) rfl (by kernel_rfl) (by kernel_rfl) (by kernel_rfl) (fun _ _ _ h => h) (Or.inl ⟨by rfl, ?_⟩) (by assumption) ?_
                  rotate_left
                  · (intro w hSw; (try dsimp only at hSw); go_simp; (try with_reducible rfl))
                  try simp only [Act.put, List.getElem_toArray, List.getElem_cons_succ, List.getElem_cons_zero, List.setIfInBounds_toArray, List.set_cons_zero, List.set_cons_succ]
                  refine wpAnyH_take (i := 2) (v := ?_) rfl (by kernel_rfl) (by kernel_rfl) (by kernel_rfl) (fun _ _ _ h => h) (Or.inl ⟨by rfl, ?_⟩) (by assumption) ?_
                  rotate_left
                  · (intro w hSw; (try dsimp only at hSw); go_simp; (try with_reducible rfl))
                  try simp only [Act.put, List.getElem_toArray, List.getElem_cons_succ, List.getElem_cons_zero, List.setIfInBounds_toArray, List.set_cons_zero, List.set_cons_succ]
                  refine wpAnyH_take (i := 3) (v := ?_) rfl (by kernel_rfl) (by kernel_rfl) (by kernel_rfl) (fun _ _ _ h => h) (Or.inl ⟨by rfl, ?_⟩) (by assumption) ?_
                  rotate_left
                  · (intro w hSw; (try dsimp only at hSw); go_simp; (try with_reducible rfl))
                  try simp only [Act.put, List.getElem_toArray, List.getElem_cons_succ, List.getElem_cons_zero, List.setIfInBounds_toArray, List.set_cons_zero, List.set_cons_succ]
                  refine wpAnyH_take (i := 4) (v := ?_) rfl (by kernel_rfl) (by kernel_rfl) (by kernel_rfl) (fun _ _ _ h => h) (Or.inl ⟨by rfl, ?_⟩) (by assumption) ?_
                  rotate_left
                  · (intro w hSw; (try dsimp only at hSw); go_simp; (try with_reducible rfl))
                  try simp only [Act.put, List.getElem_toArray, List.getElem_cons_succ, List.getElem_cons_zero, List.setIfInBounds_toArray, List.set_cons_zero, List.set_cons_succ]
                  refine wpAnyH_take (i := 5) (v := ?_) rfl (by kernel_rfl) (by kernel_rfl) (by kernel_rfl) (fun _ _ _ h => h) (Or.inl ⟨by rfl, ?_⟩) (by assumption) ?_
                  rotate_left
                  · (intro w hSw; (try dsimp only at hSw); go_simp; (try with_reducible rfl))
                  try simp only [Act.put, List.getElem_toArray, List.getElem_cons_succ, List.getElem_cons_zero, List.setIfInBounds_toArray, List.set_cons_zero, List.set_cons_succ]
                  refine wpAnyH_take (i := 6) (v := ?_) rfl (by kernel_rfl) (by kernel_rfl) (by kernel_rfl) (fun _ _ _ h => h) (Or.inl ⟨by rfl, ?_⟩) (by assumption) ?_
                  rotate_left
                  · (intro w hSw; (try dsimp only at hSw); go_simp; (try with_reducible rfl))
                  try simp only [Act.put, List.getElem_toArray, List.getElem_cons_succ, List.getElem_cons_zero, List.setIfInBounds_toArray, List.set_cons_zero, List.set_cons_succ]
                  refine wpAnyH_take (i := 7) (v := ?_) rfl (by kernel_rfl) (by kernel_rfl) (by kernel_rfl) (fun _ _ _ h => h) (Or.inl ⟨by rfl, ?_⟩) (by assumption) ?_
                  rotate_left
                  · (intro w hSw; (try dsimp only at hSw); go_simp; (try with_reducible rfl))
                  try simp only [Act.put, List.getElem_toArray, List.getElem_cons_succ, List.getElem_cons_zero, List.setIfInBounds_toArray, List.set_cons_zero, List.set_cons_succ]
                  refine wpAnyH_take (i := 9) (v := ?_) rfl (by kernel_rfl) (by kernel_rfl) (by kernel_rfl) (fun _ _ _ h => h) (Or.inl ⟨by rfl, ?_⟩) (by assumption) ?_
                  rotate_left
                  · (intro w hSw; (try dsimp only at hSw); go_simp; (try with_reducible rfl))
                  try simp only [Act.put, List.getElem_toArray, List.getElem_cons_succ, List.getElem_cons_zero, List.setIfInBounds_toArray, List.set_cons_zero, List.set_cons_succ]
                  refine wpAnyH_ready (rs := [8]) (by kernel_rfl) (by simp) ?_
                  refine (AllReadyH.cons rfl (fun K hK => ?_) AllReadyH.nil)
                  go_simp
                  refine hK.out _ _ ⟨d0, d1, d2, d3⟩ (fun hHeld => ?_)
                  clear hK K
                  try simp only [Act.put, List.getElem_toArray, List.getElem_cons_succ, List.getElem_cons_zero, List.setIfInBounds_toArray, List.set_cons_zero, List.set_cons_succ]
                  refine wpAnyH_take (i := 10) (v := ?_) rfl (by kernel_rfl) (by kernel_rfl) (by kernel_rfl) (fun _ _ _ h => h) (Or.inl ⟨by rfl, ?_⟩) (by assumption) ?_
                  rotate_left
                  · (intro w hSw; (try dsimp only at hSw); go_simp; (try with_reducible rfl))
                  try simp only [Act.put, List.getElem_toArray, List.getElem_cons_succ, List.getElem_cons_zero, List.setIfInBounds_toArray, List.set_cons_zero, List.set_cons_succ]
                  refine wpAnyH_ready (rs := [11]) (by kernel_rfl) (by simp) ?_
                  refine (AllReadyH.cons rfl (fun K hK => ?_) AllReadyH.nil)
                  go_simp
                  refine hK.out _ _ ⟨d0, d1, d2, d3⟩ (fun hHeld => ?_)
                  clear hK K
                  try simp only [Act.put, List.getElem_toArray, List.getElem_cons_succ, List.getElem_cons_zero, List.setIfInBounds_toArray, List.set_cons_zero, List.set_cons_succ]
                  refine wpAnyH_ready (rs := [12]) (by kernel_rfl) (by simp) ?_
                  refine (AllReadyH.cons rfl (fun K hK => ?_) AllReadyH.nil)
                  go_simp
                  refine (hSu.out _ HS6.out).mono ?_
                  rintro e w7 ⟨rfl, hcg7, h7⟩
                  have HS7 := Kept.mk h7
                  obtain ⟨l0, l1, l2, l3⟩ := four_cells_ h7.box
                  clear hcg7 h7
                  refine hK.out _ _ ⟨l0, l1, l2, l3⟩ (fun hHeld => ?_)
                  clear hK K
                  try simp only [Act.put, List.getElem_toArray, List.getElem_cons_succ, List.getElem_cons_zero, List.setIfInBounds_toArray, List.set_cons_zero, List.set_cons_succ]
                  refine wpAnyH_done (by kernel_rfl) ?_ _
                  go_wp2
                  go_roundw
                  case rel => exact ⟨i + 1, by omega, by go_num, ⟨by rw [HSK.out]; exact HS7.out⟩⟩
                  case measure => simp [intOf] <;> omega
              · obtain rfl : i = n := by omega
                have HCM := Kept.mk hs6.out.colsM
                have HMa := Lib.hid (hs6.out.colsM.alloc (.cells #[.int .i64 c] 3))
                have HNW := Lib.hid (new_one (K := .i64) (x := (c : Int)) (w := wr.alloc (.cells #[.int .i64 c] 3)) (b := wr.heap.size) (o := 0) (by exact (Row.new (E := 3) (K := .i64) wr [(c : Int)]).cell (i := 0) (by simp)))
                have HBB := Lib.hid (show w.heap.size + 1 ≤ (wr.alloc (.cells #[.int .i64 c] 3)).heap.size by
                  obtain ⟨_, _, hx⟩ := hs6.out
                  have := hx.lt
                  simp
                  omega)
                have H1 := Lib.hid (show ((ints cols).length + [(c : Int)].length) * 8 ≤ 140737488355328 by rw [FFld.ints_len, HTOP.out]; simp; omega)
                have H2 := Lib.hid (show (ints cols).length + [(c : Int)].length ≤ maxLen by rw [FFld.ints_len, HTOP.out]; unfold maxLen; simp; omega)
                have hOwn := Kept.mk hs6.out.colsM.own
                have HSA := Kept.mk (hs6.out.below ((Below.refl _ _).alloc (Nat.le_refl _) (.cells #[.int .i64 c] 3)))
                go_wp2_with (at_builtin; refine wpList_append_mine _ rfl _ _ 34 rfl 3 .i64 8 Try.underlying34 info_i64 (w.heap.size + 1) _ (ints cols) rfl HMa.out HBB.out ⟨wr.heap.size, 0, none⟩ 1 1 [(c : Int)] rfl rfl HNW.out H1.out H2.out ?_)
                intro v' w8 hm8 hg8 hn8
                have HS8 := Kept.mk (HSA.out.put hg8 (fun k hk' => (hOwn.out k hk').1) (sv' := v') (cols' := cols ++ [c]) (by rw [FFld.ints_append]; exact hm8))
                clear hm8 hg8 hn8
                go_wp2
                go_roundw
                case rel => exact ⟨c + 1, by omega, by go_num, ⟨by rw [HNXT.out]; exact HS8.out⟩⟩
                case measure => simp [intOf] <;> omega
        · obtain rfl : row = n := by omega
          have HRT : Kept (tgt = row) := ⟨by have := hpv.out; rw [Nat.sub_self] at this; exact this.symm⟩
          have en : ((row : Int) == row) = true := by simp
          have HNS := Kept.mk (HNX.out.trans (step_skip D hk c (HTG.out.trans (HRT.out.trans HLA.out.symm))))
          clear hpv
          go_wp2
          refine ⟨⟨c + 1, by omega, by simp, ⟨by rw [HNS.out]; exact hat.out⟩⟩, ?_⟩
          simp [intOf]
          omega
    · obtain rfl : c = wd := by omega
      go_wp2
      go_ret
      exact ⟨_, rfl, hat.out⟩
end Go.Proofs.Ytfhhnfpapgfnmaa
