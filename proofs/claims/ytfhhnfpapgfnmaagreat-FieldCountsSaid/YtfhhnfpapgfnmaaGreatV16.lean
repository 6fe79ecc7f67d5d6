/-
  Texts of the proof, merged by program: Mn Gt Mo Mq.
-/
import Derived.Test.YtfhhnfpapgfnmaaGreatV15
import Derived.WalkMore
import Derived.Test.YtfhhnfpapgfnmaaGreatV14
import Derived.BigQuiet
set_option linter.unusedVariables false
set_option linter.unusedSimpArgs false
namespace Go.Proofs.YtfhhnfpapgfnmaaGreat
open Go Go.RowKit Go.Deep
open FFld (ints)
/-- What eliminate returns. -/
def ElRet (B hi b G1 G2 n : Nat) (s : FFld.ESt) (w : World) (e : Ending) (w' : World) : Prop := ∃ v, e = .returned v ∧ ElS B hi b G1 G2 n w v s.cols s.A s.R w'
set_option maxRecDepth 20000 in
set_option maxHeartbeats 8000000 in
theorem eliminate_any {D : FFld.FD} (hD : D.Ok) (hi b G1 G2 n wd m : Nat) (L1 L2 : List RH) (s0 : FFld.ESt) (w0 w : World) (hf : FldB D w0 b) (hb : Below w0.heap.size w0 w) (hhi : hi ≤ w.heap.size) (hp : Pr w0.heap.size hi w G1 G2 L1 L2) (hs : FFld.EOk D wd m n s0) (ha : L1.map RH.xs = s0.A) (hr : L2.map RH.xs = s0.R) (hc0 : s0.cols = [])
    (hn : n ≤ 1000) (hwd : wd ≤ 1000) (hm : m ≤ 1000) (hw : wid s0.A = wd) :
    Calls Tryz.prog 82 #[prv b G1 G2 n] w (ElRet w0.heap.size hi b G1 G2 n (FFld.elimF D hD.pre.pk s0 wd) w) := by
  have hk := hD.pre.pk
  have hst : ElS w0.heap.size hi b G1 G2 n w (.slice none 0 0) [] s0.A s0.R (w.alloc (prbox b G1 G2 n)) := ⟨L1, L2, hhi, Chg.ofBelow ((Below.refl _ _).alloc (Nat.le_refl _) _), heap_alloc_new _ _, hp.below ((Below.refl _ _).alloc (Nat.le_refl _) _), ha, hr, Mine.nil _ _ _ _, by rw [← hs.la, ← ha, List.length_map], by rw [← hs.lr, ← hr, List.length_map]⟩
  have HST := Kept.mk hst
  have HE := Kept.mk (fun c => hs.elim hk c)
  have HF := Kept.mk hf
  have HB := Kept.mk hb
  have HW := Kept.mk hw
  have HC0 := Kept.mk hc0
  have hB1 := hp.b1
  have hB2 := hp.b2
  have hB3 := hp.b3
  clear hst hp hs ha hr hc0 hf hb hw
  go_enter Tryz.func82, Tryz.ntmps82
  obtain ⟨c0, c1, c2, c3⟩ := four_cells_ HST.out.box
  go_wp2_with fail
  obtain ⟨W0, hW0⟩ : ∃ W, w.alloc (prbox b G1 G2 n) = W := ⟨_, rfl⟩
  rw [hW0] at HST c0 c1 c2 c3
  try rw [hW0]
  clear hW0
  refine (els_width HST.out).mono ?_
  rintro e W1 ⟨rfl, h1⟩
  rw [HW.out]
  have HS1 := Kept.mk h1
  clear h1 c0 c1 c2 c3 HST
  go_wp2
  go_loopw [10, 2] (fun cv sv wr => ∃ (c : Nat), c ≤ wd ∧ cv = .int .i64 c ∧ Kept (ElS w0.heap.size hi b G1 G2 n w sv (FFld.elimF D hk s0 c).cols (FFld.elimF D hk s0 c).A (FFld.elimF D hk s0 c).R wr)) (fun cv _ _ => wd - (intOf cv).toNat)
  case atStart => exact ⟨0, Nat.zero_le _, rfl, ⟨by simp only [FFld.elimF]; rw [HC0.out]; exact HS1.out⟩⟩
  case round =>
    obtain ⟨c, hc, rfl, hat⟩ := hrel
    by_cases hlt : c < wd
    · obtain ⟨A, hA⟩ : ∃ A, (FFld.elimF D hk s0 c).A = A := ⟨_, rfl⟩
      obtain ⟨R, hR⟩ : ∃ R, (FFld.elimF D hk s0 c).R = R := ⟨_, rfl⟩
      obtain ⟨cols, hcols⟩ : ∃ R, (FFld.elimF D hk s0 c).cols = R := ⟨_, rfl⟩
      have hok := HE.out c
      have hokA := hok.wa
      have hokR := hok.wr
      have hokl := hok.cl
      rw [hA] at hokA
      rw [hR] at hokR
      rw [hcols] at hokl
      rw [hA, hR, hcols] at hat
      obtain ⟨top, htop⟩ : ∃ top, cols.length = top := ⟨_, rfl⟩
      obtain ⟨_, _, sao, scap, hsv, hsc, hsm, _⟩ := (⟨0, 0, hat.out.colsM.sl⟩ : ∃ _ _ : Nat, Sl .i64 wr _ (ints cols))
      rw [FFld.ints_len, htop] at hsv hsc
      subst hsv
      rw [htop] at hokl
      have HNX : Kept (FFld.elimF D hk s0 (c + 1) = FFld.stepF D hk c ⟨A, R, cols⟩) := ⟨by simp only [FFld.elimF]; congr 1; rw [← hA, ← hR, ← hcols]⟩
      have HOA := Kept.mk hokA
      have HOR := Kept.mk hokR
      have HLA := Kept.mk hat.out.len.1
      have HTOP := Kept.mk htop
      clear hA hR hcols hok hokA hokR htop
      obtain ⟨c0, c1, c2, c3⟩ := four_cells_ hat.out.box
      obtain ⟨tgt, htgt⟩ : ∃ t, FFld.piv A c (n - top) top = t := ⟨_, rfl⟩
      have HTG : Kept (FFld.piv A c (A.length - cols.length) cols.length = tgt) := ⟨by rw [HTOP.out, HLA.out, htgt]⟩
      go_wp2
      go_loopw [5] (fun rv wr' => ∃ (row : Nat), top ≤ row ∧ row ≤ n ∧ rv = .int .i64 row ∧ Kept (FFld.piv A c (n - row) row = tgt) ∧ wr = wr') (fun rv _ => n - (intOf rv).toNat)
      case atStart => exact ⟨top, Nat.le_refl _, hokl, rfl, ⟨htgt⟩, rfl⟩
      case round =>
        obtain ⟨row, hr1, hr2, rfl, hpv, rfl⟩ := hrel
        by_cases hrn : row < n
        · obtain ⟨g, cap, hcr, hcp, hcm, hce⟩ := hat.out.cell HOA.out (i := row) (c := c) hrn hlt
          obtain ⟨x, hx⟩ : ∃ x, FFld.cellAt A row c = x := ⟨_, rfl⟩
          rw [hx] at hce
          by_cases hx0 : x = 0
          · subst hx0
            have e0 : (((0 : Nat) : Int) == 0) = true := rfl
            have HPN : Kept (FFld.piv A c (n - (row + 1)) (row + 1) = tgt) := ⟨by
              have := hpv.out
              rw [show n - row = n - (row + 1) + 1 from by omega] at this
              simp only [FFld.piv] at this
              rw [if_pos hx] at this
              exact this⟩
            clear hx hpv
            go_wp2
            go_roundw
            case rel => exact ⟨row + 1, by omega, by omega, by go_num, HPN, trivial⟩
            case measure => simp [intOf] <;> omega
          · have e0 : ((x : Int) == 0) = false := by rw [beq_eq_false_iff_ne]; omega
            have HRT : Kept (tgt = row) := ⟨by
              have := hpv.out
              rw [show n - row = n - (row + 1) + 1 from by omega] at this
              simp only [FFld.piv] at this
              rw [if_neg (by omega)] at this
              exact this.symm⟩
            have en : ((row : Int) == n) = false := by rw [beq_eq_false_iff_ne]; omega
            have hxq : x < D.p ^ D.k := by rw [← hx]; exact HOA.out.cell hk _ _
            have HXX : Kept (FFld.cellAt (FFld.exch [] A top row) top c = x) := ⟨by
              unfold FFld.cellAt
              rw [rowAt_exch A (by rw [HLA.out]; omega) (by rw [HLA.out]; omega)]
              exact hx⟩
            have HNXT := Kept.mk (HNX.out.trans (step_eq D hk c (HTG.out.trans HRT.out) (by rw [HLA.out]; omega) (by rw [HLA.out, HTOP.out]; omega) hx))
            have HLR := Kept.mk hat.out.len.2
            obtain ⟨iv, hiv⟩ : ∃ iv, FFld.ppow hk x (D.q - 2) = iv := ⟨_, rfl⟩
            have hivq : iv < D.p ^ D.k := by rw [← hiv]; exact FFld.ppow_lt _ _ _
            have hIn := Kept.mk (fun W (hW : Below w0.heap.size w0 W) => inverse_any hD x W (HF.out.below hW) hxq hx0)
            rw [hiv] at hIn
            rw [HTOP.out, HLA.out, hiv] at HNXT
            obtain ⟨A1, hA1⟩ : ∃ A1, FFld.exch [] A top row = A1 := ⟨_, rfl⟩
            obtain ⟨R1, hR1⟩ : ∃ R1, FFld.exch [] R top row = R1 := ⟨_, rfl⟩
            have HOA1 : Kept (FFld.Wfm D wd A1) := ⟨by rw [← hA1]; exact HOA.out.exch (by rw [HLA.out]; omega) (by rw [HLA.out]; omega)⟩
            have HOR1 : Kept (FFld.Wfm D m R1) := ⟨by rw [← hR1]; exact HOR.out.exch (by rw [HLR.out]; omega) (by rw [HLR.out]; omega)⟩
            have htn : top < n := by omega
            have hMu := Kept.mk (fun W hS => els_mult (sv := .slice sao top scap) (cols := cols) (hi := hi) (G1 := G1) (G2 := G2) (W := W) HF.out HB.out hS HOA1.out HOR1.out (by omega) (by omega) htn hivq)
            have hEx := Kept.mk (els_exch hat.out htn hrn)
            rw [hA1, hR1] at hEx
            rw [hA1] at HXX
            rw [hA1, hR1] at HNXT
            clear hpv hx hiv hA1 hR1
            go_wp2_with fail
            refine hEx.out.mono ?_
            rintro e W2 ⟨rfl, hcg2, h2⟩
            have HS2 := Kept.mk h2
            obtain ⟨d0, d1, d2, d3⟩ := four_cells_ h2.box
            obtain ⟨g1, cap1, u1, hcp1, hcm1, u2⟩ := h2.cell HOA1.out (i := top) (c := c) htn hlt
            rw [HXX.out] at u2
            have HB2w := Kept.mk (h2.chg.below HB.out)
            clear hcg2 h2 c0 c1 c2 c3 hcr hce hEx hat
            go_wp2
            refine wp_region_held_drew (S := fun w' => w'.cell? ⟨w.heap.size, 0, none⟩ = some (.pointer (some ⟨b, 0, none⟩)) ∧ w'.cell? ⟨w.heap.size, 1, none⟩ = some (.slice (some ⟨G1, 0, none⟩) n n) ∧ w'.cell? ⟨w.heap.size, 2, none⟩ = some (.pointer (some ⟨b, 0, none⟩)) ∧ w'.cell? ⟨w.heap.size, 3, none⟩ = some (.slice (some ⟨G2, 0, none⟩) n n)) (by kernel_rfl) ⟨d0, d1, d2, d3⟩ (fun hHeld => ?_)
            refine wpAnyH_take (i := 0) (v := ?_) rfl (by kernel_rfl) (by kernel_rfl) (by kernel_rfl) (fun _ _ _ h => h) (Or.inl ⟨by rfl, ?_⟩) (by assumption) ?_
            rotate_left
            · (intro w hSw; (try dsimp only at hSw); go_simp; (try with_reducible rfl))
            try simp only [Act.put, List.getElem_toArray, List.getElem_cons_succ, List.getElem_cons_zero, List.setIfInBounds_toArray, List.set_cons_zero, List.set_cons_succ]
            refine wpAnyH_take (i := 1) (v := ?_) rfl (by kernel_rfl) (by kernel_rfl) (by kernel_rfl) (fun _ _ _ h => h) (Or.inl ⟨by rfl, ?_⟩) (by assumption) ?_
            rotate_left
            · (intro w hSw; (try dsimp only at hSw); go_simp; (try with_reducible rfl))
            try simp only [Act.put, List.getElem_toArray, List.getElem_cons_succ, List.getElem_cons_zero, List.setIfInBounds_toArray, List.set_cons_zero, List.set_cons_succ]
            refine wpAnyH_take (i := 2) (v := ?_) rfl (by kernel_rfl) (by kernel_rfl) (by kernel_rfl) (fun _ _ _ h => h) (Or.inl ⟨by rfl, ?_⟩) (by assumption) ?_
            rotate_left
            · (intro w hSw; (try dsimp only at hSw); go_simp; (try with_reducible rfl))
            try simp only [Act.put, List.getElem_toArray, List.getElem_cons_succ, List.getElem_cons_zero, List.setIfInBounds_toArray, List.set_cons_zero, List.set_cons_succ]
            refine wpAnyH_take (i := 3) (v := ?_) rfl (by kernel_rfl) (by kernel_rfl) (by kernel_rfl) (fun _ _ _ h => h) (Or.inl ⟨by rfl, ?_⟩) (by assumption) ?_
            rotate_left
            · (intro w hSw; (try dsimp only at hSw); go_simp; (try with_reducible rfl))
            try simp only [Act.put, List.getElem_toArray, List.getElem_cons_succ, List.getElem_cons_zero, List.setIfInBounds_toArray, List.set_cons_zero, List.set_cons_succ]
            refine wpAnyH_take (i := 4) (v := ?_) rfl (by kernel_rfl) (by kernel_rfl) (by kernel_rfl) (fun _ _ _ h => h) (Or.inl ⟨by rfl, ?_⟩) (by assumption) ?_
            rotate_left
            · (intro w hSw; (try dsimp only at hSw); go_simp; (try with_reducible rfl))
            try simp only [Act.put, List.getElem_toArray, List.getElem_cons_succ, List.getElem_cons_zero, List.setIfInBounds_toArray, List.set_cons_zero, List.set_cons_succ]
            refine wpAnyH_take (i := 5) (v := ?_) rfl (by kernel_rfl) (by kernel_rfl) (by kernel_rfl) (fun _ _ _ h => h) (Or.inl ⟨by rfl, ?_⟩) (by assumption) ?_
            rotate_left
            · (intro w hSw; (try dsimp only at hSw); go_simp; (try with_reducible rfl))
            try simp only [Act.put, List.getElem_toArray, List.getElem_cons_succ, List.getElem_cons_zero, List.setIfInBounds_toArray, List.set_cons_zero, List.set_cons_succ]
            refine wpAnyH_take (i := 6) (v := ?_) rfl (by kernel_rfl) (by kernel_rfl) (by kernel_rfl) (fun _ _ _ h => h) (Or.inl ⟨by rfl, ?_⟩) (by assumption) ?_
            rotate_left
            · (intro w hSw; (try dsimp only at hSw); go_simp; (try with_reducible rfl))
            try simp only [Act.put, List.getElem_toArray, List.getElem_cons_succ, List.getElem_cons_zero, List.setIfInBounds_toArray, List.set_cons_zero, List.set_cons_succ]
            refine wpAnyH_take (i := 7) (v := ?_) rfl (by kernel_rfl) (by kernel_rfl) (by kernel_rfl) (fun _ _ _ h => h) (Or.inl ⟨by rfl, ?_⟩) (by assumption) ?_
            rotate_left
            · (intro w hSw; (try dsimp only at hSw); go_simp; (try with_reducible rfl))
            try simp only [Act.put, List.getElem_toArray, List.getElem_cons_succ, List.getElem_cons_zero, List.setIfInBounds_toArray, List.set_cons_zero, List.set_cons_succ]
            refine wpAnyH_take (i := 8) (v := ?_) rfl (by kernel_rfl) (by kernel_rfl) (by kernel_rfl) (fun _ _ _ h => h) (Or.inl ⟨by rfl, ?_⟩) (by assumption) ?_
            rotate_left
            · (intro w hSw; (try dsimp only at hSw); go_simp; (try with_reducible rfl))
            try simp only [Act.put, List.getElem_toArray, List.getElem_cons_succ, List.getElem_cons_zero, List.setIfInBounds_toArray, List.set_cons_zero, List.set_cons_succ]
            refine wpAnyH_take (i := 9) (v := ?_) rfl (by kernel_rfl) (by kernel_rfl) (by kernel_rfl) (fun _ _ _ h => h) (Or.inl ⟨by rfl, ?_⟩) (by assumption) ?_
            rotate_left
            · (intro w hSw; (try dsimp only at hSw); go_simp; (try with_reducible rfl))
            try simp only [Act.put, List.getElem_toArray, List.getElem_cons_succ, List.getElem_cons_zero, List.setIfInBounds_toArray, List.set_cons_zero, List.set_cons_succ]
            refine wpAnyH_take (i := 11) (v := ?_) rfl (by kernel_rfl) (by kernel_rfl) (by kernel_rfl) (fun _ _ _ h => h) (Or.inl ⟨by rfl, ?_⟩) (by assumption) ?_
            rotate_left
            · (intro w hSw; (try dsimp only at hSw); go_simp; (try with_reducible rfl))
            try simp only [Act.put, List.getElem_toArray, List.getElem_cons_succ, List.getElem_cons_zero, List.setIfInBounds_toArray, List.set_cons_zero, List.set_cons_succ]
            refine wpAnyH_ready (rs := [10]) (by kernel_rfl) (by simp) ?_
            refine (AllReadyH.cons rfl (fun K hK => ?_) AllReadyH.nil)
            go_simp
            refine hK.out _ _ ⟨d0, d1, d2, d3⟩ (fun hHeld => ?_)
            clear hK K
            try simp only [Act.put, List.getElem_toArray, List.getElem_cons_succ, List.getElem_cons_zero, List.setIfInBounds_toArray, List.set_cons_zero, List.set_cons_succ]
            refine wpAnyH_take (i := 12) (v := ?_) rfl (by kernel_rfl) (by kernel_rfl) (by kernel_rfl) (fun _ _ _ h => h) (Or.inl ⟨by rfl, ?_⟩) (by assumption) ?_
            rotate_left
            · (intro w hSw; (try dsimp only at hSw); go_simp; (try with_reducible rfl))
            try simp only [Act.put, List.getElem_toArray, List.getElem_cons_succ, List.getElem_cons_zero, List.setIfInBounds_toArray, List.set_cons_zero, List.set_cons_succ]
            refine wpAnyH_ready (rs := [13]) (by kernel_rfl) (by simp) ?_
            refine (AllReadyH.cons rfl (fun K hK => ?_) AllReadyH.nil)
            go_simp
            refine hK.out _ _ ⟨d0, d1, d2, d3⟩ (fun hHeld => ?_)
            clear hK K
            try simp only [Act.put, List.getElem_toArray, List.getElem_cons_succ, List.getElem_cons_zero, List.setIfInBounds_toArray, List.set_cons_zero, List.set_cons_succ]
            refine wpAnyH_ready (rs := [14]) (by kernel_rfl) (by simp) ?_
            refine (AllReadyH.cons rfl (fun K hK => ?_) AllReadyH.nil)
            go_simp
            refine (hIn.out _ HB2w.out.drew).mono ?_
            rintro e w4 ⟨hb4, rfl⟩
            have HB4 : Kept (Below W2.heap.size W2 w4) := ⟨(Below.refl _ _).drew.trans hb4⟩
            have HS4 := Kept.mk (HS2.out.below HB4.out)
            have k0 := belowCell HB4.out d0
            have k1 := belowCell HB4.out d1
            have k2 := belowCell HB4.out d2
            have k3 := belowCell HB4.out d3
            clear hb4
            refine hK.out _ _ ⟨k0, k1, k2, k3⟩ (fun hHeld => ?_)
            clear hK K
            try simp only [Act.put, List.getElem_toArray, List.getElem_cons_succ, List.getElem_cons_zero, List.setIfInBounds_toArray, List.set_cons_zero, List.set_cons_succ]
            refine wpAnyH_ready (rs := [15]) (by kernel_rfl) (by simp) ?_
            refine (AllReadyH.cons rfl (fun K hK => ?_) AllReadyH.nil)
            go_simp
            refine (hMu.out _ HS4.out).mono ?_
            rintro e w5 ⟨rfl, hcg5, h5⟩
            have HS5 := Kept.mk h5
            obtain ⟨l0, l1, l2, l3⟩ := four_cells_ h5.box
            clear hcg5 h5
            refine hK.out _ _ ⟨l0, l1, l2, l3⟩ (fun hHeld => ?_)
            clear hK K
            try simp only [Act.put, List.getElem_toArray, List.getElem_cons_succ, List.getElem_cons_zero, List.setIfInBounds_toArray, List.set_cons_zero, List.set_cons_succ]
            refine wpAnyH_done (by kernel_rfl) ?_ _
            obtain ⟨A2, hA2⟩ : ∃ A2, FFld.mulAt D A1 top iv = A2 := ⟨_, rfl⟩
            obtain ⟨R2, hR2⟩ : ∃ R2, FFld.mulAt D R1 top iv = R2 := ⟨_, rfl⟩
            have HOA2 : Kept (FFld.Wfm D wd A2) := ⟨by rw [← hA2]; exact HOA1.out.mul hk _ _⟩
            have HOR2 : Kept (FFld.Wfm D m R2) := ⟨by rw [← hR2]; exact HOR1.out.mul hk _ _⟩
            rw [hA2, hR2] at HS5 HNXT
            clear hA2 hR2 d0 d1 d2 d3 k0 k1 k2 k3 u1 u2 hHeld
            go_wp2
            go_loopw [66] (fun iv' wr' => ∃ (i : Nat), i ≤ n ∧ iv' = .int .i64 i ∧ Kept (ElS w0.heap.size hi b G1 G2 n w (.slice sao top scap) cols (FFld.subsF D top c (A2, R2) i).1 (FFld.subsF D top c (A2, R2) i).2 wr')) (fun iv' _ => n - (intOf iv').toNat)
            case atStart => exact ⟨0, Nat.zero_le _, rfl, HS5⟩
            case round =>
              obtain ⟨i, hin, rfl, hs6⟩ := hrel
              obtain ⟨d0, d1, d2, d3⟩ := four_cells_ hs6.out.box
              by_cases hi6 : i < n
              · by_cases hit : i = top
                · have HSK : Kept (FFld.subsF D top c (A2, R2) (i + 1) = FFld.subsF D top c (A2, R2) i) := ⟨by simp only [FFld.subsF]; rw [if_pos hit]⟩
                  have et : ((i : Int) == (top : Int)) = true := by rw [hit]; simp
                  clear hit
                  go_wp2
                  go_roundw
                  case rel => exact ⟨i + 1, by omega, by go_num, ⟨by rw [HSK.out]; exact hs6.out⟩⟩
                  case measure => simp [intOf] <;> omega
                · have et : ((i : Int) == (top : Int)) = false := by rw [beq_eq_false_iff_ne]; omega
                  have hw3 := FFld.subsF_wf hk top c (s := (A2, R2)) HOA2.out HOR2.out i
                  obtain ⟨A3, hA3⟩ : ∃ A3, (FFld.subsF D top c (A2, R2) i).1 = A3 := ⟨_, rfl⟩
                  obtain ⟨R3, hR3⟩ : ∃ R3, (FFld.subsF D top c (A2, R2) i).2 = R3 := ⟨_, rfl⟩
                  rw [hA3, hR3] at hs6 hw3
                  obtain ⟨x3, hx3⟩ : ∃ x, FFld.cellAt A3 i c = x := ⟨_, rfl⟩
                  have hx3q : x3 < D.p ^ D.k := by rw [← hx3]; exact hw3.1.cell hk _ _
                  have HSK : Kept (FFld.subsF D top c (A2, R2) (i + 1) = (FFld.subAt D A3 i top x3, FFld.subAt D R3 i top x3)) := ⟨by simp only [FFld.subsF]; rw [if_neg hit, hA3, hR3, hx3]⟩
                  obtain ⟨g3, cap3, u1, hcp3, hcm3, u2⟩ := hs6.out.cell hw3.1 (i := i) (c := c) hi6 hlt
                  rw [hx3] at u2
                  have hSu := Kept.mk (fun W hS => els_sub (sv := .slice sao top scap) (cols := cols) (hi := hi) (G1 := G1) (G2 := G2) (W := W) HF.out HB.out hS hw3.1 hw3.2 (by omega) (by omega) hi6 htn hit hx3q)
                  have HS6 := Kept.mk (hs6.out.below (belowDrew _))
                  clear hA3 hR3 hx3 hw3 hit
                  go_wp2
                  refine wp_region_held_drew (S := fun w' => w'.cell? ⟨w.heap.size, 0, none⟩ = some (.pointer (some ⟨b, 0, none⟩)) ∧ w'.cell? ⟨w.heap.size, 1, none⟩ = some (.slice (some ⟨G1, 0, none⟩) n n) ∧ w'.cell? ⟨w.heap.size, 2, none⟩ = some (.pointer (some ⟨b, 0, none⟩)) ∧ w'.cell? ⟨w.heap.size, 3, none⟩ = some (.slice (some ⟨G2, 0, none⟩) n n)) (by kernel_rfl) ⟨d0, d1, d2, d3⟩ (fun hHeld => ?_)
                  refine wpAnyH_take (i := 0) (v := ?_) rfl (by kernel_rfl) (by kernel_rfl) (by kernel_rfl) (fun _ _ _ h => h) (Or.inl ⟨by rfl, ?_⟩) (by assumption) ?_
                  rotate_left
                  · (intro w hSw; (try dsimp only at hSw); go_simp; (try with_reducible rfl))
                  try simp only [Act.put, List.getElem_toArray, List.getElem_cons_succ, List.getElem_cons_zero, List.setIfInBounds_toArray, List.set_cons_zero, List.set_cons_succ]
                  refine wpAnyH_take (i := 1) (v := ?_) rfl (by kernel_rfl) (by kernel_rfl) (by kernel_rfl) (fun _ _ _ h => h) (Or.inl ⟨by rfl, ?_⟩) (by assumption) ?_
                  rotate_left
                  · (intro w hSw; (try dsimp only at hSw); go_simp; (try with_reducible rfl))
                  try simp only [Act.put, List.getElem_toArray, List.getElem_cons_succ, List.getElem_cons_zero, List.setIfInBounds_toArray, List.set_cons_zero, List.set_cons_succ]
                  refine wpAnyH_take (i := 2) (v := ?_) rfl (by kernel_rfl) (by kernel_rfl) (by kernel_rfl) (fun _ _ _ h => h) (Or.inl ⟨by rfl, ?_⟩) (by assumption) ?_
                  rotate_left
                  · (intro w hSw; (try dsimp only at hSw); go_simp; (try with_reducible rfl))
                  try simp only [Act.put, List.getElem_toArray, List.getElem_cons_succ, List.getElem_cons_zero, List.setIfInBounds_toArray, List.set_cons_zero, List.set_cons_succ]
                  refine wpAnyH_take (i := 3) (v := ?_) rfl (by kernel_rfl) (by kernel_rfl) (by kernel_rfl) (fun _ _ _ h => h) (Or.inl ⟨by rfl, ?_⟩) (by assumption) ?_
                  rotate_left
                  · (intro w hSw; (try dsimp only at hSw); go_simp; (try with_reducible rfl))
                  try simp only [Act.put, List.getElem_toArray, List.getElem_cons_succ, List.getElem_cons_zero, List.setIfInBounds_toArray, List.set_cons_zero, List.set_cons_succ]
                  refine wpAnyH_take (i := 4) (v := ?_) rfl (by kernel_rfl) (by kernel_rfl) (by kernel_rfl) (fun _ _ _ h => h) (Or.inl ⟨by rfl, ?_⟩) (by assumption) ?_
                  rotate_left
                  · (intro w hSw; (try dsimp only at hSw); go_simp; (try with_reducible rfl))
                  try simp only [Act.put, List.getElem_toArray, List.getElem_cons_succ, List.getElem_cons_zero, List.setIfInBounds_toArray, List.set_cons_zero, List.set_cons_succ]
                  refine wpAnyH_take (i := 5) (v := ?_) rfl (by kernel_rfl) (by kernel_rfl) (by kernel_rfl) (fun _ _ _ h => h) (Or.inl ⟨by rfl, ?_⟩) (by assumption) ?_
                  rotate_left
                  · (intro w hSw; (try dsimp only at hSw); go_simp; (try with_reducible rfl))
                  try simp only [Act.put, List.getElem_toArray, List.getElem_cons_succ, List.getElem_cons_zero, List.setIfInBounds_toArray, List.set_cons_zero, List.set_cons_succ]
                  refine wpAnyH_take (i := 6) (v := ?_) rfl (by kernel_rfl) (by kernel_rfl) (by kernel_rfl) (fun _ _ _ h => h) (Or.inl ⟨by rfl, ?_⟩) (by assumption) ?_
                  rotate_left
                  · (intro w hSw; (try dsimp only at hSw); go_simp; (try with_reducible rfl))
                  try simp only [Act.put, List.getElem_toArray, List.getElem_cons_succ, List.getElem_cons_zero, List.setIfInBounds_toArray, List.set_cons_zero, List.set_cons_succ]
                  refine wpAnyH_take (i := 7) (v := ?_) rfl (by kernel_rfl) (by kernel_rfl) (by kernel_rfl) (fun _ _ _ h => h) (Or.inl ⟨by rfl, ?_⟩) (by assumption) ?_
                  rotate_left
                  · (intro w hSw; (try dsimp only at hSw); go_simp; (try with_reducible rfl))
                  try simp only [Act.put, List.getElem_toArray, List.getElem_cons_succ, List.getElem_cons_zero, List.setIfInBounds_toArray, List.set_cons_zero, List.set_cons_succ]
                  refine wpAnyH_take (i := 9) (v := ?_) rfl (by kernel_rfl) (by kernel_rfl) (by kernel_rfl) (fun _ _ _ h => h) (Or.inl ⟨by rfl, ?_⟩) (by assumption) ?_
                  rotate_left
                  · (intro w hSw; (try dsimp only at hSw); go_simp; (try with_reducible rfl))
                  try simp only [Act.put, List.getElem_toArray, List.getElem_cons_succ, List.getElem_cons_zero, List.setIfInBounds_toArray, List.set_cons_zero, List.set_cons_succ]
                  refine wpAnyH_ready (rs := [8]) (by kernel_rfl) (by simp) ?_
                  refine (AllReadyH.cons rfl (fun K hK => ?_) AllReadyH.nil)
                  go_simp
                  refine hK.out _ _ ⟨d0, d1, d2, d3⟩ (fun hHeld => ?_)
                  clear hK K
                  try simp only [Act.put, List.getElem_toArray, List.getElem_cons_succ, List.getElem_cons_zero, List.setIfInBounds_toArray, List.set_cons_zero, List.set_cons_succ]
                  refine wpAnyH_take (i := 10) (v := ?_) rfl (by kernel_rfl) (by kernel_rfl) (by kernel_rfl) (fun _ _ _ h => h) (Or.inl ⟨by rfl, ?_⟩) (by assumption) ?_
                  rotate_left
                  · (intro w hSw; (try dsimp only at hSw); go_simp; (try with_reducible rfl))
                  try simp only [Act.put, List.getElem_toArray, List.getElem_cons_succ, List.getElem_cons_zero, List.setIfInBounds_toArray, List.set_cons_zero, List.set_cons_succ]
                  refine wpAnyH_ready (rs := [11]) (by kernel_rfl) (by simp) ?_
                  refine (AllReadyH.cons rfl (fun K hK => ?_) AllReadyH.nil)
                  go_simp
                  refine hK.out _ _ ⟨d0, d1, d2, d3⟩ (fun hHeld => ?_)
                  clear hK K
                  try simp only [Act.put, List.getElem_toArray, List.getElem_cons_succ, List.getElem_cons_zero, List.setIfInBounds_toArray, List.set_cons_zero, List.set_cons_succ]
                  refine wpAnyH_ready (rs := [12]) (by kernel_rfl) (by simp) ?_
                  refine (AllReadyH.cons rfl (fun K hK => ?_) AllReadyH.nil)
                  go_simp
                  refine (hSu.out _ HS6.out).mono ?_
                  rintro e w7 ⟨rfl, hcg7, h7⟩
                  have HS7 := Kept.mk h7
                  obtain ⟨l0, l1, l2, l3⟩ := four_cells_ h7.box
                  clear hcg7 h7
                  refine hK.out _ _ ⟨l0, l1, l2, l3⟩ (fun hHeld => ?_)
                  clear hK K
                  try simp only [Act.put, List.getElem_toArray, List.getElem_cons_succ, List.getElem_cons_zero, List.setIfInBounds_toArray, List.set_cons_zero, List.set_cons_succ]
                  refine wpAnyH_done (by kernel_rfl) ?_ _
                  go_wp2
                  go_roundw
                  case rel => exact ⟨i + 1, by omega, by go_num, ⟨by rw [HSK.out]; exact HS7.out⟩⟩
                  case measure => simp [intOf] <;> omega
              · obtain rfl : i = n := by omega
                have HCM := Kept.mk hs6.out.colsM
                have HMa := Lib.hid (hs6.out.colsM.alloc (.cells #[.int .i64 c] 3))
                have HNW := Lib.hid (new_one (K := .i64) (x := (c : Int)) (w := wr.alloc (.cells #[.int .i64 c] 3)) (b := wr.heap.size) (o := 0) (by exact (Row.new (E := 3) (K := .i64) wr [(c : Int)]).cell (i := 0) (by simp)))
                have HBB := Lib.hid (show w.heap.size + 1 ≤ (wr.alloc (.cells #[.int .i64 c] 3)).heap.size by
                  obtain ⟨_, _, hx⟩ := hs6.out
                  have := hx.lt
                  simp
                  omega)
                have H1 := Lib.hid (show ((ints cols).length + [(c : Int)].length) * 8 ≤ 140737488355328 by rw [FFld.ints_len, HTOP.out]; simp; omega)
                have H2 := Lib.hid (show (ints cols).length + [(c : Int)].length ≤ maxLen by rw [FFld.ints_len, HTOP.out]; unfold maxLen; simp; omega)
                have hOwn := Kept.mk hs6.out.colsM.own
                have HSA := Kept.mk (hs6.out.below ((Below.refl _ _).alloc (Nat.le_refl _) (.cells #[.int .i64 c] 3)))
                go_wp2_with (at_builtin; refine wpList_append_mine _ rfl _ _ 35 rfl 3 .i64 8 Tryz.underlying35 info_i64 (w.heap.size + 1) _ (ints cols) rfl HMa.out HBB.out ⟨wr.heap.size, 0, none⟩ 1 1 [(c : Int)] rfl rfl HNW.out H1.out H2.out ?_)
                intro v' w8 hm8 hg8 hn8
                have HS8 := Kept.mk (HSA.out.put hg8 (fun k hk' => (hOwn.out k hk').1) (sv' := v') (cols' := cols ++ [c]) (by rw [FFld.ints_append]; exact hm8))
                clear hm8 hg8 hn8
                go_wp2
                go_roundw
                case rel => exact ⟨c + 1, by omega, by go_num, ⟨by rw [HNXT.out]; exact HS8.out⟩⟩
                case measure => simp [intOf] <;> omega
        · obtain rfl : row = n := by omega
          have HRT : Kept (tgt = row) := ⟨by have := hpv.out; rw [Nat.sub_self] at this; exact this.symm⟩
          have en : ((row : Int) == row) = true := by simp
          have HNS := Kept.mk (HNX.out.trans (step_skip D hk c (HTG.out.trans (HRT.out.trans HLA.out.symm))))
          clear hpv
          go_wp2
          refine ⟨⟨c + 1, by omega, by simp, ⟨by rw [HNS.out]; exact hat.out⟩⟩, ?_⟩
          simp [intOf]
          omega
    · obtain rfl : c = wd := by omega
      go_wp2
      go_ret
      exact ⟨_, rfl, hat.out⟩
end Go.Proofs.YtfhhnfpapgfnmaaGreat

set_option linter.unusedVariables false
set_option linter.unusedSimpArgs false
namespace Go.Proofs.YtfhhnfpapgfnmaaGreat
open Go Go.RowKit
open FFld (ints)
set_option maxRecDepth 20000 in
set_option maxHeartbeats 1000000 in
theorem generator_any {D : FFld.FD} {b : Nat} (w : World) (hf : FldB D w b) :
    Calls Tryz.prog 36 #[.pointer (some ⟨b, 0, none⟩)] w (fun e w' => w = w' ∧ e = .returned (.int .i64 D.g)) := by
  obtain ⟨h, T, x, fs, fp, fw, ms, ml, hb, _, _, _⟩ := hf.open
  obtain ⟨c0, c1, c2, c3, c4, c5⟩ := six_cells hb
  go_enter Tryz.func36, Tryz.ntmps36
  go_wp2
  go_ret
  exact ⟨rfl, rfl⟩
set_option maxRecDepth 20000 in
set_option maxHeartbeats 1000000 in
theorem fmodulus_any {D : FFld.FD} {b : Nat} (w : World) (hf : FldB D w b) :
    Calls Tryz.prog 34 #[.pointer (some ⟨b, 0, none⟩)] w (fun e w' => Below w.heap.size w w' ∧ ∃ (v : Value) (ml : List Nat), e = .returned v ∧ Sl .i64 w' v (ints ml) ∧ FFld.Digs D.p D.m ml) := by
  obtain ⟨h, T, x, fs, fp, fw, ms, ml, hb, _, hs, hd⟩ := hf.open
  obtain ⟨c0, c1, c2, c3, c4, c5⟩ := six_cells hb
  have hk : ml.length ≤ 100000 := by
    have h17 : D.m < D.p ^ (D.k + 1) := by
      have hp2 := h.pre.prime.1
      have e1 : 2 * D.p ^ D.k ≤ D.p ^ (D.k + 1) := by rw [Nat.pow_succ']; exact Nat.mul_le_mul_right _ hp2
      have hpos : 0 < D.p ^ D.k := Nat.pow_pos (by omega)
      by_cases hk1 : D.k = 1
      · rw [h.pre.mod1 hk1]
        have := Nat.pow_lt_pow_right (a := D.p) (by omega) (show 1 < D.k + 1 by omega)
        rw [Nat.pow_one] at this
        exact this
      · have := (h.pre.mod2 (by have := h.pre.k1; omega)).2.1
        unfold FFld.FD.q at this
        omega
    have h1 := hd.len h.pre.prime.1 h17
    have h2 : D.k ≤ 40 := FFld.len_of_pow (Nat.pow_le_pow_left h.pre.prime.1 _) (show D.p ^ D.k ≤ 1099511627776 by have := h.pre.small; unfold FFld.FD.q at this; omega)
    omega
  have hC := Kept.mk (clone_any hs (by rw [FFld.ints_len]; omega))
  have HD := Kept.mk hd
  clear hd hs
  go_enter Tryz.func34, Tryz.ntmps34
  go_wp2_with fail
  refine hC.out.mono ?_
  rintro e w1 ⟨hb1, v1, rfl, hm1⟩
  have HB1 := Kept.mk hb1
  have HM1 := Kept.mk hm1.sl
  clear hb1 hm1 hC
  go_wp2
  go_ret
  exact ⟨HB1.out, _, _, rfl, HM1.out, HD.out⟩
set_option maxRecDepth 20000 in
set_option maxHeartbeats 1000000 in
theorem isElement_any {D : FFld.FD} {b : Nat} (a : Int) (w : World) (hf : FldB D w b) :
    Calls Tryz.prog 97 #[.pointer (some ⟨b, 0, none⟩), .int .i64 a] w (fun e w' => w = w' ∧ e = .returned (.bool (decide (0 ≤ a ∧ a < D.q)))) := by
  obtain ⟨h, T, x, fs, fp, fw, ms, ml, hb, _, _, _⟩ := hf.open
  obtain ⟨c0, c1, c2, c3, c4, c5⟩ := six_cells hb
  by_cases h0 : 0 ≤ a
  · have hd : decide (a ≥ 0) = true := by simp [h0]
    rw [show decide (0 ≤ a ∧ a < (D.q : Int)) = decide (a < (D.q : Int)) by simp [h0]]
    go_enter Tryz.func97, Tryz.ntmps97
    go_wp2
    go_ret
    exact ⟨rfl, rfl⟩
  · have hd : decide (a ≥ 0) = false := by simp; omega
    rw [show decide (0 ≤ a ∧ a < (D.q : Int)) = false by simp [h0]]
    go_enter Tryz.func97, Tryz.ntmps97
    go_wp2
    go_ret
    exact ⟨rfl, rfl⟩
end Go.Proofs.YtfhhnfpapgfnmaaGreat

set_option linter.unusedVariables false
set_option linter.unusedSimpArgs false
namespace Go.Proofs.YtfhhnfpapgfnmaaGreat
open Go Go.RowKit Go.Deep
open FFld (ints)
/-- The sum of the products of the first i elements of two lists. -/
def sopF (D : FFld.FD) (al bl : List Nat) : Nat → Nat
  | 0 => 0
  | i + 1 => FFld.padd D.p D.k (sopF D al bl i) (FFld.pmul D.p D.k D.m (al[i]?.getD 0) D.k (bl[i]?.getD 0))
theorem sopF_lt {D : FFld.FD} (h : FFld.PK D.p D.k D.m) (al bl : List Nat) (i : Nat) : sopF D al bl i < D.p ^ D.k := by
  cases i with
  | zero => exact Nat.pow_pos h.p0
  | succ i => exact FFld.padd_lt h _ _
set_option maxRecDepth 20000 in
set_option maxHeartbeats 4000000 in
theorem sop_any {D : FFld.FD} {b : Nat} (va vb : Value) (al bl : List Nat) (w : World) (hf : FldB D w b) (ha : Sl .i64 w va (ints al)) (hb : Sl .i64 w vb (ints bl)) (hl : al.length ≤ bl.length) (haq : ∀ a ∈ al, a < D.p ^ D.k) (hbq : ∀ a ∈ bl, a < D.p ^ D.k) (hn : al.length ≤ 100000) :
    Calls Tryz.prog 83 #[.pointer (some ⟨b, 0, none⟩), va, vb] w (RB w (.int .i64 (sopF D al bl al.length : Nat))) := by
  obtain ⟨h, T, x, fs, fp, fw, ms, ml, hbb, ho, _, _⟩ := hf.open
  obtain ⟨c0, _⟩ := six_cells hbb
  have hpk := h.pre.pk
  have hbl' : b < w.heap.size := hf.lt
  have HS := Kept.mk ho.sum
  have HP := Kept.mk ho.product
  have hms := ho.ms
  have hcs := ho.cs
  have hmp := ho.mp
  have hcp := ho.cp
  obtain ⟨a1, k1, rfl, hk1, hm1⟩ := ha.form
  obtain ⟨a2, k2, rfl, hk2, hm2⟩ := hb.form
  have HC1 := Kept.mk (ha.cells (Nat.le_refl _))
  have HC2 := Kept.mk (hb.cells (Nat.le_refl _))
  have HA := Kept.mk (FFld.getD_lt (Nat.pow_pos hpk.p0) haq)
  have HB := Kept.mk (FFld.getD_lt (Nat.pow_pos hpk.p0) hbq)
  have HL := Kept.mk (fun i => sopF_lt hpk al bl i)
  have HM := Kept.mk (fun a c => FFld.pmul_lt hpk a D.k c)
  rw [FFld.ints_len] at hk1 hk2 ⊢
  rw [FFld.ints_len]
  obtain ⟨n, hN⟩ : ∃ n, al.length = n := ⟨_, rfl⟩
  obtain ⟨n2, hN2⟩ : ∃ n, bl.length = n := ⟨_, rfl⟩
  rw [hN] at hk1 hl hn ⊢
  rw [hN2] at hk2 hl ⊢
  have HN := Kept.mk hN
  have HN2 := Kept.mk hN2
  clear ha hb hbb ho hf haq hbq hpk hN hN2
  go_enter Tryz.func83, Tryz.ntmps83
  go_wp2
  go_loopw [11, 7] (fun iv tv wr => ∃ (i t : Nat), i ≤ n ∧ iv = .int .i64 i ∧ tv = .int .i64 t ∧ Kept (sopF D al bl i = t) ∧ Kept (Below w.heap.size w wr)) (fun iv _ _ => n - (intOf iv).toNat)
  case atStart => exact ⟨0, 0, Nat.zero_le _, rfl, rfl, ⟨rfl⟩, ⟨Below.refl _ _⟩⟩
  case round =>
    obtain ⟨i, t, hin, rfl, rfl, ht, hbx⟩ := hrel
    by_cases hlt : i < n
    · obtain ⟨g1, o1, rfl, u1⟩ := HC1.out _ hbx.out i (by rw [HN.out]; exact hlt)
      obtain ⟨g2, o2, rfl, u2⟩ := HC2.out _ hbx.out i (by rw [HN2.out]; omega)
      obtain ⟨y, hy⟩ : ∃ y, al[i]?.getD 0 = y := ⟨_, rfl⟩
      obtain ⟨z, hz⟩ : ∃ y, bl[i]?.getD 0 = y := ⟨_, rfl⟩
      have hyq := HA.out i
      have hzq := HB.out i
      rw [hy] at u1 hyq
      rw [hz] at u2 hzq
      obtain ⟨v, hv⟩ : ∃ v, FFld.pmul D.p D.k D.m y D.k z = v := ⟨_, rfl⟩
      obtain ⟨s, hs⟩ : ∃ s, FFld.padd D.p D.k t v = s := ⟨_, rfl⟩
      have HNX : Kept (sopF D al bl (i + 1) = s) := ⟨by simp only [sopF]; rw [ht.out, hy, hz, hv, hs]⟩
      have hvq : v < D.p ^ D.k := by rw [← hv]; exact HM.out _ _
      have htq : t < D.p ^ D.k := by rw [← ht.out]; exact HL.out _
      have hP := Kept.mk (fun W (hW : Below w.heap.size w W) => HP.out W hW y z hyq hzq)
      have hS := Kept.mk (fun W (hW : Below w.heap.size w W) => HS.out W hW t v htq hvq)
      rw [hv] at hP
      rw [hs] at hS
      have f0 := (hbx.out.cell (p := ⟨b, 0, none⟩) hbl').trans c0
      have hin2 : i < n2 := by omega
      have hin3 : (i : Int) < (n2 : Int) := by omega
      clear hy hz hv hs hyq hzq hvq htq
      go_wp2
      go_region_held3 (fun w' => w'.cell? ⟨b, 0, none⟩ = some (.iface T x) ∧ w'.cell? ⟨g1, o1 + i, none⟩ = some (.int .i64 y) ∧ w'.cell? ⟨g2, o2 + i, none⟩ = some (.int .i64 z))
        (first | exact ⟨f0, u1, u2⟩ | exact ⟨k0, k1, k2⟩ | exact ⟨l0, l1, l2⟩ | go_keep)
        ((first
          | ((with_reducible refine (hP.out _ ?_).mono ?_); (exact (by first | exact hbx.out | exact hbx.out.drew)); rintro e w4 ⟨hb4, rfl⟩; have HB4 := Kept.mk (bstep (show Below w.heap.size w _ from (by first | exact hbx.out | exact hbx.out.drew)) hb4); have HR4 : Kept (Below wr.heap.size wr w4) := ⟨by first | exact hb4 | exact (Below.refl _ _).drew.trans hb4⟩; have k0 := belowCell HR4.out f0; have k1 := belowCell HR4.out u1; have k2 := belowCell HR4.out u2; clear hb4)
          | ((with_reducible refine (hS.out _ HB4.out).mono ?_); rintro e w5 ⟨hb5, rfl⟩; have HB5 := Kept.mk (bstep HB4.out hb5); have l0 := belowCell hb5 k0; have l1 := belowCell hb5 k1; have l2 := belowCell hb5 k2; clear hb5)))
      go_wp2
      go_roundw
      case rel => exact ⟨i + 1, s, by omega, by go_num, rfl, HNX, HB5⟩
      case measure => simp [intOf] <;> omega
    · obtain rfl : i = n := by omega
      go_wp2
      go_ret
      exact ⟨hbx.out, congrArg (fun n : Nat => Ending.returned (.int .i64 (n : Int))) ht.out.symm⟩
/-- All numbers are elements. -/
def elsB (D : FFld.FD) (xs : List Int) : Bool := xs.all fun a => decide (0 ≤ a ∧ a < D.q)
set_option maxRecDepth 20000 in
set_option maxHeartbeats 2000000 in
theorem areElements_any {D : FFld.FD} {b : Nat} (v : Value) (xs : List Int) (w : World) (hf : FldB D w b) (h : Sl .i64 w v xs) :
    Calls Tryz.prog 80 #[.pointer (some ⟨b, 0, none⟩), v] w (fun e w' => w = w' ∧ e = .returned (.bool (elsB D xs))) := by
  obtain ⟨ao, cap, rfl, hcap, hmax, hc⟩ := h
  obtain ⟨n, hN⟩ : ∃ n, xs.length = n := ⟨_, rfl⟩
  have HI := Kept.mk (fun a => isElement_any a w hf)
  have HC := Kept.mk hc
  rw [hN] at hcap ⊢
  have HN := Kept.mk hN
  unfold maxLen at hmax
  clear hf hc hN
  go_enter Tryz.func80, Tryz.ntmps80
  go_wp2
  go_loopw [9] (fun iv wr => ∃ (i : Nat), i ≤ n ∧ iv = .int .i64 i ∧ Kept (elsB D (xs.take i) = true) ∧ w = wr) (fun iv _ => n - (intOf iv).toNat)
  case atStart => exact ⟨0, Nat.zero_le _, rfl, ⟨rfl⟩, rfl⟩
  case round =>
    obtain ⟨i, hin, rfl, hat, rfl⟩ := hrel
    by_cases hlt : i < n
    · obtain ⟨g, o, rfl, hg, hcell⟩ := HC.out i (by rw [HN.out]; exact hlt)
      obtain ⟨a, ha⟩ : ∃ a, xs[i]?.getD 0 = a := ⟨_, rfl⟩
      rw [ha] at hcell
      have hI := Kept.mk (HI.out a)
      have hT : xs.take (i + 1) = xs.take i ++ [a] := by
        rw [List.take_add_one]
        congr 1
        rw [← ha, List.getElem?_eq_getElem (by rw [HN.out]; exact hlt)]
        rfl
      obtain ⟨t, ht⟩ : ∃ t, decide (0 ≤ a ∧ a < (D.q : Int)) = t := ⟨_, rfl⟩
      rw [ht] at hI
      have HT : Kept (elsB D (xs.take (i + 1)) = t) := ⟨by
        have := hat.out
        unfold elsB at this ⊢
        rw [hT, List.all_append, this]
        simp only [List.all_cons, List.all_nil, Bool.and_true, Bool.true_and]
        exact ht⟩
      clear ha hT ht
      cases t with
      | true =>
        go_wp2_with fail
        refine hI.out.mono ?_
        rintro e w2 ⟨rfl, rfl⟩
        go_wp2
        go_roundw
        case rel => exact ⟨i + 1, by omega, by go_num, HT, trivial⟩
        case measure => simp [intOf] <;> omega
      | false =>
        have HE : Kept (elsB D xs = false) := ⟨by
          have h1 := HT.out
          unfold elsB at h1 ⊢
          rw [← List.take_append_drop (i + 1) xs, List.all_append, h1]
          rfl⟩
        go_wp2_with fail
        refine hI.out.mono ?_
        rintro e w2 ⟨rfl, rfl⟩
        go_wp2
        go_ret
        exact ⟨rfl, by rw [HE.out]; rfl⟩
    · obtain rfl : i = n := by omega
      have HE : Kept (elsB D xs = true) := ⟨by have := hat.out; rw [← HN.out, List.take_length] at this; exact this⟩
      go_wp2
      go_ret
      exact ⟨rfl, by rw [HE.out]; rfl⟩
end Go.Proofs.YtfhhnfpapgfnmaaGreat

set_option linter.unusedVariables false
set_option linter.unusedSimpArgs false
namespace Go.Proofs.YtfhhnfpapgfnmaaGreat
open Go Go.RowKit Go.Deep
open FFld (ints)
def rlen (rows : List (List Int)) (i : Nat) : Nat := (rows[i]?.getD []).length
/-- The error of a matrix. -/
def mErr (D : FFld.FD) (rows : List (List Int)) : Nat :=
  if rows.length = 0 then 0 else if 64 < rows.length ∨ 64 < rlen rows 0 then 2 else if rows.all (fun r => r.length == rlen rows 0) then (if rows.all (elsB D) then 0 else 1) else 7
theorem all_take {α : Type} {f : α → Bool} {l : List α} {i : Nat} (d : α) (h : (l.take i).all f = true) (hi : i < l.length) : (l.take (i + 1)).all f = f (l[i]?.getD d) := by
  rw [List.take_add_one, List.all_append, h, List.getElem?_eq_getElem hi]
  simp
theorem all_false {α : Type} {f : α → Bool} {l : List α} {i : Nat} (h : (l.take i).all f = false) : l.all f = false := by
  rw [← List.take_append_drop i l, List.all_append, h]
  rfl
set_option maxRecDepth 20000 in
set_option maxHeartbeats 4000000 in
theorem checkMatrix_any {D : FFld.FD} {b : Nat} (rows : List (List Int)) (ao : Option Addr) (cap : Nat) (w : World) (hf : FldB D w b) (h : Sls w ao rows) (hcap : rows.length ≤ cap) (hmax : cap ≤ maxLen) :
    Calls Tryz.prog 79 #[.pointer (some ⟨b, 0, none⟩), .slice ao rows.length cap] w (fun e w' => w = w' ∧ e = .returned (.int .i64 (mErr D rows : Nat))) := by
  have HA := Kept.mk (fun v xs hs => areElements_any (D := D) (b := b) v xs w hf hs)
  have HS := Kept.mk h
  obtain ⟨n, hN⟩ : ∃ n, rows.length = n := ⟨_, rfl⟩
  rw [hN] at hcap ⊢
  have HN := Kept.mk hN
  unfold maxLen at hmax
  clear h hf hN
  by_cases h0 : n = 0
  · have HE : Kept (mErr D rows = 0) := ⟨by unfold mErr; rw [if_pos (by rw [HN.out]; exact h0)]⟩
    have e0 : ((n : Int) == 0) = true := by rw [h0]; rfl
    rw [HE.out]
    clear h0
    go_enter Tryz.func79, Tryz.ntmps79
    go_wp2
    go_ret
    exact ⟨rfl, rfl⟩
  · have e0 : ((n : Int) == 0) = false := by rw [beq_eq_false_iff_ne]; omega
    by_cases h64 : 64 < n
    · have HE : Kept (mErr D rows = 2) := ⟨by unfold mErr; rw [if_neg (by rw [HN.out]; exact h0), if_pos (by rw [HN.out]; exact .inl h64)]⟩
      have e1 : decide ((n : Int) > 64) = true := by simp; omega
      rw [HE.out]
      clear h0
      go_enter Tryz.func79, Tryz.ntmps79
      go_wp2
      go_ret
      exact ⟨rfl, rfl⟩
    · have e1 : decide ((n : Int) > 64) = false := by simp; omega
      obtain ⟨g, o, rv, rfl, hg, hcell, hsl⟩ := HS.out 0 (by rw [HN.out]; omega)
      obtain ⟨a0, c0, rfl, hc0, hm0⟩ := hsl.form
      obtain ⟨r0, hr0⟩ : ∃ r, (rows[0]?.getD []).length = r := ⟨_, rfl⟩
      rw [hr0] at hcell hc0
      have HR0 : Kept (rlen rows 0 = r0) := ⟨hr0⟩
      rw [Nat.add_zero] at hcell
      unfold maxLen at hm0
      have hn0 : 0 < n := by omega
      clear hsl hr0
      by_cases h65 : 64 < r0
      · have HE : Kept (mErr D rows = 2) := ⟨by unfold mErr; rw [if_neg (by rw [HN.out]; exact h0), if_pos (by rw [HR0.out]; exact .inr h65)]⟩
        have e2 : decide ((r0 : Int) > 64) = true := by simp; omega
        rw [HE.out]
        clear h0
        go_enter Tryz.func79, Tryz.ntmps79
        go_wp2
        go_ret
        exact ⟨rfl, rfl⟩
      · have e2 : decide ((r0 : Int) > 64) = false := by simp; omega
        have HE : Kept (mErr D rows = if rows.all (fun r => r.length == r0) then (if rows.all (elsB D) then 0 else 1) else 7) := ⟨by unfold mErr; rw [if_neg (by rw [HN.out]; exact h0), HR0.out, if_neg (by rw [HN.out]; omega)]⟩
        have hn64 : n ≤ 64 := by omega
        clear h0 h64 h65
        go_enter Tryz.func79, Tryz.ntmps79
        go_wp2
        go_loopw [29] (fun iv wr => ∃ (i : Nat), i ≤ n ∧ iv = .int .i64 i ∧ Kept ((rows.take i).all (fun r => r.length == r0) = true) ∧ w = wr) (fun iv _ => n - (intOf iv).toNat)
        case atStart => exact ⟨0, Nat.zero_le _, rfl, ⟨rfl⟩, rfl⟩
        case round =>
          obtain ⟨i, hin, rfl, hat, rfl⟩ := hrel
          by_cases hlt : i < n
          · obtain ⟨g', o', rv, ee, hg', hcell', hsl⟩ := HS.out i (by rw [HN.out]; exact hlt)
            simp only [Option.some.injEq, Addr.mk.injEq, and_true] at ee
            obtain ⟨rfl, rfl⟩ := ee
            obtain ⟨a1, c1, rfl, hc1, hm1⟩ := hsl.form
            obtain ⟨ri, hri⟩ : ∃ r, (rows[i]?.getD []).length = r := ⟨_, rfl⟩
            rw [hri] at hcell' hc1
            have hT := all_take (f := fun r : List Int => r.length == r0) [] hat.out (by rw [HN.out]; exact hlt)
            simp only [hri] at hT
            unfold maxLen at hm1
            by_cases heq : ri = r0
            · subst heq
              have HT : Kept ((rows.take (i + 1)).all (fun r => r.length == ri) = true) := ⟨by rw [hT]; simp⟩
              clear hT hri hsl
              go_wp2
              go_roundw
              case rel => exact ⟨i + 1, by omega, by go_num, HT, trivial⟩
              case measure => simp [intOf] <;> omega
            · have e3 : ((ri : Int) == (r0 : Int)) = false := by rw [beq_eq_false_iff_ne]; omega
              have HF : Kept (mErr D rows = 7) := ⟨by
                rw [HE.out, if_neg]
                rw [all_false (i := i + 1) (by rw [hT, beq_eq_false_iff_ne]; exact heq)]
                simp⟩
              clear hT hri hsl heq
              go_wp2
              go_ret
              exact ⟨rfl, by rw [HF.out]; rfl⟩
          · obtain rfl : i = n := by omega
            have HE2 : Kept (mErr D rows = if rows.all (elsB D) then 0 else 1) := ⟨by
              rw [HE.out, if_pos]
              have := hat.out
              rw [← HN.out, List.take_length] at this
              exact this⟩
            clear HE hat
            go_wp2
            go_loopw [43] (fun iv wr => ∃ (j : Nat), j ≤ i ∧ iv = .int .i64 j ∧ Kept ((rows.take j).all (elsB D) = true) ∧ w = wr) (fun iv _ => i - (intOf iv).toNat)
            case atStart => exact ⟨0, Nat.zero_le _, rfl, ⟨rfl⟩, rfl⟩
            case round =>
              obtain ⟨j, hjn, rfl, hat, rfl⟩ := hrel
              by_cases hlt2 : j < i
              · obtain ⟨g', o', rv, ee, hg', hcell', hsl⟩ := HS.out j (by rw [HN.out]; exact hlt2)
                simp only [Option.some.injEq, Addr.mk.injEq, and_true] at ee
                obtain ⟨rfl, rfl⟩ := ee
                have hT := all_take (f := elsB D) [] hat.out (by rw [HN.out]; exact hlt2)
                have hA := Kept.mk (HA.out _ _ hsl)
                obtain ⟨t, ht⟩ : ∃ t, elsB D (rows[j]?.getD []) = t := ⟨_, rfl⟩
                rw [ht] at hA hT
                have HT := Kept.mk hT
                clear hT ht hsl
                cases t with
                | true =>
                  go_wp2_with fail
                  refine hA.out.mono ?_
                  rintro e w2 ⟨rfl, rfl⟩
                  go_wp2
                  go_roundw
                  case rel => exact ⟨j + 1, by omega, by go_num, HT, trivial⟩
                  case measure => simp [intOf] <;> omega
                | false =>
                  have HF : Kept (mErr D rows = 1) := ⟨by rw [HE2.out, if_neg]; rw [all_false (i := j + 1) HT.out]; simp⟩
                  go_wp2_with fail
                  refine hA.out.mono ?_
                  rintro e w2 ⟨rfl, rfl⟩
                  go_wp2
                  go_ret
                  exact ⟨rfl, by rw [HF.out]; rfl⟩
              · obtain rfl : j = i := by omega
                have HF : Kept (mErr D rows = 0) := ⟨by rw [HE2.out, if_pos]; have := hat.out; rw [← HN.out, List.take_length] at this; exact this⟩
                go_wp2
                go_ret
                exact ⟨rfl, by rw [HF.out]; rfl⟩
/-- The error of equations. -/
def qErr (D : FFld.FD) (rows : List (List Int)) (bl : List Int) : Nat := if mErr D rows = 0 then (if bl.length = rows.length then (if elsB D bl then 0 else 1) else 7) else mErr D rows
theorem mErr_le (D : FFld.FD) (rows : List (List Int)) : mErr D rows ≤ 7 := by
  unfold mErr
  repeat' split
  all_goals omega
set_option maxRecDepth 20000 in
set_option maxHeartbeats 4000000 in
theorem checkEquations_any {D : FFld.FD} {b : Nat} (rows : List (List Int)) (ao : Option Addr) (cap : Nat) (vb : Value) (bl : List Int) (w : World) (hf : FldB D w b) (h : Sls w ao rows) (hcap : rows.length ≤ cap) (hmax : cap ≤ maxLen) (hb : Sl .i64 w vb bl) :
    Calls Tryz.prog 54 #[.pointer (some ⟨b, 0, none⟩), .slice ao rows.length cap, vb] w (fun e w' => w = w' ∧ e = .returned (.int .i64 (qErr D rows bl : Nat))) := by
  have HC := Kept.mk (checkMatrix_any rows ao cap w hf h hcap hmax)
  have HA := Kept.mk (areElements_any vb bl w hf hb)
  obtain ⟨ab, cb, rfl, hcb, hmb⟩ := hb.form
  obtain ⟨n, hN⟩ : ∃ n, rows.length = n := ⟨_, rfl⟩
  obtain ⟨m, hM⟩ : ∃ n, bl.length = n := ⟨_, rfl⟩
  have hE : qErr D rows bl = if mErr D rows = 0 then (if m = n then (if elsB D bl then 0 else 1) else 7) else mErr D rows := by unfold qErr; rw [hN, hM]
  have hle := mErr_le D rows
  obtain ⟨me, hme⟩ : ∃ k, mErr D rows = k := ⟨_, rfl⟩
  obtain ⟨t, ht⟩ : ∃ k, elsB D bl = k := ⟨_, rfl⟩
  rw [hme, ht] at hE
  rw [hN, hme] at HC
  rw [hM] at hcb HA ⊢
  rw [ht] at HA
  rw [hme] at hle
  rw [hN] at hcap ⊢
  unfold maxLen at hmax hmb
  clear hf h hb hN hM hme ht
  by_cases h0 : me = 0
  · subst h0
    rw [if_pos rfl] at hE
    have e0 : (((0 : Nat) : Int) == 0) = true := rfl
    by_cases hmn : m = n
    · rw [if_pos hmn] at hE
      have e1 : ((m : Int) == (n : Int)) = true := by rw [hmn]; simp
      rw [hE]
      clear hE hmn
      go_enter Tryz.func54, Tryz.ntmps54
      go_wp2_with fail
      refine HC.out.mono ?_
      rintro e w2 ⟨rfl, rfl⟩
      go_wp2_with fail
      refine HA.out.mono ?_
      rintro e w2 ⟨rfl, rfl⟩
      cases t
      · go_wp2
        go_ret
        exact ⟨rfl, rfl⟩
      · go_wp2
        go_ret
        exact ⟨rfl, rfl⟩
    · rw [if_neg hmn] at hE
      have e1 : ((m : Int) == (n : Int)) = false := by rw [beq_eq_false_iff_ne]; omega
      rw [hE]
      clear hE hmn
      go_enter Tryz.func54, Tryz.ntmps54
      go_wp2_with fail
      refine HC.out.mono ?_
      rintro e w2 ⟨rfl, rfl⟩
      go_wp2
      go_ret
      exact ⟨rfl, rfl⟩
  · rw [if_neg h0] at hE
    have e0 : ((me : Int) == 0) = false := by rw [beq_eq_false_iff_ne]; omega
    rw [hE]
    clear hE h0
    go_enter Tryz.func54, Tryz.ntmps54
    go_wp2_with fail
    refine HC.out.mono ?_
    rintro e w2 ⟨rfl, rfl⟩
    go_wp2
    go_ret
    exact ⟨rfl, rfl⟩
end Go.Proofs.YtfhhnfpapgfnmaaGreat
