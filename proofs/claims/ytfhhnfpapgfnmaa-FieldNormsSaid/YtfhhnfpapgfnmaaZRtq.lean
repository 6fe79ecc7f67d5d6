/-
  Texts of the proof, merged by program: Rtq.
-/
import Derived.Test.YtfhhnfpapgfnmaaZRtd
import Derived.Test.YtfhhnfpapgfnmaaZLca
import Derived.Test.YtfhhnfpapgfnmaaZ9
set_option linter.unusedVariables false
set_option linter.unusedSimpArgs false
namespace Go.Proofs.Ytfhhnfpapgfnmaa
open Go Go.RowKit Go.Deep
open FFld (ints)
set_option maxRecDepth 20000 in
set_option maxHeartbeats 4000000 in
/-- The reference's product of two polynomials. -/
theorem rproductp_any {D : FFld.FD} (hD : D.Ok) (vp vq : Value) (pl ql : List Nat) (w : World) (hp : Sl .i64 w vp (ints pl)) (hq : Sl .i64 w vq (ints ql)) (hpq : ∀ a ∈ pl, a < D.p ^ D.k) (hqq : ∀ a ∈ ql, a < D.p ^ D.k) (hpl : pl.length ≤ 100000) (hqll : ql.length ≤ 100000) :
    Calls Try.prog 66 #[rfv D.q D.p D.k D.m, vp, vq] w (fun e w' => Below w.heap.size w w' ∧ ∃ v, e = .returned v ∧ Sl .i64 w' v (ints (FFld.mulL D pl ql))) := by
  obtain ⟨ap, cp, hvp, hcp, hmp⟩ := hp.form
  obtain ⟨aq, cq, hvq, hcq, hmq⟩ := hq.form
  subst hvp hvq
  rw [FFld.ints_len] at hcp hcq
  have HPS := Kept.mk hp
  have HQS := Kept.mk hq
  have HPQ := Kept.mk hpq
  have HQQ := Kept.mk hqq
  clear hp hq hpq hqq
  rw [FFld.ints_len, FFld.ints_len]
  rw [FFld.ints_len] at HPS
  rw [FFld.ints_len] at HQS
  have HX0 : Kept (Bxs w [rbox D.q D.p D.k D.m] (w.alloc (rbox D.q D.p D.k D.m))) := ⟨(Bxs.start w).alloc (by simp) _⟩
  by_cases h0 : pl.length = 0 ∨ ql.length = 0
  · have hL : FFld.mulL D pl ql = [] := by unfold FFld.mulL; rw [if_pos h0]
    have HS : Kept (Sl .i64 (w.alloc (rbox D.q D.p D.k D.m)) (.slice none 0 0) (ints [])) := ⟨Sl.nil _ _⟩
    rw [hL]
    by_cases h1 : pl.length = 0
    · obtain ⟨np, hnp⟩ : ∃ np, pl.length = np := ⟨_, rfl⟩
      rw [hnp] at h1 ⊢
      subst h1
      clear HPS HQS h0 hL hnp
      go_enter Try.func66, Try.ntmps66
      go_wp2
      go_ret
      exact ⟨HX0.out.1, .slice none 0 0, rfl, HS.out⟩
    · have h2 : ql.length = 0 := by omega
      have e1 : ((pl.length : Int) == 0) = false := by rw [beq_eq_false_iff_ne]; omega
      obtain ⟨nq, hnq⟩ : ∃ nq, ql.length = nq := ⟨_, rfl⟩
      rw [hnq] at h2 ⊢
      subst h2
      clear HPS HQS h0 hL hnq
      go_enter Try.func66, Try.ntmps66
      go_wp2
      go_ret
      exact ⟨HX0.out.1, .slice none 0 0, rfl, HS.out⟩
  · have hL : FFld.mulL D pl ql = FFld.mulF D pl ql pl.length := by unfold FFld.mulL; rw [if_neg h0]
    rw [hL]
    have e1 : ((pl.length : Int) == 0) = false := by rw [beq_eq_false_iff_ne]; omega
    have e2 : ((ql.length : Int) == 0) = false := by rw [beq_eq_false_iff_ne]; omega
    obtain ⟨n, hn⟩ : ∃ n, pl.length + ql.length - 1 = n := ⟨_, rfl⟩
    have en : (pl.length : Int) + ql.length - 1 = n := by omega
    have HN : Kept (∀ i, (FFld.mulF D pl ql i).length = n) := ⟨fun i => by rw [FFld.mulF_len, hn]⟩
    have hlen : pl.length + ql.length = n + 1 := by omega
    have hn6 : n ≤ 200000 := by omega
    have HZ : Kept (FFld.mulF D pl ql 0 = List.replicate n 0) := ⟨by simp only [FFld.mulF]; rw [hn]⟩
    obtain ⟨np, hnp⟩ : ∃ np, pl.length = np := ⟨_, rfl⟩
    obtain ⟨nq, hnq⟩ : ∃ nq, ql.length = nq := ⟨_, rfl⟩
    have HNP := Kept.mk hnp
    have HNQ := Kept.mk hnq
    have hq6 : D.p ^ D.k ≤ 65536 := hD.pre.small
    have HM := Kept.mk (fun W x y (hx : x < D.p ^ D.k) (hy : y < D.p ^ D.k) => rmul_any D.q D.p D.k D.m x y W hD.pre.pk.p2 hD.pre.pk.k1 hx hy hq6 (md_ok hD))
    have HA := Kept.mk (fun W x y (hx : x < D.p ^ D.k) (hy : y < D.p ^ D.k) => radd_any D.q D.p D.k D.m x y W hD.pre.pk.p2 hD.pre.pk.k1 hx hy hq6)
    rw [hnp] at hcp hpl e1 en hlen h0 ⊢
    rw [hnq] at hcq hqll e2 en hlen h0 ⊢
    rw [hnp] at HPS
    rw [hnq] at HQS
    clear hL hn hnp hnq h0 hq6
    go_enter Try.func66, Try.ntmps66
    go_wp2_with (at_make; refine wpList_make_zeros _ rfl _ _ 34 rfl 3 .i64 Try.underlying34 info_i64 _ _ n rfl rfl (by omega) (by omega) (by omega) ?_)
    intro w3 hrow hbel
    rw [FFld.ints_rep] at hrow
    have HW3 := Kept.mk hrow.wv
    have HX3 := Kept.mk (HX0.out.below (by simpa using hbel))
    obtain ⟨g, hg⟩ : ∃ g, w.heap.size + 1 = g := ⟨_, rfl⟩
    rw [hg] at HW3
    clear hrow hbel HX0 en
    go_wp2
    try rw [hg]
    have hlg : w.heap.size < g := by omega
    clear hg
    go_loopw [8] (fun iv wr => ∃ i : Nat, i ≤ np ∧ iv = .int .i64 i ∧ Kept (Wv wr g (FFld.mulF D pl ql i)) ∧ Kept (Bxs w [rbox D.q D.p D.k D.m] wr)) (fun iv _ => np - (intOf iv).toNat)
    case atStart => exact ⟨0, Nat.zero_le _, rfl, ⟨by rw [HZ.out]; exact HW3.out⟩, HX3⟩
    case round =>
      obtain ⟨i, hi, rfl, hwv0, hbx0⟩ := hrel
      by_cases hlt : i < np
      · obtain ⟨R, hR⟩ : ∃ R, FFld.mulF D pl ql i = R := ⟨_, rfl⟩
        have HRL : Kept (R.length = n) := ⟨by rw [← hR]; exact HN.out i⟩
        have HRQ : Kept (∀ a ∈ R, a < D.p ^ D.k) := ⟨by rw [← hR]; exact FFld.mulF_lt hD.pre.pk pl ql i⟩
        obtain ⟨c, hc⟩ : ∃ c, pl[i]?.getD 0 = c := ⟨_, rfl⟩
        have HNX : Kept (FFld.mulF D pl ql (i + 1) = FFld.addmF D R i ql c nq) := ⟨by simp only [FFld.mulF]; rw [hR, hc]; unfold FFld.addm; rw [HNQ.out]⟩
        have HC := Kept.mk hc
        rw [hR] at hwv0
        clear hR hc
        go_wp2
        go_loopw [9] (fun jv wr => ∃ j : Nat, j ≤ nq ∧ jv = .int .i64 j ∧ Kept (Wv wr g (FFld.addmF D R i ql c j)) ∧ Kept (Bxs w [rbox D.q D.p D.k D.m] wr)) (fun jv _ => nq - (intOf jv).toNat)
        case atStart => exact ⟨0, Nat.zero_le _, rfl, hwv0, hbx0⟩
        case round =>
          clear hwv0 hbx0
          obtain ⟨j, hj, rfl, hwv, hbx⟩ := hrel
          by_cases hlt2 : j < nq
          · obtain ⟨bp, op, hap, hnp, hbp, ip⟩ := (HPS.out.qc hbx.out.1 (Nat.le_of_lt hlg)) i (by rw [HNP.out]; exact hlt)
            obtain ⟨bq, oq, haq, hnq, hbq, iq⟩ := (HQS.out.qc hbx.out.1 (Nat.le_of_lt hlg)) j (by rw [HNQ.out]; exact hlt2)
            subst hap haq
            rw [HC.out] at ip
            obtain ⟨y, hy⟩ : ∃ y, ql[j]?.getD 0 = y := ⟨_, rfl⟩
            rw [hy] at iq
            obtain ⟨i0, i1, i2, i3⟩ := four_cells hbx.out.b0
            have hcq2 : c < D.p ^ D.k := by rw [← HC.out]; exact FFld.getD_lt (Nat.pow_pos hD.pre.pk.p0) HPQ.out i
            have hyq : y < D.p ^ D.k := by rw [← hy]; exact FFld.getD_lt (Nat.pow_pos hD.pre.pk.p0) HQQ.out j
            have hlen2 : (FFld.addmF D R i ql c j).length = n := by rw [FFld.addmF_len]; exact HRL.out
            have hij : i + j < n := by omega
            have t1 := hwv.out.cell (i := i + j) (by omega)
            obtain ⟨u, hu⟩ : ∃ u, (FFld.addmF D R i ql c j)[i + j]?.getD 0 = u := ⟨_, rfl⟩
            have huq : u < D.p ^ D.k := by rw [← hu]; exact FFld.getD_lt (Nat.pow_pos hD.pre.pk.p0) (FFld.addmF_lt hD.pre.pk i ql c j HRQ.out) _
            rw [hu] at t1
            obtain ⟨z, hz⟩ : ∃ z, FFld.pmul D.p D.k D.m c D.k y = z := ⟨_, rfl⟩
            have hzq : z < D.p ^ D.k := by rw [← hz]; exact FFld.pmul_lt hD.pre.pk _ _ _
            obtain ⟨v, hv⟩ : ∃ v, FFld.padd D.p D.k u z = v := ⟨_, rfl⟩
            have HV : Kept ((FFld.addmF D R i ql c j).set (i + j) v = FFld.addmF D R i ql c (j + 1)) := ⟨by simp only [FFld.addmF]; rw [hu, hy, FFld.pmul_comm hD.pre.pk _ _ hyq hcq2, hz, hv]⟩
            have hM := Kept.mk (fun W => HM.out W c y hcq2 hyq)
            rw [hz] at hM
            have hA := Kept.mk (fun W => HA.out W u z huq hzq)
            rw [hv] at hA
            have hi0 : (i : Int) + j = ((i + j : Nat) : Int) := by omega
            have ewi : IntKind.i64.wrap ((i : Int) + j) = (i : Int) + j := wi (by omega) (by omega)
            have hij1 : (i : Int) + j < (n : Int) := by omega
            have hij2 : (0 : Int) ≤ (i : Int) + j := by omega
            have hij3 : ((i : Int) + j).toNat = i + j := by omega
            clear hu hy hz hv huq hzq hcq2 hyq hlen2 hi0
            go_wp2
            refine wp_region_held_drew (S := fun w' => w'.cell? ⟨w.heap.size, 0, none⟩ = some (.int .i64 D.q) ∧ w'.cell? ⟨w.heap.size, 1, none⟩ = some (.int .i64 D.p) ∧ w'.cell? ⟨w.heap.size, 2, none⟩ = some (.int .i64 D.k) ∧ w'.cell? ⟨w.heap.size, 3, none⟩ = some (.int .i64 D.m) ∧ w'.cell? ⟨bp, op + i, none⟩ = some (.int .i64 c) ∧ w'.cell? ⟨bq, oq + j, none⟩ = some (.int .i64 y)) (by kernel_rfl) ⟨i0, i1, i2, i3, ip, iq⟩ (fun hHeld => ?_)
            refine wpAnyH_take (i := 0) (v := ?_) rfl (by kernel_rfl) (by kernel_rfl) (by kernel_rfl) (fun _ _ _ h => h) (Or.inl ⟨by rfl, ?_⟩) (by assumption) ?_
            rotate_left
            · (intro w hSw; (try dsimp only at hSw); go_simp; (try with_reducible rfl))
            try simp only [Act.put, List.getElem_toArray, List.getElem_cons_succ, List.getElem_cons_zero, List.setIfInBounds_toArray, List.set_cons_zero, List.set_cons_succ]
            refine wpAnyH_take (i := 1) (v := ?_) rfl (by kernel_rfl) (by kernel_rfl) (by kernel_rfl) (fun _ _ _ h => h) (Or.inl ⟨by rfl, ?_⟩) (by assumption) ?_
            rotate_left
            · (intro w hSw; (try dsimp only at hSw); go_simp; (try with_reducible rfl))
            try simp only [Act.put, List.getElem_toArray, List.getElem_cons_succ, List.getElem_cons_zero, List.setIfInBounds_toArray, List.set_cons_zero, List.set_cons_succ]
            refine wpAnyH_take (i := 2) (v := ?_) rfl (by kernel_rfl) (by kernel_rfl) (by kernel_rfl) (fun _ _ _ h => h) (Or.inl ⟨by rfl, ?_⟩) (by assumption) ?_
            rotate_left
            · (intro w hSw; (try dsimp only at hSw); go_simp; (try with_reducible rfl))
            try simp only [Act.put, List.getElem_toArray, List.getElem_cons_succ, List.getElem_cons_zero, List.setIfInBounds_toArray, List.set_cons_zero, List.set_cons_succ]
            refine wpAnyH_take (i := 3) (v := ?_) rfl (by kernel_rfl) (by kernel_rfl) (by kernel_rfl) (fun _ _ _ h => h) (Or.inl ⟨by rfl, ?_⟩) (by assumption) ?_
            rotate_left
            · (intro w hSw; (try dsimp only at hSw); go_simp; (try with_reducible rfl))
            try simp only [Act.put, List.getElem_toArray, List.getElem_cons_succ, List.getElem_cons_zero, List.setIfInBounds_toArray, List.set_cons_zero, List.set_cons_succ]
            refine wpAnyH_take (i := 4) (v := ?_) rfl (by kernel_rfl) (by kernel_rfl) (by kernel_rfl) (fun _ _ _ h => h) (Or.inl ⟨by rfl, ?_⟩) (by assumption) ?_
            rotate_left
            · (intro w hSw; (try dsimp only at hSw); go_simp; (try with_reducible rfl))
            try simp only [Act.put, List.getElem_toArray, List.getElem_cons_succ, List.getElem_cons_zero, List.setIfInBounds_toArray, List.set_cons_zero, List.set_cons_succ]
            refine wpAnyH_take (i := 5) (v := ?_) rfl (by kernel_rfl) (by kernel_rfl) (by kernel_rfl) (fun _ _ _ h => h) (Or.inl ⟨by rfl, ?_⟩) (by assumption) ?_
            rotate_left
            · (intro w hSw; (try dsimp only at hSw); go_simp; (try with_reducible rfl))
            try simp only [Act.put, List.getElem_toArray, List.getElem_cons_succ, List.getElem_cons_zero, List.setIfInBounds_toArray, List.set_cons_zero, List.set_cons_succ]
            refine wpAnyH_take (i := 6) (v := ?_) rfl (by kernel_rfl) (by kernel_rfl) (by kernel_rfl) (fun _ _ _ h => h) (Or.inl ⟨by rfl, ?_⟩) (by assumption) ?_
            rotate_left
            · (intro w hSw; (try dsimp only at hSw); go_simp; (try with_reducible rfl))
            try simp only [Act.put, List.getElem_toArray, List.getElem_cons_succ, List.getElem_cons_zero, List.setIfInBounds_toArray, List.set_cons_zero, List.set_cons_succ]
            refine wpAnyH_take (i := 7) (v := ?_) rfl (by kernel_rfl) (by kernel_rfl) (by kernel_rfl) (fun _ _ _ h => h) (Or.inl ⟨by rfl, ?_⟩) (by assumption) ?_
            rotate_left
            · (intro w hSw; (try dsimp only at hSw); go_simp; (try with_reducible rfl))
            try simp only [Act.put, List.getElem_toArray, List.getElem_cons_succ, List.getElem_cons_zero, List.setIfInBounds_toArray, List.set_cons_zero, List.set_cons_succ]
            refine wpAnyH_take (i := 8) (v := ?_) rfl (by kernel_rfl) (by kernel_rfl) (by kernel_rfl) (fun _ _ _ h => h) (Or.inl ⟨by rfl, ?_⟩) (by assumption) ?_
            rotate_left
            · (intro w hSw; (try dsimp only at hSw); go_simp; (try with_reducible rfl))
            try simp only [Act.put, List.getElem_toArray, List.getElem_cons_succ, List.getElem_cons_zero, List.setIfInBounds_toArray, List.set_cons_zero, List.set_cons_succ]
            refine wpAnyH_take (i := 9) (v := ?_) rfl (by kernel_rfl) (by kernel_rfl) (by kernel_rfl) (fun _ _ _ h => h) (Or.inl ⟨by rfl, ?_⟩) (by assumption) ?_
            rotate_left
            · (intro w hSw; (try dsimp only at hSw); go_simp; (try with_reducible rfl))
            try simp only [Act.put, List.getElem_toArray, List.getElem_cons_succ, List.getElem_cons_zero, List.setIfInBounds_toArray, List.set_cons_zero, List.set_cons_succ]
            refine wpAnyH_take (i := 11) (v := ?_) rfl (by kernel_rfl) (by kernel_rfl) (by kernel_rfl) (fun _ _ _ h => h) (Or.inl ⟨by rfl, ?_⟩) (by assumption) ?_
            rotate_left
            · (intro w hSw; (try dsimp only at hSw); go_simp; (try with_reducible rfl))
            try simp only [Act.put, List.getElem_toArray, List.getElem_cons_succ, List.getElem_cons_zero, List.setIfInBounds_toArray, List.set_cons_zero, List.set_cons_succ]
            refine wpAnyH_take (i := 12) (v := ?_) rfl (by kernel_rfl) (by kernel_rfl) (by kernel_rfl) (fun _ _ _ h => h) (Or.inl ⟨by rfl, ?_⟩) (by assumption) ?_
            rotate_left
            · (intro w hSw; (try dsimp only at hSw); go_simp; (try with_reducible rfl))
            try simp only [Act.put, List.getElem_toArray, List.getElem_cons_succ, List.getElem_cons_zero, List.setIfInBounds_toArray, List.set_cons_zero, List.set_cons_succ]
            refine wpAnyH_take (i := 13) (v := ?_) rfl (by kernel_rfl) (by kernel_rfl) (by kernel_rfl) (fun _ _ _ h => h) (Or.inl ⟨by rfl, ?_⟩) (by assumption) ?_
            rotate_left
            · (intro w hSw; (try dsimp only at hSw); go_simp; (try with_reducible rfl))
            try simp only [Act.put, List.getElem_toArray, List.getElem_cons_succ, List.getElem_cons_zero, List.setIfInBounds_toArray, List.set_cons_zero, List.set_cons_succ]
            refine wpAnyH_take (i := 14) (v := ?_) rfl (by kernel_rfl) (by kernel_rfl) (by kernel_rfl) (fun _ _ _ h => h) (Or.inl ⟨by rfl, ?_⟩) (by assumption) ?_
            rotate_left
            · (intro w hSw; (try dsimp only at hSw); go_simp; (try with_reducible rfl))
            try simp only [Act.put, List.getElem_toArray, List.getElem_cons_succ, List.getElem_cons_zero, List.setIfInBounds_toArray, List.set_cons_zero, List.set_cons_succ]
            refine wpAnyH_take (i := 15) (v := ?_) rfl (by kernel_rfl) (by kernel_rfl) (by kernel_rfl) (fun _ _ _ h => h) (Or.inl ⟨by rfl, ?_⟩) (by assumption) ?_
            rotate_left
            · (intro w hSw; (try dsimp only at hSw); go_simp; (try with_reducible rfl))
            try simp only [Act.put, List.getElem_toArray, List.getElem_cons_succ, List.getElem_cons_zero, List.setIfInBounds_toArray, List.set_cons_zero, List.set_cons_succ]
            refine wpAnyH_take (i := 16) (v := ?_) rfl (by kernel_rfl) (by kernel_rfl) (by kernel_rfl) (fun _ _ _ h => h) (Or.inl ⟨by rfl, ?_⟩) (by assumption) ?_
            rotate_left
            · (intro w hSw; (try dsimp only at hSw); go_simp; (try with_reducible rfl))
            try simp only [Act.put, List.getElem_toArray, List.getElem_cons_succ, List.getElem_cons_zero, List.setIfInBounds_toArray, List.set_cons_zero, List.set_cons_succ]
            refine wpAnyH_take (i := 17) (v := ?_) rfl (by kernel_rfl) (by kernel_rfl) (by kernel_rfl) (fun _ _ _ h => h) (Or.inl ⟨by rfl, ?_⟩) (by assumption) ?_
            rotate_left
            · (intro w hSw; (try dsimp only at hSw); go_simp; (try with_reducible rfl))
            try simp only [Act.put, List.getElem_toArray, List.getElem_cons_succ, List.getElem_cons_zero, List.setIfInBounds_toArray, List.set_cons_zero, List.set_cons_succ]
            refine wpAnyH_take (i := 18) (v := ?_) rfl (by kernel_rfl) (by kernel_rfl) (by kernel_rfl) (fun _ _ _ h => h) (Or.inl ⟨by rfl, ?_⟩) (by assumption) ?_
            rotate_left
            · (intro w hSw; (try dsimp only at hSw); go_simp; (try with_reducible rfl))
            try simp only [Act.put, List.getElem_toArray, List.getElem_cons_succ, List.getElem_cons_zero, List.setIfInBounds_toArray, List.set_cons_zero, List.set_cons_succ]
            refine wpAnyH_take (i := 19) (v := ?_) rfl (by kernel_rfl) (by kernel_rfl) (by kernel_rfl) (fun _ _ _ h => h) (Or.inl ⟨by rfl, ?_⟩) (by assumption) ?_
            rotate_left
            · (intro w hSw; (try dsimp only at hSw); go_simp; (try with_reducible rfl))
            try simp only [Act.put, List.getElem_toArray, List.getElem_cons_succ, List.getElem_cons_zero, List.setIfInBounds_toArray, List.set_cons_zero, List.set_cons_succ]
            refine wpAnyH_ready (rs := [10, 20]) (by kernel_rfl) (by simp) ?_
            refine AllReadyH.cons rfl (fun K hK => ?_) (AllReadyH.cons rfl (fun K hK => ?_) AllReadyH.nil)
            · go_simp
              refine hK.out _ _ ⟨i0, i1, i2, i3, ip, iq⟩ (fun hHeld => ?_)
              clear hK K
              try simp only [Act.put, List.getElem_toArray, List.getElem_cons_succ, List.getElem_cons_zero, List.setIfInBounds_toArray, List.set_cons_zero, List.set_cons_succ]
              refine wpAnyH_ready (rs := [20]) (by kernel_rfl) (by simp) ?_
              refine (AllReadyH.cons rfl (fun K hK => ?_) AllReadyH.nil)
              go_simp
              refine (hM.out _).mono ?_
              rintro e w2 ⟨hb2, rfl⟩
              have HR2 : Kept (Below wr.heap.size wr w2) := ⟨(Below.refl _ _).drew.trans hb2⟩
              have j0 := belowCell HR2.out i0
              have j1 := belowCell HR2.out i1
              have j2 := belowCell HR2.out i2
              have j3 := belowCell HR2.out i3
              have jp := belowCell HR2.out ip
              have jq := belowCell HR2.out iq
              have t2 := belowCell HR2.out t1
              clear hb2
              refine hK.out _ _ ⟨j0, j1, j2, j3, jp, jq⟩ (fun hHeld => ?_)
              clear hK K
              try simp only [Act.put, List.getElem_toArray, List.getElem_cons_succ, List.getElem_cons_zero, List.setIfInBounds_toArray, List.set_cons_zero, List.set_cons_succ]
              refine wpAnyH_ready (rs := [21]) (by kernel_rfl) (by simp) ?_
              refine (AllReadyH.cons rfl (fun K hK => ?_) AllReadyH.nil)
              go_simp
              refine (hA.out _).mono ?_
              rintro e w3 ⟨hb3, rfl⟩
              have HR3 := Kept.mk (bstep HR2.out hb3)
              have k0 := belowCell hb3 j0
              have k1 := belowCell hb3 j1
              have k2 := belowCell hb3 j2
              have k3 := belowCell hb3 j3
              have kp := belowCell hb3 jp
              have kq := belowCell hb3 jq
              have t3 := belowCell hb3 t2
              have HW3 := Kept.mk (hwv.out.below HR3.out)
              have z3 := HW3.out.free (i + j)
              have HX3 := Kept.mk (hbx.out.below HR3.out)
              have hgs : w3.grownBy (w3.setCell ⟨g, i + j, none⟩ (.int .i64 v)) (some g) := growSet (growRefl _ _) _ _
              have m0 := hgs.cell k0 (by simp; omega)
              have m1 := hgs.cell k1 (by simp; omega)
              have m2 := hgs.cell k2 (by simp; omega)
              have m3 := hgs.cell k3 (by simp; omega)
              have mp := hgs.cell kp (by simpa using hnp)
              have mq := hgs.cell kq (by simpa using hnq)
              have HX4 := Kept.mk (HX3.out.grown hgs (fun k hk => by cases hk; simp; omega))
              clear hb3
              refine hK.out _ _ ⟨k0, k1, k2, k3, kp, kq⟩ (fun hHeld => ?_)
              clear hK K
              try simp only [Act.put, List.getElem_toArray, List.getElem_cons_succ, List.getElem_cons_zero, List.setIfInBounds_toArray, List.set_cons_zero, List.set_cons_succ]
              refine wpAnyH_take (i := 22) (v := ?_) rfl (by kernel_rfl) (by kernel_rfl) (by kernel_rfl) (fun _ _ _ h => h) (Or.inl ⟨by rfl, ?_⟩) (by assumption) ?_
              rotate_left
              · (intro w hSw; (try dsimp only at hSw); go_simp; (try with_reducible rfl))
              try simp only [Act.put, List.getElem_toArray, List.getElem_cons_succ, List.getElem_cons_zero, List.setIfInBounds_toArray, List.set_cons_zero, List.set_cons_succ]
              refine wpAnyH_ready (rs := [23]) (by kernel_rfl) (by simp) ?_
              refine (AllReadyH.cons rfl (fun K hK => ?_) AllReadyH.nil)
              go_simp
              refine hK.out _ _ ⟨m0, m1, m2, m3, mp, mq⟩ (fun hHeld => ?_)
              clear hK K
              try simp only [Act.put, List.getElem_toArray, List.getElem_cons_succ, List.getElem_cons_zero, List.setIfInBounds_toArray, List.set_cons_zero, List.set_cons_succ]
              refine wpAnyH_done (by kernel_rfl) ?_ _
              go_wp2
              go_roundw
              case rel => exact ⟨j + 1, by omega, by go_num, ⟨by have := HW3.out.set (i := i + j) v; rw [HV.out] at this; exact this⟩, HX4⟩
              case measure => simp [intOf] <;> omega
            · go_simp
              refine (hM.out _).mono ?_
              rintro e w2 ⟨hb2, rfl⟩
              have HR2 : Kept (Below wr.heap.size wr w2) := ⟨(Below.refl _ _).drew.trans hb2⟩
              have j0 := belowCell HR2.out i0
              have j1 := belowCell HR2.out i1
              have j2 := belowCell HR2.out i2
              have j3 := belowCell HR2.out i3
              have jp := belowCell HR2.out ip
              have jq := belowCell HR2.out iq
              have t2 := belowCell HR2.out t1
              clear hb2
              refine hK.out _ _ ⟨j0, j1, j2, j3, jp, jq⟩ (fun hHeld => ?_)
              clear hK K
              try simp only [Act.put, List.getElem_toArray, List.getElem_cons_succ, List.getElem_cons_zero, List.setIfInBounds_toArray, List.set_cons_zero, List.set_cons_succ]
              refine wpAnyH_ready (rs := [10]) (by kernel_rfl) (by simp) ?_
              refine (AllReadyH.cons rfl (fun K hK => ?_) AllReadyH.nil)
              go_simp
              refine hK.out _ _ ⟨j0, j1, j2, j3, jp, jq⟩ (fun hHeld => ?_)
              clear hK K
              try simp only [Act.put, List.getElem_toArray, List.getElem_cons_succ, List.getElem_cons_zero, List.setIfInBounds_toArray, List.set_cons_zero, List.set_cons_succ]
              refine wpAnyH_ready (rs := [21]) (by kernel_rfl) (by simp) ?_
              refine (AllReadyH.cons rfl (fun K hK => ?_) AllReadyH.nil)
              go_simp
              refine (hA.out _).mono ?_
              rintro e w3 ⟨hb3, rfl⟩
              have HR3 := Kept.mk (bstep HR2.out hb3)
              have k0 := belowCell hb3 j0
              have k1 := belowCell hb3 j1
              have k2 := belowCell hb3 j2
              have k3 := belowCell hb3 j3
              have kp := belowCell hb3 jp
              have kq := belowCell hb3 jq
              have t3 := belowCell hb3 t2
              have HW3 := Kept.mk (hwv.out.below HR3.out)
              have z3 := HW3.out.free (i + j)
              have HX3 := Kept.mk (hbx.out.below HR3.out)
              have hgs : w3.grownBy (w3.setCell ⟨g, i + j, none⟩ (.int .i64 v)) (some g) := growSet (growRefl _ _) _ _
              have m0 := hgs.cell k0 (by simp; omega)
              have m1 := hgs.cell k1 (by simp; omega)
              have m2 := hgs.cell k2 (by simp; omega)
              have m3 := hgs.cell k3 (by simp; omega)
              have mp := hgs.cell kp (by simpa using hnp)
              have mq := hgs.cell kq (by simpa using hnq)
              have HX4 := Kept.mk (HX3.out.grown hgs (fun k hk => by cases hk; simp; omega))
              clear hb3
              refine hK.out _ _ ⟨k0, k1, k2, k3, kp, kq⟩ (fun hHeld => ?_)
              clear hK K
              try simp only [Act.put, List.getElem_toArray, List.getElem_cons_succ, List.getElem_cons_zero, List.setIfInBounds_toArray, List.set_cons_zero, List.set_cons_succ]
              refine wpAnyH_take (i := 22) (v := ?_) rfl (by kernel_rfl) (by kernel_rfl) (by kernel_rfl) (fun _ _ _ h => h) (Or.inl ⟨by rfl, ?_⟩) (by assumption) ?_
              rotate_left
              · (intro w hSw; (try dsimp only at hSw); go_simp; (try with_reducible rfl))
              try simp only [Act.put, List.getElem_toArray, List.getElem_cons_succ, List.getElem_cons_zero, List.setIfInBounds_toArray, List.set_cons_zero, List.set_cons_succ]
              refine wpAnyH_ready (rs := [23]) (by kernel_rfl) (by simp) ?_
              refine (AllReadyH.cons rfl (fun K hK => ?_) AllReadyH.nil)
              go_simp
              refine hK.out _ _ ⟨m0, m1, m2, m3, mp, mq⟩ (fun hHeld => ?_)
              clear hK K
              try simp only [Act.put, List.getElem_toArray, List.getElem_cons_succ, List.getElem_cons_zero, List.setIfInBounds_toArray, List.set_cons_zero, List.set_cons_succ]
              refine wpAnyH_done (by kernel_rfl) ?_ _
              go_wp2
              go_roundw
              case rel => exact ⟨j + 1, by omega, by go_num, ⟨by have := HW3.out.set (i := i + j) v; rw [HV.out] at this; exact this⟩, HX4⟩
              case measure => simp [intOf] <;> omega
          · obtain rfl : j = nq := by omega
            go_wp2
            go_roundw
            case rel => exact ⟨i + 1, by omega, by go_num, ⟨by rw [HNX.out]; exact hwv.out⟩, hbx⟩
            case measure => simp [intOf] <;> omega
      · obtain rfl : i = np := by omega
        have HS := Kept.mk (hwv0.out.sl (n := n) (c := n) (HN.out i).symm (Nat.le_refl _) (by unfold maxLen; omega))
        go_wp2
        go_ret
        exact ⟨hbx0.out.1, _, rfl, HS.out⟩
end Go.Proofs.Ytfhhnfpapgfnmaa
