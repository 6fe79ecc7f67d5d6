/-
  Texts of the proof, merged by program: Fic.
-/
import Derived.Test.YtdnheaafcbihbaaGreatM12
import Derived.Test.YtdnheaafcbihbaaGreatM13
import Derived.Test.YtdnheaafcbihbaaGreatM4
import Derived.Test.YtdnheaafcbihbaaGreatM6
set_option linter.unusedVariables false
set_option linter.unusedSimpArgs false
namespace Go.Proofs.YtdnheaafcbihbaaGreat
open Go Go.RowKit
theorem Cz.congr {w : World} {g N : Nat} {F G : Nat → Int} (h : Cz w g N F) (e : ∀ d, d < N → F d = G d) : Cz w g N G := by
  obtain ⟨cur, h1, h2, h3⟩ := h
  exact ⟨cur, h1, h2, fun d hd => by rw [← e d hd]; exact h3 d hd⟩
/-- The coefficients by their numbers. -/
def cfF (n d : Nat) : Int := if d = 0 then 0 else if n % d = 0 then FFld.muT (n / d) else 0
theorem cfF_in {n : Nat} (hn : n ≤ 40) (d : Nat) : -1 ≤ cfF n d ∧ cfF n d ≤ 1 := by
  unfold cfF
  split
  · omega
  · split
    · exact FFld.mu_in _ (by have := Nat.div_le_self n d; omega)
    · omega
theorem hzF_cfz (n q : Nat) : ∀ i, i ≤ n + 1 → FFld.hzF (cfF n) (n + 1) q i = FFld.hz (FFld.cfz n) q i
  | 0, _ => rfl
  | i + 1, hi => by
    show FFld.hzF (cfF n) (n + 1) q i * q + cfF n (n + 1 - 1 - i) = FFld.hz (FFld.cfz n) q i * q + (FFld.cfz n)[(FFld.cfz n).length - 1 - i]?.getD 0
    rw [hzF_cfz n q i (by omega), FFld.cfz_len, FFld.cfz_get (by omega)]
    rfl
theorem hzF_irrs {n q : Nat} (h1 : 1 ≤ n) (hn : n ≤ 40) : FFld.hzF (cfF n) (n + 1) q (n + 1) = n * FFld.irrs q n := by
  rw [hzF_cfz n q _ (Nat.le_refl _), FFld.irrs_mul h1 hn, ← FFld.hz_all, FFld.cfz_len]
/-- What Irreducibles returns. -/
def FicRet (order degree : Int) (w : World) (e : Ending) (w' : World) : Prop := Below w.heap.size w w' ∧
  ((¬ FFld.Fit order ∧ e = .returned (.tuple #[.agg #[.bool false, .slice none 0 0], .int .i64 20])) ∨
   (FFld.Fit order ∧ (degree < 1 ∨ 40 < degree) ∧ e = .returned (.tuple #[.agg #[.bool false, .slice none 0 0], .int .i64 1])) ∨
   (FFld.Fit order ∧ ∃ q n : Nat, order = q ∧ q ≤ 65536 ∧ degree = n ∧ 1 ≤ n ∧ n ≤ 40 ∧ ∃ s ao k c, e = .returned (.tuple #[.agg #[.bool s, .slice ao k c], .int .i64 0]) ∧ IntV 700 w' (.agg #[.bool s, .slice ao k c]) (FFld.irrs q n)))
theorem below_grow2 {g : Nat} {w W W8 : World} (hb : Below w.heap.size w W) (hg : W.grownBy W8 (some g)) (hB : w.heap.size ≤ g) : Below w.heap.size w W8 :=
  belowGrow hg hb hB
theorem div_out {L n : Nat} {I : Int} {w w' : World} {e : Ending} (hn : n ≠ 0) (hL : L ≤ 700) (h : IdRet L w ((n : Int) * I) n e w') : Below w.heap.size w w' ∧ ∃ s o k c s2 o2 k2 c2, e = .returned (.tuple #[.agg #[.bool s, .slice o k c], .agg #[.bool s2, .slice o2 k2 c2], .int .i64 0]) ∧ IntV 700 w' (.agg #[.bool s, .slice o k c]) I := by
  obtain ⟨hb, q, r, rfl, hq, hr⟩ := h
  rw [Int.mul_ediv_cancel_left _ (by omega)] at hq
  obtain ⟨s, sv, rfl, h1, hn1⟩ := hq.mono hL
  obtain ⟨o, k, c, rfl⟩ := hn1.form
  obtain ⟨s2, sv2, rfl, h2, hn2⟩ := hr
  obtain ⟨o2, k2, c2, rfl⟩ := hn2.form
  exact ⟨hb, s, o, k, c, s2, o2, k2, c2, rfl, _, _, rfl, h1, hn1⟩
theorem info_int : (Tryz.prog.info? 98).map (fun i => (i.zero, i.size, i.bytes)) = some (some (.agg #[.bool false, .slice none 0 0]), 2, 32) := by kernel_rfl
theorem make_ints (n : Nat) (hn : n ≤ 41) : ∀ W, (Instr.makeSlice 74 (.int .i64 ((n : Int) + 1)) (.int .i64 ((n : Int) + 1))).run Tryz.prog W = .ok (.slice (some ⟨W.heap.size, 0, none⟩) (n + 1) (n + 1)) (W.alloc (.cells (madeCells #[.bool false, .slice none 0 0] ((n + 1) * 2)) 98)) := fun W => by
  obtain ⟨i, hi, hzz⟩ := Option.map_eq_some_iff.1 info_int
  simp only [Prod.mk.injEq] at hzz
  obtain ⟨hz, hs, hb⟩ := hzz
  have := run_make (P := Tryz.prog) (w := W) 74 98 i (.agg #[.bool false, .slice none 0 0]) Tryz.underlying74 hi hz .i64 .i64 ((n : Int) + 1) ((n : Int) + 1) (by omega) (by omega) (by rw [hb]; omega) (by omega)
  rw [hs] at this
  have e : ((n : Int) + 1).toNat = n + 1 := by omega
  rw [e] at this
  exact this
set_option maxRecDepth 20000 in
set_option maxHeartbeats 8000000 in
theorem firrs_any (order degree : Int) (w : World) (o0 : -9223372036854775808 ≤ order) (o1 : order ≤ 9223372036854775807) (d0 : -9223372036854775808 ≤ degree) (d1 : degree ≤ 9223372036854775807) :
    Calls Tryz.prog 159 #[.int .i64 order, .int .i64 degree] w (FicRet order degree w) := by
  have HX0 : Kept (Bxs w [.cells #[.bool false, .slice none 0 0] 98] (w.alloc (.cells #[.bool false, .slice none 0 0] 98))) := ⟨(Bxs.start w).alloc (by simp) _⟩
  have HPP := Kept.mk (fun W => primePower_any order W o0 o1)
  go_enter Tryz.func159, Tryz.ntmps159
  go_wp2_with fail
  refine (HPP.out _).mono ?_
  rintro e w1 ⟨hb1, ⟨p, kk, hp, hk1, hpk, hp6, rfl⟩ | ⟨hno, rfl⟩⟩
  · have hfit : FFld.Fit order := by rw [hpk]; exact FFld.fit_pow hp hk1 hp6
    have HFT := Kept.mk hfit
    obtain ⟨q, hq⟩ : ∃ q, p ^ kk = q := ⟨_, rfl⟩
    rw [hq] at hpk hp6
    have HX1 := Kept.mk (HX0.out.below hb1)
    obtain ⟨c0, c1, f0, f1⟩ := two_cells HX1.out.b0
    have hl1 : w.heap.size < w1.heap.size := (Array.getElem?_eq_some_iff.1 HX1.out.b0).1
    clear hb1 hfit hp hk1 hq HPP
    by_cases hin : 1 ≤ degree ∧ degree ≤ 40
    · obtain ⟨n, rfl⟩ : ∃ n : Nat, degree = n := ⟨degree.toNat, by omega⟩
      subst hpk
      have hn1 : 1 ≤ n := by omega
      have hn : n ≤ 40 := by omega
      have g1 : decide ((n : Int) < 1) = false := by rw [decide_eq_false_iff_not]; omega
      have g2 : decide ((40 : Int) < n) = false := by rw [decide_eq_false_iff_not]; omega
      have hmk := make_ints n (by omega)
      have HMO := Kept.mk (fun m (h1 : 1 ≤ m) (h2 : m ≤ 40) W => moebius_any m W h1 h2)
      have HOF := Kept.mk (fun (z : Int) (h1 : -65536 ≤ z) (h2 : z ≤ 65536) W => of_any z W (by omega) (by omega))
      have hal : Below w1.heap.size w1 (w1.alloc (.cells (madeCells #[.bool false, .slice none 0 0] ((n + 1) * 2)) 98)) := (Below.refl _ _).alloc (Nat.le_refl _) _
      have HX2 := Kept.mk (HX1.out.below hal)
      have HCZ : Kept (Cz (w1.alloc (.cells (madeCells #[.bool false, .slice none 0 0] ((n + 1) * 2)) 98)) w1.heap.size (n + 1) (fun d => if d < 1 then cfF n d else 0)) := ⟨(Cz.start (heap_alloc_new w1 _)).congr (fun d hd => by
        by_cases e : d < 1
        · rw [if_pos e, show d = 0 by omega]; rfl
        · rw [if_neg e])⟩
      obtain ⟨W3, hW3⟩ : ∃ W, w1.alloc (.cells (madeCells #[.bool false, .slice none 0 0] ((n + 1) * 2)) 98) = W := ⟨_, rfl⟩
      rw [hW3] at HX2 HCZ
      clear hal hin d0 d1 o0 o1
      go_wp2
      try rw [hW3]
      obtain ⟨g, hg⟩ : ∃ g, w1.heap.size = g := ⟨_, rfl⟩
      rw [hg] at HCZ hl1 ⊢
      clear hg hW3 hmk c0 c1 f0 f1
      go_loopw [10] (fun iv wr => ∃ (i : Nat), 1 ≤ i ∧ i ≤ n + 1 ∧ iv = .int .i64 i ∧ Kept (Bxs w [.cells #[.bool false, .slice none 0 0] 98] wr) ∧ Kept (Cz wr g (n + 1) (fun d => if d < i then cfF n d else 0))) (fun iv _ => n + 1 - (intOf iv).toNat)
      case atStart => exact ⟨1, Nat.le_refl _, by omega, rfl, HX2, HCZ⟩
      case round =>
        obtain ⟨i, hi1, hin, rfl, hbx, hcz⟩ := hrel
        by_cases hlt : i ≤ n
        · obtain ⟨r, hr⟩ : ∃ r, n % i = r := ⟨_, rfl⟩
          have er1 : (n : Int) % (i : Int) = r := by rw [← hr]; rfl
          have er2 : (n : Int).tmod (i : Int) = r := by rw [Int.tmod_eq_emod_of_nonneg (by omega)]; exact er1
          have hz1 : ¬ ((i : Int) = 0) := by omega
          have hz2 : ¬ (i = 0) := by omega
          have hz3 : ((i : Int) == 0) = false := by rw [beq_eq_false_iff_ne]; omega
          have hle : decide ((i : Int) ≤ n) = true := by rw [decide_eq_true_eq]; omega
          by_cases h0 : r = 0
          · have e0 : ((r : Int) == 0) = true := by rw [h0]; rfl
            obtain ⟨m, hm⟩ : ∃ m, n / i = m := ⟨_, rfl⟩
            have em1 : (n : Int) / (i : Int) = m := by rw [← hm]; rfl
            have em2 : (n : Int).tdiv (i : Int) = m := by rw [Int.tdiv_eq_ediv_of_nonneg (by omega)]; exact em1
            have hm1 : 1 ≤ m := by rw [← hm]; exact (Nat.one_le_div_iff (by omega)).2 hlt
            have hm4 : m ≤ 40 := by rw [← hm]; exact Nat.le_trans (Nat.div_le_self _ _) hn
            have HV : Kept (cfF n i = FFld.muT m) := ⟨by unfold cfF; rw [if_neg hz2, if_pos (by omega), hm]⟩
            have hmu := FFld.mu_in m (by omega)
            obtain ⟨mu, hmm⟩ : ∃ x, FFld.muT m = x := ⟨_, rfl⟩
            have HM := Kept.mk (HMO.out m hm1 hm4)
            rw [hmm] at hmu HV HM
            clear hm hr h0 hmm
            go_wp2_with fail
            refine (HM.out _).mono ?_
            rintro e w4 ⟨hb4, rfl⟩
            have HBX4 := Kept.mk (hbx.out.below hb4)
            have HCZ4 := Kept.mk (hcz.out.below hb4)
            clear hb4
            go_wp2_with fail
            refine (HOF.out mu (by omega) (by omega) _).mono ?_
            rintro e w5 ⟨hb5, v5, rfl, s5, sv5, rfl, hs5, hn5⟩
            obtain ⟨o5, k5, c5, rfl⟩ := hn5.form
            have HBX5 := Kept.mk (HBX4.out.below hb5)
            have HCZ5 := Kept.mk (HCZ4.out.below hb5)
            have HI5 : Kept (IntV 1 w5 (.agg #[.bool s5, .slice o5 k5 c5]) mu) := ⟨⟨_, _, rfl, hs5, hn5⟩⟩
            obtain ⟨sx, ox, kx, cx, y0, y1, _⟩ := HCZ5.out.at (d := i) (by omega)
            have z0 := HCZ5.out.free (i * 2)
            have z1 := HCZ5.out.free (i * 2 + 1)
            have hgl := HCZ5.out.lt
            have HN := Kept.mk ((HCZ5.out.set (i := i) (by omega) HI5.out).congr (G := fun d => if d < i + 1 then cfF n d else 0) (fun d hd => by
              show (if d = i then mu else if d < i then cfF n d else 0) = if d < i + 1 then cfF n d else 0
              by_cases e1 : d = i
              · rw [if_pos e1, if_pos (by omega), e1, HV.out]
              · rw [if_neg e1]
                by_cases e2 : d < i
                · rw [if_pos e2, if_pos (by omega)]
                · rw [if_neg e2, if_neg (by omega)]))
            have HBN : Kept (Bxs w [.cells #[.bool false, .slice none 0 0] 98] ((w5.setCell ⟨g, i * 2, none⟩ (.bool s5)).setCell ⟨g, i * 2 + 1, none⟩ (.slice o5 k5 c5))) := ⟨by
              refine ⟨(HBX5.out.1.setCell (p := ⟨g, i * 2, none⟩) (by simp only []; omega) _).setCell (p := ⟨g, i * 2 + 1, none⟩) (by simp only []; omega) _, by simpa using HBX5.out.2.1, fun j o hj => ?_⟩
              have := HBX5.out.2.2 j o hj
              have hj0 : j = 0 := by rcases j with _ | j <;> simp at hj ⊢
              subst hj0
              rw [heap_setCell_other _ _ _ _ (by simp; omega), heap_setCell_other _ _ _ _ (by simp; omega)]
              exact this⟩
            have hl2 : (i : Int) < ((n : Int) + 1) := by omega
            clear hb5 hs5 hn5
            go_wp2
            go_roundw
            case rel => exact ⟨i + 1, by omega, by omega, by go_num, HBN, HN⟩
            case measure => simp [intOf] <;> omega
          · have e0 : ((r : Int) == 0) = false := by rw [beq_eq_false_iff_ne]; omega
            have HN := Kept.mk (hcz.out.congr (G := fun d => if d < i + 1 then cfF n d else 0) (fun d hd => by
              by_cases e1 : d = i
              · rw [if_neg (by omega), if_pos (by omega), e1]; unfold cfF; rw [if_neg hz2, if_neg (by omega)]
              · by_cases e2 : d < i
                · rw [if_pos e2, if_pos (by omega)]
                · rw [if_neg e2, if_neg (by omega)]))
            clear hr h0
            go_wp2
            go_roundw
            case rel => exact ⟨i + 1, by omega, by omega, by go_num, hbx, HN⟩
            case measure => simp [intOf] <;> omega
        · obtain rfl : i = n + 1 := by omega
          have hle : decide (((n + 1 : Nat) : Int) ≤ n) = false := by rw [decide_eq_false_iff_not]; omega
          have hle2 : decide ((n : Int) + 1 ≤ n) = false := by rw [decide_eq_false_iff_not]; omega
          have HCF := Kept.mk (hcz.out.congr (G := cfF n) (fun d hd => by rw [if_pos (by omega)]))
          have HIR := Kept.mk (hzF_irrs (q := q) hn1 hn)
          have HBX := hbx
          clear hcz hbx
          go_wp2_with fail
          refine (HOF.out (q : Int) (by omega) (by omega) _).mono ?_
          rintro e w4 ⟨hb4, v4, rfl, hI4⟩
          have HBX4 := Kept.mk (HBX.out.below hb4)
          have HCF4 := Kept.mk (HCF.out.below hb4)
          have HI4 := Kept.mk hI4
          clear hb4 hI4
          go_wp2_with fail
          refine (value_any HCF4.out (cfF_in hn) (by omega) HI4.out hp6).mono ?_
          rintro e w5 ⟨hb5, v5, rfl, s5, sv5, rfl, hs5, hn5⟩
          obtain ⟨o5, k5, c5, rfl⟩ := hn5.form
          rw [HIR.out] at hs5 hn5
          have HBX5 := Kept.mk (HBX4.out.below hb5)
          have HI5 : Kept (IntV 625 w5 (.agg #[.bool s5, .slice o5 k5 c5]) (n * FFld.irrs q n)) := ⟨⟨_, _, rfl, hs5, hn5⟩⟩
          clear hb5 hs5 hn5
          have HT_0 : Kept (IntV 625 ((w5.alloc (.cells #[.bool s5, .slice o5 k5 c5] 98)).drew) (.agg #[.bool s5, .slice o5 k5 c5]) (n * FFld.irrs q n)) := ⟨HI5.out.below (((Below.refl _ _).alloc (Nat.le_refl _) _).drew)⟩
          have HB_0 : Kept (Bxs w [.cells #[.bool false, .slice none 0 0] 98] ((w5.alloc (.cells #[.bool s5, .slice o5 k5 c5] 98)).drew)) := ⟨HBX5.out.below (((Below.refl _ _).alloc (Nat.le_refl _) _).drew)⟩
          obtain ⟨u0_0, u1_0, _⟩ := two_cells (heap_alloc_new w5 (.cells #[.bool s5, .slice o5 k5 c5] 98))
          have HON := Kept.mk (HOF.out (n : Int) (by omega) (by omega))
          have HEQ : Kept (n ≠ 0) := ⟨by omega⟩
          have hw5 : w.heap.size < w5.heap.size := (Array.getElem?_eq_some_iff.1 HBX5.out.b0).1
          clear HIR HMO HOF
          go_wp2_with fail
          refine wp_region_held_drew (S := fun w' => w'.cell? ⟨w5.heap.size, 0, none⟩ = some (.bool s5) ∧ w'.cell? ⟨w5.heap.size, 1, none⟩ = some (.slice o5 k5 c5)) (by kernel_rfl) ⟨u0_0, u1_0⟩ (fun hHeld => ?_)
          obtain ⟨x0, hx0⟩ : ∃ X, (w5.alloc (.cells #[.bool s5, .slice o5 k5 c5] 98)).drew = X := ⟨_, rfl⟩
          rw [hx0] at HT_0 HB_0 hHeld ⊢
          replace u0_0 : x0.cell? ⟨w5.heap.size, 0, none⟩ = some (.bool s5) := by rw [← hx0]; exact u0_0
          replace u1_0 : x0.cell? ⟨w5.heap.size, 1, none⟩ = some (.slice o5 k5 c5) := by rw [← hx0]; exact u1_0
          clear hx0
          refine wpAnyH_take (i := 0) (v := ?_) rfl (by kernel_rfl) (by kernel_rfl) (by kernel_rfl) (fun _ _ _ h => h) (Or.inl ⟨by rfl, ?_⟩) (by assumption) ?_
          rotate_left
          · (intro w hSw; (try dsimp only at hSw); go_simp; (try with_reducible rfl))
          try simp only [Act.put, List.getElem_toArray, List.getElem_cons_succ, List.getElem_cons_zero, List.setIfInBounds_toArray, List.set_cons_zero, List.set_cons_succ]
          refine wpAnyH_take (i := 1) (v := ?_) rfl (by kernel_rfl) (by kernel_rfl) (by kernel_rfl) (fun _ _ _ h => h) (Or.inl ⟨by rfl, ?_⟩) (by assumption) ?_
          rotate_left
          · (intro w hSw; (try dsimp only at hSw); go_simp; (try with_reducible rfl))
          try simp only [Act.put, List.getElem_toArray, List.getElem_cons_succ, List.getElem_cons_zero, List.setIfInBounds_toArray, List.set_cons_zero, List.set_cons_succ]
          refine wpAnyH_ready (rs := [2, 8, 9]) (by kernel_rfl) (by simp) ?_
          refine (AllReadyH.cons rfl (fun K hK => ?_) (AllReadyH.cons rfl (fun K hK => ?_) (AllReadyH.cons rfl (fun K hK => ?_) AllReadyH.nil)))
          · go_simp
            refine (HON.out x0).mono ?_
            rintro e x1 ⟨hr, va, rfl, sA, svA, rfl, hsA, hnA⟩
            obtain ⟨oA, kA, cA, rfl⟩ := hnA.form
            have HA_1 : Kept (IntV 1 x1 (.agg #[.bool sA, .slice oA kA cA]) n) := ⟨⟨_, _, rfl, hsA, hnA⟩⟩
            have u0_1 := belowCell hr u0_0
            have u1_1 := belowCell hr u1_0
            have HT_1 := Kept.mk (HT_0.out.below hr)
            have HB_1 := Kept.mk (HB_0.out.below hr)
            clear hr hsA hnA
            refine hK.out _ _ ⟨u0_1, u1_1⟩ (fun hHeld => ?_)
            clear hK K
            try simp only [Act.put, List.getElem_toArray, List.getElem_cons_succ, List.getElem_cons_zero, List.setIfInBounds_toArray, List.set_cons_zero, List.set_cons_succ]
            refine wpAnyH_ready (rs := [3, 8, 9]) (by kernel_rfl) (by simp) ?_
            refine (AllReadyH.cons rfl (fun K hK => ?_) (AllReadyH.cons rfl (fun K hK => ?_) (AllReadyH.cons rfl (fun K hK => ?_) AllReadyH.nil)))
            · go_simp
              refine (idiv_any HT_1.out HA_1.out (by omega) (by omega) (by omega)).mono ?_
              intro e x2 hq
              obtain ⟨hr, sQ, oQ, kQ, cQ, s2', o2', k2', c2', rfl, hQ⟩ := div_out HEQ.out (by omega) hq
              have HQ_2 := Kept.mk hQ
              have u0_2 := belowCell hr u0_1
              have u1_2 := belowCell hr u1_1
              have HT_2 := Kept.mk (HT_1.out.below hr)
              have HB_2 := Kept.mk (HB_1.out.below hr)
              have HA_2 := Kept.mk (HA_1.out.below hr)
              clear hr hq hQ
              refine hK.out _ _ ⟨u0_2, u1_2⟩ (fun hHeld => ?_)
              clear hK K
              try simp only [Act.put, List.getElem_toArray, List.getElem_cons_succ, List.getElem_cons_zero, List.setIfInBounds_toArray, List.set_cons_zero, List.set_cons_succ]
              refine wpAnyH_take (i := 4) (v := ?_) rfl (by kernel_rfl) (by kernel_rfl) (by kernel_rfl) (fun _ _ _ h => h) (Or.inl ⟨by rfl, ?_⟩) (by assumption) ?_
              rotate_left
              · (intro w hSw; (try dsimp only at hSw); go_simp; (try with_reducible rfl))
              try simp only [Act.put, List.getElem_toArray, List.getElem_cons_succ, List.getElem_cons_zero, List.setIfInBounds_toArray, List.set_cons_zero, List.set_cons_succ]
              refine wpAnyH_take (i := 5) (v := ?_) rfl (by kernel_rfl) (by kernel_rfl) (by kernel_rfl) (fun _ _ _ h => h) (Or.inl ⟨by rfl, ?_⟩) (by assumption) ?_
              rotate_left
              · (intro w hSw; (try dsimp only at hSw); go_simp; (try with_reducible rfl))
              try simp only [Act.put, List.getElem_toArray, List.getElem_cons_succ, List.getElem_cons_zero, List.setIfInBounds_toArray, List.set_cons_zero, List.set_cons_succ]
              refine wpAnyH_take (i := 6) (v := ?_) rfl (by kernel_rfl) (by kernel_rfl) (by kernel_rfl) (fun _ _ _ h => h) (Or.inl ⟨by rfl, ?_⟩) (by assumption) ?_
              rotate_left
              · (intro w hSw; (try dsimp only at hSw); go_simp; (try with_reducible rfl))
              try simp only [Act.put, List.getElem_toArray, List.getElem_cons_succ, List.getElem_cons_zero, List.setIfInBounds_toArray, List.set_cons_zero, List.set_cons_succ]
              refine wpAnyH_take (i := 7) (v := ?_) rfl (by kernel_rfl) (by kernel_rfl) (by kernel_rfl) (fun _ _ _ h => h) (Or.inl ⟨by rfl, ?_⟩) (by assumption) ?_
              rotate_left
              · (intro w hSw; (try dsimp only at hSw); go_simp; (try with_reducible rfl))
              try simp only [Act.put, List.getElem_toArray, List.getElem_cons_succ, List.getElem_cons_zero, List.setIfInBounds_toArray, List.set_cons_zero, List.set_cons_succ]
              refine wpAnyH_ready (rs := [8, 9]) (by kernel_rfl) (by simp) ?_
              refine (AllReadyH.cons rfl (fun K hK => ?_) (AllReadyH.cons rfl (fun K hK => ?_) AllReadyH.nil))
              · go_simp
                have hlt12 : w5.heap.size < x2.heap.size := World.block_lt_of_cell? _ _ u0_2
                have hr : Below x2.heap.size x2 (x2.alloc (.cells #[.bool false, .slice none 0 0] 98)) := (Below.refl _ _).alloc (Nat.le_refl _) _
                have hnew := heap_alloc_new x2 (.cells #[.bool false, .slice none 0 0] 98)
                obtain ⟨x3, hx⟩ : ∃ X, x2.alloc (.cells #[.bool false, .slice none 0 0] 98) = X := ⟨_, rfl⟩
                rw [hx] at hr hnew ⊢
                clear hx
                have H12_3 := Kept.mk hnew
                obtain ⟨g12, hg12⟩ : ∃ G, x2.heap.size = G := ⟨_, rfl⟩
                rw [hg12] at H12_3 hlt12 ⊢
                have u0_3 := belowCell hr u0_2
                have u1_3 := belowCell hr u1_2
                have HT_3 := Kept.mk (HT_2.out.below hr)
                have HB_3 := Kept.mk (HB_2.out.below hr)
                have HA_3 := Kept.mk (HA_2.out.below hr)
                have HQ_3 := Kept.mk (HQ_2.out.below hr)
                clear hr hnew hg12
                refine hK.out _ _ ⟨u0_3, u1_3⟩ (fun hHeld => ?_)
                clear hK K
                try simp only [Act.put, List.getElem_toArray, List.getElem_cons_succ, List.getElem_cons_zero, List.setIfInBounds_toArray, List.set_cons_zero, List.set_cons_succ]
                refine wpAnyH_ready (rs := [9]) (by kernel_rfl) (by simp) ?_
                refine (AllReadyH.cons rfl (fun K hK => ?_) AllReadyH.nil)
                go_simp
                have hlt13 : w5.heap.size < x3.heap.size := World.block_lt_of_cell? _ _ u0_3
                have hne : g12 < x3.heap.size := (Array.getElem?_eq_some_iff.1 H12_3.out).1
                have hr : Below x3.heap.size x3 (x3.alloc (.cells #[.bool false, .slice none 0 0] 98)) := (Below.refl _ _).alloc (Nat.le_refl _) _
                have hnew := heap_alloc_new x3 (.cells #[.bool false, .slice none 0 0] 98)
                obtain ⟨x4, hx⟩ : ∃ X, x3.alloc (.cells #[.bool false, .slice none 0 0] 98) = X := ⟨_, rfl⟩
                rw [hx] at hr hnew ⊢
                clear hx
                have H13_4 := Kept.mk hnew
                obtain ⟨g13, hg13⟩ : ∃ G, x3.heap.size = G := ⟨_, rfl⟩
                rw [hg13] at H13_4 hlt13 hne ⊢
                have u0_4 := belowCell hr u0_3
                have u1_4 := belowCell hr u1_3
                have HT_4 := Kept.mk (HT_3.out.below hr)
                have HB_4 := Kept.mk (HB_3.out.below hr)
                have HA_4 := Kept.mk (HA_3.out.below hr)
                have HQ_4 := Kept.mk (HQ_3.out.below hr)
                have H12_4 := Kept.mk ((hr.block _ (Array.getElem?_eq_some_iff.1 H12_3.out).1).trans H12_3.out)
                clear hr hnew hg13
                refine hK.out _ _ ⟨u0_4, u1_4⟩ (fun hHeld => ?_)
                clear hK K
                try simp only [Act.put, List.getElem_toArray, List.getElem_cons_succ, List.getElem_cons_zero, List.setIfInBounds_toArray, List.set_cons_zero, List.set_cons_succ]
                obtain ⟨m0, m1, m2, m3⟩ := two_cells H12_4.out
                have hl12 : g12 < x4.heap.size := (Array.getElem?_eq_some_iff.1 H12_4.out).1
                refine wpAnyH_ready (rs := [10]) (by kernel_rfl) (by simp) ?_
                refine (AllReadyH.cons rfl (fun K hK => ?_) AllReadyH.nil)
                go_simp
                have hset := two_set H12_4.out (.bool sQ) (.slice oQ kQ cQ)
                have hgr : x4.grownBy ((x4.setCell ⟨g12, 0, none⟩ (.bool sQ)).setCell ⟨g12, 1, none⟩ (.slice oQ kQ cQ)) (some g12) := growSet (growSet (growRefl _ _) _ _) _ _
                have v0 := hgr.cell (a := ⟨w5.heap.size, 0, none⟩) u0_4 (by simp; omega)
                have v1 := hgr.cell (a := ⟨w5.heap.size, 1, none⟩) u1_4 (by simp; omega)
                have h13 := (hgr.block g13 (Array.getElem?_eq_some_iff.1 H13_4.out).1 (by simp; omega)).trans H13_4.out
                have HQY := HQ_4.out.keep H12_4.out (fun i m e => by rcases i with _ | _ | i <;> simp at e) hgr
                have h4 := (hgr.block w.heap.size (by have := HB_4.out.2.1; simp at this; omega) (by simp; omega)).trans HB_4.out.b0
                have hby : Below w.heap.size w ((x4.setCell ⟨g12, 0, none⟩ (.bool sQ)).setCell ⟨g12, 1, none⟩ (.slice oQ kQ cQ)) := below_grow2 HB_4.out.1 hgr (by omega)
                obtain ⟨y, hy⟩ : ∃ Y, ((x4.setCell ⟨g12, 0, none⟩ (.bool sQ)).setCell ⟨g12, 1, none⟩ (.slice oQ kQ cQ)) = Y := ⟨_, rfl⟩
                rw [hy] at hset v0 v1 h13 HQY h4 hby ⊢
                have HS12 := Kept.mk hset
                have H13Y := Kept.mk h13
                have HQY2 := Kept.mk HQY
                have H4Y := Kept.mk h4
                have HBY := Kept.mk hby
                clear hset h13 HQY h4 hby hgr hy m0 m1 m2 m3
                refine hK.out _ _ ⟨v0, v1⟩ (fun hHeld => ?_)
                clear hK K
                try simp only [Act.put, List.getElem_toArray, List.getElem_cons_succ, List.getElem_cons_zero, List.setIfInBounds_toArray, List.set_cons_zero, List.set_cons_succ]
                obtain ⟨m0, m1, m2, m3⟩ := two_cells H13Y.out
                have hl13 : g13 < y.heap.size := (Array.getElem?_eq_some_iff.1 H13Y.out).1
                refine wpAnyH_ready (rs := [11]) (by kernel_rfl) (by simp) ?_
                refine (AllReadyH.cons rfl (fun K hK => ?_) AllReadyH.nil)
                go_simp
                have hgr : y.grownBy ((y.setCell ⟨g13, 0, none⟩ (.bool s2')).setCell ⟨g13, 1, none⟩ (.slice o2' k2' c2')) (some g13) := growSet (growSet (growRefl _ _) _ _) _ _
                have v2 := hgr.cell (a := ⟨w5.heap.size, 0, none⟩) v0 (by simp; omega)
                have v3 := hgr.cell (a := ⟨w5.heap.size, 1, none⟩) v1 (by simp; omega)
                have h12 := (hgr.block g12 (Array.getElem?_eq_some_iff.1 HS12.out).1 (by simp; omega)).trans HS12.out
                have HQZ := HQY2.out.keep H13Y.out (fun i m e => by rcases i with _ | _ | i <;> simp at e) hgr
                have h4 := (hgr.block w.heap.size (by omega) (by simp; omega)).trans H4Y.out
                have hbz : Below w.heap.size w ((y.setCell ⟨g13, 0, none⟩ (.bool s2')).setCell ⟨g13, 1, none⟩ (.slice o2' k2' c2')) := below_grow2 HBY.out hgr (by omega)
                obtain ⟨z, hz⟩ : ∃ Y, ((y.setCell ⟨g13, 0, none⟩ (.bool s2')).setCell ⟨g13, 1, none⟩ (.slice o2' k2' c2')) = Y := ⟨_, rfl⟩
                rw [hz] at v2 v3 h12 HQZ h4 hbz ⊢
                obtain ⟨n0, n1, _⟩ := two_cells h12
                obtain ⟨r0, r1, r2, r3⟩ := two_cells h4
                have hlz : w.heap.size < z.heap.size := (Array.getElem?_eq_some_iff.1 h4).1
                have HQZ2 := Kept.mk HQZ
                have H4Z := Kept.mk h4
                have HBZ := Kept.mk hbz
                clear h12 HQZ h4 hbz hgr hz m0 m1 m2 m3 v0 v1
                refine hK.out _ _ ⟨v2, v3⟩ (fun hHeld => ?_)
                clear hK K
                try simp only [Act.put, List.getElem_toArray, List.getElem_cons_succ, List.getElem_cons_zero, List.setIfInBounds_toArray, List.set_cons_zero, List.set_cons_succ]
                refine wpAnyH_take (i := 12) (v := ?_) rfl (by kernel_rfl) (by kernel_rfl) (by kernel_rfl) (fun _ _ _ h => h) (Or.inl ⟨by rfl, ?_⟩) (by assumption) ?_
                rotate_left
                · (intro w hSw; (try dsimp only at hSw); go_simp; (try with_reducible rfl))
                try simp only [Act.put, List.getElem_toArray, List.getElem_cons_succ, List.getElem_cons_zero, List.setIfInBounds_toArray, List.set_cons_zero, List.set_cons_succ]
                refine wpAnyH_done (by kernel_rfl) ?_ _
                have hgr : z.grownBy ((z.setCell ⟨w.heap.size, 0, none⟩ (.bool sQ)).setCell ⟨w.heap.size, 1, none⟩ (.slice oQ kQ cQ)) (some w.heap.size) := growSet (growSet (growRefl _ _) _ _) _ _
                have HQF := Kept.mk (HQZ2.out.keep H4Z.out (fun i m e => by rcases i with _ | _ | i <;> simp at e) hgr)
                obtain ⟨hB, q0, q1⟩ := two_end H4Z.out HBZ.out (Nat.le_refl _) (.bool sQ) (.slice oQ kQ cQ)
                have HBF := Kept.mk hB
                clear hB hgr
                go_wp2
                exact bodyPost_ret (v := .tuple #[.agg #[.bool sQ, .slice oQ kQ cQ], .int .i64 0]) (by simp [results, Tryz.results159, go_sem, q0, q1]) rfl ⟨HBF.out, .inr (.inr ⟨HFT.out, q, n, rfl, hp6, rfl, hn1, hn, sQ, oQ, kQ, cQ, rfl, HQF.out⟩)⟩
              · go_simp
                have hlt13 : w5.heap.size < x2.heap.size := World.block_lt_of_cell? _ _ u0_2
                have hr : Below x2.heap.size x2 (x2.alloc (.cells #[.bool false, .slice none 0 0] 98)) := (Below.refl _ _).alloc (Nat.le_refl _) _
                have hnew := heap_alloc_new x2 (.cells #[.bool false, .slice none 0 0] 98)
                obtain ⟨x3, hx⟩ : ∃ X, x2.alloc (.cells #[.bool false, .slice none 0 0] 98) = X := ⟨_, rfl⟩
                rw [hx] at hr hnew ⊢
                clear hx
                have H13_3 := Kept.mk hnew
                obtain ⟨g13, hg13⟩ : ∃ G, x2.heap.size = G := ⟨_, rfl⟩
                rw [hg13] at H13_3 hlt13 ⊢
                have u0_3 := belowCell hr u0_2
                have u1_3 := belowCell hr u1_2
                have HT_3 := Kept.mk (HT_2.out.below hr)
                have HB_3 := Kept.mk (HB_2.out.below hr)
                have HA_3 := Kept.mk (HA_2.out.below hr)
                have HQ_3 := Kept.mk (HQ_2.out.below hr)
                clear hr hnew hg13
                refine hK.out _ _ ⟨u0_3, u1_3⟩ (fun hHeld => ?_)
                clear hK K
                try simp only [Act.put, List.getElem_toArray, List.getElem_cons_succ, List.getElem_cons_zero, List.setIfInBounds_toArray, List.set_cons_zero, List.set_cons_succ]
                refine wpAnyH_ready (rs := [8]) (by kernel_rfl) (by simp) ?_
                refine (AllReadyH.cons rfl (fun K hK => ?_) AllReadyH.nil)
                go_simp
                have hlt12 : w5.heap.size < x3.heap.size := World.block_lt_of_cell? _ _ u0_3
                have hne : g13 < x3.heap.size := (Array.getElem?_eq_some_iff.1 H13_3.out).1
                have hr : Below x3.heap.size x3 (x3.alloc (.cells #[.bool false, .slice none 0 0] 98)) := (Below.refl _ _).alloc (Nat.le_refl _) _
                have hnew := heap_alloc_new x3 (.cells #[.bool false, .slice none 0 0] 98)
                obtain ⟨x4, hx⟩ : ∃ X, x3.alloc (.cells #[.bool false, .slice none 0 0] 98) = X := ⟨_, rfl⟩
                rw [hx] at hr hnew ⊢
                clear hx
                have H12_4 := Kept.mk hnew
                obtain ⟨g12, hg12⟩ : ∃ G, x3.heap.size = G := ⟨_, rfl⟩
                rw [hg12] at H12_4 hlt12 hne ⊢
                have u0_4 := belowCell hr u0_3
                have u1_4 := belowCell hr u1_3
                have HT_4 := Kept.mk (HT_3.out.below hr)
                have HB_4 := Kept.mk (HB_3.out.below hr)
                have HA_4 := Kept.mk (HA_3.out.below hr)
                have HQ_4 := Kept.mk (HQ_3.out.below hr)
                have H13_4 := Kept.mk ((hr.block _ (Array.getElem?_eq_some_iff.1 H13_3.out).1).trans H13_3.out)
                clear hr hnew hg12
                refine hK.out _ _ ⟨u0_4, u1_4⟩ (fun hHeld => ?_)
                clear hK K
                try simp only [Act.put, List.getElem_toArray, List.getElem_cons_succ, List.getElem_cons_zero, List.setIfInBounds_toArray, List.set_cons_zero, List.set_cons_succ]
                obtain ⟨m0, m1, m2, m3⟩ := two_cells H12_4.out
                have hl12 : g12 < x4.heap.size := (Array.getElem?_eq_some_iff.1 H12_4.out).1
                refine wpAnyH_ready (rs := [10]) (by kernel_rfl) (by simp) ?_
                refine (AllReadyH.cons rfl (fun K hK => ?_) AllReadyH.nil)
                go_simp
                have hset := two_set H12_4.out (.bool sQ) (.slice oQ kQ cQ)
                have hgr : x4.grownBy ((x4.setCell ⟨g12, 0, none⟩ (.bool sQ)).setCell ⟨g12, 1, none⟩ (.slice oQ kQ cQ)) (some g12) := growSet (growSet (growRefl _ _) _ _) _ _
                have v0 := hgr.cell (a := ⟨w5.heap.size, 0, none⟩) u0_4 (by simp; omega)
                have v1 := hgr.cell (a := ⟨w5.heap.size, 1, none⟩) u1_4 (by simp; omega)
                have h13 := (hgr.block g13 (Array.getElem?_eq_some_iff.1 H13_4.out).1 (by simp; omega)).trans H13_4.out
                have HQY := HQ_4.out.keep H12_4.out (fun i m e => by rcases i with _ | _ | i <;> simp at e) hgr
                have h4 := (hgr.block w.heap.size (by have := HB_4.out.2.1; simp at this; omega) (by simp; omega)).trans HB_4.out.b0
                have hby : Below w.heap.size w ((x4.setCell ⟨g12, 0, none⟩ (.bool sQ)).setCell ⟨g12, 1, none⟩ (.slice oQ kQ cQ)) := below_grow2 HB_4.out.1 hgr (by omega)
                obtain ⟨y, hy⟩ : ∃ Y, ((x4.setCell ⟨g12, 0, none⟩ (.bool sQ)).setCell ⟨g12, 1, none⟩ (.slice oQ kQ cQ)) = Y := ⟨_, rfl⟩
                rw [hy] at hset v0 v1 h13 HQY h4 hby ⊢
                have HS12 := Kept.mk hset
                have H13Y := Kept.mk h13
                have HQY2 := Kept.mk HQY
                have H4Y := Kept.mk h4
                have HBY := Kept.mk hby
                clear hset h13 HQY h4 hby hgr hy m0 m1 m2 m3
                refine hK.out _ _ ⟨v0, v1⟩ (fun hHeld => ?_)
                clear hK K
                try simp only [Act.put, List.getElem_toArray, List.getElem_cons_succ, List.getElem_cons_zero, List.setIfInBounds_toArray, List.set_cons_zero, List.set_cons_succ]
                obtain ⟨m0, m1, m2, m3⟩ := two_cells H13Y.out
                have hl13 : g13 < y.heap.size := (Array.getElem?_eq_some_iff.1 H13Y.out).1
                refine wpAnyH_ready (rs := [11]) (by kernel_rfl) (by simp) ?_
                refine (AllReadyH.cons rfl (fun K hK => ?_) AllReadyH.nil)
                go_simp
                have hgr : y.grownBy ((y.setCell ⟨g13, 0, none⟩ (.bool s2')).setCell ⟨g13, 1, none⟩ (.slice o2' k2' c2')) (some g13) := growSet (growSet (growRefl _ _) _ _) _ _
                have v2 := hgr.cell (a := ⟨w5.heap.size, 0, none⟩) v0 (by simp; omega)
                have v3 := hgr.cell (a := ⟨w5.heap.size, 1, none⟩) v1 (by simp; omega)
                have h12 := (hgr.block g12 (Array.getElem?_eq_some_iff.1 HS12.out).1 (by simp; omega)).trans HS12.out
                have HQZ := HQY2.out.keep H13Y.out (fun i m e => by rcases i with _ | _ | i <;> simp at e) hgr
                have h4 := (hgr.block w.heap.size (by omega) (by simp; omega)).trans H4Y.out
                have hbz : Below w.heap.size w ((y.setCell ⟨g13, 0, none⟩ (.bool s2')).setCell ⟨g13, 1, none⟩ (.slice o2' k2' c2')) := below_grow2 HBY.out hgr (by omega)
                obtain ⟨z, hz⟩ : ∃ Y, ((y.setCell ⟨g13, 0, none⟩ (.bool s2')).setCell ⟨g13, 1, none⟩ (.slice o2' k2' c2')) = Y := ⟨_, rfl⟩
                rw [hz] at v2 v3 h12 HQZ h4 hbz ⊢
                obtain ⟨n0, n1, _⟩ := two_cells h12
                obtain ⟨r0, r1, r2, r3⟩ := two_cells h4
                have hlz : w.heap.size < z.heap.size := (Array.getElem?_eq_some_iff.1 h4).1
                have HQZ2 := Kept.mk HQZ
                have H4Z := Kept.mk h4
                have HBZ := Kept.mk hbz
                clear h12 HQZ h4 hbz hgr hz m0 m1 m2 m3 v0 v1
                refine hK.out _ _ ⟨v2, v3⟩ (fun hHeld => ?_)
                clear hK K
                try simp only [Act.put, List.getElem_toArray, List.getElem_cons_succ, List.getElem_cons_zero, List.setIfInBounds_toArray, List.set_cons_zero, List.set_cons_succ]
                refine wpAnyH_take (i := 12) (v := ?_) rfl (by kernel_rfl) (by kernel_rfl) (by kernel_rfl) (fun _ _ _ h => h) (Or.inl ⟨by rfl, ?_⟩) (by assumption) ?_
                rotate_left
                · (intro w hSw; (try dsimp only at hSw); go_simp; (try with_reducible rfl))
                try simp only [Act.put, List.getElem_toArray, List.getElem_cons_succ, List.getElem_cons_zero, List.setIfInBounds_toArray, List.set_cons_zero, List.set_cons_succ]
                refine wpAnyH_done (by kernel_rfl) ?_ _
                have hgr : z.grownBy ((z.setCell ⟨w.heap.size, 0, none⟩ (.bool sQ)).setCell ⟨w.heap.size, 1, none⟩ (.slice oQ kQ cQ)) (some w.heap.size) := growSet (growSet (growRefl _ _) _ _) _ _
                have HQF := Kept.mk (HQZ2.out.keep H4Z.out (fun i m e => by rcases i with _ | _ | i <;> simp at e) hgr)
                obtain ⟨hB, q0, q1⟩ := two_end H4Z.out HBZ.out (Nat.le_refl _) (.bool sQ) (.slice oQ kQ cQ)
                have HBF := Kept.mk hB
                clear hB hgr
                go_wp2
                exact bodyPost_ret (v := .tuple #[.agg #[.bool sQ, .slice oQ kQ cQ], .int .i64 0]) (by simp [results, Tryz.results159, go_sem, q0, q1]) rfl ⟨HBF.out, .inr (.inr ⟨HFT.out, q, n, rfl, hp6, rfl, hn1, hn, sQ, oQ, kQ, cQ, rfl, HQF.out⟩)⟩
            · go_simp
              have hlt12 : w5.heap.size < x1.heap.size := World.block_lt_of_cell? _ _ u0_1
              have hr : Below x1.heap.size x1 (x1.alloc (.cells #[.bool false, .slice none 0 0] 98)) := (Below.refl _ _).alloc (Nat.le_refl _) _
              have hnew := heap_alloc_new x1 (.cells #[.bool false, .slice none 0 0] 98)
              obtain ⟨x2, hx⟩ : ∃ X, x1.alloc (.cells #[.bool false, .slice none 0 0] 98) = X := ⟨_, rfl⟩
              rw [hx] at hr hnew ⊢
              clear hx
              have H12_2 := Kept.mk hnew
              obtain ⟨g12, hg12⟩ : ∃ G, x1.heap.size = G := ⟨_, rfl⟩
              rw [hg12] at H12_2 hlt12 ⊢
              have u0_2 := belowCell hr u0_1
              have u1_2 := belowCell hr u1_1
              have HT_2 := Kept.mk (HT_1.out.below hr)
              have HB_2 := Kept.mk (HB_1.out.below hr)
              have HA_2 := Kept.mk (HA_1.out.below hr)
              clear hr hnew hg12
              refine hK.out _ _ ⟨u0_2, u1_2⟩ (fun hHeld => ?_)
              clear hK K
              try simp only [Act.put, List.getElem_toArray, List.getElem_cons_succ, List.getElem_cons_zero, List.setIfInBounds_toArray, List.set_cons_zero, List.set_cons_succ]
              refine wpAnyH_ready (rs := [3, 9]) (by kernel_rfl) (by simp) ?_
              refine (AllReadyH.cons rfl (fun K hK => ?_) (AllReadyH.cons rfl (fun K hK => ?_) AllReadyH.nil))
              · go_simp
                refine (idiv_any HT_2.out HA_2.out (by omega) (by omega) (by omega)).mono ?_
                intro e x3 hq
                obtain ⟨hr, sQ, oQ, kQ, cQ, s2', o2', k2', c2', rfl, hQ⟩ := div_out HEQ.out (by omega) hq
                have HQ_3 := Kept.mk hQ
                have u0_3 := belowCell hr u0_2
                have u1_3 := belowCell hr u1_2
                have HT_3 := Kept.mk (HT_2.out.below hr)
                have HB_3 := Kept.mk (HB_2.out.below hr)
                have HA_3 := Kept.mk (HA_2.out.below hr)
                have H12_3 := Kept.mk ((hr.block _ (Array.getElem?_eq_some_iff.1 H12_2.out).1).trans H12_2.out)
                clear hr hq hQ
                refine hK.out _ _ ⟨u0_3, u1_3⟩ (fun hHeld => ?_)
                clear hK K
                try simp only [Act.put, List.getElem_toArray, List.getElem_cons_succ, List.getElem_cons_zero, List.setIfInBounds_toArray, List.set_cons_zero, List.set_cons_succ]
                refine wpAnyH_take (i := 4) (v := ?_) rfl (by kernel_rfl) (by kernel_rfl) (by kernel_rfl) (fun _ _ _ h => h) (Or.inl ⟨by rfl, ?_⟩) (by assumption) ?_
                rotate_left
                · (intro w hSw; (try dsimp only at hSw); go_simp; (try with_reducible rfl))
                try simp only [Act.put, List.getElem_toArray, List.getElem_cons_succ, List.getElem_cons_zero, List.setIfInBounds_toArray, List.set_cons_zero, List.set_cons_succ]
                refine wpAnyH_take (i := 5) (v := ?_) rfl (by kernel_rfl) (by kernel_rfl) (by kernel_rfl) (fun _ _ _ h => h) (Or.inl ⟨by rfl, ?_⟩) (by assumption) ?_
                rotate_left
                · (intro w hSw; (try dsimp only at hSw); go_simp; (try with_reducible rfl))
                try simp only [Act.put, List.getElem_toArray, List.getElem_cons_succ, List.getElem_cons_zero, List.setIfInBounds_toArray, List.set_cons_zero, List.set_cons_succ]
                refine wpAnyH_take (i := 6) (v := ?_) rfl (by kernel_rfl) (by kernel_rfl) (by kernel_rfl) (fun _ _ _ h => h) (Or.inl ⟨by rfl, ?_⟩) (by assumption) ?_
                rotate_left
                · (intro w hSw; (try dsimp only at hSw); go_simp; (try with_reducible rfl))
                try simp only [Act.put, List.getElem_toArray, List.getElem_cons_succ, List.getElem_cons_zero, List.setIfInBounds_toArray, List.set_cons_zero, List.set_cons_succ]
                refine wpAnyH_take (i := 7) (v := ?_) rfl (by kernel_rfl) (by kernel_rfl) (by kernel_rfl) (fun _ _ _ h => h) (Or.inl ⟨by rfl, ?_⟩) (by assumption) ?_
                rotate_left
                · (intro w hSw; (try dsimp only at hSw); go_simp; (try with_reducible rfl))
                try simp only [Act.put, List.getElem_toArray, List.getElem_cons_succ, List.getElem_cons_zero, List.setIfInBounds_toArray, List.set_cons_zero, List.set_cons_succ]
                refine wpAnyH_ready (rs := [9]) (by kernel_rfl) (by simp) ?_
                refine (AllReadyH.cons rfl (fun K hK => ?_) AllReadyH.nil)
                go_simp
                have hlt13 : w5.heap.size < x3.heap.size := World.block_lt_of_cell? _ _ u0_3
                have hne : g12 < x3.heap.size := (Array.getElem?_eq_some_iff.1 H12_3.out).1
                have hr : Below x3.heap.size x3 (x3.alloc (.cells #[.bool false, .slice none 0 0] 98)) := (Below.refl _ _).alloc (Nat.le_refl _) _
                have hnew := heap_alloc_new x3 (.cells #[.bool false, .slice none 0 0] 98)
                obtain ⟨x4, hx⟩ : ∃ X, x3.alloc (.cells #[.bool false, .slice none 0 0] 98) = X := ⟨_, rfl⟩
                rw [hx] at hr hnew ⊢
                clear hx
                have H13_4 := Kept.mk hnew
                obtain ⟨g13, hg13⟩ : ∃ G, x3.heap.size = G := ⟨_, rfl⟩
                rw [hg13] at H13_4 hlt13 hne ⊢
                have u0_4 := belowCell hr u0_3
                have u1_4 := belowCell hr u1_3
                have HT_4 := Kept.mk (HT_3.out.below hr)
                have HB_4 := Kept.mk (HB_3.out.below hr)
                have HA_4 := Kept.mk (HA_3.out.below hr)
                have HQ_4 := Kept.mk (HQ_3.out.below hr)
                have H12_4 := Kept.mk ((hr.block _ (Array.getElem?_eq_some_iff.1 H12_3.out).1).trans H12_3.out)
                clear hr hnew hg13
                refine hK.out _ _ ⟨u0_4, u1_4⟩ (fun hHeld => ?_)
                clear hK K
                try simp only [Act.put, List.getElem_toArray, List.getElem_cons_succ, List.getElem_cons_zero, List.setIfInBounds_toArray, List.set_cons_zero, List.set_cons_succ]
                obtain ⟨m0, m1, m2, m3⟩ := two_cells H12_4.out
                have hl12 : g12 < x4.heap.size := (Array.getElem?_eq_some_iff.1 H12_4.out).1
                refine wpAnyH_ready (rs := [10]) (by kernel_rfl) (by simp) ?_
                refine (AllReadyH.cons rfl (fun K hK => ?_) AllReadyH.nil)
                go_simp
                have hset := two_set H12_4.out (.bool sQ) (.slice oQ kQ cQ)
                have hgr : x4.grownBy ((x4.setCell ⟨g12, 0, none⟩ (.bool sQ)).setCell ⟨g12, 1, none⟩ (.slice oQ kQ cQ)) (some g12) := growSet (growSet (growRefl _ _) _ _) _ _
                have v0 := hgr.cell (a := ⟨w5.heap.size, 0, none⟩) u0_4 (by simp; omega)
                have v1 := hgr.cell (a := ⟨w5.heap.size, 1, none⟩) u1_4 (by simp; omega)
                have h13 := (hgr.block g13 (Array.getElem?_eq_some_iff.1 H13_4.out).1 (by simp; omega)).trans H13_4.out
                have HQY := HQ_4.out.keep H12_4.out (fun i m e => by rcases i with _ | _ | i <;> simp at e) hgr
                have h4 := (hgr.block w.heap.size (by have := HB_4.out.2.1; simp at this; omega) (by simp; omega)).trans HB_4.out.b0
                have hby : Below w.heap.size w ((x4.setCell ⟨g12, 0, none⟩ (.bool sQ)).setCell ⟨g12, 1, none⟩ (.slice oQ kQ cQ)) := below_grow2 HB_4.out.1 hgr (by omega)
                obtain ⟨y, hy⟩ : ∃ Y, ((x4.setCell ⟨g12, 0, none⟩ (.bool sQ)).setCell ⟨g12, 1, none⟩ (.slice oQ kQ cQ)) = Y := ⟨_, rfl⟩
                rw [hy] at hset v0 v1 h13 HQY h4 hby ⊢
                have HS12 := Kept.mk hset
                have H13Y := Kept.mk h13
                have HQY2 := Kept.mk HQY
                have H4Y := Kept.mk h4
                have HBY := Kept.mk hby
                clear hset h13 HQY h4 hby hgr hy m0 m1 m2 m3
                refine hK.out _ _ ⟨v0, v1⟩ (fun hHeld => ?_)
                clear hK K
                try simp only [Act.put, List.getElem_toArray, List.getElem_cons_succ, List.getElem_cons_zero, List.setIfInBounds_toArray, List.set_cons_zero, List.set_cons_succ]
                obtain ⟨m0, m1, m2, m3⟩ := two_cells H13Y.out
                have hl13 : g13 < y.heap.size := (Array.getElem?_eq_some_iff.1 H13Y.out).1
                refine wpAnyH_ready (rs := [11]) (by kernel_rfl) (by simp) ?_
                refine (AllReadyH.cons rfl (fun K hK => ?_) AllReadyH.nil)
                go_simp
                have hgr : y.grownBy ((y.setCell ⟨g13, 0, none⟩ (.bool s2')).setCell ⟨g13, 1, none⟩ (.slice o2' k2' c2')) (some g13) := growSet (growSet (growRefl _ _) _ _) _ _
                have v2 := hgr.cell (a := ⟨w5.heap.size, 0, none⟩) v0 (by simp; omega)
                have v3 := hgr.cell (a := ⟨w5.heap.size, 1, none⟩) v1 (by simp; omega)
                have h12 := (hgr.block g12 (Array.getElem?_eq_some_iff.1 HS12.out).1 (by simp; omega)).trans HS12.out
                have HQZ := HQY2.out.keep H13Y.out (fun i m e => by rcases i with _ | _ | i <;> simp at e) hgr
                have h4 := (hgr.block w.heap.size (by omega) (by simp; omega)).trans H4Y.out
                have hbz : Below w.heap.size w ((y.setCell ⟨g13, 0, none⟩ (.bool s2')).setCell ⟨g13, 1, none⟩ (.slice o2' k2' c2')) := below_grow2 HBY.out hgr (by omega)
                obtain ⟨z, hz⟩ : ∃ Y, ((y.setCell ⟨g13, 0, none⟩ (.bool s2')).setCell ⟨g13, 1, none⟩ (.slice o2' k2' c2')) = Y := ⟨_, rfl⟩
                rw [hz] at v2 v3 h12 HQZ h4 hbz ⊢
                obtain ⟨n0, n1, _⟩ := two_cells h12
                obtain ⟨r0, r1, r2, r3⟩ := two_cells h4
                have hlz : w.heap.size < z.heap.size := (Array.getElem?_eq_some_iff.1 h4).1
                have HQZ2 := Kept.mk HQZ
                have H4Z := Kept.mk h4
                have HBZ := Kept.mk hbz
                clear h12 HQZ h4 hbz hgr hz m0 m1 m2 m3 v0 v1
                refine hK.out _ _ ⟨v2, v3⟩ (fun hHeld => ?_)
                clear hK K
                try simp only [Act.put, List.getElem_toArray, List.getElem_cons_succ, List.getElem_cons_zero, List.setIfInBounds_toArray, List.set_cons_zero, List.set_cons_succ]
                refine wpAnyH_take (i := 12) (v := ?_) rfl (by kernel_rfl) (by kernel_rfl) (by kernel_rfl) (fun _ _ _ h => h) (Or.inl ⟨by rfl, ?_⟩) (by assumption) ?_
                rotate_left
                · (intro w hSw; (try dsimp only at hSw); go_simp; (try with_reducible rfl))
                try simp only [Act.put, List.getElem_toArray, List.getElem_cons_succ, List.getElem_cons_zero, List.setIfInBounds_toArray, List.set_cons_zero, List.set_cons_succ]
                refine wpAnyH_done (by kernel_rfl) ?_ _
                have hgr : z.grownBy ((z.setCell ⟨w.heap.size, 0, none⟩ (.bool sQ)).setCell ⟨w.heap.size, 1, none⟩ (.slice oQ kQ cQ)) (some w.heap.size) := growSet (growSet (growRefl _ _) _ _) _ _
                have HQF := Kept.mk (HQZ2.out.keep H4Z.out (fun i m e => by rcases i with _ | _ | i <;> simp at e) hgr)
                obtain ⟨hB, q0, q1⟩ := two_end H4Z.out HBZ.out (Nat.le_refl _) (.bool sQ) (.slice oQ kQ cQ)
                have HBF := Kept.mk hB
                clear hB hgr
                go_wp2
                exact bodyPost_ret (v := .tuple #[.agg #[.bool sQ, .slice oQ kQ cQ], .int .i64 0]) (by simp [results, Tryz.results159, go_sem, q0, q1]) rfl ⟨HBF.out, .inr (.inr ⟨HFT.out, q, n, rfl, hp6, rfl, hn1, hn, sQ, oQ, kQ, cQ, rfl, HQF.out⟩)⟩
              · go_simp
                have hlt13 : w5.heap.size < x2.heap.size := World.block_lt_of_cell? _ _ u0_2
                have hne : g12 < x2.heap.size := (Array.getElem?_eq_some_iff.1 H12_2.out).1
                have hr : Below x2.heap.size x2 (x2.alloc (.cells #[.bool false, .slice none 0 0] 98)) := (Below.refl _ _).alloc (Nat.le_refl _) _
                have hnew := heap_alloc_new x2 (.cells #[.bool false, .slice none 0 0] 98)
                obtain ⟨x3, hx⟩ : ∃ X, x2.alloc (.cells #[.bool false, .slice none 0 0] 98) = X := ⟨_, rfl⟩
                rw [hx] at hr hnew ⊢
                clear hx
                have H13_3 := Kept.mk hnew
                obtain ⟨g13, hg13⟩ : ∃ G, x2.heap.size = G := ⟨_, rfl⟩
                rw [hg13] at H13_3 hlt13 hne ⊢
                have u0_3 := belowCell hr u0_2
                have u1_3 := belowCell hr u1_2
                have HT_3 := Kept.mk (HT_2.out.below hr)
                have HB_3 := Kept.mk (HB_2.out.below hr)
                have HA_3 := Kept.mk (HA_2.out.below hr)
                have H12_3 := Kept.mk ((hr.block _ (Array.getElem?_eq_some_iff.1 H12_2.out).1).trans H12_2.out)
                clear hr hnew hg13
                refine hK.out _ _ ⟨u0_3, u1_3⟩ (fun hHeld => ?_)
                clear hK K
                try simp only [Act.put, List.getElem_toArray, List.getElem_cons_succ, List.getElem_cons_zero, List.setIfInBounds_toArray, List.set_cons_zero, List.set_cons_succ]
                refine wpAnyH_ready (rs := [3]) (by kernel_rfl) (by simp) ?_
                refine (AllReadyH.cons rfl (fun K hK => ?_) AllReadyH.nil)
                go_simp
                refine (idiv_any HT_3.out HA_3.out (by omega) (by omega) (by omega)).mono ?_
                intro e x4 hq
                obtain ⟨hr, sQ, oQ, kQ, cQ, s2', o2', k2', c2', rfl, hQ⟩ := div_out HEQ.out (by omega) hq
                have HQ_4 := Kept.mk hQ
                have u0_4 := belowCell hr u0_3
                have u1_4 := belowCell hr u1_3
                have HT_4 := Kept.mk (HT_3.out.below hr)
                have HB_4 := Kept.mk (HB_3.out.below hr)
                have HA_4 := Kept.mk (HA_3.out.below hr)
                have H12_4 := Kept.mk ((hr.block _ (Array.getElem?_eq_some_iff.1 H12_3.out).1).trans H12_3.out)
                have H13_4 := Kept.mk ((hr.block _ (Array.getElem?_eq_some_iff.1 H13_3.out).1).trans H13_3.out)
                clear hr hq hQ
                refine hK.out _ _ ⟨u0_4, u1_4⟩ (fun hHeld => ?_)
                clear hK K
                try simp only [Act.put, List.getElem_toArray, List.getElem_cons_succ, List.getElem_cons_zero, List.setIfInBounds_toArray, List.set_cons_zero, List.set_cons_succ]
                refine wpAnyH_take (i := 4) (v := ?_) rfl (by kernel_rfl) (by kernel_rfl) (by kernel_rfl) (fun _ _ _ h => h) (Or.inl ⟨by rfl, ?_⟩) (by assumption) ?_
                rotate_left
                · (intro w hSw; (try dsimp only at hSw); go_simp; (try with_reducible rfl))
                try simp only [Act.put, List.getElem_toArray, List.getElem_cons_succ, List.getElem_cons_zero, List.setIfInBounds_toArray, List.set_cons_zero, List.set_cons_succ]
                refine wpAnyH_take (i := 5) (v := ?_) rfl (by kernel_rfl) (by kernel_rfl) (by kernel_rfl) (fun _ _ _ h => h) (Or.inl ⟨by rfl, ?_⟩) (by assumption) ?_
                rotate_left
                · (intro w hSw; (try dsimp only at hSw); go_simp; (try with_reducible rfl))
                try simp only [Act.put, List.getElem_toArray, List.getElem_cons_succ, List.getElem_cons_zero, List.setIfInBounds_toArray, List.set_cons_zero, List.set_cons_succ]
                refine wpAnyH_take (i := 6) (v := ?_) rfl (by kernel_rfl) (by kernel_rfl) (by kernel_rfl) (fun _ _ _ h => h) (Or.inl ⟨by rfl, ?_⟩) (by assumption) ?_
                rotate_left
                · (intro w hSw; (try dsimp only at hSw); go_simp; (try with_reducible rfl))
                try simp only [Act.put, List.getElem_toArray, List.getElem_cons_succ, List.getElem_cons_zero, List.setIfInBounds_toArray, List.set_cons_zero, List.set_cons_succ]
                refine wpAnyH_take (i := 7) (v := ?_) rfl (by kernel_rfl) (by kernel_rfl) (by kernel_rfl) (fun _ _ _ h => h) (Or.inl ⟨by rfl, ?_⟩) (by assumption) ?_
                rotate_left
                · (intro w hSw; (try dsimp only at hSw); go_simp; (try with_reducible rfl))
                try simp only [Act.put, List.getElem_toArray, List.getElem_cons_succ, List.getElem_cons_zero, List.setIfInBounds_toArray, List.set_cons_zero, List.set_cons_succ]
                obtain ⟨m0, m1, m2, m3⟩ := two_cells H12_4.out
                have hl12 : g12 < x4.heap.size := (Array.getElem?_eq_some_iff.1 H12_4.out).1
                refine wpAnyH_ready (rs := [10]) (by kernel_rfl) (by simp) ?_
                refine (AllReadyH.cons rfl (fun K hK => ?_) AllReadyH.nil)
                go_simp
                have hset := two_set H12_4.out (.bool sQ) (.slice oQ kQ cQ)
                have hgr : x4.grownBy ((x4.setCell ⟨g12, 0, none⟩ (.bool sQ)).setCell ⟨g12, 1, none⟩ (.slice oQ kQ cQ)) (some g12) := growSet (growSet (growRefl _ _) _ _) _ _
                have v0 := hgr.cell (a := ⟨w5.heap.size, 0, none⟩) u0_4 (by simp; omega)
                have v1 := hgr.cell (a := ⟨w5.heap.size, 1, none⟩) u1_4 (by simp; omega)
                have h13 := (hgr.block g13 (Array.getElem?_eq_some_iff.1 H13_4.out).1 (by simp; omega)).trans H13_4.out
                have HQY := HQ_4.out.keep H12_4.out (fun i m e => by rcases i with _ | _ | i <;> simp at e) hgr
                have h4 := (hgr.block w.heap.size (by have := HB_4.out.2.1; simp at this; omega) (by simp; omega)).trans HB_4.out.b0
                have hby : Below w.heap.size w ((x4.setCell ⟨g12, 0, none⟩ (.bool sQ)).setCell ⟨g12, 1, none⟩ (.slice oQ kQ cQ)) := below_grow2 HB_4.out.1 hgr (by omega)
                obtain ⟨y, hy⟩ : ∃ Y, ((x4.setCell ⟨g12, 0, none⟩ (.bool sQ)).setCell ⟨g12, 1, none⟩ (.slice oQ kQ cQ)) = Y := ⟨_, rfl⟩
                rw [hy] at hset v0 v1 h13 HQY h4 hby ⊢
                have HS12 := Kept.mk hset
                have H13Y := Kept.mk h13
                have HQY2 := Kept.mk HQY
                have H4Y := Kept.mk h4
                have HBY := Kept.mk hby
                clear hset h13 HQY h4 hby hgr hy m0 m1 m2 m3
                refine hK.out _ _ ⟨v0, v1⟩ (fun hHeld => ?_)
                clear hK K
                try simp only [Act.put, List.getElem_toArray, List.getElem_cons_succ, List.getElem_cons_zero, List.setIfInBounds_toArray, List.set_cons_zero, List.set_cons_succ]
                obtain ⟨m0, m1, m2, m3⟩ := two_cells H13Y.out
                have hl13 : g13 < y.heap.size := (Array.getElem?_eq_some_iff.1 H13Y.out).1
                refine wpAnyH_ready (rs := [11]) (by kernel_rfl) (by simp) ?_
                refine (AllReadyH.cons rfl (fun K hK => ?_) AllReadyH.nil)
                go_simp
                have hgr : y.grownBy ((y.setCell ⟨g13, 0, none⟩ (.bool s2')).setCell ⟨g13, 1, none⟩ (.slice o2' k2' c2')) (some g13) := growSet (growSet (growRefl _ _) _ _) _ _
                have v2 := hgr.cell (a := ⟨w5.heap.size, 0, none⟩) v0 (by simp; omega)
                have v3 := hgr.cell (a := ⟨w5.heap.size, 1, none⟩) v1 (by simp; omega)
                have h12 := (hgr.block g12 (Array.getElem?_eq_some_iff.1 HS12.out).1 (by simp; omega)).trans HS12.out
                have HQZ := HQY2.out.keep H13Y.out (fun i m e => by rcases i with _ | _ | i <;> simp at e) hgr
                have h4 := (hgr.block w.heap.size (by omega) (by simp; omega)).trans H4Y.out
                have hbz : Below w.heap.size w ((y.setCell ⟨g13, 0, none⟩ (.bool s2')).setCell ⟨g13, 1, none⟩ (.slice o2' k2' c2')) := below_grow2 HBY.out hgr (by omega)
                obtain ⟨z, hz⟩ : ∃ Y, ((y.setCell ⟨g13, 0, none⟩ (.bool s2')).setCell ⟨g13, 1, none⟩ (.slice o2' k2' c2')) = Y := ⟨_, rfl⟩
                rw [hz] at v2 v3 h12 HQZ h4 hbz ⊢
                obtain ⟨n0, n1, _⟩ := two_cells h12
                obtain ⟨r0, r1, r2, r3⟩ := two_cells h4
                have hlz : w.heap.size < z.heap.size := (Array.getElem?_eq_some_iff.1 h4).1
                have HQZ2 := Kept.mk HQZ
                have H4Z := Kept.mk h4
                have HBZ := Kept.mk hbz
                clear h12 HQZ h4 hbz hgr hz m0 m1 m2 m3 v0 v1
                refine hK.out _ _ ⟨v2, v3⟩ (fun hHeld => ?_)
                clear hK K
                try simp only [Act.put, List.getElem_toArray, List.getElem_cons_succ, List.getElem_cons_zero, List.setIfInBounds_toArray, List.set_cons_zero, List.set_cons_succ]
                refine wpAnyH_take (i := 12) (v := ?_) rfl (by kernel_rfl) (by kernel_rfl) (by kernel_rfl) (fun _ _ _ h => h) (Or.inl ⟨by rfl, ?_⟩) (by assumption) ?_
                rotate_left
                · (intro w hSw; (try dsimp only at hSw); go_simp; (try with_reducible rfl))
                try simp only [Act.put, List.getElem_toArray, List.getElem_cons_succ, List.getElem_cons_zero, List.setIfInBounds_toArray, List.set_cons_zero, List.set_cons_succ]
                refine wpAnyH_done (by kernel_rfl) ?_ _
                have hgr : z.grownBy ((z.setCell ⟨w.heap.size, 0, none⟩ (.bool sQ)).setCell ⟨w.heap.size, 1, none⟩ (.slice oQ kQ cQ)) (some w.heap.size) := growSet (growSet (growRefl _ _) _ _) _ _
                have HQF := Kept.mk (HQZ2.out.keep H4Z.out (fun i m e => by rcases i with _ | _ | i <;> simp at e) hgr)
                obtain ⟨hB, q0, q1⟩ := two_end H4Z.out HBZ.out (Nat.le_refl _) (.bool sQ) (.slice oQ kQ cQ)
                have HBF := Kept.mk hB
                clear hB hgr
                go_wp2
                exact bodyPost_ret (v := .tuple #[.agg #[.bool sQ, .slice oQ kQ cQ], .int .i64 0]) (by simp [results, Tryz.results159, go_sem, q0, q1]) rfl ⟨HBF.out, .inr (.inr ⟨HFT.out, q, n, rfl, hp6, rfl, hn1, hn, sQ, oQ, kQ, cQ, rfl, HQF.out⟩)⟩
            · go_simp
              have hlt13 : w5.heap.size < x1.heap.size := World.block_lt_of_cell? _ _ u0_1
              have hr : Below x1.heap.size x1 (x1.alloc (.cells #[.bool false, .slice none 0 0] 98)) := (Below.refl _ _).alloc (Nat.le_refl _) _
              have hnew := heap_alloc_new x1 (.cells #[.bool false, .slice none 0 0] 98)
              obtain ⟨x2, hx⟩ : ∃ X, x1.alloc (.cells #[.bool false, .slice none 0 0] 98) = X := ⟨_, rfl⟩
              rw [hx] at hr hnew ⊢
              clear hx
              have H13_2 := Kept.mk hnew
              obtain ⟨g13, hg13⟩ : ∃ G, x1.heap.size = G := ⟨_, rfl⟩
              rw [hg13] at H13_2 hlt13 ⊢
              have u0_2 := belowCell hr u0_1
              have u1_2 := belowCell hr u1_1
              have HT_2 := Kept.mk (HT_1.out.below hr)
              have HB_2 := Kept.mk (HB_1.out.below hr)
              have HA_2 := Kept.mk (HA_1.out.below hr)
              clear hr hnew hg13
              refine hK.out _ _ ⟨u0_2, u1_2⟩ (fun hHeld => ?_)
              clear hK K
              try simp only [Act.put, List.getElem_toArray, List.getElem_cons_succ, List.getElem_cons_zero, List.setIfInBounds_toArray, List.set_cons_zero, List.set_cons_succ]
              refine wpAnyH_ready (rs := [3, 8]) (by kernel_rfl) (by simp) ?_
              refine (AllReadyH.cons rfl (fun K hK => ?_) (AllReadyH.cons rfl (fun K hK => ?_) AllReadyH.nil))
              · go_simp
                refine (idiv_any HT_2.out HA_2.out (by omega) (by omega) (by omega)).mono ?_
                intro e x3 hq
                obtain ⟨hr, sQ, oQ, kQ, cQ, s2', o2', k2', c2', rfl, hQ⟩ := div_out HEQ.out (by omega) hq
                have HQ_3 := Kept.mk hQ
                have u0_3 := belowCell hr u0_2
                have u1_3 := belowCell hr u1_2
                have HT_3 := Kept.mk (HT_2.out.below hr)
                have HB_3 := Kept.mk (HB_2.out.below hr)
                have HA_3 := Kept.mk (HA_2.out.below hr)
                have H13_3 := Kept.mk ((hr.block _ (Array.getElem?_eq_some_iff.1 H13_2.out).1).trans H13_2.out)
                clear hr hq hQ
                refine hK.out _ _ ⟨u0_3, u1_3⟩ (fun hHeld => ?_)
                clear hK K
                try simp only [Act.put, List.getElem_toArray, List.getElem_cons_succ, List.getElem_cons_zero, List.setIfInBounds_toArray, List.set_cons_zero, List.set_cons_succ]
                refine wpAnyH_take (i := 4) (v := ?_) rfl (by kernel_rfl) (by kernel_rfl) (by kernel_rfl) (fun _ _ _ h => h) (Or.inl ⟨by rfl, ?_⟩) (by assumption) ?_
                rotate_left
                · (intro w hSw; (try dsimp only at hSw); go_simp; (try with_reducible rfl))
                try simp only [Act.put, List.getElem_toArray, List.getElem_cons_succ, List.getElem_cons_zero, List.setIfInBounds_toArray, List.set_cons_zero, List.set_cons_succ]
                refine wpAnyH_take (i := 5) (v := ?_) rfl (by kernel_rfl) (by kernel_rfl) (by kernel_rfl) (fun _ _ _ h => h) (Or.inl ⟨by rfl, ?_⟩) (by assumption) ?_
                rotate_left
                · (intro w hSw; (try dsimp only at hSw); go_simp; (try with_reducible rfl))
                try simp only [Act.put, List.getElem_toArray, List.getElem_cons_succ, List.getElem_cons_zero, List.setIfInBounds_toArray, List.set_cons_zero, List.set_cons_succ]
                refine wpAnyH_take (i := 6) (v := ?_) rfl (by kernel_rfl) (by kernel_rfl) (by kernel_rfl) (fun _ _ _ h => h) (Or.inl ⟨by rfl, ?_⟩) (by assumption) ?_
                rotate_left
                · (intro w hSw; (try dsimp only at hSw); go_simp; (try with_reducible rfl))
                try simp only [Act.put, List.getElem_toArray, List.getElem_cons_succ, List.getElem_cons_zero, List.setIfInBounds_toArray, List.set_cons_zero, List.set_cons_succ]
                refine wpAnyH_take (i := 7) (v := ?_) rfl (by kernel_rfl) (by kernel_rfl) (by kernel_rfl) (fun _ _ _ h => h) (Or.inl ⟨by rfl, ?_⟩) (by assumption) ?_
                rotate_left
                · (intro w hSw; (try dsimp only at hSw); go_simp; (try with_reducible rfl))
                try simp only [Act.put, List.getElem_toArray, List.getElem_cons_succ, List.getElem_cons_zero, List.setIfInBounds_toArray, List.set_cons_zero, List.set_cons_succ]
                refine wpAnyH_ready (rs := [8]) (by kernel_rfl) (by simp) ?_
                refine (AllReadyH.cons rfl (fun K hK => ?_) AllReadyH.nil)
                go_simp
                have hlt12 : w5.heap.size < x3.heap.size := World.block_lt_of_cell? _ _ u0_3
                have hne : g13 < x3.heap.size := (Array.getElem?_eq_some_iff.1 H13_3.out).1
                have hr : Below x3.heap.size x3 (x3.alloc (.cells #[.bool false, .slice none 0 0] 98)) := (Below.refl _ _).alloc (Nat.le_refl _) _
                have hnew := heap_alloc_new x3 (.cells #[.bool false, .slice none 0 0] 98)
                obtain ⟨x4, hx⟩ : ∃ X, x3.alloc (.cells #[.bool false, .slice none 0 0] 98) = X := ⟨_, rfl⟩
                rw [hx] at hr hnew ⊢
                clear hx
                have H12_4 := Kept.mk hnew
                obtain ⟨g12, hg12⟩ : ∃ G, x3.heap.size = G := ⟨_, rfl⟩
                rw [hg12] at H12_4 hlt12 hne ⊢
                have u0_4 := belowCell hr u0_3
                have u1_4 := belowCell hr u1_3
                have HT_4 := Kept.mk (HT_3.out.below hr)
                have HB_4 := Kept.mk (HB_3.out.below hr)
                have HA_4 := Kept.mk (HA_3.out.below hr)
                have HQ_4 := Kept.mk (HQ_3.out.below hr)
                have H13_4 := Kept.mk ((hr.block _ (Array.getElem?_eq_some_iff.1 H13_3.out).1).trans H13_3.out)
                clear hr hnew hg12
                refine hK.out _ _ ⟨u0_4, u1_4⟩ (fun hHeld => ?_)
                clear hK K
                try simp only [Act.put, List.getElem_toArray, List.getElem_cons_succ, List.getElem_cons_zero, List.setIfInBounds_toArray, List.set_cons_zero, List.set_cons_succ]
                obtain ⟨m0, m1, m2, m3⟩ := two_cells H12_4.out
                have hl12 : g12 < x4.heap.size := (Array.getElem?_eq_some_iff.1 H12_4.out).1
                refine wpAnyH_ready (rs := [10]) (by kernel_rfl) (by simp) ?_
                refine (AllReadyH.cons rfl (fun K hK => ?_) AllReadyH.nil)
                go_simp
                have hset := two_set H12_4.out (.bool sQ) (.slice oQ kQ cQ)
                have hgr : x4.grownBy ((x4.setCell ⟨g12, 0, none⟩ (.bool sQ)).setCell ⟨g12, 1, none⟩ (.slice oQ kQ cQ)) (some g12) := growSet (growSet (growRefl _ _) _ _) _ _
                have v0 := hgr.cell (a := ⟨w5.heap.size, 0, none⟩) u0_4 (by simp; omega)
                have v1 := hgr.cell (a := ⟨w5.heap.size, 1, none⟩) u1_4 (by simp; omega)
                have h13 := (hgr.block g13 (Array.getElem?_eq_some_iff.1 H13_4.out).1 (by simp; omega)).trans H13_4.out
                have HQY := HQ_4.out.keep H12_4.out (fun i m e => by rcases i with _ | _ | i <;> simp at e) hgr
                have h4 := (hgr.block w.heap.size (by have := HB_4.out.2.1; simp at this; omega) (by simp; omega)).trans HB_4.out.b0
                have hby : Below w.heap.size w ((x4.setCell ⟨g12, 0, none⟩ (.bool sQ)).setCell ⟨g12, 1, none⟩ (.slice oQ kQ cQ)) := below_grow2 HB_4.out.1 hgr (by omega)
                obtain ⟨y, hy⟩ : ∃ Y, ((x4.setCell ⟨g12, 0, none⟩ (.bool sQ)).setCell ⟨g12, 1, none⟩ (.slice oQ kQ cQ)) = Y := ⟨_, rfl⟩
                rw [hy] at hset v0 v1 h13 HQY h4 hby ⊢
                have HS12 := Kept.mk hset
                have H13Y := Kept.mk h13
                have HQY2 := Kept.mk HQY
                have H4Y := Kept.mk h4
                have HBY := Kept.mk hby
                clear hset h13 HQY h4 hby hgr hy m0 m1 m2 m3
                refine hK.out _ _ ⟨v0, v1⟩ (fun hHeld => ?_)
                clear hK K
                try simp only [Act.put, List.getElem_toArray, List.getElem_cons_succ, List.getElem_cons_zero, List.setIfInBounds_toArray, List.set_cons_zero, List.set_cons_succ]
                obtain ⟨m0, m1, m2, m3⟩ := two_cells H13Y.out
                have hl13 : g13 < y.heap.size := (Array.getElem?_eq_some_iff.1 H13Y.out).1
                refine wpAnyH_ready (rs := [11]) (by kernel_rfl) (by simp) ?_
                refine (AllReadyH.cons rfl (fun K hK => ?_) AllReadyH.nil)
                go_simp
                have hgr : y.grownBy ((y.setCell ⟨g13, 0, none⟩ (.bool s2')).setCell ⟨g13, 1, none⟩ (.slice o2' k2' c2')) (some g13) := growSet (growSet (growRefl _ _) _ _) _ _
                have v2 := hgr.cell (a := ⟨w5.heap.size, 0, none⟩) v0 (by simp; omega)
                have v3 := hgr.cell (a := ⟨w5.heap.size, 1, none⟩) v1 (by simp; omega)
                have h12 := (hgr.block g12 (Array.getElem?_eq_some_iff.1 HS12.out).1 (by simp; omega)).trans HS12.out
                have HQZ := HQY2.out.keep H13Y.out (fun i m e => by rcases i with _ | _ | i <;> simp at e) hgr
                have h4 := (hgr.block w.heap.size (by omega) (by simp; omega)).trans H4Y.out
                have hbz : Below w.heap.size w ((y.setCell ⟨g13, 0, none⟩ (.bool s2')).setCell ⟨g13, 1, none⟩ (.slice o2' k2' c2')) := below_grow2 HBY.out hgr (by omega)
                obtain ⟨z, hz⟩ : ∃ Y, ((y.setCell ⟨g13, 0, none⟩ (.bool s2')).setCell ⟨g13, 1, none⟩ (.slice o2' k2' c2')) = Y := ⟨_, rfl⟩
                rw [hz] at v2 v3 h12 HQZ h4 hbz ⊢
                obtain ⟨n0, n1, _⟩ := two_cells h12
                obtain ⟨r0, r1, r2, r3⟩ := two_cells h4
                have hlz : w.heap.size < z.heap.size := (Array.getElem?_eq_some_iff.1 h4).1
                have HQZ2 := Kept.mk HQZ
                have H4Z := Kept.mk h4
                have HBZ := Kept.mk hbz
                clear h12 HQZ h4 hbz hgr hz m0 m1 m2 m3 v0 v1
                refine hK.out _ _ ⟨v2, v3⟩ (fun hHeld => ?_)
                clear hK K
                try simp only [Act.put, List.getElem_toArray, List.getElem_cons_succ, List.getElem_cons_zero, List.setIfInBounds_toArray, List.set_cons_zero, List.set_cons_succ]
                refine wpAnyH_take (i := 12) (v := ?_) rfl (by kernel_rfl) (by kernel_rfl) (by kernel_rfl) (fun _ _ _ h => h) (Or.inl ⟨by rfl, ?_⟩) (by assumption) ?_
                rotate_left
                · (intro w hSw; (try dsimp only at hSw); go_simp; (try with_reducible rfl))
                try simp only [Act.put, List.getElem_toArray, List.getElem_cons_succ, List.getElem_cons_zero, List.setIfInBounds_toArray, List.set_cons_zero, List.set_cons_succ]
                refine wpAnyH_done (by kernel_rfl) ?_ _
                have hgr : z.grownBy ((z.setCell ⟨w.heap.size, 0, none⟩ (.bool sQ)).setCell ⟨w.heap.size, 1, none⟩ (.slice oQ kQ cQ)) (some w.heap.size) := growSet (growSet (growRefl _ _) _ _) _ _
                have HQF := Kept.mk (HQZ2.out.keep H4Z.out (fun i m e => by rcases i with _ | _ | i <;> simp at e) hgr)
                obtain ⟨hB, q0, q1⟩ := two_end H4Z.out HBZ.out (Nat.le_refl _) (.bool sQ) (.slice oQ kQ cQ)
                have HBF := Kept.mk hB
                clear hB hgr
                go_wp2
                exact bodyPost_ret (v := .tuple #[.agg #[.bool sQ, .slice oQ kQ cQ], .int .i64 0]) (by simp [results, Tryz.results159, go_sem, q0, q1]) rfl ⟨HBF.out, .inr (.inr ⟨HFT.out, q, n, rfl, hp6, rfl, hn1, hn, sQ, oQ, kQ, cQ, rfl, HQF.out⟩)⟩
              · go_simp
                have hlt12 : w5.heap.size < x2.heap.size := World.block_lt_of_cell? _ _ u0_2
                have hne : g13 < x2.heap.size := (Array.getElem?_eq_some_iff.1 H13_2.out).1
                have hr : Below x2.heap.size x2 (x2.alloc (.cells #[.bool false, .slice none 0 0] 98)) := (Below.refl _ _).alloc (Nat.le_refl _) _
                have hnew := heap_alloc_new x2 (.cells #[.bool false, .slice none 0 0] 98)
                obtain ⟨x3, hx⟩ : ∃ X, x2.alloc (.cells #[.bool false, .slice none 0 0] 98) = X := ⟨_, rfl⟩
                rw [hx] at hr hnew ⊢
                clear hx
                have H12_3 := Kept.mk hnew
                obtain ⟨g12, hg12⟩ : ∃ G, x2.heap.size = G := ⟨_, rfl⟩
                rw [hg12] at H12_3 hlt12 hne ⊢
                have u0_3 := belowCell hr u0_2
                have u1_3 := belowCell hr u1_2
                have HT_3 := Kept.mk (HT_2.out.below hr)
                have HB_3 := Kept.mk (HB_2.out.below hr)
                have HA_3 := Kept.mk (HA_2.out.below hr)
                have H13_3 := Kept.mk ((hr.block _ (Array.getElem?_eq_some_iff.1 H13_2.out).1).trans H13_2.out)
                clear hr hnew hg12
                refine hK.out _ _ ⟨u0_3, u1_3⟩ (fun hHeld => ?_)
                clear hK K
                try simp only [Act.put, List.getElem_toArray, List.getElem_cons_succ, List.getElem_cons_zero, List.setIfInBounds_toArray, List.set_cons_zero, List.set_cons_succ]
                refine wpAnyH_ready (rs := [3]) (by kernel_rfl) (by simp) ?_
                refine (AllReadyH.cons rfl (fun K hK => ?_) AllReadyH.nil)
                go_simp
                refine (idiv_any HT_3.out HA_3.out (by omega) (by omega) (by omega)).mono ?_
                intro e x4 hq
                obtain ⟨hr, sQ, oQ, kQ, cQ, s2', o2', k2', c2', rfl, hQ⟩ := div_out HEQ.out (by omega) hq
                have HQ_4 := Kept.mk hQ
                have u0_4 := belowCell hr u0_3
                have u1_4 := belowCell hr u1_3
                have HT_4 := Kept.mk (HT_3.out.below hr)
                have HB_4 := Kept.mk (HB_3.out.below hr)
                have HA_4 := Kept.mk (HA_3.out.below hr)
                have H12_4 := Kept.mk ((hr.block _ (Array.getElem?_eq_some_iff.1 H12_3.out).1).trans H12_3.out)
                have H13_4 := Kept.mk ((hr.block _ (Array.getElem?_eq_some_iff.1 H13_3.out).1).trans H13_3.out)
                clear hr hq hQ
                refine hK.out _ _ ⟨u0_4, u1_4⟩ (fun hHeld => ?_)
                clear hK K
                try simp only [Act.put, List.getElem_toArray, List.getElem_cons_succ, List.getElem_cons_zero, List.setIfInBounds_toArray, List.set_cons_zero, List.set_cons_succ]
                refine wpAnyH_take (i := 4) (v := ?_) rfl (by kernel_rfl) (by kernel_rfl) (by kernel_rfl) (fun _ _ _ h => h) (Or.inl ⟨by rfl, ?_⟩) (by assumption) ?_
                rotate_left
                · (intro w hSw; (try dsimp only at hSw); go_simp; (try with_reducible rfl))
                try simp only [Act.put, List.getElem_toArray, List.getElem_cons_succ, List.getElem_cons_zero, List.setIfInBounds_toArray, List.set_cons_zero, List.set_cons_succ]
                refine wpAnyH_take (i := 5) (v := ?_) rfl (by kernel_rfl) (by kernel_rfl) (by kernel_rfl) (fun _ _ _ h => h) (Or.inl ⟨by rfl, ?_⟩) (by assumption) ?_
                rotate_left
                · (intro w hSw; (try dsimp only at hSw); go_simp; (try with_reducible rfl))
                try simp only [Act.put, List.getElem_toArray, List.getElem_cons_succ, List.getElem_cons_zero, List.setIfInBounds_toArray, List.set_cons_zero, List.set_cons_succ]
                refine wpAnyH_take (i := 6) (v := ?_) rfl (by kernel_rfl) (by kernel_rfl) (by kernel_rfl) (fun _ _ _ h => h) (Or.inl ⟨by rfl, ?_⟩) (by assumption) ?_
                rotate_left
                · (intro w hSw; (try dsimp only at hSw); go_simp; (try with_reducible rfl))
                try simp only [Act.put, List.getElem_toArray, List.getElem_cons_succ, List.getElem_cons_zero, List.setIfInBounds_toArray, List.set_cons_zero, List.set_cons_succ]
                refine wpAnyH_take (i := 7) (v := ?_) rfl (by kernel_rfl) (by kernel_rfl) (by kernel_rfl) (fun _ _ _ h => h) (Or.inl ⟨by rfl, ?_⟩) (by assumption) ?_
                rotate_left
                · (intro w hSw; (try dsimp only at hSw); go_simp; (try with_reducible rfl))
                try simp only [Act.put, List.getElem_toArray, List.getElem_cons_succ, List.getElem_cons_zero, List.setIfInBounds_toArray, List.set_cons_zero, List.set_cons_succ]
                obtain ⟨m0, m1, m2, m3⟩ := two_cells H12_4.out
                have hl12 : g12 < x4.heap.size := (Array.getElem?_eq_some_iff.1 H12_4.out).1
                refine wpAnyH_ready (rs := [10]) (by kernel_rfl) (by simp) ?_
                refine (AllReadyH.cons rfl (fun K hK => ?_) AllReadyH.nil)
                go_simp
                have hset := two_set H12_4.out (.bool sQ) (.slice oQ kQ cQ)
                have hgr : x4.grownBy ((x4.setCell ⟨g12, 0, none⟩ (.bool sQ)).setCell ⟨g12, 1, none⟩ (.slice oQ kQ cQ)) (some g12) := growSet (growSet (growRefl _ _) _ _) _ _
                have v0 := hgr.cell (a := ⟨w5.heap.size, 0, none⟩) u0_4 (by simp; omega)
                have v1 := hgr.cell (a := ⟨w5.heap.size, 1, none⟩) u1_4 (by simp; omega)
                have h13 := (hgr.block g13 (Array.getElem?_eq_some_iff.1 H13_4.out).1 (by simp; omega)).trans H13_4.out
                have HQY := HQ_4.out.keep H12_4.out (fun i m e => by rcases i with _ | _ | i <;> simp at e) hgr
                have h4 := (hgr.block w.heap.size (by have := HB_4.out.2.1; simp at this; omega) (by simp; omega)).trans HB_4.out.b0
                have hby : Below w.heap.size w ((x4.setCell ⟨g12, 0, none⟩ (.bool sQ)).setCell ⟨g12, 1, none⟩ (.slice oQ kQ cQ)) := below_grow2 HB_4.out.1 hgr (by omega)
                obtain ⟨y, hy⟩ : ∃ Y, ((x4.setCell ⟨g12, 0, none⟩ (.bool sQ)).setCell ⟨g12, 1, none⟩ (.slice oQ kQ cQ)) = Y := ⟨_, rfl⟩
                rw [hy] at hset v0 v1 h13 HQY h4 hby ⊢
                have HS12 := Kept.mk hset
                have H13Y := Kept.mk h13
                have HQY2 := Kept.mk HQY
                have H4Y := Kept.mk h4
                have HBY := Kept.mk hby
                clear hset h13 HQY h4 hby hgr hy m0 m1 m2 m3
                refine hK.out _ _ ⟨v0, v1⟩ (fun hHeld => ?_)
                clear hK K
                try simp only [Act.put, List.getElem_toArray, List.getElem_cons_succ, List.getElem_cons_zero, List.setIfInBounds_toArray, List.set_cons_zero, List.set_cons_succ]
                obtain ⟨m0, m1, m2, m3⟩ := two_cells H13Y.out
                have hl13 : g13 < y.heap.size := (Array.getElem?_eq_some_iff.1 H13Y.out).1
                refine wpAnyH_ready (rs := [11]) (by kernel_rfl) (by simp) ?_
                refine (AllReadyH.cons rfl (fun K hK => ?_) AllReadyH.nil)
                go_simp
                have hgr : y.grownBy ((y.setCell ⟨g13, 0, none⟩ (.bool s2')).setCell ⟨g13, 1, none⟩ (.slice o2' k2' c2')) (some g13) := growSet (growSet (growRefl _ _) _ _) _ _
                have v2 := hgr.cell (a := ⟨w5.heap.size, 0, none⟩) v0 (by simp; omega)
                have v3 := hgr.cell (a := ⟨w5.heap.size, 1, none⟩) v1 (by simp; omega)
                have h12 := (hgr.block g12 (Array.getElem?_eq_some_iff.1 HS12.out).1 (by simp; omega)).trans HS12.out
                have HQZ := HQY2.out.keep H13Y.out (fun i m e => by rcases i with _ | _ | i <;> simp at e) hgr
                have h4 := (hgr.block w.heap.size (by omega) (by simp; omega)).trans H4Y.out
                have hbz : Below w.heap.size w ((y.setCell ⟨g13, 0, none⟩ (.bool s2')).setCell ⟨g13, 1, none⟩ (.slice o2' k2' c2')) := below_grow2 HBY.out hgr (by omega)
                obtain ⟨z, hz⟩ : ∃ Y, ((y.setCell ⟨g13, 0, none⟩ (.bool s2')).setCell ⟨g13, 1, none⟩ (.slice o2' k2' c2')) = Y := ⟨_, rfl⟩
                rw [hz] at v2 v3 h12 HQZ h4 hbz ⊢
                obtain ⟨n0, n1, _⟩ := two_cells h12
                obtain ⟨r0, r1, r2, r3⟩ := two_cells h4
                have hlz : w.heap.size < z.heap.size := (Array.getElem?_eq_some_iff.1 h4).1
                have HQZ2 := Kept.mk HQZ
                have H4Z := Kept.mk h4
                have HBZ := Kept.mk hbz
                clear h12 HQZ h4 hbz hgr hz m0 m1 m2 m3 v0 v1
                refine hK.out _ _ ⟨v2, v3⟩ (fun hHeld => ?_)
                clear hK K
                try simp only [Act.put, List.getElem_toArray, List.getElem_cons_succ, List.getElem_cons_zero, List.setIfInBounds_toArray, List.set_cons_zero, List.set_cons_succ]
                refine wpAnyH_take (i := 12) (v := ?_) rfl (by kernel_rfl) (by kernel_rfl) (by kernel_rfl) (fun _ _ _ h => h) (Or.inl ⟨by rfl, ?_⟩) (by assumption) ?_
                rotate_left
                · (intro w hSw; (try dsimp only at hSw); go_simp; (try with_reducible rfl))
                try simp only [Act.put, List.getElem_toArray, List.getElem_cons_succ, List.getElem_cons_zero, List.setIfInBounds_toArray, List.set_cons_zero, List.set_cons_succ]
                refine wpAnyH_done (by kernel_rfl) ?_ _
                have hgr : z.grownBy ((z.setCell ⟨w.heap.size, 0, none⟩ (.bool sQ)).setCell ⟨w.heap.size, 1, none⟩ (.slice oQ kQ cQ)) (some w.heap.size) := growSet (growSet (growRefl _ _) _ _) _ _
                have HQF := Kept.mk (HQZ2.out.keep H4Z.out (fun i m e => by rcases i with _ | _ | i <;> simp at e) hgr)
                obtain ⟨hB, q0, q1⟩ := two_end H4Z.out HBZ.out (Nat.le_refl _) (.bool sQ) (.slice oQ kQ cQ)
                have HBF := Kept.mk hB
                clear hB hgr
                go_wp2
                exact bodyPost_ret (v := .tuple #[.agg #[.bool sQ, .slice oQ kQ cQ], .int .i64 0]) (by simp [results, Tryz.results159, go_sem, q0, q1]) rfl ⟨HBF.out, .inr (.inr ⟨HFT.out, q, n, rfl, hp6, rfl, hn1, hn, sQ, oQ, kQ, cQ, rfl, HQF.out⟩)⟩
          · go_simp
            have hlt12 : w5.heap.size < x0.heap.size := World.block_lt_of_cell? _ _ u0_0
            have hr : Below x0.heap.size x0 (x0.alloc (.cells #[.bool false, .slice none 0 0] 98)) := (Below.refl _ _).alloc (Nat.le_refl _) _
            have hnew := heap_alloc_new x0 (.cells #[.bool false, .slice none 0 0] 98)
            obtain ⟨x1, hx⟩ : ∃ X, x0.alloc (.cells #[.bool false, .slice none 0 0] 98) = X := ⟨_, rfl⟩
            rw [hx] at hr hnew ⊢
            clear hx
            have H12_1 := Kept.mk hnew
            obtain ⟨g12, hg12⟩ : ∃ G, x0.heap.size = G := ⟨_, rfl⟩
            rw [hg12] at H12_1 hlt12 ⊢
            have u0_1 := belowCell hr u0_0
            have u1_1 := belowCell hr u1_0
            have HT_1 := Kept.mk (HT_0.out.below hr)
            have HB_1 := Kept.mk (HB_0.out.below hr)
            clear hr hnew hg12
            refine hK.out _ _ ⟨u0_1, u1_1⟩ (fun hHeld => ?_)
            clear hK K
            try simp only [Act.put, List.getElem_toArray, List.getElem_cons_succ, List.getElem_cons_zero, List.setIfInBounds_toArray, List.set_cons_zero, List.set_cons_succ]
            refine wpAnyH_ready (rs := [2, 9]) (by kernel_rfl) (by simp) ?_
            refine (AllReadyH.cons rfl (fun K hK => ?_) (AllReadyH.cons rfl (fun K hK => ?_) AllReadyH.nil))
            · go_simp
              refine (HON.out x1).mono ?_
              rintro e x2 ⟨hr, va, rfl, sA, svA, rfl, hsA, hnA⟩
              obtain ⟨oA, kA, cA, rfl⟩ := hnA.form
              have HA_2 : Kept (IntV 1 x2 (.agg #[.bool sA, .slice oA kA cA]) n) := ⟨⟨_, _, rfl, hsA, hnA⟩⟩
              have u0_2 := belowCell hr u0_1
              have u1_2 := belowCell hr u1_1
              have HT_2 := Kept.mk (HT_1.out.below hr)
              have HB_2 := Kept.mk (HB_1.out.below hr)
              have H12_2 := Kept.mk ((hr.block _ (Array.getElem?_eq_some_iff.1 H12_1.out).1).trans H12_1.out)
              clear hr hsA hnA
              refine hK.out _ _ ⟨u0_2, u1_2⟩ (fun hHeld => ?_)
              clear hK K
              try simp only [Act.put, List.getElem_toArray, List.getElem_cons_succ, List.getElem_cons_zero, List.setIfInBounds_toArray, List.set_cons_zero, List.set_cons_succ]
              refine wpAnyH_ready (rs := [3, 9]) (by kernel_rfl) (by simp) ?_
              refine (AllReadyH.cons rfl (fun K hK => ?_) (AllReadyH.cons rfl (fun K hK => ?_) AllReadyH.nil))
              · go_simp
                refine (idiv_any HT_2.out HA_2.out (by omega) (by omega) (by omega)).mono ?_
                intro e x3 hq
                obtain ⟨hr, sQ, oQ, kQ, cQ, s2', o2', k2', c2', rfl, hQ⟩ := div_out HEQ.out (by omega) hq
                have HQ_3 := Kept.mk hQ
                have u0_3 := belowCell hr u0_2
                have u1_3 := belowCell hr u1_2
                have HT_3 := Kept.mk (HT_2.out.below hr)
                have HB_3 := Kept.mk (HB_2.out.below hr)
                have HA_3 := Kept.mk (HA_2.out.below hr)
                have H12_3 := Kept.mk ((hr.block _ (Array.getElem?_eq_some_iff.1 H12_2.out).1).trans H12_2.out)
                clear hr hq hQ
                refine hK.out _ _ ⟨u0_3, u1_3⟩ (fun hHeld => ?_)
                clear hK K
                try simp only [Act.put, List.getElem_toArray, List.getElem_cons_succ, List.getElem_cons_zero, List.setIfInBounds_toArray, List.set_cons_zero, List.set_cons_succ]
                refine wpAnyH_take (i := 4) (v := ?_) rfl (by kernel_rfl) (by kernel_rfl) (by kernel_rfl) (fun _ _ _ h => h) (Or.inl ⟨by rfl, ?_⟩) (by assumption) ?_
                rotate_left
                · (intro w hSw; (try dsimp only at hSw); go_simp; (try with_reducible rfl))
                try simp only [Act.put, List.getElem_toArray, List.getElem_cons_succ, List.getElem_cons_zero, List.setIfInBounds_toArray, List.set_cons_zero, List.set_cons_succ]
                refine wpAnyH_take (i := 5) (v := ?_) rfl (by kernel_rfl) (by kernel_rfl) (by kernel_rfl) (fun _ _ _ h => h) (Or.inl ⟨by rfl, ?_⟩) (by assumption) ?_
                rotate_left
                · (intro w hSw; (try dsimp only at hSw); go_simp; (try with_reducible rfl))
                try simp only [Act.put, List.getElem_toArray, List.getElem_cons_succ, List.getElem_cons_zero, List.setIfInBounds_toArray, List.set_cons_zero, List.set_cons_succ]
                refine wpAnyH_take (i := 6) (v := ?_) rfl (by kernel_rfl) (by kernel_rfl) (by kernel_rfl) (fun _ _ _ h => h) (Or.inl ⟨by rfl, ?_⟩) (by assumption) ?_
                rotate_left
                · (intro w hSw; (try dsimp only at hSw); go_simp; (try with_reducible rfl))
                try simp only [Act.put, List.getElem_toArray, List.getElem_cons_succ, List.getElem_cons_zero, List.setIfInBounds_toArray, List.set_cons_zero, List.set_cons_succ]
                refine wpAnyH_take (i := 7) (v := ?_) rfl (by kernel_rfl) (by kernel_rfl) (by kernel_rfl) (fun _ _ _ h => h) (Or.inl ⟨by rfl, ?_⟩) (by assumption) ?_
                rotate_left
                · (intro w hSw; (try dsimp only at hSw); go_simp; (try with_reducible rfl))
                try simp only [Act.put, List.getElem_toArray, List.getElem_cons_succ, List.getElem_cons_zero, List.setIfInBounds_toArray, List.set_cons_zero, List.set_cons_succ]
                refine wpAnyH_ready (rs := [9]) (by kernel_rfl) (by simp) ?_
                refine (AllReadyH.cons rfl (fun K hK => ?_) AllReadyH.nil)
                go_simp
                have hlt13 : w5.heap.size < x3.heap.size := World.block_lt_of_cell? _ _ u0_3
                have hne : g12 < x3.heap.size := (Array.getElem?_eq_some_iff.1 H12_3.out).1
                have hr : Below x3.heap.size x3 (x3.alloc (.cells #[.bool false, .slice none 0 0] 98)) := (Below.refl _ _).alloc (Nat.le_refl _) _
                have hnew := heap_alloc_new x3 (.cells #[.bool false, .slice none 0 0] 98)
                obtain ⟨x4, hx⟩ : ∃ X, x3.alloc (.cells #[.bool false, .slice none 0 0] 98) = X := ⟨_, rfl⟩
                rw [hx] at hr hnew ⊢
                clear hx
                have H13_4 := Kept.mk hnew
                obtain ⟨g13, hg13⟩ : ∃ G, x3.heap.size = G := ⟨_, rfl⟩
                rw [hg13] at H13_4 hlt13 hne ⊢
                have u0_4 := belowCell hr u0_3
                have u1_4 := belowCell hr u1_3
                have HT_4 := Kept.mk (HT_3.out.below hr)
                have HB_4 := Kept.mk (HB_3.out.below hr)
                have HA_4 := Kept.mk (HA_3.out.below hr)
                have HQ_4 := Kept.mk (HQ_3.out.below hr)
                have H12_4 := Kept.mk ((hr.block _ (Array.getElem?_eq_some_iff.1 H12_3.out).1).trans H12_3.out)
                clear hr hnew hg13
                refine hK.out _ _ ⟨u0_4, u1_4⟩ (fun hHeld => ?_)
                clear hK K
                try simp only [Act.put, List.getElem_toArray, List.getElem_cons_succ, List.getElem_cons_zero, List.setIfInBounds_toArray, List.set_cons_zero, List.set_cons_succ]
                obtain ⟨m0, m1, m2, m3⟩ := two_cells H12_4.out
                have hl12 : g12 < x4.heap.size := (Array.getElem?_eq_some_iff.1 H12_4.out).1
                refine wpAnyH_ready (rs := [10]) (by kernel_rfl) (by simp) ?_
                refine (AllReadyH.cons rfl (fun K hK => ?_) AllReadyH.nil)
                go_simp
                have hset := two_set H12_4.out (.bool sQ) (.slice oQ kQ cQ)
                have hgr : x4.grownBy ((x4.setCell ⟨g12, 0, none⟩ (.bool sQ)).setCell ⟨g12, 1, none⟩ (.slice oQ kQ cQ)) (some g12) := growSet (growSet (growRefl _ _) _ _) _ _
                have v0 := hgr.cell (a := ⟨w5.heap.size, 0, none⟩) u0_4 (by simp; omega)
                have v1 := hgr.cell (a := ⟨w5.heap.size, 1, none⟩) u1_4 (by simp; omega)
                have h13 := (hgr.block g13 (Array.getElem?_eq_some_iff.1 H13_4.out).1 (by simp; omega)).trans H13_4.out
                have HQY := HQ_4.out.keep H12_4.out (fun i m e => by rcases i with _ | _ | i <;> simp at e) hgr
                have h4 := (hgr.block w.heap.size (by have := HB_4.out.2.1; simp at this; omega) (by simp; omega)).trans HB_4.out.b0
                have hby : Below w.heap.size w ((x4.setCell ⟨g12, 0, none⟩ (.bool sQ)).setCell ⟨g12, 1, none⟩ (.slice oQ kQ cQ)) := below_grow2 HB_4.out.1 hgr (by omega)
                obtain ⟨y, hy⟩ : ∃ Y, ((x4.setCell ⟨g12, 0, none⟩ (.bool sQ)).setCell ⟨g12, 1, none⟩ (.slice oQ kQ cQ)) = Y := ⟨_, rfl⟩
                rw [hy] at hset v0 v1 h13 HQY h4 hby ⊢
                have HS12 := Kept.mk hset
                have H13Y := Kept.mk h13
                have HQY2 := Kept.mk HQY
                have H4Y := Kept.mk h4
                have HBY := Kept.mk hby
                clear hset h13 HQY h4 hby hgr hy m0 m1 m2 m3
                refine hK.out _ _ ⟨v0, v1⟩ (fun hHeld => ?_)
                clear hK K
                try simp only [Act.put, List.getElem_toArray, List.getElem_cons_succ, List.getElem_cons_zero, List.setIfInBounds_toArray, List.set_cons_zero, List.set_cons_succ]
                obtain ⟨m0, m1, m2, m3⟩ := two_cells H13Y.out
                have hl13 : g13 < y.heap.size := (Array.getElem?_eq_some_iff.1 H13Y.out).1
                refine wpAnyH_ready (rs := [11]) (by kernel_rfl) (by simp) ?_
                refine (AllReadyH.cons rfl (fun K hK => ?_) AllReadyH.nil)
                go_simp
                have hgr : y.grownBy ((y.setCell ⟨g13, 0, none⟩ (.bool s2')).setCell ⟨g13, 1, none⟩ (.slice o2' k2' c2')) (some g13) := growSet (growSet (growRefl _ _) _ _) _ _
                have v2 := hgr.cell (a := ⟨w5.heap.size, 0, none⟩) v0 (by simp; omega)
                have v3 := hgr.cell (a := ⟨w5.heap.size, 1, none⟩) v1 (by simp; omega)
                have h12 := (hgr.block g12 (Array.getElem?_eq_some_iff.1 HS12.out).1 (by simp; omega)).trans HS12.out
                have HQZ := HQY2.out.keep H13Y.out (fun i m e => by rcases i with _ | _ | i <;> simp at e) hgr
                have h4 := (hgr.block w.heap.size (by omega) (by simp; omega)).trans H4Y.out
                have hbz : Below w.heap.size w ((y.setCell ⟨g13, 0, none⟩ (.bool s2')).setCell ⟨g13, 1, none⟩ (.slice o2' k2' c2')) := below_grow2 HBY.out hgr (by omega)
                obtain ⟨z, hz⟩ : ∃ Y, ((y.setCell ⟨g13, 0, none⟩ (.bool s2')).setCell ⟨g13, 1, none⟩ (.slice o2' k2' c2')) = Y := ⟨_, rfl⟩
                rw [hz] at v2 v3 h12 HQZ h4 hbz ⊢
                obtain ⟨n0, n1, _⟩ := two_cells h12
                obtain ⟨r0, r1, r2, r3⟩ := two_cells h4
                have hlz : w.heap.size < z.heap.size := (Array.getElem?_eq_some_iff.1 h4).1
                have HQZ2 := Kept.mk HQZ
                have H4Z := Kept.mk h4
                have HBZ := Kept.mk hbz
                clear h12 HQZ h4 hbz hgr hz m0 m1 m2 m3 v0 v1
                refine hK.out _ _ ⟨v2, v3⟩ (fun hHeld => ?_)
                clear hK K
                try simp only [Act.put, List.getElem_toArray, List.getElem_cons_succ, List.getElem_cons_zero, List.setIfInBounds_toArray, List.set_cons_zero, List.set_cons_succ]
                refine wpAnyH_take (i := 12) (v := ?_) rfl (by kernel_rfl) (by kernel_rfl) (by kernel_rfl) (fun _ _ _ h => h) (Or.inl ⟨by rfl, ?_⟩) (by assumption) ?_
                rotate_left
                · (intro w hSw; (try dsimp only at hSw); go_simp; (try with_reducible rfl))
                try simp only [Act.put, List.getElem_toArray, List.getElem_cons_succ, List.getElem_cons_zero, List.setIfInBounds_toArray, List.set_cons_zero, List.set_cons_succ]
                refine wpAnyH_done (by kernel_rfl) ?_ _
                have hgr : z.grownBy ((z.setCell ⟨w.heap.size, 0, none⟩ (.bool sQ)).setCell ⟨w.heap.size, 1, none⟩ (.slice oQ kQ cQ)) (some w.heap.size) := growSet (growSet (growRefl _ _) _ _) _ _
                have HQF := Kept.mk (HQZ2.out.keep H4Z.out (fun i m e => by rcases i with _ | _ | i <;> simp at e) hgr)
                obtain ⟨hB, q0, q1⟩ := two_end H4Z.out HBZ.out (Nat.le_refl _) (.bool sQ) (.slice oQ kQ cQ)
                have HBF := Kept.mk hB
                clear hB hgr
                go_wp2
                exact bodyPost_ret (v := .tuple #[.agg #[.bool sQ, .slice oQ kQ cQ], .int .i64 0]) (by simp [results, Tryz.results159, go_sem, q0, q1]) rfl ⟨HBF.out, .inr (.inr ⟨HFT.out, q, n, rfl, hp6, rfl, hn1, hn, sQ, oQ, kQ, cQ, rfl, HQF.out⟩)⟩
              · go_simp
                have hlt13 : w5.heap.size < x2.heap.size := World.block_lt_of_cell? _ _ u0_2
                have hne : g12 < x2.heap.size := (Array.getElem?_eq_some_iff.1 H12_2.out).1
                have hr : Below x2.heap.size x2 (x2.alloc (.cells #[.bool false, .slice none 0 0] 98)) := (Below.refl _ _).alloc (Nat.le_refl _) _
                have hnew := heap_alloc_new x2 (.cells #[.bool false, .slice none 0 0] 98)
                obtain ⟨x3, hx⟩ : ∃ X, x2.alloc (.cells #[.bool false, .slice none 0 0] 98) = X := ⟨_, rfl⟩
                rw [hx] at hr hnew ⊢
                clear hx
                have H13_3 := Kept.mk hnew
                obtain ⟨g13, hg13⟩ : ∃ G, x2.heap.size = G := ⟨_, rfl⟩
                rw [hg13] at H13_3 hlt13 hne ⊢
                have u0_3 := belowCell hr u0_2
                have u1_3 := belowCell hr u1_2
                have HT_3 := Kept.mk (HT_2.out.below hr)
                have HB_3 := Kept.mk (HB_2.out.below hr)
                have HA_3 := Kept.mk (HA_2.out.below hr)
                have H12_3 := Kept.mk ((hr.block _ (Array.getElem?_eq_some_iff.1 H12_2.out).1).trans H12_2.out)
                clear hr hnew hg13
                refine hK.out _ _ ⟨u0_3, u1_3⟩ (fun hHeld => ?_)
                clear hK K
                try simp only [Act.put, List.getElem_toArray, List.getElem_cons_succ, List.getElem_cons_zero, List.setIfInBounds_toArray, List.set_cons_zero, List.set_cons_succ]
                refine wpAnyH_ready (rs := [3]) (by kernel_rfl) (by simp) ?_
                refine (AllReadyH.cons rfl (fun K hK => ?_) AllReadyH.nil)
                go_simp
                refine (idiv_any HT_3.out HA_3.out (by omega) (by omega) (by omega)).mono ?_
                intro e x4 hq
                obtain ⟨hr, sQ, oQ, kQ, cQ, s2', o2', k2', c2', rfl, hQ⟩ := div_out HEQ.out (by omega) hq
                have HQ_4 := Kept.mk hQ
                have u0_4 := belowCell hr u0_3
                have u1_4 := belowCell hr u1_3
                have HT_4 := Kept.mk (HT_3.out.below hr)
                have HB_4 := Kept.mk (HB_3.out.below hr)
                have HA_4 := Kept.mk (HA_3.out.below hr)
                have H12_4 := Kept.mk ((hr.block _ (Array.getElem?_eq_some_iff.1 H12_3.out).1).trans H12_3.out)
                have H13_4 := Kept.mk ((hr.block _ (Array.getElem?_eq_some_iff.1 H13_3.out).1).trans H13_3.out)
                clear hr hq hQ
                refine hK.out _ _ ⟨u0_4, u1_4⟩ (fun hHeld => ?_)
                clear hK K
                try simp only [Act.put, List.getElem_toArray, List.getElem_cons_succ, List.getElem_cons_zero, List.setIfInBounds_toArray, List.set_cons_zero, List.set_cons_succ]
                refine wpAnyH_take (i := 4) (v := ?_) rfl (by kernel_rfl) (by kernel_rfl) (by kernel_rfl) (fun _ _ _ h => h) (Or.inl ⟨by rfl, ?_⟩) (by assumption) ?_
                rotate_left
                · (intro w hSw; (try dsimp only at hSw); go_simp; (try with_reducible rfl))
                try simp only [Act.put, List.getElem_toArray, List.getElem_cons_succ, List.getElem_cons_zero, List.setIfInBounds_toArray, List.set_cons_zero, List.set_cons_succ]
                refine wpAnyH_take (i := 5) (v := ?_) rfl (by kernel_rfl) (by kernel_rfl) (by kernel_rfl) (fun _ _ _ h => h) (Or.inl ⟨by rfl, ?_⟩) (by assumption) ?_
                rotate_left
                · (intro w hSw; (try dsimp only at hSw); go_simp; (try with_reducible rfl))
                try simp only [Act.put, List.getElem_toArray, List.getElem_cons_succ, List.getElem_cons_zero, List.setIfInBounds_toArray, List.set_cons_zero, List.set_cons_succ]
                refine wpAnyH_take (i := 6) (v := ?_) rfl (by kernel_rfl) (by kernel_rfl) (by kernel_rfl) (fun _ _ _ h => h) (Or.inl ⟨by rfl, ?_⟩) (by assumption) ?_
                rotate_left
                · (intro w hSw; (try dsimp only at hSw); go_simp; (try with_reducible rfl))
                try simp only [Act.put, List.getElem_toArray, List.getElem_cons_succ, List.getElem_cons_zero, List.setIfInBounds_toArray, List.set_cons_zero, List.set_cons_succ]
                refine wpAnyH_take (i := 7) (v := ?_) rfl (by kernel_rfl) (by kernel_rfl) (by kernel_rfl) (fun _ _ _ h => h) (Or.inl ⟨by rfl, ?_⟩) (by assumption) ?_
                rotate_left
                · (intro w hSw; (try dsimp only at hSw); go_simp; (try with_reducible rfl))
                try simp only [Act.put, List.getElem_toArray, List.getElem_cons_succ, List.getElem_cons_zero, List.setIfInBounds_toArray, List.set_cons_zero, List.set_cons_succ]
                obtain ⟨m0, m1, m2, m3⟩ := two_cells H12_4.out
                have hl12 : g12 < x4.heap.size := (Array.getElem?_eq_some_iff.1 H12_4.out).1
                refine wpAnyH_ready (rs := [10]) (by kernel_rfl) (by simp) ?_
                refine (AllReadyH.cons rfl (fun K hK => ?_) AllReadyH.nil)
                go_simp
                have hset := two_set H12_4.out (.bool sQ) (.slice oQ kQ cQ)
                have hgr : x4.grownBy ((x4.setCell ⟨g12, 0, none⟩ (.bool sQ)).setCell ⟨g12, 1, none⟩ (.slice oQ kQ cQ)) (some g12) := growSet (growSet (growRefl _ _) _ _) _ _
                have v0 := hgr.cell (a := ⟨w5.heap.size, 0, none⟩) u0_4 (by simp; omega)
                have v1 := hgr.cell (a := ⟨w5.heap.size, 1, none⟩) u1_4 (by simp; omega)
                have h13 := (hgr.block g13 (Array.getElem?_eq_some_iff.1 H13_4.out).1 (by simp; omega)).trans H13_4.out
                have HQY := HQ_4.out.keep H12_4.out (fun i m e => by rcases i with _ | _ | i <;> simp at e) hgr
                have h4 := (hgr.block w.heap.size (by have := HB_4.out.2.1; simp at this; omega) (by simp; omega)).trans HB_4.out.b0
                have hby : Below w.heap.size w ((x4.setCell ⟨g12, 0, none⟩ (.bool sQ)).setCell ⟨g12, 1, none⟩ (.slice oQ kQ cQ)) := below_grow2 HB_4.out.1 hgr (by omega)
                obtain ⟨y, hy⟩ : ∃ Y, ((x4.setCell ⟨g12, 0, none⟩ (.bool sQ)).setCell ⟨g12, 1, none⟩ (.slice oQ kQ cQ)) = Y := ⟨_, rfl⟩
                rw [hy] at hset v0 v1 h13 HQY h4 hby ⊢
                have HS12 := Kept.mk hset
                have H13Y := Kept.mk h13
                have HQY2 := Kept.mk HQY
                have H4Y := Kept.mk h4
                have HBY := Kept.mk hby
                clear hset h13 HQY h4 hby hgr hy m0 m1 m2 m3
                refine hK.out _ _ ⟨v0, v1⟩ (fun hHeld => ?_)
                clear hK K
                try simp only [Act.put, List.getElem_toArray, List.getElem_cons_succ, List.getElem_cons_zero, List.setIfInBounds_toArray, List.set_cons_zero, List.set_cons_succ]
                obtain ⟨m0, m1, m2, m3⟩ := two_cells H13Y.out
                have hl13 : g13 < y.heap.size := (Array.getElem?_eq_some_iff.1 H13Y.out).1
                refine wpAnyH_ready (rs := [11]) (by kernel_rfl) (by simp) ?_
                refine (AllReadyH.cons rfl (fun K hK => ?_) AllReadyH.nil)
                go_simp
                have hgr : y.grownBy ((y.setCell ⟨g13, 0, none⟩ (.bool s2')).setCell ⟨g13, 1, none⟩ (.slice o2' k2' c2')) (some g13) := growSet (growSet (growRefl _ _) _ _) _ _
                have v2 := hgr.cell (a := ⟨w5.heap.size, 0, none⟩) v0 (by simp; omega)
                have v3 := hgr.cell (a := ⟨w5.heap.size, 1, none⟩) v1 (by simp; omega)
                have h12 := (hgr.block g12 (Array.getElem?_eq_some_iff.1 HS12.out).1 (by simp; omega)).trans HS12.out
                have HQZ := HQY2.out.keep H13Y.out (fun i m e => by rcases i with _ | _ | i <;> simp at e) hgr
                have h4 := (hgr.block w.heap.size (by omega) (by simp; omega)).trans H4Y.out
                have hbz : Below w.heap.size w ((y.setCell ⟨g13, 0, none⟩ (.bool s2')).setCell ⟨g13, 1, none⟩ (.slice o2' k2' c2')) := below_grow2 HBY.out hgr (by omega)
                obtain ⟨z, hz⟩ : ∃ Y, ((y.setCell ⟨g13, 0, none⟩ (.bool s2')).setCell ⟨g13, 1, none⟩ (.slice o2' k2' c2')) = Y := ⟨_, rfl⟩
                rw [hz] at v2 v3 h12 HQZ h4 hbz ⊢
                obtain ⟨n0, n1, _⟩ := two_cells h12
                obtain ⟨r0, r1, r2, r3⟩ := two_cells h4
                have hlz : w.heap.size < z.heap.size := (Array.getElem?_eq_some_iff.1 h4).1
                have HQZ2 := Kept.mk HQZ
                have H4Z := Kept.mk h4
                have HBZ := Kept.mk hbz
                clear h12 HQZ h4 hbz hgr hz m0 m1 m2 m3 v0 v1
                refine hK.out _ _ ⟨v2, v3⟩ (fun hHeld => ?_)
                clear hK K
                try simp only [Act.put, List.getElem_toArray, List.getElem_cons_succ, List.getElem_cons_zero, List.setIfInBounds_toArray, List.set_cons_zero, List.set_cons_succ]
                refine wpAnyH_take (i := 12) (v := ?_) rfl (by kernel_rfl) (by kernel_rfl) (by kernel_rfl) (fun _ _ _ h => h) (Or.inl ⟨by rfl, ?_⟩) (by assumption) ?_
                rotate_left
                · (intro w hSw; (try dsimp only at hSw); go_simp; (try with_reducible rfl))
                try simp only [Act.put, List.getElem_toArray, List.getElem_cons_succ, List.getElem_cons_zero, List.setIfInBounds_toArray, List.set_cons_zero, List.set_cons_succ]
                refine wpAnyH_done (by kernel_rfl) ?_ _
                have hgr : z.grownBy ((z.setCell ⟨w.heap.size, 0, none⟩ (.bool sQ)).setCell ⟨w.heap.size, 1, none⟩ (.slice oQ kQ cQ)) (some w.heap.size) := growSet (growSet (growRefl _ _) _ _) _ _
                have HQF := Kept.mk (HQZ2.out.keep H4Z.out (fun i m e => by rcases i with _ | _ | i <;> simp at e) hgr)
                obtain ⟨hB, q0, q1⟩ := two_end H4Z.out HBZ.out (Nat.le_refl _) (.bool sQ) (.slice oQ kQ cQ)
                have HBF := Kept.mk hB
                clear hB hgr
                go_wp2
                exact bodyPost_ret (v := .tuple #[.agg #[.bool sQ, .slice oQ kQ cQ], .int .i64 0]) (by simp [results, Tryz.results159, go_sem, q0, q1]) rfl ⟨HBF.out, .inr (.inr ⟨HFT.out, q, n, rfl, hp6, rfl, hn1, hn, sQ, oQ, kQ, cQ, rfl, HQF.out⟩)⟩
            · go_simp
              have hlt13 : w5.heap.size < x1.heap.size := World.block_lt_of_cell? _ _ u0_1
              have hne : g12 < x1.heap.size := (Array.getElem?_eq_some_iff.1 H12_1.out).1
              have hr : Below x1.heap.size x1 (x1.alloc (.cells #[.bool false, .slice none 0 0] 98)) := (Below.refl _ _).alloc (Nat.le_refl _) _
              have hnew := heap_alloc_new x1 (.cells #[.bool false, .slice none 0 0] 98)
              obtain ⟨x2, hx⟩ : ∃ X, x1.alloc (.cells #[.bool false, .slice none 0 0] 98) = X := ⟨_, rfl⟩
              rw [hx] at hr hnew ⊢
              clear hx
              have H13_2 := Kept.mk hnew
              obtain ⟨g13, hg13⟩ : ∃ G, x1.heap.size = G := ⟨_, rfl⟩
              rw [hg13] at H13_2 hlt13 hne ⊢
              have u0_2 := belowCell hr u0_1
              have u1_2 := belowCell hr u1_1
              have HT_2 := Kept.mk (HT_1.out.below hr)
              have HB_2 := Kept.mk (HB_1.out.below hr)
              have H12_2 := Kept.mk ((hr.block _ (Array.getElem?_eq_some_iff.1 H12_1.out).1).trans H12_1.out)
              clear hr hnew hg13
              refine hK.out _ _ ⟨u0_2, u1_2⟩ (fun hHeld => ?_)
              clear hK K
              try simp only [Act.put, List.getElem_toArray, List.getElem_cons_succ, List.getElem_cons_zero, List.setIfInBounds_toArray, List.set_cons_zero, List.set_cons_succ]
              refine wpAnyH_ready (rs := [2]) (by kernel_rfl) (by simp) ?_
              refine (AllReadyH.cons rfl (fun K hK => ?_) AllReadyH.nil)
              go_simp
              refine (HON.out x2).mono ?_
              rintro e x3 ⟨hr, va, rfl, sA, svA, rfl, hsA, hnA⟩
              obtain ⟨oA, kA, cA, rfl⟩ := hnA.form
              have HA_3 : Kept (IntV 1 x3 (.agg #[.bool sA, .slice oA kA cA]) n) := ⟨⟨_, _, rfl, hsA, hnA⟩⟩
              have u0_3 := belowCell hr u0_2
              have u1_3 := belowCell hr u1_2
              have HT_3 := Kept.mk (HT_2.out.below hr)
              have HB_3 := Kept.mk (HB_2.out.below hr)
              have H12_3 := Kept.mk ((hr.block _ (Array.getElem?_eq_some_iff.1 H12_2.out).1).trans H12_2.out)
              have H13_3 := Kept.mk ((hr.block _ (Array.getElem?_eq_some_iff.1 H13_2.out).1).trans H13_2.out)
              clear hr hsA hnA
              refine hK.out _ _ ⟨u0_3, u1_3⟩ (fun hHeld => ?_)
              clear hK K
              try simp only [Act.put, List.getElem_toArray, List.getElem_cons_succ, List.getElem_cons_zero, List.setIfInBounds_toArray, List.set_cons_zero, List.set_cons_succ]
              refine wpAnyH_ready (rs := [3]) (by kernel_rfl) (by simp) ?_
              refine (AllReadyH.cons rfl (fun K hK => ?_) AllReadyH.nil)
              go_simp
              refine (idiv_any HT_3.out HA_3.out (by omega) (by omega) (by omega)).mono ?_
              intro e x4 hq
              obtain ⟨hr, sQ, oQ, kQ, cQ, s2', o2', k2', c2', rfl, hQ⟩ := div_out HEQ.out (by omega) hq
              have HQ_4 := Kept.mk hQ
              have u0_4 := belowCell hr u0_3
              have u1_4 := belowCell hr u1_3
              have HT_4 := Kept.mk (HT_3.out.below hr)
              have HB_4 := Kept.mk (HB_3.out.below hr)
              have HA_4 := Kept.mk (HA_3.out.below hr)
              have H12_4 := Kept.mk ((hr.block _ (Array.getElem?_eq_some_iff.1 H12_3.out).1).trans H12_3.out)
              have H13_4 := Kept.mk ((hr.block _ (Array.getElem?_eq_some_iff.1 H13_3.out).1).trans H13_3.out)
              clear hr hq hQ
              refine hK.out _ _ ⟨u0_4, u1_4⟩ (fun hHeld => ?_)
              clear hK K
              try simp only [Act.put, List.getElem_toArray, List.getElem_cons_succ, List.getElem_cons_zero, List.setIfInBounds_toArray, List.set_cons_zero, List.set_cons_succ]
              refine wpAnyH_take (i := 4) (v := ?_) rfl (by kernel_rfl) (by kernel_rfl) (by kernel_rfl) (fun _ _ _ h => h) (Or.inl ⟨by rfl, ?_⟩) (by assumption) ?_
              rotate_left
              · (intro w hSw; (try dsimp only at hSw); go_simp; (try with_reducible rfl))
              try simp only [Act.put, List.getElem_toArray, List.getElem_cons_succ, List.getElem_cons_zero, List.setIfInBounds_toArray, List.set_cons_zero, List.set_cons_succ]
              refine wpAnyH_take (i := 5) (v := ?_) rfl (by kernel_rfl) (by kernel_rfl) (by kernel_rfl) (fun _ _ _ h => h) (Or.inl ⟨by rfl, ?_⟩) (by assumption) ?_
              rotate_left
              · (intro w hSw; (try dsimp only at hSw); go_simp; (try with_reducible rfl))
              try simp only [Act.put, List.getElem_toArray, List.getElem_cons_succ, List.getElem_cons_zero, List.setIfInBounds_toArray, List.set_cons_zero, List.set_cons_succ]
              refine wpAnyH_take (i := 6) (v := ?_) rfl (by kernel_rfl) (by kernel_rfl) (by kernel_rfl) (fun _ _ _ h => h) (Or.inl ⟨by rfl, ?_⟩) (by assumption) ?_
              rotate_left
              · (intro w hSw; (try dsimp only at hSw); go_simp; (try with_reducible rfl))
              try simp only [Act.put, List.getElem_toArray, List.getElem_cons_succ, List.getElem_cons_zero, List.setIfInBounds_toArray, List.set_cons_zero, List.set_cons_succ]
              refine wpAnyH_take (i := 7) (v := ?_) rfl (by kernel_rfl) (by kernel_rfl) (by kernel_rfl) (fun _ _ _ h => h) (Or.inl ⟨by rfl, ?_⟩) (by assumption) ?_
              rotate_left
              · (intro w hSw; (try dsimp only at hSw); go_simp; (try with_reducible rfl))
              try simp only [Act.put, List.getElem_toArray, List.getElem_cons_succ, List.getElem_cons_zero, List.setIfInBounds_toArray, List.set_cons_zero, List.set_cons_succ]
              obtain ⟨m0, m1, m2, m3⟩ := two_cells H12_4.out
              have hl12 : g12 < x4.heap.size := (Array.getElem?_eq_some_iff.1 H12_4.out).1
              refine wpAnyH_ready (rs := [10]) (by kernel_rfl) (by simp) ?_
              refine (AllReadyH.cons rfl (fun K hK => ?_) AllReadyH.nil)
              go_simp
              have hset := two_set H12_4.out (.bool sQ) (.slice oQ kQ cQ)
              have hgr : x4.grownBy ((x4.setCell ⟨g12, 0, none⟩ (.bool sQ)).setCell ⟨g12, 1, none⟩ (.slice oQ kQ cQ)) (some g12) := growSet (growSet (growRefl _ _) _ _) _ _
              have v0 := hgr.cell (a := ⟨w5.heap.size, 0, none⟩) u0_4 (by simp; omega)
              have v1 := hgr.cell (a := ⟨w5.heap.size, 1, none⟩) u1_4 (by simp; omega)
              have h13 := (hgr.block g13 (Array.getElem?_eq_some_iff.1 H13_4.out).1 (by simp; omega)).trans H13_4.out
              have HQY := HQ_4.out.keep H12_4.out (fun i m e => by rcases i with _ | _ | i <;> simp at e) hgr
              have h4 := (hgr.block w.heap.size (by have := HB_4.out.2.1; simp at this; omega) (by simp; omega)).trans HB_4.out.b0
              have hby : Below w.heap.size w ((x4.setCell ⟨g12, 0, none⟩ (.bool sQ)).setCell ⟨g12, 1, none⟩ (.slice oQ kQ cQ)) := below_grow2 HB_4.out.1 hgr (by omega)
              obtain ⟨y, hy⟩ : ∃ Y, ((x4.setCell ⟨g12, 0, none⟩ (.bool sQ)).setCell ⟨g12, 1, none⟩ (.slice oQ kQ cQ)) = Y := ⟨_, rfl⟩
              rw [hy] at hset v0 v1 h13 HQY h4 hby ⊢
              have HS12 := Kept.mk hset
              have H13Y := Kept.mk h13
              have HQY2 := Kept.mk HQY
              have H4Y := Kept.mk h4
              have HBY := Kept.mk hby
              clear hset h13 HQY h4 hby hgr hy m0 m1 m2 m3
              refine hK.out _ _ ⟨v0, v1⟩ (fun hHeld => ?_)
              clear hK K
              try simp only [Act.put, List.getElem_toArray, List.getElem_cons_succ, List.getElem_cons_zero, List.setIfInBounds_toArray, List.set_cons_zero, List.set_cons_succ]
              obtain ⟨m0, m1, m2, m3⟩ := two_cells H13Y.out
              have hl13 : g13 < y.heap.size := (Array.getElem?_eq_some_iff.1 H13Y.out).1
              refine wpAnyH_ready (rs := [11]) (by kernel_rfl) (by simp) ?_
              refine (AllReadyH.cons rfl (fun K hK => ?_) AllReadyH.nil)
              go_simp
              have hgr : y.grownBy ((y.setCell ⟨g13, 0, none⟩ (.bool s2')).setCell ⟨g13, 1, none⟩ (.slice o2' k2' c2')) (some g13) := growSet (growSet (growRefl _ _) _ _) _ _
              have v2 := hgr.cell (a := ⟨w5.heap.size, 0, none⟩) v0 (by simp; omega)
              have v3 := hgr.cell (a := ⟨w5.heap.size, 1, none⟩) v1 (by simp; omega)
              have h12 := (hgr.block g12 (Array.getElem?_eq_some_iff.1 HS12.out).1 (by simp; omega)).trans HS12.out
              have HQZ := HQY2.out.keep H13Y.out (fun i m e => by rcases i with _ | _ | i <;> simp at e) hgr
              have h4 := (hgr.block w.heap.size (by omega) (by simp; omega)).trans H4Y.out
              have hbz : Below w.heap.size w ((y.setCell ⟨g13, 0, none⟩ (.bool s2')).setCell ⟨g13, 1, none⟩ (.slice o2' k2' c2')) := below_grow2 HBY.out hgr (by omega)
              obtain ⟨z, hz⟩ : ∃ Y, ((y.setCell ⟨g13, 0, none⟩ (.bool s2')).setCell ⟨g13, 1, none⟩ (.slice o2' k2' c2')) = Y := ⟨_, rfl⟩
              rw [hz] at v2 v3 h12 HQZ h4 hbz ⊢
              obtain ⟨n0, n1, _⟩ := two_cells h12
              obtain ⟨r0, r1, r2, r3⟩ := two_cells h4
              have hlz : w.heap.size < z.heap.size := (Array.getElem?_eq_some_iff.1 h4).1
              have HQZ2 := Kept.mk HQZ
              have H4Z := Kept.mk h4
              have HBZ := Kept.mk hbz
              clear h12 HQZ h4 hbz hgr hz m0 m1 m2 m3 v0 v1
              refine hK.out _ _ ⟨v2, v3⟩ (fun hHeld => ?_)
              clear hK K
              try simp only [Act.put, List.getElem_toArray, List.getElem_cons_succ, List.getElem_cons_zero, List.setIfInBounds_toArray, List.set_cons_zero, List.set_cons_succ]
              refine wpAnyH_take (i := 12) (v := ?_) rfl (by kernel_rfl) (by kernel_rfl) (by kernel_rfl) (fun _ _ _ h => h) (Or.inl ⟨by rfl, ?_⟩) (by assumption) ?_
              rotate_left
              · (intro w hSw; (try dsimp only at hSw); go_simp; (try with_reducible rfl))
              try simp only [Act.put, List.getElem_toArray, List.getElem_cons_succ, List.getElem_cons_zero, List.setIfInBounds_toArray, List.set_cons_zero, List.set_cons_succ]
              refine wpAnyH_done (by kernel_rfl) ?_ _
              have hgr : z.grownBy ((z.setCell ⟨w.heap.size, 0, none⟩ (.bool sQ)).setCell ⟨w.heap.size, 1, none⟩ (.slice oQ kQ cQ)) (some w.heap.size) := growSet (growSet (growRefl _ _) _ _) _ _
              have HQF := Kept.mk (HQZ2.out.keep H4Z.out (fun i m e => by rcases i with _ | _ | i <;> simp at e) hgr)
              obtain ⟨hB, q0, q1⟩ := two_end H4Z.out HBZ.out (Nat.le_refl _) (.bool sQ) (.slice oQ kQ cQ)
              have HBF := Kept.mk hB
              clear hB hgr
              go_wp2
              exact bodyPost_ret (v := .tuple #[.agg #[.bool sQ, .slice oQ kQ cQ], .int .i64 0]) (by simp [results, Tryz.results159, go_sem, q0, q1]) rfl ⟨HBF.out, .inr (.inr ⟨HFT.out, q, n, rfl, hp6, rfl, hn1, hn, sQ, oQ, kQ, cQ, rfl, HQF.out⟩)⟩
          · go_simp
            have hlt13 : w5.heap.size < x0.heap.size := World.block_lt_of_cell? _ _ u0_0
            have hr : Below x0.heap.size x0 (x0.alloc (.cells #[.bool false, .slice none 0 0] 98)) := (Below.refl _ _).alloc (Nat.le_refl _) _
            have hnew := heap_alloc_new x0 (.cells #[.bool false, .slice none 0 0] 98)
            obtain ⟨x1, hx⟩ : ∃ X, x0.alloc (.cells #[.bool false, .slice none 0 0] 98) = X := ⟨_, rfl⟩
            rw [hx] at hr hnew ⊢
            clear hx
            have H13_1 := Kept.mk hnew
            obtain ⟨g13, hg13⟩ : ∃ G, x0.heap.size = G := ⟨_, rfl⟩
            rw [hg13] at H13_1 hlt13 ⊢
            have u0_1 := belowCell hr u0_0
            have u1_1 := belowCell hr u1_0
            have HT_1 := Kept.mk (HT_0.out.below hr)
            have HB_1 := Kept.mk (HB_0.out.below hr)
            clear hr hnew hg13
            refine hK.out _ _ ⟨u0_1, u1_1⟩ (fun hHeld => ?_)
            clear hK K
            try simp only [Act.put, List.getElem_toArray, List.getElem_cons_succ, List.getElem_cons_zero, List.setIfInBounds_toArray, List.set_cons_zero, List.set_cons_succ]
            refine wpAnyH_ready (rs := [2, 8]) (by kernel_rfl) (by simp) ?_
            refine (AllReadyH.cons rfl (fun K hK => ?_) (AllReadyH.cons rfl (fun K hK => ?_) AllReadyH.nil))
            · go_simp
              refine (HON.out x1).mono ?_
              rintro e x2 ⟨hr, va, rfl, sA, svA, rfl, hsA, hnA⟩
              obtain ⟨oA, kA, cA, rfl⟩ := hnA.form
              have HA_2 : Kept (IntV 1 x2 (.agg #[.bool sA, .slice oA kA cA]) n) := ⟨⟨_, _, rfl, hsA, hnA⟩⟩
              have u0_2 := belowCell hr u0_1
              have u1_2 := belowCell hr u1_1
              have HT_2 := Kept.mk (HT_1.out.below hr)
              have HB_2 := Kept.mk (HB_1.out.below hr)
              have H13_2 := Kept.mk ((hr.block _ (Array.getElem?_eq_some_iff.1 H13_1.out).1).trans H13_1.out)
              clear hr hsA hnA
              refine hK.out _ _ ⟨u0_2, u1_2⟩ (fun hHeld => ?_)
              clear hK K
              try simp only [Act.put, List.getElem_toArray, List.getElem_cons_succ, List.getElem_cons_zero, List.setIfInBounds_toArray, List.set_cons_zero, List.set_cons_succ]
              refine wpAnyH_ready (rs := [3, 8]) (by kernel_rfl) (by simp) ?_
              refine (AllReadyH.cons rfl (fun K hK => ?_) (AllReadyH.cons rfl (fun K hK => ?_) AllReadyH.nil))
              · go_simp
                refine (idiv_any HT_2.out HA_2.out (by omega) (by omega) (by omega)).mono ?_
                intro e x3 hq
                obtain ⟨hr, sQ, oQ, kQ, cQ, s2', o2', k2', c2', rfl, hQ⟩ := div_out HEQ.out (by omega) hq
                have HQ_3 := Kept.mk hQ
                have u0_3 := belowCell hr u0_2
                have u1_3 := belowCell hr u1_2
                have HT_3 := Kept.mk (HT_2.out.below hr)
                have HB_3 := Kept.mk (HB_2.out.below hr)
                have HA_3 := Kept.mk (HA_2.out.below hr)
                have H13_3 := Kept.mk ((hr.block _ (Array.getElem?_eq_some_iff.1 H13_2.out).1).trans H13_2.out)
                clear hr hq hQ
                refine hK.out _ _ ⟨u0_3, u1_3⟩ (fun hHeld => ?_)
                clear hK K
                try simp only [Act.put, List.getElem_toArray, List.getElem_cons_succ, List.getElem_cons_zero, List.setIfInBounds_toArray, List.set_cons_zero, List.set_cons_succ]
                refine wpAnyH_take (i := 4) (v := ?_) rfl (by kernel_rfl) (by kernel_rfl) (by kernel_rfl) (fun _ _ _ h => h) (Or.inl ⟨by rfl, ?_⟩) (by assumption) ?_
                rotate_left
                · (intro w hSw; (try dsimp only at hSw); go_simp; (try with_reducible rfl))
                try simp only [Act.put, List.getElem_toArray, List.getElem_cons_succ, List.getElem_cons_zero, List.setIfInBounds_toArray, List.set_cons_zero, List.set_cons_succ]
                refine wpAnyH_take (i := 5) (v := ?_) rfl (by kernel_rfl) (by kernel_rfl) (by kernel_rfl) (fun _ _ _ h => h) (Or.inl ⟨by rfl, ?_⟩) (by assumption) ?_
                rotate_left
                · (intro w hSw; (try dsimp only at hSw); go_simp; (try with_reducible rfl))
                try simp only [Act.put, List.getElem_toArray, List.getElem_cons_succ, List.getElem_cons_zero, List.setIfInBounds_toArray, List.set_cons_zero, List.set_cons_succ]
                refine wpAnyH_take (i := 6) (v := ?_) rfl (by kernel_rfl) (by kernel_rfl) (by kernel_rfl) (fun _ _ _ h => h) (Or.inl ⟨by rfl, ?_⟩) (by assumption) ?_
                rotate_left
                · (intro w hSw; (try dsimp only at hSw); go_simp; (try with_reducible rfl))
                try simp only [Act.put, List.getElem_toArray, List.getElem_cons_succ, List.getElem_cons_zero, List.setIfInBounds_toArray, List.set_cons_zero, List.set_cons_succ]
                refine wpAnyH_take (i := 7) (v := ?_) rfl (by kernel_rfl) (by kernel_rfl) (by kernel_rfl) (fun _ _ _ h => h) (Or.inl ⟨by rfl, ?_⟩) (by assumption) ?_
                rotate_left
                · (intro w hSw; (try dsimp only at hSw); go_simp; (try with_reducible rfl))
                try simp only [Act.put, List.getElem_toArray, List.getElem_cons_succ, List.getElem_cons_zero, List.setIfInBounds_toArray, List.set_cons_zero, List.set_cons_succ]
                refine wpAnyH_ready (rs := [8]) (by kernel_rfl) (by simp) ?_
                refine (AllReadyH.cons rfl (fun K hK => ?_) AllReadyH.nil)
                go_simp
                have hlt12 : w5.heap.size < x3.heap.size := World.block_lt_of_cell? _ _ u0_3
                have hne : g13 < x3.heap.size := (Array.getElem?_eq_some_iff.1 H13_3.out).1
                have hr : Below x3.heap.size x3 (x3.alloc (.cells #[.bool false, .slice none 0 0] 98)) := (Below.refl _ _).alloc (Nat.le_refl _) _
                have hnew := heap_alloc_new x3 (.cells #[.bool false, .slice none 0 0] 98)
                obtain ⟨x4, hx⟩ : ∃ X, x3.alloc (.cells #[.bool false, .slice none 0 0] 98) = X := ⟨_, rfl⟩
                rw [hx] at hr hnew ⊢
                clear hx
                have H12_4 := Kept.mk hnew
                obtain ⟨g12, hg12⟩ : ∃ G, x3.heap.size = G := ⟨_, rfl⟩
                rw [hg12] at H12_4 hlt12 hne ⊢
                have u0_4 := belowCell hr u0_3
                have u1_4 := belowCell hr u1_3
                have HT_4 := Kept.mk (HT_3.out.below hr)
                have HB_4 := Kept.mk (HB_3.out.below hr)
                have HA_4 := Kept.mk (HA_3.out.below hr)
                have HQ_4 := Kept.mk (HQ_3.out.below hr)
                have H13_4 := Kept.mk ((hr.block _ (Array.getElem?_eq_some_iff.1 H13_3.out).1).trans H13_3.out)
                clear hr hnew hg12
                refine hK.out _ _ ⟨u0_4, u1_4⟩ (fun hHeld => ?_)
                clear hK K
                try simp only [Act.put, List.getElem_toArray, List.getElem_cons_succ, List.getElem_cons_zero, List.setIfInBounds_toArray, List.set_cons_zero, List.set_cons_succ]
                obtain ⟨m0, m1, m2, m3⟩ := two_cells H12_4.out
                have hl12 : g12 < x4.heap.size := (Array.getElem?_eq_some_iff.1 H12_4.out).1
                refine wpAnyH_ready (rs := [10]) (by kernel_rfl) (by simp) ?_
                refine (AllReadyH.cons rfl (fun K hK => ?_) AllReadyH.nil)
                go_simp
                have hset := two_set H12_4.out (.bool sQ) (.slice oQ kQ cQ)
                have hgr : x4.grownBy ((x4.setCell ⟨g12, 0, none⟩ (.bool sQ)).setCell ⟨g12, 1, none⟩ (.slice oQ kQ cQ)) (some g12) := growSet (growSet (growRefl _ _) _ _) _ _
                have v0 := hgr.cell (a := ⟨w5.heap.size, 0, none⟩) u0_4 (by simp; omega)
                have v1 := hgr.cell (a := ⟨w5.heap.size, 1, none⟩) u1_4 (by simp; omega)
                have h13 := (hgr.block g13 (Array.getElem?_eq_some_iff.1 H13_4.out).1 (by simp; omega)).trans H13_4.out
                have HQY := HQ_4.out.keep H12_4.out (fun i m e => by rcases i with _ | _ | i <;> simp at e) hgr
                have h4 := (hgr.block w.heap.size (by have := HB_4.out.2.1; simp at this; omega) (by simp; omega)).trans HB_4.out.b0
                have hby : Below w.heap.size w ((x4.setCell ⟨g12, 0, none⟩ (.bool sQ)).setCell ⟨g12, 1, none⟩ (.slice oQ kQ cQ)) := below_grow2 HB_4.out.1 hgr (by omega)
                obtain ⟨y, hy⟩ : ∃ Y, ((x4.setCell ⟨g12, 0, none⟩ (.bool sQ)).setCell ⟨g12, 1, none⟩ (.slice oQ kQ cQ)) = Y := ⟨_, rfl⟩
                rw [hy] at hset v0 v1 h13 HQY h4 hby ⊢
                have HS12 := Kept.mk hset
                have H13Y := Kept.mk h13
                have HQY2 := Kept.mk HQY
                have H4Y := Kept.mk h4
                have HBY := Kept.mk hby
                clear hset h13 HQY h4 hby hgr hy m0 m1 m2 m3
                refine hK.out _ _ ⟨v0, v1⟩ (fun hHeld => ?_)
                clear hK K
                try simp only [Act.put, List.getElem_toArray, List.getElem_cons_succ, List.getElem_cons_zero, List.setIfInBounds_toArray, List.set_cons_zero, List.set_cons_succ]
                obtain ⟨m0, m1, m2, m3⟩ := two_cells H13Y.out
                have hl13 : g13 < y.heap.size := (Array.getElem?_eq_some_iff.1 H13Y.out).1
                refine wpAnyH_ready (rs := [11]) (by kernel_rfl) (by simp) ?_
                refine (AllReadyH.cons rfl (fun K hK => ?_) AllReadyH.nil)
                go_simp
                have hgr : y.grownBy ((y.setCell ⟨g13, 0, none⟩ (.bool s2')).setCell ⟨g13, 1, none⟩ (.slice o2' k2' c2')) (some g13) := growSet (growSet (growRefl _ _) _ _) _ _
                have v2 := hgr.cell (a := ⟨w5.heap.size, 0, none⟩) v0 (by simp; omega)
                have v3 := hgr.cell (a := ⟨w5.heap.size, 1, none⟩) v1 (by simp; omega)
                have h12 := (hgr.block g12 (Array.getElem?_eq_some_iff.1 HS12.out).1 (by simp; omega)).trans HS12.out
                have HQZ := HQY2.out.keep H13Y.out (fun i m e => by rcases i with _ | _ | i <;> simp at e) hgr
                have h4 := (hgr.block w.heap.size (by omega) (by simp; omega)).trans H4Y.out
                have hbz : Below w.heap.size w ((y.setCell ⟨g13, 0, none⟩ (.bool s2')).setCell ⟨g13, 1, none⟩ (.slice o2' k2' c2')) := below_grow2 HBY.out hgr (by omega)
                obtain ⟨z, hz⟩ : ∃ Y, ((y.setCell ⟨g13, 0, none⟩ (.bool s2')).setCell ⟨g13, 1, none⟩ (.slice o2' k2' c2')) = Y := ⟨_, rfl⟩
                rw [hz] at v2 v3 h12 HQZ h4 hbz ⊢
                obtain ⟨n0, n1, _⟩ := two_cells h12
                obtain ⟨r0, r1, r2, r3⟩ := two_cells h4
                have hlz : w.heap.size < z.heap.size := (Array.getElem?_eq_some_iff.1 h4).1
                have HQZ2 := Kept.mk HQZ
                have H4Z := Kept.mk h4
                have HBZ := Kept.mk hbz
                clear h12 HQZ h4 hbz hgr hz m0 m1 m2 m3 v0 v1
                refine hK.out _ _ ⟨v2, v3⟩ (fun hHeld => ?_)
                clear hK K
                try simp only [Act.put, List.getElem_toArray, List.getElem_cons_succ, List.getElem_cons_zero, List.setIfInBounds_toArray, List.set_cons_zero, List.set_cons_succ]
                refine wpAnyH_take (i := 12) (v := ?_) rfl (by kernel_rfl) (by kernel_rfl) (by kernel_rfl) (fun _ _ _ h => h) (Or.inl ⟨by rfl, ?_⟩) (by assumption) ?_
                rotate_left
                · (intro w hSw; (try dsimp only at hSw); go_simp; (try with_reducible rfl))
                try simp only [Act.put, List.getElem_toArray, List.getElem_cons_succ, List.getElem_cons_zero, List.setIfInBounds_toArray, List.set_cons_zero, List.set_cons_succ]
                refine wpAnyH_done (by kernel_rfl) ?_ _
                have hgr : z.grownBy ((z.setCell ⟨w.heap.size, 0, none⟩ (.bool sQ)).setCell ⟨w.heap.size, 1, none⟩ (.slice oQ kQ cQ)) (some w.heap.size) := growSet (growSet (growRefl _ _) _ _) _ _
                have HQF := Kept.mk (HQZ2.out.keep H4Z.out (fun i m e => by rcases i with _ | _ | i <;> simp at e) hgr)
                obtain ⟨hB, q0, q1⟩ := two_end H4Z.out HBZ.out (Nat.le_refl _) (.bool sQ) (.slice oQ kQ cQ)
                have HBF := Kept.mk hB
                clear hB hgr
                go_wp2
                exact bodyPost_ret (v := .tuple #[.agg #[.bool sQ, .slice oQ kQ cQ], .int .i64 0]) (by simp [results, Tryz.results159, go_sem, q0, q1]) rfl ⟨HBF.out, .inr (.inr ⟨HFT.out, q, n, rfl, hp6, rfl, hn1, hn, sQ, oQ, kQ, cQ, rfl, HQF.out⟩)⟩
              · go_simp
                have hlt12 : w5.heap.size < x2.heap.size := World.block_lt_of_cell? _ _ u0_2
                have hne : g13 < x2.heap.size := (Array.getElem?_eq_some_iff.1 H13_2.out).1
                have hr : Below x2.heap.size x2 (x2.alloc (.cells #[.bool false, .slice none 0 0] 98)) := (Below.refl _ _).alloc (Nat.le_refl _) _
                have hnew := heap_alloc_new x2 (.cells #[.bool false, .slice none 0 0] 98)
                obtain ⟨x3, hx⟩ : ∃ X, x2.alloc (.cells #[.bool false, .slice none 0 0] 98) = X := ⟨_, rfl⟩
                rw [hx] at hr hnew ⊢
                clear hx
                have H12_3 := Kept.mk hnew
                obtain ⟨g12, hg12⟩ : ∃ G, x2.heap.size = G := ⟨_, rfl⟩
                rw [hg12] at H12_3 hlt12 hne ⊢
                have u0_3 := belowCell hr u0_2
                have u1_3 := belowCell hr u1_2
                have HT_3 := Kept.mk (HT_2.out.below hr)
                have HB_3 := Kept.mk (HB_2.out.below hr)
                have HA_3 := Kept.mk (HA_2.out.below hr)
                have H13_3 := Kept.mk ((hr.block _ (Array.getElem?_eq_some_iff.1 H13_2.out).1).trans H13_2.out)
                clear hr hnew hg12
                refine hK.out _ _ ⟨u0_3, u1_3⟩ (fun hHeld => ?_)
                clear hK K
                try simp only [Act.put, List.getElem_toArray, List.getElem_cons_succ, List.getElem_cons_zero, List.setIfInBounds_toArray, List.set_cons_zero, List.set_cons_succ]
                refine wpAnyH_ready (rs := [3]) (by kernel_rfl) (by simp) ?_
                refine (AllReadyH.cons rfl (fun K hK => ?_) AllReadyH.nil)
                go_simp
                refine (idiv_any HT_3.out HA_3.out (by omega) (by omega) (by omega)).mono ?_
                intro e x4 hq
                obtain ⟨hr, sQ, oQ, kQ, cQ, s2', o2', k2', c2', rfl, hQ⟩ := div_out HEQ.out (by omega) hq
                have HQ_4 := Kept.mk hQ
                have u0_4 := belowCell hr u0_3
                have u1_4 := belowCell hr u1_3
                have HT_4 := Kept.mk (HT_3.out.below hr)
                have HB_4 := Kept.mk (HB_3.out.below hr)
                have HA_4 := Kept.mk (HA_3.out.below hr)
                have H12_4 := Kept.mk ((hr.block _ (Array.getElem?_eq_some_iff.1 H12_3.out).1).trans H12_3.out)
                have H13_4 := Kept.mk ((hr.block _ (Array.getElem?_eq_some_iff.1 H13_3.out).1).trans H13_3.out)
                clear hr hq hQ
                refine hK.out _ _ ⟨u0_4, u1_4⟩ (fun hHeld => ?_)
                clear hK K
                try simp only [Act.put, List.getElem_toArray, List.getElem_cons_succ, List.getElem_cons_zero, List.setIfInBounds_toArray, List.set_cons_zero, List.set_cons_succ]
                refine wpAnyH_take (i := 4) (v := ?_) rfl (by kernel_rfl) (by kernel_rfl) (by kernel_rfl) (fun _ _ _ h => h) (Or.inl ⟨by rfl, ?_⟩) (by assumption) ?_
                rotate_left
                · (intro w hSw; (try dsimp only at hSw); go_simp; (try with_reducible rfl))
                try simp only [Act.put, List.getElem_toArray, List.getElem_cons_succ, List.getElem_cons_zero, List.setIfInBounds_toArray, List.set_cons_zero, List.set_cons_succ]
                refine wpAnyH_take (i := 5) (v := ?_) rfl (by kernel_rfl) (by kernel_rfl) (by kernel_rfl) (fun _ _ _ h => h) (Or.inl ⟨by rfl, ?_⟩) (by assumption) ?_
                rotate_left
                · (intro w hSw; (try dsimp only at hSw); go_simp; (try with_reducible rfl))
                try simp only [Act.put, List.getElem_toArray, List.getElem_cons_succ, List.getElem_cons_zero, List.setIfInBounds_toArray, List.set_cons_zero, List.set_cons_succ]
                refine wpAnyH_take (i := 6) (v := ?_) rfl (by kernel_rfl) (by kernel_rfl) (by kernel_rfl) (fun _ _ _ h => h) (Or.inl ⟨by rfl, ?_⟩) (by assumption) ?_
                rotate_left
                · (intro w hSw; (try dsimp only at hSw); go_simp; (try with_reducible rfl))
                try simp only [Act.put, List.getElem_toArray, List.getElem_cons_succ, List.getElem_cons_zero, List.setIfInBounds_toArray, List.set_cons_zero, List.set_cons_succ]
                refine wpAnyH_take (i := 7) (v := ?_) rfl (by kernel_rfl) (by kernel_rfl) (by kernel_rfl) (fun _ _ _ h => h) (Or.inl ⟨by rfl, ?_⟩) (by assumption) ?_
                rotate_left
                · (intro w hSw; (try dsimp only at hSw); go_simp; (try with_reducible rfl))
                try simp only [Act.put, List.getElem_toArray, List.getElem_cons_succ, List.getElem_cons_zero, List.setIfInBounds_toArray, List.set_cons_zero, List.set_cons_succ]
                obtain ⟨m0, m1, m2, m3⟩ := two_cells H12_4.out
                have hl12 : g12 < x4.heap.size := (Array.getElem?_eq_some_iff.1 H12_4.out).1
                refine wpAnyH_ready (rs := [10]) (by kernel_rfl) (by simp) ?_
                refine (AllReadyH.cons rfl (fun K hK => ?_) AllReadyH.nil)
                go_simp
                have hset := two_set H12_4.out (.bool sQ) (.slice oQ kQ cQ)
                have hgr : x4.grownBy ((x4.setCell ⟨g12, 0, none⟩ (.bool sQ)).setCell ⟨g12, 1, none⟩ (.slice oQ kQ cQ)) (some g12) := growSet (growSet (growRefl _ _) _ _) _ _
                have v0 := hgr.cell (a := ⟨w5.heap.size, 0, none⟩) u0_4 (by simp; omega)
                have v1 := hgr.cell (a := ⟨w5.heap.size, 1, none⟩) u1_4 (by simp; omega)
                have h13 := (hgr.block g13 (Array.getElem?_eq_some_iff.1 H13_4.out).1 (by simp; omega)).trans H13_4.out
                have HQY := HQ_4.out.keep H12_4.out (fun i m e => by rcases i with _ | _ | i <;> simp at e) hgr
                have h4 := (hgr.block w.heap.size (by have := HB_4.out.2.1; simp at this; omega) (by simp; omega)).trans HB_4.out.b0
                have hby : Below w.heap.size w ((x4.setCell ⟨g12, 0, none⟩ (.bool sQ)).setCell ⟨g12, 1, none⟩ (.slice oQ kQ cQ)) := below_grow2 HB_4.out.1 hgr (by omega)
                obtain ⟨y, hy⟩ : ∃ Y, ((x4.setCell ⟨g12, 0, none⟩ (.bool sQ)).setCell ⟨g12, 1, none⟩ (.slice oQ kQ cQ)) = Y := ⟨_, rfl⟩
                rw [hy] at hset v0 v1 h13 HQY h4 hby ⊢
                have HS12 := Kept.mk hset
                have H13Y := Kept.mk h13
                have HQY2 := Kept.mk HQY
                have H4Y := Kept.mk h4
                have HBY := Kept.mk hby
                clear hset h13 HQY h4 hby hgr hy m0 m1 m2 m3
                refine hK.out _ _ ⟨v0, v1⟩ (fun hHeld => ?_)
                clear hK K
                try simp only [Act.put, List.getElem_toArray, List.getElem_cons_succ, List.getElem_cons_zero, List.setIfInBounds_toArray, List.set_cons_zero, List.set_cons_succ]
                obtain ⟨m0, m1, m2, m3⟩ := two_cells H13Y.out
                have hl13 : g13 < y.heap.size := (Array.getElem?_eq_some_iff.1 H13Y.out).1
                refine wpAnyH_ready (rs := [11]) (by kernel_rfl) (by simp) ?_
                refine (AllReadyH.cons rfl (fun K hK => ?_) AllReadyH.nil)
                go_simp
                have hgr : y.grownBy ((y.setCell ⟨g13, 0, none⟩ (.bool s2')).setCell ⟨g13, 1, none⟩ (.slice o2' k2' c2')) (some g13) := growSet (growSet (growRefl _ _) _ _) _ _
                have v2 := hgr.cell (a := ⟨w5.heap.size, 0, none⟩) v0 (by simp; omega)
                have v3 := hgr.cell (a := ⟨w5.heap.size, 1, none⟩) v1 (by simp; omega)
                have h12 := (hgr.block g12 (Array.getElem?_eq_some_iff.1 HS12.out).1 (by simp; omega)).trans HS12.out
                have HQZ := HQY2.out.keep H13Y.out (fun i m e => by rcases i with _ | _ | i <;> simp at e) hgr
                have h4 := (hgr.block w.heap.size (by omega) (by simp; omega)).trans H4Y.out
                have hbz : Below w.heap.size w ((y.setCell ⟨g13, 0, none⟩ (.bool s2')).setCell ⟨g13, 1, none⟩ (.slice o2' k2' c2')) := below_grow2 HBY.out hgr (by omega)
                obtain ⟨z, hz⟩ : ∃ Y, ((y.setCell ⟨g13, 0, none⟩ (.bool s2')).setCell ⟨g13, 1, none⟩ (.slice o2' k2' c2')) = Y := ⟨_, rfl⟩
                rw [hz] at v2 v3 h12 HQZ h4 hbz ⊢
                obtain ⟨n0, n1, _⟩ := two_cells h12
                obtain ⟨r0, r1, r2, r3⟩ := two_cells h4
                have hlz : w.heap.size < z.heap.size := (Array.getElem?_eq_some_iff.1 h4).1
                have HQZ2 := Kept.mk HQZ
                have H4Z := Kept.mk h4
                have HBZ := Kept.mk hbz
                clear h12 HQZ h4 hbz hgr hz m0 m1 m2 m3 v0 v1
                refine hK.out _ _ ⟨v2, v3⟩ (fun hHeld => ?_)
                clear hK K
                try simp only [Act.put, List.getElem_toArray, List.getElem_cons_succ, List.getElem_cons_zero, List.setIfInBounds_toArray, List.set_cons_zero, List.set_cons_succ]
                refine wpAnyH_take (i := 12) (v := ?_) rfl (by kernel_rfl) (by kernel_rfl) (by kernel_rfl) (fun _ _ _ h => h) (Or.inl ⟨by rfl, ?_⟩) (by assumption) ?_
                rotate_left
                · (intro w hSw; (try dsimp only at hSw); go_simp; (try with_reducible rfl))
                try simp only [Act.put, List.getElem_toArray, List.getElem_cons_succ, List.getElem_cons_zero, List.setIfInBounds_toArray, List.set_cons_zero, List.set_cons_succ]
                refine wpAnyH_done (by kernel_rfl) ?_ _
                have hgr : z.grownBy ((z.setCell ⟨w.heap.size, 0, none⟩ (.bool sQ)).setCell ⟨w.heap.size, 1, none⟩ (.slice oQ kQ cQ)) (some w.heap.size) := growSet (growSet (growRefl _ _) _ _) _ _
                have HQF := Kept.mk (HQZ2.out.keep H4Z.out (fun i m e => by rcases i with _ | _ | i <;> simp at e) hgr)
                obtain ⟨hB, q0, q1⟩ := two_end H4Z.out HBZ.out (Nat.le_refl _) (.bool sQ) (.slice oQ kQ cQ)
                have HBF := Kept.mk hB
                clear hB hgr
                go_wp2
                exact bodyPost_ret (v := .tuple #[.agg #[.bool sQ, .slice oQ kQ cQ], .int .i64 0]) (by simp [results, Tryz.results159, go_sem, q0, q1]) rfl ⟨HBF.out, .inr (.inr ⟨HFT.out, q, n, rfl, hp6, rfl, hn1, hn, sQ, oQ, kQ, cQ, rfl, HQF.out⟩)⟩
            · go_simp
              have hlt12 : w5.heap.size < x1.heap.size := World.block_lt_of_cell? _ _ u0_1
              have hne : g13 < x1.heap.size := (Array.getElem?_eq_some_iff.1 H13_1.out).1
              have hr : Below x1.heap.size x1 (x1.alloc (.cells #[.bool false, .slice none 0 0] 98)) := (Below.refl _ _).alloc (Nat.le_refl _) _
              have hnew := heap_alloc_new x1 (.cells #[.bool false, .slice none 0 0] 98)
              obtain ⟨x2, hx⟩ : ∃ X, x1.alloc (.cells #[.bool false, .slice none 0 0] 98) = X := ⟨_, rfl⟩
              rw [hx] at hr hnew ⊢
              clear hx
              have H12_2 := Kept.mk hnew
              obtain ⟨g12, hg12⟩ : ∃ G, x1.heap.size = G := ⟨_, rfl⟩
              rw [hg12] at H12_2 hlt12 hne ⊢
              have u0_2 := belowCell hr u0_1
              have u1_2 := belowCell hr u1_1
              have HT_2 := Kept.mk (HT_1.out.below hr)
              have HB_2 := Kept.mk (HB_1.out.below hr)
              have H13_2 := Kept.mk ((hr.block _ (Array.getElem?_eq_some_iff.1 H13_1.out).1).trans H13_1.out)
              clear hr hnew hg12
              refine hK.out _ _ ⟨u0_2, u1_2⟩ (fun hHeld => ?_)
              clear hK K
              try simp only [Act.put, List.getElem_toArray, List.getElem_cons_succ, List.getElem_cons_zero, List.setIfInBounds_toArray, List.set_cons_zero, List.set_cons_succ]
              refine wpAnyH_ready (rs := [2]) (by kernel_rfl) (by simp) ?_
              refine (AllReadyH.cons rfl (fun K hK => ?_) AllReadyH.nil)
              go_simp
              refine (HON.out x2).mono ?_
              rintro e x3 ⟨hr, va, rfl, sA, svA, rfl, hsA, hnA⟩
              obtain ⟨oA, kA, cA, rfl⟩ := hnA.form
              have HA_3 : Kept (IntV 1 x3 (.agg #[.bool sA, .slice oA kA cA]) n) := ⟨⟨_, _, rfl, hsA, hnA⟩⟩
              have u0_3 := belowCell hr u0_2
              have u1_3 := belowCell hr u1_2
              have HT_3 := Kept.mk (HT_2.out.below hr)
              have HB_3 := Kept.mk (HB_2.out.below hr)
              have H12_3 := Kept.mk ((hr.block _ (Array.getElem?_eq_some_iff.1 H12_2.out).1).trans H12_2.out)
              have H13_3 := Kept.mk ((hr.block _ (Array.getElem?_eq_some_iff.1 H13_2.out).1).trans H13_2.out)
              clear hr hsA hnA
              refine hK.out _ _ ⟨u0_3, u1_3⟩ (fun hHeld => ?_)
              clear hK K
              try simp only [Act.put, List.getElem_toArray, List.getElem_cons_succ, List.getElem_cons_zero, List.setIfInBounds_toArray, List.set_cons_zero, List.set_cons_succ]
              refine wpAnyH_ready (rs := [3]) (by kernel_rfl) (by simp) ?_
              refine (AllReadyH.cons rfl (fun K hK => ?_) AllReadyH.nil)
              go_simp
              refine (idiv_any HT_3.out HA_3.out (by omega) (by omega) (by omega)).mono ?_
              intro e x4 hq
              obtain ⟨hr, sQ, oQ, kQ, cQ, s2', o2', k2', c2', rfl, hQ⟩ := div_out HEQ.out (by omega) hq
              have HQ_4 := Kept.mk hQ
              have u0_4 := belowCell hr u0_3
              have u1_4 := belowCell hr u1_3
              have HT_4 := Kept.mk (HT_3.out.below hr)
              have HB_4 := Kept.mk (HB_3.out.below hr)
              have HA_4 := Kept.mk (HA_3.out.below hr)
              have H12_4 := Kept.mk ((hr.block _ (Array.getElem?_eq_some_iff.1 H12_3.out).1).trans H12_3.out)
              have H13_4 := Kept.mk ((hr.block _ (Array.getElem?_eq_some_iff.1 H13_3.out).1).trans H13_3.out)
              clear hr hq hQ
              refine hK.out _ _ ⟨u0_4, u1_4⟩ (fun hHeld => ?_)
              clear hK K
              try simp only [Act.put, List.getElem_toArray, List.getElem_cons_succ, List.getElem_cons_zero, List.setIfInBounds_toArray, List.set_cons_zero, List.set_cons_succ]
              refine wpAnyH_take (i := 4) (v := ?_) rfl (by kernel_rfl) (by kernel_rfl) (by kernel_rfl) (fun _ _ _ h => h) (Or.inl ⟨by rfl, ?_⟩) (by assumption) ?_
              rotate_left
              · (intro w hSw; (try dsimp only at hSw); go_simp; (try with_reducible rfl))
              try simp only [Act.put, List.getElem_toArray, List.getElem_cons_succ, List.getElem_cons_zero, List.setIfInBounds_toArray, List.set_cons_zero, List.set_cons_succ]
              refine wpAnyH_take (i := 5) (v := ?_) rfl (by kernel_rfl) (by kernel_rfl) (by kernel_rfl) (fun _ _ _ h => h) (Or.inl ⟨by rfl, ?_⟩) (by assumption) ?_
              rotate_left
              · (intro w hSw; (try dsimp only at hSw); go_simp; (try with_reducible rfl))
              try simp only [Act.put, List.getElem_toArray, List.getElem_cons_succ, List.getElem_cons_zero, List.setIfInBounds_toArray, List.set_cons_zero, List.set_cons_succ]
              refine wpAnyH_take (i := 6) (v := ?_) rfl (by kernel_rfl) (by kernel_rfl) (by kernel_rfl) (fun _ _ _ h => h) (Or.inl ⟨by rfl, ?_⟩) (by assumption) ?_
              rotate_left
              · (intro w hSw; (try dsimp only at hSw); go_simp; (try with_reducible rfl))
              try simp only [Act.put, List.getElem_toArray, List.getElem_cons_succ, List.getElem_cons_zero, List.setIfInBounds_toArray, List.set_cons_zero, List.set_cons_succ]
              refine wpAnyH_take (i := 7) (v := ?_) rfl (by kernel_rfl) (by kernel_rfl) (by kernel_rfl) (fun _ _ _ h => h) (Or.inl ⟨by rfl, ?_⟩) (by assumption) ?_
              rotate_left
              · (intro w hSw; (try dsimp only at hSw); go_simp; (try with_reducible rfl))
              try simp only [Act.put, List.getElem_toArray, List.getElem_cons_succ, List.getElem_cons_zero, List.setIfInBounds_toArray, List.set_cons_zero, List.set_cons_succ]
              obtain ⟨m0, m1, m2, m3⟩ := two_cells H12_4.out
              have hl12 : g12 < x4.heap.size := (Array.getElem?_eq_some_iff.1 H12_4.out).1
              refine wpAnyH_ready (rs := [10]) (by kernel_rfl) (by simp) ?_
              refine (AllReadyH.cons rfl (fun K hK => ?_) AllReadyH.nil)
              go_simp
              have hset := two_set H12_4.out (.bool sQ) (.slice oQ kQ cQ)
              have hgr : x4.grownBy ((x4.setCell ⟨g12, 0, none⟩ (.bool sQ)).setCell ⟨g12, 1, none⟩ (.slice oQ kQ cQ)) (some g12) := growSet (growSet (growRefl _ _) _ _) _ _
              have v0 := hgr.cell (a := ⟨w5.heap.size, 0, none⟩) u0_4 (by simp; omega)
              have v1 := hgr.cell (a := ⟨w5.heap.size, 1, none⟩) u1_4 (by simp; omega)
              have h13 := (hgr.block g13 (Array.getElem?_eq_some_iff.1 H13_4.out).1 (by simp; omega)).trans H13_4.out
              have HQY := HQ_4.out.keep H12_4.out (fun i m e => by rcases i with _ | _ | i <;> simp at e) hgr
              have h4 := (hgr.block w.heap.size (by have := HB_4.out.2.1; simp at this; omega) (by simp; omega)).trans HB_4.out.b0
              have hby : Below w.heap.size w ((x4.setCell ⟨g12, 0, none⟩ (.bool sQ)).setCell ⟨g12, 1, none⟩ (.slice oQ kQ cQ)) := below_grow2 HB_4.out.1 hgr (by omega)
              obtain ⟨y, hy⟩ : ∃ Y, ((x4.setCell ⟨g12, 0, none⟩ (.bool sQ)).setCell ⟨g12, 1, none⟩ (.slice oQ kQ cQ)) = Y := ⟨_, rfl⟩
              rw [hy] at hset v0 v1 h13 HQY h4 hby ⊢
              have HS12 := Kept.mk hset
              have H13Y := Kept.mk h13
              have HQY2 := Kept.mk HQY
              have H4Y := Kept.mk h4
              have HBY := Kept.mk hby
              clear hset h13 HQY h4 hby hgr hy m0 m1 m2 m3
              refine hK.out _ _ ⟨v0, v1⟩ (fun hHeld => ?_)
              clear hK K
              try simp only [Act.put, List.getElem_toArray, List.getElem_cons_succ, List.getElem_cons_zero, List.setIfInBounds_toArray, List.set_cons_zero, List.set_cons_succ]
              obtain ⟨m0, m1, m2, m3⟩ := two_cells H13Y.out
              have hl13 : g13 < y.heap.size := (Array.getElem?_eq_some_iff.1 H13Y.out).1
              refine wpAnyH_ready (rs := [11]) (by kernel_rfl) (by simp) ?_
              refine (AllReadyH.cons rfl (fun K hK => ?_) AllReadyH.nil)
              go_simp
              have hgr : y.grownBy ((y.setCell ⟨g13, 0, none⟩ (.bool s2')).setCell ⟨g13, 1, none⟩ (.slice o2' k2' c2')) (some g13) := growSet (growSet (growRefl _ _) _ _) _ _
              have v2 := hgr.cell (a := ⟨w5.heap.size, 0, none⟩) v0 (by simp; omega)
              have v3 := hgr.cell (a := ⟨w5.heap.size, 1, none⟩) v1 (by simp; omega)
              have h12 := (hgr.block g12 (Array.getElem?_eq_some_iff.1 HS12.out).1 (by simp; omega)).trans HS12.out
              have HQZ := HQY2.out.keep H13Y.out (fun i m e => by rcases i with _ | _ | i <;> simp at e) hgr
              have h4 := (hgr.block w.heap.size (by omega) (by simp; omega)).trans H4Y.out
              have hbz : Below w.heap.size w ((y.setCell ⟨g13, 0, none⟩ (.bool s2')).setCell ⟨g13, 1, none⟩ (.slice o2' k2' c2')) := below_grow2 HBY.out hgr (by omega)
              obtain ⟨z, hz⟩ : ∃ Y, ((y.setCell ⟨g13, 0, none⟩ (.bool s2')).setCell ⟨g13, 1, none⟩ (.slice o2' k2' c2')) = Y := ⟨_, rfl⟩
              rw [hz] at v2 v3 h12 HQZ h4 hbz ⊢
              obtain ⟨n0, n1, _⟩ := two_cells h12
              obtain ⟨r0, r1, r2, r3⟩ := two_cells h4
              have hlz : w.heap.size < z.heap.size := (Array.getElem?_eq_some_iff.1 h4).1
              have HQZ2 := Kept.mk HQZ
              have H4Z := Kept.mk h4
              have HBZ := Kept.mk hbz
              clear h12 HQZ h4 hbz hgr hz m0 m1 m2 m3 v0 v1
              refine hK.out _ _ ⟨v2, v3⟩ (fun hHeld => ?_)
              clear hK K
              try simp only [Act.put, List.getElem_toArray, List.getElem_cons_succ, List.getElem_cons_zero, List.setIfInBounds_toArray, List.set_cons_zero, List.set_cons_succ]
              refine wpAnyH_take (i := 12) (v := ?_) rfl (by kernel_rfl) (by kernel_rfl) (by kernel_rfl) (fun _ _ _ h => h) (Or.inl ⟨by rfl, ?_⟩) (by assumption) ?_
              rotate_left
              · (intro w hSw; (try dsimp only at hSw); go_simp; (try with_reducible rfl))
              try simp only [Act.put, List.getElem_toArray, List.getElem_cons_succ, List.getElem_cons_zero, List.setIfInBounds_toArray, List.set_cons_zero, List.set_cons_succ]
              refine wpAnyH_done (by kernel_rfl) ?_ _
              have hgr : z.grownBy ((z.setCell ⟨w.heap.size, 0, none⟩ (.bool sQ)).setCell ⟨w.heap.size, 1, none⟩ (.slice oQ kQ cQ)) (some w.heap.size) := growSet (growSet (growRefl _ _) _ _) _ _
              have HQF := Kept.mk (HQZ2.out.keep H4Z.out (fun i m e => by rcases i with _ | _ | i <;> simp at e) hgr)
              obtain ⟨hB, q0, q1⟩ := two_end H4Z.out HBZ.out (Nat.le_refl _) (.bool sQ) (.slice oQ kQ cQ)
              have HBF := Kept.mk hB
              clear hB hgr
              go_wp2
              exact bodyPost_ret (v := .tuple #[.agg #[.bool sQ, .slice oQ kQ cQ], .int .i64 0]) (by simp [results, Tryz.results159, go_sem, q0, q1]) rfl ⟨HBF.out, .inr (.inr ⟨HFT.out, q, n, rfl, hp6, rfl, hn1, hn, sQ, oQ, kQ, cQ, rfl, HQF.out⟩)⟩
    · have hd : degree < 1 ∨ 40 < degree := by omega
      have HD := Kept.mk hd
      obtain ⟨hB, q0, q1⟩ := two_end HX1.out.b0 HX1.out.1 (Nat.le_refl _) (.bool false) (.slice none 0 0)
      have HB := Kept.mk hB
      clear hB
      by_cases hlo : degree < 1
      · have g1 : decide (degree < 1) = true := by rw [decide_eq_true_eq]; exact hlo
        clear hd hin
        go_wp2
        exact bodyPost_ret (v := .tuple #[.agg #[.bool false, .slice none 0 0], .int .i64 1]) (by simp [results, Tryz.results159, go_sem, q0, q1]) rfl ⟨HB.out, .inr (.inl ⟨HFT.out, HD.out, rfl⟩)⟩
      · have g1 : decide (degree < 1) = false := by rw [decide_eq_false_iff_not]; exact hlo
        have g2 : decide ((40 : Int) < degree) = true := by rw [decide_eq_true_eq]; omega
        clear hd hin
        go_wp2
        exact bodyPost_ret (v := .tuple #[.agg #[.bool false, .slice none 0 0], .int .i64 1]) (by simp [results, Tryz.results159, go_sem, q0, q1]) rfl ⟨HB.out, .inr (.inl ⟨HFT.out, HD.out, rfl⟩)⟩
  · have HNO := Kept.mk hno
    have HX1 := Kept.mk (HX0.out.below hb1)
    obtain ⟨c0, c1, f0, f1⟩ := two_cells HX1.out.b0
    have hl1 : w.heap.size < w1.heap.size := (Array.getElem?_eq_some_iff.1 HX1.out.b0).1
    obtain ⟨hB, q0, q1⟩ := two_end HX1.out.b0 HX1.out.1 (Nat.le_refl _) (.bool false) (.slice none 0 0)
    have HB := Kept.mk hB
    clear hb1 hno HPP hB
    go_wp2
    exact bodyPost_ret (v := .tuple #[.agg #[.bool false, .slice none 0 0], .int .i64 20]) (by simp [results, Tryz.results159, go_sem, q0, q1]) rfl ⟨HB.out, .inl ⟨HNO.out, rfl⟩⟩
end Go.Proofs.YtdnheaafcbihbaaGreat
