/-
  Texts of the proof, merged by program: Fic Rel Raw Mro Ech Rea Shp Tam Rne Soa Lca Fmx Dna Sva.
-/
import Derived.Test.YtdnheaafcbihbaaGreatTq13
set_option linter.unusedSimpArgs false
set_option linter.unusedVariables false
set_option maxHeartbeats 16000000
namespace Go.Proofs.YtdnheaafcbihbaaGreat
open Go Go.RowKit
theorem Cz.congr {w : World} {g N : Nat} {F G : Nat -> Int} (h : Cz w g N F) (e : ∀ d, d < N -> F d = G d) : Cz w g N G := by
 obtain ⟨cur, h1, h2, h3⟩ := h
 exact ⟨cur, h1, h2, fun d hd => by rw [<- e d hd]; exact h3 d hd⟩
def cfF (n d : Nat) : Int := if d = 0 then 0 else if n % d = 0 then FFld.muT (n / d) else 0
theorem cfF_in {n : Nat} (hn : n <= 40) (d : Nat) : -1 <= cfF n d /\ cfF n d <= 1 := by
 unfold cfF
 split
 ·omega
 ·split
  ·exact FFld.mu_in _ (by have := Nat.div_le_self n d; omega)
  ·omega
theorem hzF_cfz (n q : Nat) : ∀ i, i <= n + 1 -> FFld.hzF (cfF n) (n + 1) q i = FFld.hz (FFld.cfz n) q i
 | 0, _ => rfl
 | i + 1, hi => by
   show FFld.hzF (cfF n) (n + 1) q i * q + cfF n (n + 1 - 1 - i) = FFld.hz (FFld.cfz n) q i * q + (FFld.cfz n)[(FFld.cfz n).length - 1 - i]?.getD 0
   rw [hzF_cfz n q i (by omega), FFld.cfz_len, FFld.cfz_get (by omega)]
   rfl
theorem hzF_irrs {n q : Nat} (h1 : 1 <= n) (hn : n <= 40) : FFld.hzF (cfF n) (n + 1) q (n + 1) = n * FFld.irrs q n := by
 rw [hzF_cfz n q _ (Nat.le_refl _), FFld.irrs_mul h1 hn, <- FFld.hz_all, FFld.cfz_len]
def FicRet (order degree : Int) (w : World) (e : Ending) (w' : World) : Prop := Below w.heap.size w w' /\
 ((¬ FFld.Fit order /\ e = .returned (.tuple #[.agg #[.bool false, .slice none 0 0], .int .i64 20])) \/
  (FFld.Fit order /\ (degree < 1 \/ 40 < degree) /\ e = .returned (.tuple #[.agg #[.bool false, .slice none 0 0], .int .i64 1])) \/
  (FFld.Fit order /\ ∃ q n : Nat, order = q /\ q <= 65536 /\ degree = n /\ 1 <= n /\ n <= 40 /\ ∃ s ao k c, e = .returned (.tuple #[.agg #[.bool s, .slice ao k c], .int .i64 0]) /\ IntV 700 w' (.agg #[.bool s, .slice ao k c]) (FFld.irrs q n)))
theorem below_grow2 {g : Nat} {w W W8 : World} (hb : Below w.heap.size w W) (hg : W.grownBy W8 (some g)) (hB : w.heap.size <= g) : Below w.heap.size w W8 :=
 belowGrow hg hb hB
theorem div_out {L n : Nat} {I : Int} {w w' : World} {e : Ending} (hn : n ≠ 0) (hL : L <= 700) (h : IdRet L w ((n : Int) * I) n e w') : Below w.heap.size w w' /\ ∃ s o k c s2 o2 k2 c2, e = .returned (.tuple #[.agg #[.bool s, .slice o k c], .agg #[.bool s2, .slice o2 k2 c2], .int .i64 0]) /\ IntV 700 w' (.agg #[.bool s, .slice o k c]) I := by
 obtain ⟨hb, q, r, rfl, hq, hr⟩ := h
 rw [Int.mul_ediv_cancel_left _ (by omega)] at hq
 obtain ⟨s, sv, rfl, h1, hn1⟩ := hq.mono hL
 obtain ⟨o, k, c, rfl⟩ := hn1.form
 obtain ⟨s2, sv2, rfl, h2, hn2⟩ := hr
 obtain ⟨o2, k2, c2, rfl⟩ := hn2.form
 exact ⟨hb, s, o, k, c, s2, o2, k2, c2, rfl, _, _, rfl, h1, hn1⟩
theorem info_int : (Tryz.prog.info? 98).map (fun i => (i.zero, i.size, i.bytes)) = some (some (.agg #[.bool false, .slice none 0 0]), 2, 32) := by kernel_rfl
theorem make_ints (n : Nat) (hn : n <= 41) : ∀ W, (Instr.makeSlice 74 (.int .i64 ((n : Int) + 1)) (.int .i64 ((n : Int) + 1))).run Tryz.prog W = .ok (.slice (some ⟨W.heap.size, 0, none⟩) (n + 1) (n + 1)) (W.alloc (.cells (madeCells #[.bool false, .slice none 0 0] ((n + 1) * 2)) 98)) := fun W => by
 obtain ⟨i, hi, hzz⟩ := Option.map_eq_some_iff.1 info_int
 simp only [Prod.mk.injEq] at hzz
 obtain ⟨hz, hs, hb⟩ := hzz
 have := run_make (P := Tryz.prog) (w := W) 74 98 i (.agg #[.bool false, .slice none 0 0]) Tryz.underlying74 hi hz .i64 .i64 ((n : Int) + 1) ((n : Int) + 1) (by omega) (by omega) (by rw [hb]; omega) (by omega)
 rw [hs] at this
 have e : ((n : Int) + 1).toNat = n + 1 := by omega
 rw [e] at this
 exact this
set_option maxRecDepth 20000 in
theorem firrs_any (order degree : Int) (w : World) (o0 : -9223372036854775808 <= order) (o1 : order <= 9223372036854775807) (d0 : -9223372036854775808 <= degree) (d1 : degree <= 9223372036854775807) :
 Calls Tryz.prog 159 #[.int .i64 order, .int .i64 degree] w (FicRet order degree w) := by
 have HX0 : Kept (Bxs w [.cells #[.bool false, .slice none 0 0] 98] (w.alloc (.cells #[.bool false, .slice none 0 0] 98))) := ⟨(Bxs.start w).alloc (by simp) _⟩
 have HPP := Kept.mk (fun W => primePower_any order W o0 o1)
 go_enter Tryz.func159, Tryz.ntmps159
 go_wp2_with fail
 refine (HPP.out _).mono ?_
 rintro e w1 ⟨hb1, ⟨p, kk, hp, hk1, hpk, hp6, rfl⟩ | ⟨hno, rfl⟩⟩
 ·have hfit : FFld.Fit order := by rw [hpk]; exact FFld.fit_pow hp hk1 hp6
  have HFT := Kept.mk hfit
  obtain ⟨q, hq⟩ : ∃ q, p ^ kk = q := ⟨_, rfl⟩
  rw [hq] at hpk hp6
  have HX1 := Kept.mk (HX0.out.below hb1)
  obtain ⟨c0, c1, f0, f1⟩ := two_cells HX1.out.b0
  have hl1 : w.heap.size < w1.heap.size := (Array.getElem?_eq_some_iff.1 HX1.out.b0).1
  clear hb1 hfit hp hk1 hq HPP
  by_cases hin : 1 <= degree /\ degree <= 40
  ·obtain ⟨n, rfl⟩ : ∃ n : Nat, degree = n := ⟨degree.toNat, by omega⟩
   subst hpk
   have hn1 : 1 <= n := by omega
   have hn : n <= 40 := by omega
   have g1 : decide ((n : Int) < 1) = false := by rw [decide_eq_false_iff_not]; omega
   have g2 : decide ((40 : Int) < n) = false := by rw [decide_eq_false_iff_not]; omega
   have hmk := make_ints n (by omega)
   have HMO := Kept.mk (fun m (h1 : 1 <= m) (h2 : m <= 40) W => moebius_any m W h1 h2)
   have HOF := Kept.mk (fun (z : Int) (h1 : -65536 <= z) (h2 : z <= 65536) W => of_any z W (by omega) (by omega))
   have hal : Below w1.heap.size w1 (w1.alloc (.cells (madeCells #[.bool false, .slice none 0 0] ((n + 1) * 2)) 98)) := (Below.refl _ _).alloc (Nat.le_refl _) _
   have HX2 := Kept.mk (HX1.out.below hal)
   have HCZ : Kept (Cz (w1.alloc (.cells (madeCells #[.bool false, .slice none 0 0] ((n + 1) * 2)) 98)) w1.heap.size (n + 1) (fun d => if d < 1 then cfF n d else 0)) := ⟨(Cz.start (heap_alloc_new w1 _)).congr (fun d hd => by
    by_cases e : d < 1
    ·rw [if_pos e, show d = 0 by omega]; rfl
    ·rw [if_neg e])⟩
   obtain ⟨W3, hW3⟩ : ∃ W, w1.alloc (.cells (madeCells #[.bool false, .slice none 0 0] ((n + 1) * 2)) 98) = W := ⟨_, rfl⟩
   rw [hW3] at HX2 HCZ
   clear hal hin d0 d1 o0 o1
   go_wp2
   try rw [hW3]
   obtain ⟨g, hg⟩ : ∃ g, w1.heap.size = g := ⟨_, rfl⟩
   rw [hg] at HCZ hl1 ⊢
   clear hg hW3 hmk c0 c1 f0 f1
   go_loopw [10] (fun iv wr => ∃ (i : Nat), 1 <= i /\ i <= n + 1 /\ iv = .int .i64 i /\ Kept (Bxs w [.cells #[.bool false, .slice none 0 0] 98] wr) /\ Kept (Cz wr g (n + 1) (fun d => if d < i then cfF n d else 0))) (fun iv _ => n + 1 - (intOf iv).toNat)
   case atStart => exact ⟨1, Nat.le_refl _, by omega, rfl, HX2, HCZ⟩
   case round =>
    obtain ⟨i, hi1, hin, rfl, hbx, hcz⟩ := hrel
    by_cases hlt : i <= n
    ·obtain ⟨r, hr⟩ : ∃ r, n % i = r := ⟨_, rfl⟩
     have er1 : (n : Int) % (i : Int) = r := by rw [<- hr]; rfl
     have er2 : (n : Int).tmod (i : Int) = r := by rw [Int.tmod_eq_emod_of_nonneg (by omega)]; exact er1
     have hz1 : ¬ ((i : Int) = 0) := by omega
     have hz2 : ¬ (i = 0) := by omega
     have hz3 : ((i : Int) == 0) = false := by rw [beq_eq_false_iff_ne]; omega
     have hle : decide ((i : Int) <= n) = true := by rw [decide_eq_true_eq]; omega
     by_cases h0 : r = 0
     ·have e0 : ((r : Int) == 0) = true := by rw [h0]; rfl
      obtain ⟨m, hm⟩ : ∃ m, n / i = m := ⟨_, rfl⟩
      have em1 : (n : Int) / (i : Int) = m := by rw [<- hm]; rfl
      have em2 : (n : Int).tdiv (i : Int) = m := by rw [Int.tdiv_eq_ediv_of_nonneg (by omega)]; exact em1
      have hm1 : 1 <= m := by rw [<- hm]; exact (Nat.one_le_div_iff (by omega)).2 hlt
      have hm4 : m <= 40 := by rw [<- hm]; exact Nat.le_trans (Nat.div_le_self _ _) hn
      have HV : Kept (cfF n i = FFld.muT m) := ⟨by unfold cfF; rw [if_neg hz2, if_pos (by omega), hm]⟩
      have hmu := FFld.mu_in m (by omega)
      obtain ⟨mu, hmm⟩ : ∃ x, FFld.muT m = x := ⟨_, rfl⟩
      have HM := Kept.mk (HMO.out m hm1 hm4)
      rw [hmm] at hmu HV HM
      clear hm hr h0 hmm
      go_wp2_with fail
      refine (HM.out _).mono ?_
      rintro e w4 ⟨hb4, rfl⟩
      have HBX4 := Kept.mk (hbx.out.below hb4)
      have HCZ4 := Kept.mk (hcz.out.below hb4)
      clear hb4
      go_wp2_with fail
      refine (HOF.out mu (by omega) (by omega) _).mono ?_
      rintro e w5 ⟨hb5, v5, rfl, s5, sv5, rfl, hs5, hn5⟩
      obtain ⟨o5, k5, c5, rfl⟩ := hn5.form
      have HBX5 := Kept.mk (HBX4.out.below hb5)
      have HCZ5 := Kept.mk (HCZ4.out.below hb5)
      have HI5 : Kept (IntV 1 w5 (.agg #[.bool s5, .slice o5 k5 c5]) mu) := ⟨⟨_, _, rfl, hs5, hn5⟩⟩
      obtain ⟨sx, ox, kx, cx, y0, y1, _⟩ := HCZ5.out.at (d := i) (by omega)
      have z0 := HCZ5.out.free (i * 2)
      have z1 := HCZ5.out.free (i * 2 + 1)
      have hgl := HCZ5.out.lt
      have HN := Kept.mk ((HCZ5.out.set (i := i) (by omega) HI5.out).congr (G := fun d => if d < i + 1 then cfF n d else 0) (fun d hd => by
       show (if d = i then mu else if d < i then cfF n d else 0) = if d < i + 1 then cfF n d else 0
       by_cases e1 : d = i
       ·rw [if_pos e1, if_pos (by omega), e1, HV.out]
       ·rw [if_neg e1]
        by_cases e2 : d < i
        ·rw [if_pos e2, if_pos (by omega)]
        ·rw [if_neg e2, if_neg (by omega)]))
      have HBN : Kept (Bxs w [.cells #[.bool false, .slice none 0 0] 98] ((w5.setCell ⟨g, i * 2, none⟩ (.bool s5)).setCell ⟨g, i * 2 + 1, none⟩ (.slice o5 k5 c5))) := ⟨by
       refine ⟨(HBX5.out.1.setCell (p := ⟨g, i * 2, none⟩) (by simp only []; omega) _).setCell (p := ⟨g, i * 2 + 1, none⟩) (by simp only []; omega) _, by simpa using HBX5.out.2.1, fun j o hj => ?_⟩
       have := HBX5.out.2.2 j o hj
       have hj0 : j = 0 := by rcases j with _ | j <;> simp at hj ⊢
       subst hj0
       rw [heap_setCell_other _ _ _ _ (by simp; omega), heap_setCell_other _ _ _ _ (by simp; omega)]
       exact this⟩
      have hl2 : (i : Int) < ((n : Int) + 1) := by omega
      clear hb5 hs5 hn5
      go_wp2
      go_roundw
      case rel => exact ⟨i + 1, by omega, by omega, by go_num, HBN, HN⟩
      case measure => simp [intOf] <;> omega
     ·have e0 : ((r : Int) == 0) = false := by rw [beq_eq_false_iff_ne]; omega
      have HN := Kept.mk (hcz.out.congr (G := fun d => if d < i + 1 then cfF n d else 0) (fun d hd => by
       by_cases e1 : d = i
       ·rw [if_neg (by omega), if_pos (by omega), e1]; unfold cfF; rw [if_neg hz2, if_neg (by omega)]
       ·by_cases e2 : d < i
        ·rw [if_pos e2, if_pos (by omega)]
        ·rw [if_neg e2, if_neg (by omega)]))
      clear hr h0
      go_wp2
      go_roundw
      case rel => exact ⟨i + 1, by omega, by omega, by go_num, hbx, HN⟩
      case measure => simp [intOf] <;> omega
    ·obtain rfl : i = n + 1 := by omega
     have hle : decide (((n + 1 : Nat) : Int) <= n) = false := by rw [decide_eq_false_iff_not]; omega
     have hle2 : decide ((n : Int) + 1 <= n) = false := by rw [decide_eq_false_iff_not]; omega
     have HCF := Kept.mk (hcz.out.congr (G := cfF n) (fun d hd => by rw [if_pos (by omega)]))
     have HIR := Kept.mk (hzF_irrs (q := q) hn1 hn)
     have HBX := hbx
     clear hcz hbx
     go_wp2_with fail
     refine (HOF.out (q : Int) (by omega) (by omega) _).mono ?_
     rintro e w4 ⟨hb4, v4, rfl, hI4⟩
     have HBX4 := Kept.mk (HBX.out.below hb4)
     have HCF4 := Kept.mk (HCF.out.below hb4)
     have HI4 := Kept.mk hI4
     clear hb4 hI4
     go_wp2_with fail
     refine (value_any HCF4.out (cfF_in hn) (by omega) HI4.out hp6).mono ?_
     rintro e w5 ⟨hb5, v5, rfl, s5, sv5, rfl, hs5, hn5⟩
     obtain ⟨o5, k5, c5, rfl⟩ := hn5.form
     rw [HIR.out] at hs5 hn5
     have HBX5 := Kept.mk (HBX4.out.below hb5)
     have HI5 : Kept (IntV 625 w5 (.agg #[.bool s5, .slice o5 k5 c5]) (n * FFld.irrs q n)) := ⟨⟨_, _, rfl, hs5, hn5⟩⟩
     clear hb5 hs5 hn5
     have HT_0 : Kept (IntV 625 ((w5.alloc (.cells #[.bool s5, .slice o5 k5 c5] 98)).drew) (.agg #[.bool s5, .slice o5 k5 c5]) (n * FFld.irrs q n)) := ⟨HI5.out.below (((Below.refl _ _).alloc (Nat.le_refl _) _).drew)⟩
     have HB_0 : Kept (Bxs w [.cells #[.bool false, .slice none 0 0] 98] ((w5.alloc (.cells #[.bool s5, .slice o5 k5 c5] 98)).drew)) := ⟨HBX5.out.below (((Below.refl _ _).alloc (Nat.le_refl _) _).drew)⟩
     obtain ⟨u0_0, u1_0, _⟩ := two_cells (heap_alloc_new w5 (.cells #[.bool s5, .slice o5 k5 c5] 98))
     have HON := Kept.mk (HOF.out (n : Int) (by omega) (by omega))
     have HEQ : Kept (n ≠ 0) := ⟨by omega⟩
     have hw5 : w.heap.size < w5.heap.size := (Array.getElem?_eq_some_iff.1 HBX5.out.b0).1
     clear HIR HMO HOF
     go_wp2_with fail
     have u0 := u0_0
     have u1 := u1_0
     have HT := HT_0
     have HB := HB_0
     clear u0_0 u1_0 HT_0 HB_0
     refine wp_region_held_drew (S := fun w' => w'.cell? ⟨w5.heap.size, 0, none⟩ = some (.bool s5) /\ w'.cell? ⟨w5.heap.size, 1, none⟩ = some (.slice o5 k5 c5)) (by kernel_rfl) ⟨u0, u1⟩ (fun hHeld => ?_)
     obtain ⟨x, hx0⟩ : ∃ X, (w5.alloc (.cells #[.bool s5, .slice o5 k5 c5] 98)).drew = X := ⟨_, rfl⟩
     rw [hx0] at HT HB hHeld ⊢
     replace u0 : x.cell? ⟨w5.heap.size, 0, none⟩ = some (.bool s5) := by rw [<- hx0]; exact u0
     replace u1 : x.cell? ⟨w5.heap.size, 1, none⟩ = some (.slice o5 k5 c5) := by rw [<- hx0]; exact u1
     clear hx0
     refine wpAnyH_take (i := 0) (v := ?_) rfl (by kernel_rfl) (by kernel_rfl) (by kernel_rfl) (fun _ _ _ h => h) (Or.inl ⟨by rfl, ?_⟩) (by assumption) ?_
     rotate_left
     ·(intro w hSw; (try dsimp only at hSw); go_simp; (try with_reducible rfl))
     try simp only [Act.put, List.getElem_toArray, List.getElem_cons_succ, List.getElem_cons_zero, List.setIfInBounds_toArray, List.set_cons_zero, List.set_cons_succ]
     refine wpAnyH_take (i := 1) (v := ?_) rfl (by kernel_rfl) (by kernel_rfl) (by kernel_rfl) (fun _ _ _ h => h) (Or.inl ⟨by rfl, ?_⟩) (by assumption) ?_
     rotate_left
     ·(intro w hSw; (try dsimp only at hSw); go_simp; (try with_reducible rfl))
     try simp only [Act.put, List.getElem_toArray, List.getElem_cons_succ, List.getElem_cons_zero, List.setIfInBounds_toArray, List.set_cons_zero, List.set_cons_succ]
     iterate 4
      all_goals first
       | ((fail_if_success have _ := HA); (fail_if_success have _ := HQ); (fail_if_success have _ := H12); (fail_if_success have _ := H13); refine wpAnyH_ready (rs := [2, 8, 9]) (by kernel_rfl) (by simp) ?_; refine (AllReadyH.cons rfl (fun K hK => (fun (m2 : True) => ?_) trivial) (AllReadyH.cons rfl (fun K hK => (fun (m8 : True) => ?_) trivial) (AllReadyH.cons rfl (fun K hK => (fun (m9 : True) => ?_) trivial) AllReadyH.nil))))
       | ((fail_if_success have _ := HA); (fail_if_success have _ := HQ); (fail_if_success have _ := H12); have _ := H13; refine wpAnyH_ready (rs := [2, 8]) (by kernel_rfl) (by simp) ?_; refine (AllReadyH.cons rfl (fun K hK => (fun (m2 : True) => ?_) trivial) (AllReadyH.cons rfl (fun K hK => (fun (m8 : True) => ?_) trivial) AllReadyH.nil)))
       | ((fail_if_success have _ := HA); (fail_if_success have _ := HQ); have _ := H12; (fail_if_success have _ := H13); refine wpAnyH_ready (rs := [2, 9]) (by kernel_rfl) (by simp) ?_; refine (AllReadyH.cons rfl (fun K hK => (fun (m2 : True) => ?_) trivial) (AllReadyH.cons rfl (fun K hK => (fun (m9 : True) => ?_) trivial) AllReadyH.nil)))
       | ((fail_if_success have _ := HA); (fail_if_success have _ := HQ); have _ := H12; have _ := H13; refine wpAnyH_ready (rs := [2]) (by kernel_rfl) (by simp) ?_; refine (AllReadyH.cons rfl (fun K hK => (fun (m2 : True) => ?_) trivial) AllReadyH.nil))
       | (have _ := HA; (fail_if_success have _ := HQ); (fail_if_success have _ := H12); (fail_if_success have _ := H13); refine wpAnyH_ready (rs := [3, 8, 9]) (by kernel_rfl) (by simp) ?_; refine (AllReadyH.cons rfl (fun K hK => (fun (m3 : True) => ?_) trivial) (AllReadyH.cons rfl (fun K hK => (fun (m8 : True) => ?_) trivial) (AllReadyH.cons rfl (fun K hK => (fun (m9 : True) => ?_) trivial) AllReadyH.nil))))
       | (have _ := HA; (fail_if_success have _ := HQ); (fail_if_success have _ := H12); have _ := H13; refine wpAnyH_ready (rs := [3, 8]) (by kernel_rfl) (by simp) ?_; refine (AllReadyH.cons rfl (fun K hK => (fun (m3 : True) => ?_) trivial) (AllReadyH.cons rfl (fun K hK => (fun (m8 : True) => ?_) trivial) AllReadyH.nil)))
       | (have _ := HA; (fail_if_success have _ := HQ); have _ := H12; (fail_if_success have _ := H13); refine wpAnyH_ready (rs := [3, 9]) (by kernel_rfl) (by simp) ?_; refine (AllReadyH.cons rfl (fun K hK => (fun (m3 : True) => ?_) trivial) (AllReadyH.cons rfl (fun K hK => (fun (m9 : True) => ?_) trivial) AllReadyH.nil)))
       | (have _ := HA; (fail_if_success have _ := HQ); have _ := H12; have _ := H13; refine wpAnyH_ready (rs := [3]) (by kernel_rfl) (by simp) ?_; refine (AllReadyH.cons rfl (fun K hK => (fun (m3 : True) => ?_) trivial) AllReadyH.nil))
       | (have _ := HA; have _ := HQ; (fail_if_success have _ := H12); (fail_if_success have _ := H13); refine wpAnyH_ready (rs := [8, 9]) (by kernel_rfl) (by simp) ?_; refine (AllReadyH.cons rfl (fun K hK => (fun (m8 : True) => ?_) trivial) (AllReadyH.cons rfl (fun K hK => (fun (m9 : True) => ?_) trivial) AllReadyH.nil)))
       | (have _ := HA; have _ := HQ; (fail_if_success have _ := H12); have _ := H13; refine wpAnyH_ready (rs := [8]) (by kernel_rfl) (by simp) ?_; refine (AllReadyH.cons rfl (fun K hK => (fun (m8 : True) => ?_) trivial) AllReadyH.nil))
       | (have _ := HA; have _ := HQ; have _ := H12; (fail_if_success have _ := H13); refine wpAnyH_ready (rs := [9]) (by kernel_rfl) (by simp) ?_; refine (AllReadyH.cons rfl (fun K hK => (fun (m9 : True) => ?_) trivial) AllReadyH.nil))
      all_goals first
       | (clear m2
          go_simp
          refine (HON.out x).mono ?_
          rintro e y ⟨hr, va, rfl, sA, svA, rfl, hsA, hnA⟩
          obtain ⟨oA, kA, cA, rfl⟩ := hnA.form
          have HAn : Kept (IntV 1 y (.agg #[.bool sA, .slice oA kA cA]) n) := ⟨⟨_, _, rfl, hsA, hnA⟩⟩
          have u0 := belowCell hr u0
          have u1 := belowCell hr u1
          have HT := Kept.mk (HT.out.below hr)
          have HB := Kept.mk (HB.out.below hr)
          try have HA := Kept.mk (HA.out.below hr)
          try have HQ := Kept.mk (HQ.out.below hr)
          try have H12 := Kept.mk ((hr.block _ (Array.getElem?_eq_some_iff.1 H12.out).1).trans H12.out)
          try have H13 := Kept.mk ((hr.block _ (Array.getElem?_eq_some_iff.1 H13.out).1).trans H13.out)
          have HA := HAn
          clear hr hsA hnA
          obtain ⟨x, rfl⟩ : ∃ X, X = y := ⟨_, rfl⟩
          refine hK.out _ _ ⟨u0, u1⟩ (fun hHeld => ?_)
          clear hK K
          try simp only [Act.put, List.getElem_toArray, List.getElem_cons_succ, List.getElem_cons_zero, List.setIfInBounds_toArray, List.set_cons_zero, List.set_cons_succ])
       | (clear m3
          go_simp
          refine (idiv_any HT.out HA.out (by omega) (by omega) (by omega)).mono ?_
          intro e y hq
          obtain ⟨hr, sQ, oQ, kQ, cQ, s2', o2', k2', c2', rfl, hQ⟩ := div_out HEQ.out (by omega) hq
          have u0 := belowCell hr u0
          have u1 := belowCell hr u1
          have HT := Kept.mk (HT.out.below hr)
          have HB := Kept.mk (HB.out.below hr)
          try have HA := Kept.mk (HA.out.below hr)
          try have HQ := Kept.mk (HQ.out.below hr)
          try have H12 := Kept.mk ((hr.block _ (Array.getElem?_eq_some_iff.1 H12.out).1).trans H12.out)
          try have H13 := Kept.mk ((hr.block _ (Array.getElem?_eq_some_iff.1 H13.out).1).trans H13.out)
          have HQ := Kept.mk hQ
          clear hr hq hQ
          obtain ⟨x, rfl⟩ : ∃ X, X = y := ⟨_, rfl⟩
          refine hK.out _ _ ⟨u0, u1⟩ (fun hHeld => ?_)
          clear hK K
          try simp only [Act.put, List.getElem_toArray, List.getElem_cons_succ, List.getElem_cons_zero, List.setIfInBounds_toArray, List.set_cons_zero, List.set_cons_succ]
          refine wpAnyH_take (i := 4) (v := ?_) rfl (by kernel_rfl) (by kernel_rfl) (by kernel_rfl) (fun _ _ _ h => h) (Or.inl ⟨by rfl, ?_⟩) (by assumption) ?_
          rotate_left
          ·(intro w hSw; (try dsimp only at hSw); go_simp; (try with_reducible rfl))
          try simp only [Act.put, List.getElem_toArray, List.getElem_cons_succ, List.getElem_cons_zero, List.setIfInBounds_toArray, List.set_cons_zero, List.set_cons_succ]
          refine wpAnyH_take (i := 5) (v := ?_) rfl (by kernel_rfl) (by kernel_rfl) (by kernel_rfl) (fun _ _ _ h => h) (Or.inl ⟨by rfl, ?_⟩) (by assumption) ?_
          rotate_left
          ·(intro w hSw; (try dsimp only at hSw); go_simp; (try with_reducible rfl))
          try simp only [Act.put, List.getElem_toArray, List.getElem_cons_succ, List.getElem_cons_zero, List.setIfInBounds_toArray, List.set_cons_zero, List.set_cons_succ]
          refine wpAnyH_take (i := 6) (v := ?_) rfl (by kernel_rfl) (by kernel_rfl) (by kernel_rfl) (fun _ _ _ h => h) (Or.inl ⟨by rfl, ?_⟩) (by assumption) ?_
          rotate_left
          ·(intro w hSw; (try dsimp only at hSw); go_simp; (try with_reducible rfl))
          try simp only [Act.put, List.getElem_toArray, List.getElem_cons_succ, List.getElem_cons_zero, List.setIfInBounds_toArray, List.set_cons_zero, List.set_cons_succ]
          refine wpAnyH_take (i := 7) (v := ?_) rfl (by kernel_rfl) (by kernel_rfl) (by kernel_rfl) (fun _ _ _ h => h) (Or.inl ⟨by rfl, ?_⟩) (by assumption) ?_
          rotate_left
          ·(intro w hSw; (try dsimp only at hSw); go_simp; (try with_reducible rfl))
          try simp only [Act.put, List.getElem_toArray, List.getElem_cons_succ, List.getElem_cons_zero, List.setIfInBounds_toArray, List.set_cons_zero, List.set_cons_succ])
       | (clear m8
          go_simp
          have hlt12 : w5.heap.size < x.heap.size := World.block_lt_of_cell? _ _ u0
          try have hne : g13 < x.heap.size := (Array.getElem?_eq_some_iff.1 H13.out).1
          have hr : Below x.heap.size x (x.alloc (.cells #[.bool false, .slice none 0 0] 98)) := (Below.refl _ _).alloc (Nat.le_refl _) _
          have hnew := heap_alloc_new x (.cells #[.bool false, .slice none 0 0] 98)
          obtain ⟨y, hx⟩ : ∃ X, x.alloc (.cells #[.bool false, .slice none 0 0] 98) = X := ⟨_, rfl⟩
          rw [hx] at hr hnew ⊢
          clear hx
          have u0 := belowCell hr u0
          have u1 := belowCell hr u1
          have HT := Kept.mk (HT.out.below hr)
          have HB := Kept.mk (HB.out.below hr)
          try have HA := Kept.mk (HA.out.below hr)
          try have HQ := Kept.mk (HQ.out.below hr)
          try have H12 := Kept.mk ((hr.block _ (Array.getElem?_eq_some_iff.1 H12.out).1).trans H12.out)
          try have H13 := Kept.mk ((hr.block _ (Array.getElem?_eq_some_iff.1 H13.out).1).trans H13.out)
          have H12 := Kept.mk hnew
          obtain ⟨g12, hg12⟩ : ∃ G, x.heap.size = G := ⟨_, rfl⟩
          rw [hg12] at H12 hlt12 ⊢
          try rw [hg12] at hne
          clear hr hnew hg12
          obtain ⟨x, rfl⟩ : ∃ X, X = y := ⟨_, rfl⟩
          refine hK.out _ _ ⟨u0, u1⟩ (fun hHeld => ?_)
          clear hK K
          try simp only [Act.put, List.getElem_toArray, List.getElem_cons_succ, List.getElem_cons_zero, List.setIfInBounds_toArray, List.set_cons_zero, List.set_cons_succ])
       | (clear m9
          go_simp
          have hlt13 : w5.heap.size < x.heap.size := World.block_lt_of_cell? _ _ u0
          try have hne : g12 < x.heap.size := (Array.getElem?_eq_some_iff.1 H12.out).1
          have hr : Below x.heap.size x (x.alloc (.cells #[.bool false, .slice none 0 0] 98)) := (Below.refl _ _).alloc (Nat.le_refl _) _
          have hnew := heap_alloc_new x (.cells #[.bool false, .slice none 0 0] 98)
          obtain ⟨y, hx⟩ : ∃ X, x.alloc (.cells #[.bool false, .slice none 0 0] 98) = X := ⟨_, rfl⟩
          rw [hx] at hr hnew ⊢
          clear hx
          have u0 := belowCell hr u0
          have u1 := belowCell hr u1
          have HT := Kept.mk (HT.out.below hr)
          have HB := Kept.mk (HB.out.below hr)
          try have HA := Kept.mk (HA.out.below hr)
          try have HQ := Kept.mk (HQ.out.below hr)
          try have H12 := Kept.mk ((hr.block _ (Array.getElem?_eq_some_iff.1 H12.out).1).trans H12.out)
          try have H13 := Kept.mk ((hr.block _ (Array.getElem?_eq_some_iff.1 H13.out).1).trans H13.out)
          have H13 := Kept.mk hnew
          obtain ⟨g13, hg13⟩ : ∃ G, x.heap.size = G := ⟨_, rfl⟩
          rw [hg13] at H13 hlt13 ⊢
          try rw [hg13] at hne
          clear hr hnew hg13
          obtain ⟨x, rfl⟩ : ∃ X, X = y := ⟨_, rfl⟩
          refine hK.out _ _ ⟨u0, u1⟩ (fun hHeld => ?_)
          clear hK K
          try simp only [Act.put, List.getElem_toArray, List.getElem_cons_succ, List.getElem_cons_zero, List.setIfInBounds_toArray, List.set_cons_zero, List.set_cons_succ])
     all_goals (
      obtain ⟨m0, m1, m2, m3⟩ := two_cells H12.out
      have hl12 : g12 < x.heap.size := (Array.getElem?_eq_some_iff.1 H12.out).1
      refine wpAnyH_ready (rs := [10]) (by kernel_rfl) (by simp) ?_
      refine (AllReadyH.cons rfl (fun K hK => ?_) AllReadyH.nil)
      go_simp
      have hset := two_set H12.out (.bool sQ) (.slice oQ kQ cQ)
      have hgr : x.grownBy ((x.setCell ⟨g12, 0, none⟩ (.bool sQ)).setCell ⟨g12, 1, none⟩ (.slice oQ kQ cQ)) (some g12) := growSet (growSet (growRefl _ _) _ _) _ _
      have v0 := hgr.cell (a := ⟨w5.heap.size, 0, none⟩) u0 (by simp; omega)
      have v1 := hgr.cell (a := ⟨w5.heap.size, 1, none⟩) u1 (by simp; omega)
      have h13 := (hgr.block g13 (Array.getElem?_eq_some_iff.1 H13.out).1 (by simp; omega)).trans H13.out
      have HQY := HQ.out.keep H12.out (fun i m e => by rcases i with _ | _ | i <;> simp at e) hgr
      have h4 := (hgr.block w.heap.size (by have := HB.out.2.1; simp at this; omega) (by simp; omega)).trans HB.out.b0
      have hby : Below w.heap.size w ((x.setCell ⟨g12, 0, none⟩ (.bool sQ)).setCell ⟨g12, 1, none⟩ (.slice oQ kQ cQ)) := below_grow2 HB.out.1 hgr (by omega)
      obtain ⟨y, hy⟩ : ∃ Y, ((x.setCell ⟨g12, 0, none⟩ (.bool sQ)).setCell ⟨g12, 1, none⟩ (.slice oQ kQ cQ)) = Y := ⟨_, rfl⟩
      rw [hy] at hset v0 v1 h13 HQY h4 hby ⊢
      have HS12 := Kept.mk hset
      have H13Y := Kept.mk h13
      have HQY2 := Kept.mk HQY
      have H4Y := Kept.mk h4
      have HBY := Kept.mk hby
      clear hset h13 HQY h4 hby hgr hy m0 m1 m2 m3
      refine hK.out _ _ ⟨v0, v1⟩ (fun hHeld => ?_)
      clear hK K
      try simp only [Act.put, List.getElem_toArray, List.getElem_cons_succ, List.getElem_cons_zero, List.setIfInBounds_toArray, List.set_cons_zero, List.set_cons_succ]
      obtain ⟨m0, m1, m2, m3⟩ := two_cells H13Y.out
      have hl13 : g13 < y.heap.size := (Array.getElem?_eq_some_iff.1 H13Y.out).1
      refine wpAnyH_ready (rs := [11]) (by kernel_rfl) (by simp) ?_
      refine (AllReadyH.cons rfl (fun K hK => ?_) AllReadyH.nil)
      go_simp
      have hgr : y.grownBy ((y.setCell ⟨g13, 0, none⟩ (.bool s2')).setCell ⟨g13, 1, none⟩ (.slice o2' k2' c2')) (some g13) := growSet (growSet (growRefl _ _) _ _) _ _
      have v2 := hgr.cell (a := ⟨w5.heap.size, 0, none⟩) v0 (by simp; omega)
      have v3 := hgr.cell (a := ⟨w5.heap.size, 1, none⟩) v1 (by simp; omega)
      have h12 := (hgr.block g12 (Array.getElem?_eq_some_iff.1 HS12.out).1 (by simp; omega)).trans HS12.out
      have HQZ := HQY2.out.keep H13Y.out (fun i m e => by rcases i with _ | _ | i <;> simp at e) hgr
      have h4 := (hgr.block w.heap.size (by omega) (by simp; omega)).trans H4Y.out
      have hbz : Below w.heap.size w ((y.setCell ⟨g13, 0, none⟩ (.bool s2')).setCell ⟨g13, 1, none⟩ (.slice o2' k2' c2')) := below_grow2 HBY.out hgr (by omega)
      obtain ⟨z, hz⟩ : ∃ Y, ((y.setCell ⟨g13, 0, none⟩ (.bool s2')).setCell ⟨g13, 1, none⟩ (.slice o2' k2' c2')) = Y := ⟨_, rfl⟩
      rw [hz] at v2 v3 h12 HQZ h4 hbz ⊢
      obtain ⟨n0, n1, _⟩ := two_cells h12
      obtain ⟨r0, r1, r2, r3⟩ := two_cells h4
      have hlz : w.heap.size < z.heap.size := (Array.getElem?_eq_some_iff.1 h4).1
      have HQZ2 := Kept.mk HQZ
      have H4Z := Kept.mk h4
      have HBZ := Kept.mk hbz
      clear h12 HQZ h4 hbz hgr hz m0 m1 m2 m3 v0 v1
      refine hK.out _ _ ⟨v2, v3⟩ (fun hHeld => ?_)
      clear hK K
      try simp only [Act.put, List.getElem_toArray, List.getElem_cons_succ, List.getElem_cons_zero, List.setIfInBounds_toArray, List.set_cons_zero, List.set_cons_succ]
      refine wpAnyH_take (i := 12) (v := ?_) rfl (by kernel_rfl) (by kernel_rfl) (by kernel_rfl) (fun _ _ _ h => h) (Or.inl ⟨by rfl, ?_⟩) (by assumption) ?_
      rotate_left
      ·(intro w hSw; (try dsimp only at hSw); go_simp; (try with_reducible rfl))
      try simp only [Act.put, List.getElem_toArray, List.getElem_cons_succ, List.getElem_cons_zero, List.setIfInBounds_toArray, List.set_cons_zero, List.set_cons_succ]
      refine wpAnyH_done (by kernel_rfl) ?_ _
      have hgr : z.grownBy ((z.setCell ⟨w.heap.size, 0, none⟩ (.bool sQ)).setCell ⟨w.heap.size, 1, none⟩ (.slice oQ kQ cQ)) (some w.heap.size) := growSet (growSet (growRefl _ _) _ _) _ _
      have HQF := Kept.mk (HQZ2.out.keep H4Z.out (fun i m e => by rcases i with _ | _ | i <;> simp at e) hgr)
      obtain ⟨hB, q0, q1⟩ := two_end H4Z.out HBZ.out (Nat.le_refl _) (.bool sQ) (.slice oQ kQ cQ)
      have HBF := Kept.mk hB
      clear hB hgr
      go_wp2
      exact bodyPost_ret (v := .tuple #[.agg #[.bool sQ, .slice oQ kQ cQ], .int .i64 0]) (by simp [results, Tryz.results159, go_sem, q0, q1]) rfl ⟨HBF.out, .inr (.inr ⟨HFT.out, q, n, rfl, hp6, rfl, hn1, hn, sQ, oQ, kQ, cQ, rfl, HQF.out⟩)⟩
     )
  ·have hd : degree < 1 \/ 40 < degree := by omega
   have HD := Kept.mk hd
   obtain ⟨hB, q0, q1⟩ := two_end HX1.out.b0 HX1.out.1 (Nat.le_refl _) (.bool false) (.slice none 0 0)
   have HB := Kept.mk hB
   clear hB
   by_cases hlo : degree < 1
   ·have g1 : decide (degree < 1) = true := by rw [decide_eq_true_eq]; exact hlo
    clear hd hin
    go_wp2
    exact bodyPost_ret (v := .tuple #[.agg #[.bool false, .slice none 0 0], .int .i64 1]) (by simp [results, Tryz.results159, go_sem, q0, q1]) rfl ⟨HB.out, .inr (.inl ⟨HFT.out, HD.out, rfl⟩)⟩
   ·have g1 : decide (degree < 1) = false := by rw [decide_eq_false_iff_not]; exact hlo
    have g2 : decide ((40 : Int) < degree) = true := by rw [decide_eq_true_eq]; omega
    clear hd hin
    go_wp2
    exact bodyPost_ret (v := .tuple #[.agg #[.bool false, .slice none 0 0], .int .i64 1]) (by simp [results, Tryz.results159, go_sem, q0, q1]) rfl ⟨HB.out, .inr (.inl ⟨HFT.out, HD.out, rfl⟩)⟩
 ·have HNO := Kept.mk hno
  have HX1 := Kept.mk (HX0.out.below hb1)
  obtain ⟨c0, c1, f0, f1⟩ := two_cells HX1.out.b0
  have hl1 : w.heap.size < w1.heap.size := (Array.getElem?_eq_some_iff.1 HX1.out.b0).1
  obtain ⟨hB, q0, q1⟩ := two_end HX1.out.b0 HX1.out.1 (Nat.le_refl _) (.bool false) (.slice none 0 0)
  have HB := Kept.mk hB
  clear hb1 hno HPP hB
  go_wp2
  exact bodyPost_ret (v := .tuple #[.agg #[.bool false, .slice none 0 0], .int .i64 20]) (by simp [results, Tryz.results159, go_sem, q0, q1]) rfl ⟨HB.out, .inl ⟨HNO.out, rfl⟩⟩
end Go.Proofs.YtdnheaafcbihbaaGreat
namespace Go.Proofs.YtdnheaafcbihbaaGreat
open Go Go.RowKit Go.Deep
open FFld (ints)
theorem run_append_sl {P : Program} (w : World) (t ty E : TypeId) (K : IntKind) (bytes : Nat) (ht : P.underlying t = some (.slice E))
 (hinfo : (P.info? E).map (fun i => (i.zero, i.size, i.bytes)) = some (some (.int K 0), 1, bytes)) (B : Nat) (v : Value) (xs : List Int) (hM : Mine E K B w v xs) (hB : B <= w.heap.size)
 (u : Value) (ys : List Int) (hu : Sl K w u ys) (hb : (xs.length + ys.length) * bytes <= 140737488355328) (hm : xs.length + ys.length <= maxLen) :
 ∃ v' w', (Builtin.append_ #[t, t] ty #[v, u]).run P w = .ok v' w' /\ Mine E K B w' v' (xs ++ ys) /\ w.grownBy w' v.ownBlock := by
 obtain ⟨ao, cap, rfl, hcap, hmax, hx⟩ := hu
 cases ao with
 | some a =>
   obtain ⟨v', w', h1, h2, h3, _⟩ := run_append_mine (P := P) w t ty E K bytes ht hinfo B v xs hM hB a cap ys (fun j q hj => by
    have hjl : j < ys.length := by
     apply Classical.byContradiction
     intro hc
     simp [hc] at hj
    obtain ⟨b, o, e, _, hcell⟩ := hx j hjl
    obtain rfl := Option.some.inj e
    have e : (⟨b, o, none⟩ : Addr).add j = ⟨b, o + j, none⟩ := by
     unfold Addr.add
     split <;> simp_all
    rw [e, hcell]
    simp [hjl] at hj ⊢
    exact hj) hb hm
   exact ⟨v', w', h1, h2, h3⟩
 | none =>
   have he : ys = [] := by
    cases ys with
    | nil => rfl
    | cons y t =>
      obtain ⟨b, o, e, _⟩ := hx 0 (by simp)
      cases e
   subst he
   obtain ⟨i, hi, hz, hs, hby⟩ := info_parts hinfo
   obtain ⟨ao, c, rfl, hc, _⟩ := hM.sl
   refine ⟨_, w, run_append_nothing w t t ty E i ht hi ao xs.length c hc (.slice none 0 cap) (Src.ofNil w ht cap), ?_, ⟨rfl, rfl, rfl, Nat.le_refl _, fun _ _ _ => rfl⟩⟩
   rw [List.append_nil]
   exact hM
theorem wpList_append_sl {P : Program} (w : World) {ops : Array Oper} {rest : List Oper} {o : Oper} {a : Act} {Q : Exit -> Act -> World -> Prop} (hgd : o.guard = none) (s x : Operand) (t : TypeId)
 (ho : o.op = .call { callee := .builtin .append, args := #[s, x], argTypes := #[t, t] }) (E : TypeId) (K : IntKind) (bytes : Nat) (ht : P.underlying t = some (.slice E))
 (hinfo : (P.info? E).map (fun i => (i.zero, i.size, i.bytes)) = some (some (.int K 0), 1, bytes)) (B : Nat) (v : Value) (xs : List Int) (hs : a.eval s = v) (hM : Mine E K B w v xs) (hB : B <= w.heap.size)
 (u : Value) (ys : List Int) (hx : a.eval x = u) (hu : Sl K w u ys)
 (hb : (xs.length + ys.length) * bytes <= 140737488355328) (hm : xs.length + ys.length <= maxLen)
 (h : ∀ v' w', Mine E K B w' v' (xs ++ ys) -> w.grownBy w' v.ownBlock -> wpList P ops Q rest (a.put o.dst v') w') : wpList P ops Q (o :: rest) a w := by
 refine wpList_plain hgd fun K' hK => ?_
 obtain ⟨v', w', hrun, r1, r2⟩ := run_append_sl (P := P) w t o.type E K bytes ht hinfo B v xs hM hB u ys hu hb hm
 unfold Oper.wp
 simp [execOp, ho, resolve, invoke, builtin, hs, hx, hrun, Result.andThen]
 exact hK _ _ (h v' w' r1 r2)
theorem wp_append_mine {P : Program} (w : World) {o : Oper} {a : Act} {K' : Act -> World -> Prop} {Q : Exit -> Act -> World -> Prop} (s x : Operand) (t : TypeId)
 (ho : o.op = .call { callee := .builtin .append, args := #[s, x], argTypes := #[t, t] }) (E : TypeId) (K : IntKind) (bytes : Nat) (ht : P.underlying t = some (.slice E))
 (hinfo : (P.info? E).map (fun i => (i.zero, i.size, i.bytes)) = some (some (.int K 0), 1, bytes)) (B : Nat) (v : Value) (xs : List Int) (hs : a.eval s = v) (hM : Mine E K B w v xs) (hB : B <= w.heap.size)
 (ad : Addr) (m c : Nat) (news : List Int) (hx : a.eval x = .slice (some ad) m c) (hl : news.length = m) (hnews : ∀ j u, (news.map (Value.int K))[j]? = some u -> w.cell? (ad.add j) = some u)
 (hb : (xs.length + news.length) * bytes <= 140737488355328) (hm : xs.length + news.length <= maxLen)
 (h : ∀ v' w', Mine E K B w' v' (xs ++ news) -> w.grownBy w' v.ownBlock -> (v'.ownBlock = v.ownBlock \/ Frm w.heap.size v') -> K' (a.put o.dst v') w') : o.wp P a w K' Q := by
 subst hl
 obtain ⟨v', w', hrun, r1, r2, r3⟩ := run_append_mine (P := P) w t o.type E K bytes ht hinfo B v xs hM hB ad c news hnews hb hm
 unfold Oper.wp execOp
 simp only [ho, resolve, invoke, builtin, Sem.run_bind, Sem.run_pure, Result.andThen_ok, List.map_toArray, List.map_cons, List.map_nil, hs, hx, hrun]
 exact h v' w' r1 r2 r3
def RetM (w : World) (xs : List Int) (e : Ending) (w' : World) : Prop := Below w.heap.size w w' /\ ∃ v', e = .returned v' /\ Mine 3 .i64 w.heap.size w' v' xs
def redN (D : FFld.FD) (a : Int) : Nat := (a % (D.q : Int)).toNat
def OwnV (E : TypeId) (B : Nat) (w : World) (v : Value) (xs : List Value) : Prop :=
 (v = .slice none 0 0 /\ xs = []) \/
   ∃ g cap cur, v = .slice (some ⟨g, 0, none⟩) xs.length cap /\ B <= g /\ w.heap[g]? = some (.cells cur E (0, 0)) /\ xs.length <= cap /\ cap <= cur.size /\ cap <= maxLen /\ cur.toList.take xs.length = xs
section
variable {E : TypeId} {B : Nat} {w w' : World} {v : Value} {xs : List Value}
theorem OwnV.nil (E : TypeId) (B : Nat) (w : World) : OwnV E B w (.slice none 0 0) [] := .inl ⟨rfl, rfl⟩
theorem OwnV.own (h : OwnV E B w v xs) : ∀ k, v.ownBlock = some k -> B <= k /\ k < w.heap.size := by
 intro k hk
 rcases h with ⟨rfl, rfl⟩ | ⟨g, cap, cur, rfl, hB, hg, hn, hc, hm, ht⟩
 ·simp [Value.ownBlock] at hk
 ·simp [Value.ownBlock] at hk
  subst hk
  exact ⟨hB, (Array.getElem?_eq_some_iff.1 hg).1⟩
theorem OwnV.kept {row : Option Nat} (h : OwnV E B w v xs) (hg : w.grownBy w' row) (hne : v.ownBlock = none \/ v.ownBlock ≠ row) : OwnV E B w' v xs := by
 rcases h with h | ⟨g, cap, cur, rfl, hB, hgg, rest⟩
 ·exact .inl h
 ·refine .inr ⟨g, cap, cur, rfl, hB, ?_, rest⟩
  rw [hg.block g (Array.getElem?_eq_some_iff.1 hgg).1 (by simpa [Value.ownBlock] using hne)]
  exact hgg
theorem OwnV.below (h : OwnV E B w v xs) (hb : Below w.heap.size w w') : OwnV E B w' v xs :=
 h.kept (row := none) (growBelow hb) (by cases hv : v.ownBlock <;> simp)
theorem OwnV.lower {B' : Nat} (h : OwnV E B w v xs) (hB : B' <= B) : OwnV E B' w v xs := by
 rcases h with h | ⟨g, cap, cur, rfl, hb, rest⟩
 ·exact .inl h
 ·exact .inr ⟨g, cap, cur, rfl, by omega, rest⟩
theorem OwnV.of_owns {n : Nat} (h : w.ownsRow B E 1 v n xs) : OwnV E B w v xs := by
 have hl : xs.length = n := by simpa using h.1
 rcases h.2 with ⟨rfl, h0⟩ | ⟨g, cap, cur, rfl, hg, hh, hn, hm, hc, ht⟩
 ·have : xs = [] := by cases xs with | nil => rfl | cons => simp at hl; omega
  exact .inl ⟨rfl, this⟩
 ·exact .inr ⟨g, cap, cur, by rw [hl], hg, hh, by omega, by omega, hm, by rw [hl]; simpa using ht⟩
theorem OwnV.cell (h : OwnV E B w v xs) {i : Nat} (hi : i < xs.length) : ∃ g cap, v = .slice (some ⟨g, 0, none⟩) xs.length cap /\ g < w.heap.size /\ w.cell? ⟨g, i, none⟩ = some (xs[i]?.getD (.int .i64 0)) := by
 rcases h with ⟨rfl, rfl⟩ | ⟨g, cap, cur, rfl, hB, hg, hn, hc, hm, ht⟩
 ·simp at hi
 ·refine ⟨g, cap, rfl, (Array.getElem?_eq_some_iff.1 hg).1, ?_⟩
  rw [cell_of_row w g i cur E (0, 0) hg]
  have : (cur.toList.take xs.length)[i]? = cur[i]? := by rw [List.getElem?_take, if_pos hi]; simp
  rw [<- this, ht]
  simp [hi]
theorem OwnV.form (h : OwnV E B w v xs) : ∃ ao cap, v = .slice ao xs.length cap /\ xs.length <= cap /\ cap <= maxLen := by
 rcases h with ⟨rfl, rfl⟩ | ⟨g, cap, cur, rfl, hB, hg, hn, hc, hm, ht⟩
 ·exact ⟨none, 0, rfl, Nat.le_refl _, Nat.zero_le _⟩
 ·exact ⟨_, cap, rfl, hn, hm⟩
end
theorem add_zero' (g j : Nat) : (⟨g, 0, none⟩ : Addr).add j = ⟨g, j, none⟩ := by unfold Addr.add; split <;> simp_all
theorem run_append_v {P : Program} (w : World) (t ty E : TypeId) (z : Value) (bytes : Nat) (ht : P.underlying t = some (.slice E))
 (hinfo : (P.info? E).map (fun i => (i.zero, i.size, i.bytes)) = some (some z, 1, bytes)) (hz1 : z.cells.size = 1) (B : Nat) (v : Value) (xs : List Value) (hM : OwnV E B w v xs) (hB : B <= w.heap.size)
 (a : Addr) (c : Nat) (news : List Value) (hnews : ∀ j u, news[j]? = some u -> w.cell? (a.add j) = some u) (hone : ∀ u ∈ news, u.oneCell' = true)
 (hb : (xs.length + news.length) * bytes <= 140737488355328) (hm : xs.length + news.length <= maxLen) :
 ∃ v' w', (Builtin.append_ #[t, t] ty #[v, .slice (some a) news.length c]).run P w = .ok v' w' /\ OwnV E B w' v' (xs ++ news) /\ w.grownBy w' v.ownBlock /\ (v'.ownBlock = v.ownBlock \/ Frm w.heap.size v') := by
 obtain ⟨i, hi, hz, hs, hby⟩ := info_parts hinfo
 have hl : news.length = news.length * 1 := by simp
 rcases hM with ⟨rfl, rfl⟩ | ⟨g, cap, cur, rfl, hBg, hg, hn, hc, hcm, htk⟩
 ·obtain ⟨v', w', hr, h2, h3, _⟩ := run_append_own (P := P) w w.heap.size t ty E i z 1 bytes ht hi hz hs hby hz1 (by decide) (.slice none 0 0) 0 [] (World.ownsRow_nil w w.heap.size E 1) a news.length c news hl hnews hone (by simpa using hm) (by simpa using hb) (Nat.le_refl _)
  exact ⟨v', w', hr, (OwnV.of_owns (n := 0 + news.length) (by simpa using h2)).lower hB, h3, .inr (fun k hk => (h2.lt k hk).1)⟩
 ·by_cases hroom : xs.length + news.length <= cap
  ·have hfit : xs.length * i.size + news.length <= cur.size := by rw [hs]; simp; omega
   have hr := run_append_room (P := P) w t ty E i ht hi g xs.length cap cur hg a news.length c news (by rw [hs]; exact hl) hnews hone hroom hfit
   rw [hs, Nat.mul_one] at hr
   refine ⟨_, _, hr, .inr ⟨g, cap, _, by simp, hBg, setRow_heap w g cur _ E _ hg, by simpa using hroom, ?_, hcm, ?_⟩, ⟨rfl, rfl, rfl, by simp, fun k _ hk => setRow_other w g k _ (fun e => hk (by simp [Value.ownBlock, e]))⟩, .inl rfl⟩
   ·simp only [List.size_toArray, List.length_append, List.length_take, List.length_drop, Array.length_toList]
    omega
   ·rw [htk, List.length_append]
    have : (xs ++ news).length = xs.length + news.length := by simp
    rw [<- this]
    exact List.take_left
  ·have holds : ∀ j u, xs[j]? = some u -> w.cell? ((⟨g, 0, none⟩ : Addr).add j) = some u := by
    intro j u hu
    have e : (⟨g, 0, none⟩ : Addr).add j = ⟨g, j, none⟩ := add_zero' g j
    rw [e, cell_of_row w g j cur E (0, 0) hg]
    have hj : j < xs.length := by
     apply Classical.byContradiction
     intro hc'
     simp [hc'] at hu
    rw [<- htk, List.getElem?_take, if_pos hj] at hu
    simpa using hu
   obtain ⟨v', w', hr, h2, h3⟩ := run_append_arg_grows (P := P) w t ty E i z 1 bytes ht hi hz hs hby hz1 (by decide) ⟨g, 0, none⟩ xs.length cap xs (by simp) holds a news.length c news hl hnews (by omega) hm hb
   refine ⟨v', w', hr, ?_, ⟨h3.os, h3.tape, h3.output, h3.size, fun k hk _ => h3.block k hk (by simp)⟩, .inr (fun k hk => (h2.lt k hk).1)⟩
   exact (OwnV.of_owns (n := xs.length + news.length) (by simpa using h2)).lower hB
theorem wpList_append_v {P : Program} (w : World) {ops : Array Oper} {rest : List Oper} {o : Oper} {a : Act} {Q : Exit -> Act -> World -> Prop} (hgd : o.guard = none) (s x : Operand) (t : TypeId)
 (ho : o.op = .call { callee := .builtin .append, args := #[s, x], argTypes := #[t, t] }) (E : TypeId) (z : Value) (bytes : Nat) (ht : P.underlying t = some (.slice E))
 (hinfo : (P.info? E).map (fun i => (i.zero, i.size, i.bytes)) = some (some z, 1, bytes)) (hz1 : z.cells.size = 1) (B : Nat) (v : Value) (xs : List Value) (hs : a.eval s = v) (hM : OwnV E B w v xs) (hB : B <= w.heap.size)
 (ad : Addr) (m c : Nat) (news : List Value) (hx : a.eval x = .slice (some ad) m c) (hl : news.length = m) (hnews : ∀ j u, news[j]? = some u -> w.cell? (ad.add j) = some u) (hone : ∀ u ∈ news, u.oneCell' = true)
 (hb : (xs.length + news.length) * bytes <= 140737488355328) (hm : xs.length + news.length <= maxLen)
 (h : ∀ v' w', OwnV E B w' v' (xs ++ news) -> w.grownBy w' v.ownBlock -> (v'.ownBlock = v.ownBlock \/ Frm w.heap.size v') -> wpList P ops Q rest (a.put o.dst v') w') : wpList P ops Q (o :: rest) a w := by
 refine wpList_plain hgd fun K' hK => ?_
 subst hl
 obtain ⟨v', w', hrun, r1, r2, r3⟩ := run_append_v (P := P) w t o.type E z bytes ht hinfo hz1 B v xs hM hB ad c news hnews hone hb hm
 unfold Oper.wp
 simp [execOp, ho, resolve, invoke, builtin, hs, hx, hrun, Result.andThen]
 exact hK _ _ (h v' w' r1 r2 r3)
theorem wpList_append_w {P : Program} (w : World) {ops : Array Oper} {rest : List Oper} {o : Oper} {a : Act} {Q : Exit -> Act -> World -> Prop} (hgd : o.guard = none) (s x : Operand) (t : TypeId)
 (ho : o.op = .call { callee := .builtin .append, args := #[s, x], argTypes := #[t, t] }) (E : TypeId) (z : Value) (bytes : Nat) (ht : P.underlying t = some (.slice E))
 (hinfo : (P.info? E).map (fun i => (i.zero, i.size, i.bytes)) = some (some z, 1, bytes)) (hz1 : z.cells.size = 1) (B : Nat) (v : Value) (xs : List Value) (hs : a.eval s = v) (hM : OwnV E B w v xs) (hB : B <= w.heap.size)
 (ad : Addr) (c : Nat) (nv : Value) (hx : a.eval x = .slice (some ad) 1 c) (hnews : ∀ j u, ([nv])[j]? = some u -> w.cell? (ad.add j) = some u) (hone : nv.oneCell' = true)
 (n : Nat) (hn : xs.length = n) (hb : (n + 1) * bytes <= 140737488355328) (hm : n + 1 <= 1000000)
 (h : ∀ v' w', OwnV E B w' v' (xs ++ [nv]) -> w.grownBy w' v.ownBlock -> (v'.ownBlock = v.ownBlock \/ Frm w.heap.size v') -> wpList P ops Q rest (a.put o.dst v') w') : wpList P ops Q (o :: rest) a w :=
 wpList_append_v w hgd s x t ho E z bytes ht hinfo hz1 B v xs hs hM hB ad 1 c [nv] hx rfl hnews (fun u hu => by obtain rfl := List.mem_singleton.1 hu; exact hone) (by rw [hn]; exact hb) (by rw [hn]; unfold maxLen; simp; omega) h
structure Rws (B : Nat) (w : World) (v : Value) (L : List (Value × List Int)) : Prop where
 own : OwnV 22 B w v (L.map (·.1))
 ok : ∀ r ∈ L, Mine 3 .i64 B w r.1 r.2
 ne : ∀ r ∈ L, ∀ g, r.1.ownBlock = some g -> v.ownBlock ≠ some g
theorem Rws.nil (B : Nat) (w : World) : Rws B w (.slice none 0 0) [] := ⟨OwnV.nil _ _ _, by simp, by simp⟩
theorem Rws.below {B : Nat} {w w' : World} {v : Value} {L : List (Value × List Int)} (h : Rws B w v L) (hb : Below w.heap.size w w') : Rws B w' v L :=
 ⟨h.own.below hb, fun r hr => (h.ok r hr).below hb, h.ne⟩
theorem Mine.one {E : TypeId} {K : IntKind} {B : Nat} {w : World} {v : Value} {xs : List Int} (h : Mine E K B w v xs) : v.oneCell' = true := by
 obtain ⟨ao, c, rfl, _⟩ := h.sl
 rfl
theorem Rws.push {B : Nat} {w w' : World} {v v' rv : Value} {L : List (Value × List Int)} {xs : List Int} (h : Rws B w v L) (hr : Mine 3 .i64 B w rv xs) (hne : ∀ g, rv.ownBlock = some g -> v.ownBlock ≠ some g)
 (ho : OwnV 22 B w' v' (L.map (·.1) ++ [rv])) (hg : w.grownBy w' v.ownBlock) (hv : v'.ownBlock = v.ownBlock \/ Frm w.heap.size v') : Rws B w' v' (L ++ [(rv, xs)]) := by
 have all : ∀ s ∈ L ++ [(rv, xs)], Mine 3 .i64 B w s.1 s.2 /\ ∀ g, s.1.ownBlock = some g -> v.ownBlock ≠ some g := fun s hs => by
  rcases List.mem_append.1 hs with h1 | h1
  ·exact ⟨h.ok s h1, h.ne s h1⟩
  ·obtain rfl := List.mem_singleton.1 h1
   exact ⟨hr, hne⟩
 refine ⟨by rw [List.map_append]; exact ho, fun s hs => (all s hs).1.kept hg ?_, fun s hs g hgb e => ?_⟩
 ·cases hb : s.1.ownBlock with
  | none => exact .inl rfl
  | some g => exact .inr (fun e => (all s hs).2 g hb e.symm)
 ·rcases hv with h1 | h1
  ·rw [h1] at e
   exact (all s hs).2 g hgb e
  ·have := h1 g e
   have := ((all s hs).1.own g hgb).2
   omega
theorem Rws.sls {B : Nat} {w : World} {v : Value} {L : List (Value × List Int)} (h : Rws B w v L) : ∃ ao cap, v = .slice ao L.length cap /\ L.length <= cap /\ cap <= maxLen /\ Sls w ao (L.map (·.2)) := by
 obtain ⟨ao, cap, e, h1, h2⟩ := h.own.form
 rw [List.length_map] at e h1
 refine ⟨ao, cap, e, h1, h2, fun i hi => ?_⟩
 have hi' : i < L.length := by simpa using hi
 obtain ⟨g, c, e2, hg, hcell⟩ := h.own.cell (i := i) (by simpa using hi')
 rw [e] at e2
 simp only [Value.slice.injEq] at e2
 obtain ⟨rfl, _, _⟩ := e2
 refine ⟨g, 0, (L[i]'hi').1, rfl, hg, ?_, ?_⟩
 ·rw [Nat.zero_add, hcell]
  simp [hi']
 ·have := (h.ok _ (List.getElem_mem hi')).sl
  simpa [hi'] using this
theorem rows_one {W : World} {rv : Value} : ∀ j u, ([rv])[j]? = some u -> (W.alloc (.cells #[rv] 22)).cell? ((⟨W.heap.size, 0, none⟩ : Addr).add j) = some u := by
 intro j u hu
 cases j with
 | zero =>
   simp at hu
   subst hu
   have e : (⟨W.heap.size, 0, none⟩ : Addr).add 0 = ⟨W.heap.size, 0, none⟩ := by simp [Addr.add]
   rw [e, cell_of_row _ W.heap.size 0 _ _ (0, 0) (heap_alloc_new W _)]
   rfl
 | succ j => simp at hu
def RetR (w : World) (rows : List (List Int)) (e : Ending) (w' : World) : Prop := Below w.heap.size w w' /\ ∃ v L, e = .returned v /\ Rws w.heap.size w' v L /\ L.map (·.2) = rows
def cutR (rows : List (List Int)) (most : Nat) : List (List Int) := (rows.take most).map (·.take most)
theorem map_take_next' {α β : Type} {f : α -> β} {xs : List α} {i : Nat} {d : α} (h : i < xs.length) : (xs.take (i + 1)).map f = (xs.take i).map f ++ [f (xs[i]?.getD d)] := by
 rw [List.take_add_one, List.map_append, List.getElem?_eq_getElem h]
 rfl
def EcRet (s : FFld.ESt) (w : World) (e : Ending) (w' : World) : Prop := Below w.heap.size w w' /\ ∃ G, e = .returned (.tuple #[.slice (some ⟨G, 0, none⟩) s.cols.length s.cols.length, .int .i64 0]) /\ Sls w' (some ⟨G, 0, none⟩) ((s.A.take s.cols.length).map ints)
def SlRet (D : FFld.FD) (s : FFld.ESt) (bl : List Nat) (wd n : Nat) (w : World) (e : Ending) (w' : World) : Prop := Below w.heap.size w w' /\
 ((∃ i, s.cols.length <= i /\ i < n /\ sopV D s bl i ≠ 0 /\ e = .returned (.tuple #[.slice none 0 0, .int .i64 4])) \/
  ((∀ j, s.cols.length <= j -> j < n -> sopV D s bl j = 0) /\ ∃ vx, e = .returned (.tuple #[vx, .int .i64 0]) /\ Sl .i64 w' vx (ints (solF D s bl wd s.cols.length))))
end Go.Proofs.YtdnheaafcbihbaaGreat
namespace Go.Proofs.YtdnheaafcbihbaaGreat
namespace FFld
theorem take_off {D : FD} (h : PK D.p D.k D.m) {t y : Nat} (ht : t < D.p ^ D.k) (hy : y < D.p ^ D.k) : pscl D.p D.k (D.p - 1) (pmul D.p D.k D.m t D.k y) = pmul D.p D.k D.m y D.k (negF D t) := by
 unfold negF
 rw [pmul_comm h _ _ hy (pscl_lt h _ _), pmul_scl h]
end FFld
open Go Go.RowKit Go.Deep
open FFld (ints)
def DisR (L : List (Value × List Int)) : Prop := ∀ (i j g : Nat), L[i]?.bind (fun r => r.1.ownBlock) = some g -> L[j]?.bind (fun r => r.1.ownBlock) = some g -> i = j
structure Mat (B : Nat) (w : World) (G n wd : Nat) (H C : Nat -> Nat) (A : List (List Nat)) : Prop where
 len : A.length = n
 hdr : ∃ cur, w.heap[G]? = some (.cells cur 22 (0, 0)) /\ ∀ i, i < n -> cur[i]? = some (.slice (some ⟨H i, 0, none⟩) wd (C i))
 row : ∀ i, i < n -> Wv w (H i) (FFld.rowAt A i)
 wid : ∀ i, i < n -> (FFld.rowAt A i).length = wd
 cap : ∀ i, i < n -> wd <= C i /\ C i <= maxLen
 low : ∀ i, i < n -> B <= H i /\ H i ≠ G
 dis : ∀ i j, i < n -> j < n -> H i = H j -> i = j
 gB : B <= G
section
variable {B : Nat} {w w' : World} {G n wd : Nat} {H C : Nat -> Nat} {A : List (List Nat)}
def swapN (i j k : Nat) : Nat := if k = j then i else if k = i then j else k
end
def hdB (v : Value) : Nat := v.ownBlock.getD 0
def hdC : Value -> Nat | .slice _ _ c => c | _ => 0
def valAt (L : List (Value × List Int)) (i : Nat) : Value := (L[i]?.getD (.slice none 0 0, [])).1
end Go.Proofs.YtdnheaafcbihbaaGreat
namespace Go.Proofs.YtdnheaafcbihbaaGreat
open Go Go.RowKit Go.Deep
open FFld (ints)
def tamE (D : FFld.FD) (r : List Int) (c : Nat) : Nat := if c < r.length then redN D (r[c]?.getD 0) else 0
def tamR (D : FFld.FD) (r : List Int) (wd : Nat) : List Nat := (List.range wd).map (tamE D r)
def tamM (D : FFld.FD) (rows : List (List Int)) (most : Nat) : List (List Nat) := (rows.take most).map fun r => tamR D r (min (rlen rows 0) most)
end Go.Proofs.YtdnheaafcbihbaaGreat
namespace Go.Proofs.YtdnheaafcbihbaaGreat
open Go Go.RowKit
open FFld (ints)
abbrev rzero : Value := .agg #[.int .i64 0, .int .i64 0, .int .i64 0, .int .i64 0]
abbrev rzbox : Obj := .cells #[.int .i64 0, .int .i64 0, .int .i64 0, .int .i64 0] 47
def RnRet (q : Int) (w : World) (e : Ending) (w' : World) : Prop := Below w.heap.size w w' /\ ((∃ D : FFld.FD, D.Ok /\ q = D.q /\ e = .returned (.tuple #[rfv D.q D.p D.k D.m, .bool true])) \/ (¬ FFld.Fit q /\ e = .returned (.tuple #[rzero, .bool false])))
end Go.Proofs.YtdnheaafcbihbaaGreat
namespace Go.Proofs.YtdnheaafcbihbaaGreat
open Go Go.RowKit Go.Deep
open FFld (ints)
def SoRet (most : Int) (w : World) (e : Ending) (w' : World) : Prop := Below w.heap.size w w' /\ ∃ (D : FFld.FD) (b : Nat), D.Ok /\ ((D.q : Int) <= most \/ D.q <= 27) /\ w.heap.size <= b /\ FldB D w' b /\ e = .returned (.tuple #[.pointer (some ⟨b, 0, none⟩), rfv D.q D.p D.k D.m])
def smL : List Nat := [2, 3, 4, 5, 7, 8, 9, 11, 13, 16, 25, 27]
theorem Row.grown {E : TypeId} {K : IntKind} {w w' : World} {g k : Nat} {xs : List Int} (h : Row E K w g xs) (hg : w.grownBy w' (some k)) (hne : g ≠ k) : Row E K w' g xs := (hg.block _ h.lt (by simpa using hne)).trans h

end Go.Proofs.YtdnheaafcbihbaaGreat
namespace Go.Proofs.YtdnheaafcbihbaaGreat
open Go Go.RowKit Go.Deep
open FFld (ints)
namespace FFld
theorem addmF_at {D : FD} (xs : List Nat) (s : Nat) (q : List Nat) (c : Nat) : ∀ (j i : Nat), i < j -> s + j <= xs.length -> (addmF D xs s q c j)[s + i]?.getD 0 = padd D.p D.k (xs[s + i]?.getD 0) (pmul D.p D.k D.m (q[i]?.getD 0) D.k c)
 | 0, i, h, _ => by omega
 | j + 1, i, h, hl => by
   simp only [addmF]
   by_cases e : i = j
   ·subst e
    rw [List.getElem?_set_self (by rw [addmF_len]; omega), addmF_old D xs s q c i (s + i) (.inr (Nat.le_refl _))]
    rfl
   ·rw [List.getElem?_set_ne (by omega)]
    exact addmF_at xs s q c j i (by omega) (by omega)
end FFld
def totF (D : FFld.FD) (rows : List (List Nat)) (ul : List Nat) (wd : Nat) : Nat -> List Nat
 | 0 => List.replicate wd 0
 | i + 1 => FFld.addm D (totF D rows ul wd i) 0 (FFld.rowAt rows i) (ul[i]?.getD 0)
def colS (D : FFld.FD) (rows : List (List Nat)) (ul : List Nat) (c : Nat) : Nat -> Nat
 | 0 => 0
 | i + 1 => FFld.padd D.p D.k (colS D rows ul c i) (FFld.pmul D.p D.k D.m (ul[i]?.getD 0) D.k (FFld.cellAt rows i c))
def dnB (D : FFld.FD) (rows : List (List Nat)) (ul bl : List Nat) (wd n : Nat) : Bool := decide ((∀ c, c < wd -> colS D rows ul c n = 0) /\ sopF D ul bl n ≠ 0)
end Go.Proofs.YtdnheaafcbihbaaGreat
namespace Go.Proofs.YtdnheaafcbihbaaGreat
namespace FFld
section
variable {D : FD} (hk : PK D.p D.k D.m)
include hk
theorem mul_swap {a b c : Nat} (ha : a < D.p ^ D.k) (hb : b < D.p ^ D.k) (hc : c < D.p ^ D.k) : pmul D.p D.k D.m (pmul D.p D.k D.m a D.k c) D.k b = pmul D.p D.k D.m (pmul D.p D.k D.m a D.k b) D.k c := by
 rw [pmul_assoc hk _ _ _ ha hc hb, pmul_comm hk _ _ hc hb, <- pmul_assoc hk _ _ _ ha hb hc]
def Trk (D : FD) (N n c : Nat) (bl : List Nat) (A R : List (List Nat)) : Prop := ∀ i, i < N -> cellAt A i c = sopF D (rowAt R i) bl n
end
section
variable {D : FD} {N n W c : Nat} {bl : List Nat} {A R : List (List Nat)}
end
end FFld
end Go.Proofs.YtdnheaafcbihbaaGreat
