import Derived.Test.YtalahdkhglagpaaGreatDoorDkg
set_option linter.unusedVariables false
set_option linter.unusedSimpArgs false
namespace Go.Proofs.YtalahdkhglagpaaGreatDoor
open Go Go.RowKit Go.Deep
open Dsg Dqr
abbrev rbx (a b c d e : Int) : Obj := .cells #[.int .i64 a, .int .i64 b, .int .i64 c, .int .i64 d, .int .i64 e] 29
theorem Mtx.grow {v G j : Nat} {w0 W : World} (h : Mtx v G w0 j (fun _ => List.replicate v 0) W) (hs : W.heap.size = G + 1 + j) (hj : j < v) :
    Mtx v G w0 (j + 1) (fun _ => List.replicate v 0) ((W.alloc (.cells (madeCells #[.int .i64 0] v) 3)).setCell ⟨G, j, none⟩ (.slice (some ⟨W.heap.size, 0, none⟩) v v)) ∧ ((W.alloc (.cells (madeCells #[.int .i64 0] v) 3)).setCell ⟨G, j, none⟩ (.slice (some ⟨W.heap.size, 0, none⟩) v v)).heap.size = G + 1 + (j + 1) := by
  have hz := Row.zeros W v
  rw [hs] at hz ⊢
  refine ⟨⟨?_, fun i hi => ?_, ?_, h.out, by simp [World.setCell, hs]; omega⟩, by simp [World.setCell, hs]; omega⟩
  · have h1 := (h.row.grown (World.grownBy_alloc W (.cells (madeCells #[.int .i64 0] v) 3) none) (by simp)).set (i := j) (.slice (some ⟨G + 1 + j, 0, none⟩) v v)
    unfold Vrow at h1 ⊢
    rw [h1]
    congr 1
    apply congrArg (fun a => Obj.cells a 40 (0, 0))
    apply congrArg
    refine List.map_congr_left (fun i _ => ?_)
    by_cases e : i = j
    · subst e; rw [if_pos rfl, if_pos (by omega)]
    · rw [if_neg e]
      by_cases e2 : i < j
      · rw [if_pos e2, if_pos (by omega)]
      · rw [if_neg e2, if_neg (by omega)]
  · by_cases e : i = j
    · subst e
      exact hz.setOther _ (by show G ≠ G + 1 + i; omega)
    · exact ((h.rows i (by omega)).alloc _).setOther _ (by show G ≠ G + 1 + i; omega)
  · exact (h.bel.alloc h.bel.size _).setCell (p := ⟨G, j, none⟩) h.out _
set_option maxRecDepth 20000 in
set_option maxHeartbeats 16000000 in
theorem rcheck_any (v : Int) (ao : Option Addr) (rows : List (List Int)) (cap : Nat) (w : World) (h : Sls w ao rows) (hcap : rows.length ≤ cap) (hmax : cap ≤ maxLen) :
    Calls Tryz.prog 6 #[.int .i64 v, .slice ao rows.length cap] w (RB w (.tuple #[ckV v rows, .int .i64 (ckE v rows : Nat)])) := by
  have HSL := Kept.mk h
  obtain ⟨n, hN⟩ : ∃ n, rows.length = n := ⟨_, rfl⟩
  rw [hN] at hcap ⊢
  have HN := Kept.mk hN
  unfold maxLen at hmax
  have HX0 : Kept (Bxs w [rbx 0 0 0 0 0] (w.alloc (rbx 0 0 0 0 0))) := ⟨(Bxs.start w).alloc (by simp) _⟩
  obtain ⟨⟨c0, c1, c2, c3, c4⟩, f⟩ := five_cells HX0.out.b0
  have f0 := f 0; have f1 := f 1; have f2 := f 2; have f3 := f 3; have f4 := f 4
  have HERR : Kept (∀ (e : Nat), ckE v rows = e → e ≠ 0 → RB w (.tuple #[ckV v rows, .int .i64 (ckE v rows : Nat)]) (.returned (.tuple #[prv 0 0 0 0 0, .int .i64 e])) (w.alloc (rbx 0 0 0 0 0))) := ⟨fun e he h0 => ⟨HX0.out.1, by rw [he]; unfold ckV; rw [if_neg (by rw [he]; exact h0)]⟩⟩
  clear f h hN
  by_cases h1 : v < 3
  · have e1 : decide (v < 3) = true := decide_eq_true h1
    have HF := Kept.mk (HERR.out 1 (by unfold ckE; rw [if_pos (by omega)]) (by omega))
    go_enter Tryz.func6, Tryz.ntmps6
    go_wp2
    exact bodyPost_ret (v := .tuple #[prv 0 0 0 0 0, .int .i64 1]) (by simp [results, Tryz.results6, go_sem, c0, c1, c2, c3, c4]) rfl HF.out
  have e1 : decide (v < 3) = false := decide_eq_false h1
  by_cases h2 : v > 200
  · have e2 : decide (v > 200) = true := decide_eq_true h2
    have HF := Kept.mk (HERR.out 1 (by unfold ckE; rw [if_pos (by omega)]) (by omega))
    go_enter Tryz.func6, Tryz.ntmps6
    go_wp2
    exact bodyPost_ret (v := .tuple #[prv 0 0 0 0 0, .int .i64 1]) (by simp [results, Tryz.results6, go_sem, c0, c1, c2, c3, c4]) rfl HF.out
  have e2 : decide (v > 200) = false := decide_eq_false h2
  by_cases h3 : (n : Int) > 2000
  · have e3 : decide ((n : Int) > 2000) = true := decide_eq_true h3
    have HF := Kept.mk (HERR.out 2 (by unfold ckE; rw [if_neg (by omega), if_pos (by rw [HN.out]; omega)]) (by omega))
    go_enter Tryz.func6, Tryz.ntmps6
    go_wp2
    exact bodyPost_ret (v := .tuple #[prv 0 0 0 0 0, .int .i64 2]) (by simp [results, Tryz.results6, go_sem, c0, c1, c2, c3, c4]) rfl HF.out
  have e3 : decide ((n : Int) > 2000) = false := decide_eq_false h3
  obtain ⟨u, rfl⟩ : ∃ u : Nat, v = u := ⟨v.toNat, by omega⟩
  have hn2 : n ≤ 2000 := by omega
  have hu3 : 3 ≤ u := by omega
  have hu2 : u ≤ 200 := by omega
  have H60 : Kept (abB u rows = false → ckE u rows = 60) := ⟨fun hab => by unfold ckE; rw [if_neg (by omega), if_neg (by rw [HN.out]; omega), if_neg (by rw [hab]; simp)]⟩
  by_cases h4 : n = 0
  · subst h4
    have e4 : (((0 : Nat) : Int) == 0) = true := rfl
    have HF := Kept.mk (HERR.out 60 (H60.out (by unfold abB; rw [List.eq_nil_of_length_eq_zero HN.out]; rfl)) (by omega))
    go_enter Tryz.func6, Tryz.ntmps6
    go_wp2
    exact bodyPost_ret (v := .tuple #[prv 0 0 0 0 0, .int .i64 60]) (by simp [results, Tryz.results6, go_sem, c0, c1, c2, c3, c4]) rfl HF.out
  have e4 : ((n : Int) == 0) = false := by simp; omega
  have hn0 : 0 < n := by omega
  obtain ⟨k, hk⟩ : ∃ k, (rows[0]?.getD []).length = k := ⟨_, rfl⟩
  have HK := Kept.mk hk
  obtain ⟨g, o, rv0, rfl, hg, hc0, hs0⟩ := HSL.out 0 (by rw [HN.out]; omega)
  obtain ⟨ra0, rc0, rfl, _, _⟩ := hs0.form
  rw [hk, Nat.add_zero] at hc0
  have HG := Kept.mk hg
  have q0 := (HX0.out.1.cell (p := ⟨g, o, none⟩) hg).trans hc0
  clear hs0 hk hc0
  by_cases h5 : k < 2
  · have e5 : decide ((k : Int) < 2) = true := decide_eq_true (by omega)
    have HF := Kept.mk (HERR.out 60 (H60.out (Bool.eq_false_iff.2 fun hb => by have := (abB_iff.1 hb).2.2.1; rw [HK.out] at this; omega)) (by omega))
    go_enter Tryz.func6, Tryz.ntmps6
    go_wp2
    exact bodyPost_ret (v := .tuple #[prv 0 0 0 0 0, .int .i64 60]) (by simp [results, Tryz.results6, go_sem, c0, c1, c2, c3, c4]) rfl HF.out
  have e5 : decide ((k : Int) < 2) = false := decide_eq_false (by omega)
  by_cases h6 : k ≥ u
  · have e6 : decide ((k : Int) ≥ (u : Int)) = true := decide_eq_true (by omega)
    have HF := Kept.mk (HERR.out 60 (H60.out (Bool.eq_false_iff.2 fun hb => by have := (abB_iff.1 hb).2.2.2; rw [HK.out] at this; omega)) (by omega))
    go_enter Tryz.func6, Tryz.ntmps6
    go_wp2
    exact bodyPost_ret (v := .tuple #[prv 0 0 0 0 0, .int .i64 60]) (by simp [results, Tryz.results6, go_sem, c0, c1, c2, c3, c4]) rfl HF.out
  have e6 : decide ((k : Int) ≥ (u : Int)) = false := decide_eq_false (by omega)
  obtain ⟨W0, hW0⟩ : ∃ W, w.alloc (rbx 0 0 0 0 0) = W := ⟨_, rfl⟩
  rw [hW0] at HX0 HERR q0 c0 c1 c2 c3 c4 f0 f1 f2 f3 f4
  have hmk := run_make_row' (P := Tryz.prog) 22 40 (.slice none 0 0) 24 Tryz.underlying22 info_rows rfl .i64 .i64 u (by omega) (by omega)
  have hmk2 := run_make_row' (P := Tryz.prog) 40 3 (.int .i64 0) 8 Tryz.underlying40 info_i64 rfl .i64 .i64 u (by omega) (by omega)
  obtain ⟨G, hG⟩ : ∃ G, W0.heap.size = G := ⟨_, rfl⟩
  have HM0 : Kept (Mtx u G W0 0 (fun _ => List.replicate u 0) (W0.alloc (.cells (madeCells #[.slice none 0 0] u) 40)) ∧ (W0.alloc (.cells (madeCells #[.slice none 0 0] u) 40)).heap.size = G + 1 + 0) := ⟨⟨⟨by have := Vrow.new W0 u; rw [hG] at this; simpa using this, fun i hi => absurd hi (Nat.not_lt_zero _), (Below.refl _ _).alloc (Nat.le_refl _) _, by omega, by simp; omega⟩, by simp; omega⟩⟩
  have HG2 := Kept.mk hG
  clear f0 f1 f2 f3 f4 c0 c1 c2 c3 c4 HERR
  go_enter Tryz.func6, Tryz.ntmps6
  go_wp2
  go_loopw [8] (fun iv wr => ∃ j : Nat, j ≤ u ∧ iv = .int .i64 j ∧ Kept (Mtx u G W0 j (fun _ => List.replicate u 0) wr ∧ wr.heap.size = G + 1 + j)) (fun iv _ => u - (intOf iv).toNat)
  case atStart => exact ⟨0, Nat.zero_le _, rfl, HM0⟩
  case round =>
    obtain ⟨j, hju, rfl, hmx⟩ := hrel
    by_cases hlj : j < u
    · have HMG := Kept.mk (hmx.out.1.grow hmx.out.2 hlj)
      have m0 := (hmx.out.1.row.grown (World.grownBy_alloc wr (.cells (madeCells #[.int .i64 0] u) 3) none) (by simp)).cell hlj
      have m1 := (hmx.out.1.row.grown (World.grownBy_alloc wr (.cells (madeCells #[.int .i64 0] u) 3) none) (by simp)).free j
      rw [if_neg (Nat.lt_irrefl j)] at m0
      have hlj' : (j : Int) < (u : Int) := by omega
      go_wp2
      go_roundw
      case rel => exact ⟨j + 1, by omega, by go_num, HMG⟩
      case measure => simp [intOf] <;> omega
    · obtain rfl : j = u := by omega
      have HMX : Kept (Mtx j G W0 j (cnr j (rP j rows 0 0 0)) wr) := ⟨hmx.out.1.congr (fun i _ => by rw [rP_zero, cnr_nil])⟩
      clear hmx hmk hmk2 HM0
      go_wp2
      go_loopw [9] (fun iv wr => ∃ r : Nat, r ≤ n ∧ iv = .int .i64 r ∧ Kept (Mtx j G W0 j (cnr j (rP j rows r 0 0)) wr) ∧ Kept (∀ t, t < r → (rows[t]?.getD []).length = k ∧ rsB j (rows[t]?.getD []) = true)) (fun iv _ => n - (intOf iv).toNat)
      case atStart => exact ⟨0, Nat.zero_le _, rfl, HMX, ⟨fun t ht => absurd ht (Nat.not_lt_zero _)⟩⟩
      case round =>
        obtain ⟨r, hrn, rfl, hmx, hgood⟩ := hrel
        by_cases hlr : r < n
        · obtain ⟨g', o', rv, eao, hg', hcell, hs⟩ := HSL.out r (by rw [HN.out]; exact hlr)
          obtain ⟨rfl, rfl⟩ : g = g' ∧ o = o' := by
            simp only [Option.some.injEq, Addr.mk.injEq, and_true] at eao
            exact eao
          have hbw : Below w.heap.size w wr := HX0.out.1.trans (hmx.out.bel.mono HX0.out.1.size)
          have rc := (hbw.cell (p := ⟨g, o + r, none⟩) hg').trans hcell
          obtain ⟨xs, hxs⟩ : ∃ xs, rows[r]?.getD [] = xs := ⟨_, rfl⟩
          have HXM : Kept (xs ∈ rows) := ⟨by rw [← hxs]; exact row_mem (by rw [HN.out]; exact hlr)⟩
          rw [hxs] at hs
          have HXS := Kept.mk hxs
          have HRI := Kept.mk (rrising_any j _ xs wr (hs.below hbw))
          obtain ⟨ra, rcp, rfl, hrc1, hrc2⟩ := hs.form
          obtain ⟨m, hm⟩ : ∃ m, xs.length = m := ⟨_, rfl⟩
          rw [hm] at rc hs HRI hcell
          have RCV := Kept.mk hcell
          have HS := Kept.mk hs
          have HM := Kept.mk hm
          clear hcell hs hrc1 hrc2 hxs eao hm
          by_cases hmk' : m = k
          rotate_left
          · have e7 : ((m : Int) != (k : Int)) = true := by rw [bne_iff_ne]; omega
            have HZ := Kept.mk (H60.out (Bool.eq_false_iff.2 fun hb => by have := ((abB_iff.1 hb).2.1 xs HXM.out).1; rw [HM.out, HK.out] at this; omega))
            have hg2 := (hmx.out.bel.block _ HX0.out.l1).trans HX0.out.b0
            obtain ⟨⟨d0, d1, d2, d3, d4⟩, f⟩ := five_cells hg2
            have g0 := f 0; have g1 := f 1; have g2 := f 2; have g3 := f 3; have g4 := f 4
            have hset := five_set hg2 (.int .i64 0) (.int .i64 0) (.int .i64 0) (.int .i64 0) (.int .i64 0)
            obtain ⟨⟨s0, s1, s2, s3, s4⟩, _⟩ := five_cells hset
            have hbe : Below w.heap.size w wr := HX0.out.1.trans (hmx.out.bel.mono HX0.out.1.size)
            have HBE := Kept.mk (((((hbe.setCell (p := ⟨w.heap.size, 0, none⟩) (Nat.le_refl _) (.int .i64 0)).setCell (p := ⟨w.heap.size, 1, none⟩) (Nat.le_refl _) (.int .i64 0)).setCell (p := ⟨w.heap.size, 2, none⟩) (Nat.le_refl _) (.int .i64 0)).setCell (p := ⟨w.heap.size, 3, none⟩) (Nat.le_refl _) (.int .i64 0)).setCell (p := ⟨w.heap.size, 4, none⟩) (Nat.le_refl _) (.int .i64 0))
            clear f hset hg2 hbe
            go_wp2
            exact bodyPost_ret (v := .tuple #[prv 0 0 0 0 0, .int .i64 60]) (by simp [results, Tryz.results6, go_sem, s0, s1, s2, s3, s4]) rfl ⟨HBE.out, by rw [HZ.out]; unfold ckV; rw [if_neg (by rw [HZ.out]; omega)]; rfl⟩
          subst hmk'
          have e7 : ((m : Int) != (m : Int)) = false := by simp
          cases hrs : rsB j xs with
          | false =>
            have HZ := Kept.mk (H60.out (Bool.eq_false_iff.2 fun hb => by have := ((abB_iff.1 hb).2.1 xs HXM.out).2; rw [hrs] at this; cases this))
            rw [hrs] at HRI
            clear hrs
            go_wp2_with fail
            refine HRI.out.mono ?_
            rintro e w2 ⟨hb2, rfl⟩
            have hmx2 := hmx.out.below hb2
            have hg2 := (hmx2.bel.block _ HX0.out.l1).trans HX0.out.b0
            obtain ⟨⟨d0, d1, d2, d3, d4⟩, f⟩ := five_cells hg2
            have g0 := f 0; have g1 := f 1; have g2 := f 2; have g3 := f 3; have g4 := f 4
            have hset := five_set hg2 (.int .i64 0) (.int .i64 0) (.int .i64 0) (.int .i64 0) (.int .i64 0)
            obtain ⟨⟨s0, s1, s2, s3, s4⟩, _⟩ := five_cells hset
            have hbe : Below w.heap.size w w2 := HX0.out.1.trans (hmx2.bel.mono HX0.out.1.size)
            have HBE := Kept.mk (((((hbe.setCell (p := ⟨w.heap.size, 0, none⟩) (Nat.le_refl _) (.int .i64 0)).setCell (p := ⟨w.heap.size, 1, none⟩) (Nat.le_refl _) (.int .i64 0)).setCell (p := ⟨w.heap.size, 2, none⟩) (Nat.le_refl _) (.int .i64 0)).setCell (p := ⟨w.heap.size, 3, none⟩) (Nat.le_refl _) (.int .i64 0)).setCell (p := ⟨w.heap.size, 4, none⟩) (Nat.le_refl _) (.int .i64 0))
            clear f hset hg2 hbe
            go_wp2
            exact bodyPost_ret (v := .tuple #[prv 0 0 0 0 0, .int .i64 60]) (by simp [results, Tryz.results6, go_sem, s0, s1, s2, s3, s4]) rfl ⟨HBE.out, by rw [HZ.out]; unfold ckV; rw [if_neg (by rw [HZ.out]; omega)]; rfl⟩
          | true =>
            have HRS := Kept.mk hrs
            rw [hrs] at HRI
            have HXR := Kept.mk (rsB_iff.1 hrs)
            clear hrs
            go_wp2_with fail
            refine HRI.out.mono ?_
            rintro e w2 ⟨hb2, rfl⟩
            have HMX2 := Kept.mk (hmx.out.below hb2)
            clear hb2 hmx rc hbw HRI
            go_wp2
            go_loopw [10] (fun iv wr => ∃ i : Nat, i ≤ m ∧ iv = .int .i64 i ∧ Kept (Mtx j G W0 j (cnr j (rP j rows r i 0)) wr)) (fun iv _ => m - (intOf iv).toNat)
            case atStart => exact ⟨0, Nat.zero_le _, rfl, HMX2⟩
            case round =>
              obtain ⟨i, him, rfl, hmi⟩ := hrel
              by_cases hli : i < m
              · go_wp2
                go_loopw [11] (fun iv wr => ∃ q : Nat, q ≤ i ∧ iv = .int .i64 q ∧ Kept (Mtx j G W0 j (cnr j (rP j rows r i q)) wr)) (fun iv _ => i - (intOf iv).toNat)
                case atStart => exact ⟨0, Nat.zero_le _, rfl, hmi⟩
                case round =>
                  obtain ⟨q, hqi, rfl, hmq⟩ := hrel
                  by_cases hlq : q < i
                  · have hbw : Below w.heap.size w wr := HX0.out.1.trans (hmq.out.bel.mono HX0.out.1.size)
                    obtain ⟨g2, o2, rfl, hg2, hcl⟩ : ∃ g2 o2, ra = some ⟨g2, o2, none⟩ ∧ g2 < w.heap.size ∧ ∀ t, t < m → w.cell? ⟨g2, o2 + t, none⟩ = some (.int .i64 (xs[t]?.getD 0)) := by
                      obtain ⟨ao', c', e, _, _, hx⟩ := HS.out
                      simp only [Value.slice.injEq] at e
                      obtain ⟨b', o', e2, h1, _⟩ := hx 0 (by rw [HM.out]; omega)
                      refine ⟨b', o', by rw [e.1, e2], h1, fun t ht => ?_⟩
                      obtain ⟨b'', o'', e3, _, h2⟩ := hx t (by rw [HM.out]; exact ht)
                      rw [e2] at e3
                      simp only [Option.some.injEq, Addr.mk.injEq, and_true] at e3
                      obtain ⟨rfl, rfl⟩ := e3
                      exact h2
                    have rc := (hbw.cell (p := ⟨g, o + r, none⟩) HG.out).trans RCV.out
                    have ic := (hbw.cell (p := ⟨g2, o2 + q, none⟩) hg2).trans (hcl q (by omega))
                    have jc := (hbw.cell (p := ⟨g2, o2 + i, none⟩) hg2).trans (hcl i hli)
                    have hqx := HXR.out.2 _ (get_mem' (xs := xs) (i := q) (by rw [HM.out]; omega))
                    have hix := HXR.out.2 _ (get_mem' (xs := xs) (i := i) (by rw [HM.out]; exact hli))
                    obtain ⟨x, hx⟩ : ∃ x : Nat, xs[q]?.getD 0 = x := ⟨(xs[q]?.getD 0).toNat, by omega⟩
                    obtain ⟨y, hy⟩ : ∃ y : Nat, xs[i]?.getD 0 = y := ⟨(xs[i]?.getD 0).toNat, by omega⟩
                    have hin := rP_in (v := j) (rows := rows) (r := r) (i := i) (j := q) HXS.out (by rw [HM.out]; omega)
                    rw [hx] at ic hqx hin
                    rw [hy] at jc hix hin
                    have hxj : x < j := by omega
                    have hyj : y < j := by omega
                    have hixe : ix j (x : Int) (y : Int) = x * j + y := by
                      have := ix_int (v := j) (x := (x : Int)) (y := (y : Int)) (by omega) (by omega)
                      rw [← Int.natCast_mul] at this
                      omega
                    rw [hixe] at hin
                    obtain ⟨c, hcc⟩ : ∃ c, (rP j rows r i q).count (x * j + y) = c := ⟨_, rfl⟩
                    have hcb : c ≤ 90000000 := by
                      rw [← hcc]
                      refine Nat.le_trans List.count_le_length (Nat.le_trans (rP_len r i q (fun t ht => ?_) (by rw [HN.out]; exact hlr) (by omega) (by omega)) (by omega))
                      by_cases e : t = r
                      · subst e; rw [HXS.out, HM.out]; omega
                      · have := (hgood.out t (by omega)).1; omega
                    have HNX : Kept (∀ z, cnr j (rP j rows r i (q + 1)) z = if z = x then (cnr j (rP j rows r i q) x).set y ((c : Int) + 1) else cnr j (rP j rows r i q) z) := ⟨fun z => by rw [hin, cnr_succ _ hyj, hcc]⟩
                    have HCV : Kept ((cnr j (rP j rows r i q) x)[y]?.getD 0 = (c : Int)) := ⟨by rw [cnr_get _ _ hyj, hcc]⟩
                    clear hcl hqx hix hx hy hin hixe hcc hbw
                    go_wp2
                    go_quiet (fail)
                    generalize hWd : World.drewN wr _ = wd
                    have HMD : Kept (Mtx j G W0 j (cnr j (rP j rows r i q)) wd) := ⟨by rw [← hWd]; exact hmq.out.below (below_drewN (Below.refl _ _) _)⟩
                    have m0 := HMD.out.row.cell hxj
                    rw [if_pos hxj] at m0
                    have m1 := (HMD.out.rows x hxj).cell (i := y) (by rw [cnr_len]; exact hyj)
                    rw [HCV.out] at m1
                    have m2 := (HMD.out.rows x hxj).free y
                    have hxj' : (x : Int) < (j : Int) := by omega
                    have hyj' : (y : Int) < (j : Int) := by omega
                    have wc : IntKind.i64.wrap ((c : Int) + 1) = (c : Int) + 1 := wrapB (by omega) (by omega)
                    have HMS : Kept (Mtx j G W0 j (cnr j (rP j rows r i (q + 1))) (wd.setCell ⟨G + 1 + x, y, none⟩ (.int .i64 ((c : Int) + 1)))) := ⟨(HMD.out.set hxj y ((c : Int) + 1)).congr (fun z _ => (HNX.out z).symm)⟩
                    clear hWd ic jc rc hmq
                    go_wp2
                    go_roundw
                    case rel => exact ⟨q + 1, by omega, by go_num, HMS⟩
                    case measure => simp [intOf] <;> omega
                  · obtain rfl : q = i := by omega
                    have HME : Kept (Mtx j G W0 j (cnr j (rP j rows r (q + 1) 0)) wr) := ⟨by rw [← rP_mid]; exact hmq.out⟩
                    go_wp2
                    go_roundw
                    case rel => exact ⟨q + 1, by omega, by go_num, HME⟩
                    case measure => simp [intOf] <;> omega
              · obtain rfl : i = m := by omega
                have HME : Kept (Mtx j G W0 j (cnr j (rP j rows (r + 1) 0 0)) wr) := ⟨by rw [← rP_out (by rw [HN.out]; exact hlr) HXS.out, HM.out]; exact hmi.out⟩
                have HGD : Kept (∀ t, t < r + 1 → (rows[t]?.getD []).length = i ∧ rsB j (rows[t]?.getD []) = true) := ⟨fun t ht => by
                  by_cases e : t = r
                  · subst e; rw [HXS.out]; exact ⟨HM.out, HRS.out⟩
                  · exact hgood.out t (by omega)⟩
                go_wp2
                go_roundw
                case rel => exact ⟨r + 1, by omega, by go_num, HME, HGD⟩
                case measure => simp [intOf] <;> omega
        · obtain rfl : r = n := by omega
          have hrow : ∀ t ∈ rows, t.length = k ∧ rsB j t = true := fun t ht => by
            obtain ⟨i, hi, e⟩ := List.getElem_of_mem ht
            have := hgood.out i (by rw [← HN.out]; exact hi)
            rw [List.getElem?_eq_getElem hi, Option.getD_some, e] at this
            exact this
          have hab : abB j rows = true := abB_iff.2 ⟨fun e => by rw [e] at HN; have := HN.out; simp at this; omega, fun t ht => by rw [HK.out]; exact hrow t ht, by rw [HK.out]; omega, by rw [HK.out]; omega⟩
          have HROW := Kept.mk hrow
          obtain ⟨T, hT⟩ : ∃ T, rP j rows r 0 0 = T := ⟨_, rfl⟩
          have HT : Kept (∀ t, T.count t = (tgL j rows).count t) := ⟨fun t => by rw [← hT, ← HN.out]; exact rP_end j rows t⟩
          rw [hT] at hmx
          obtain ⟨c, hcc⟩ : ∃ c, (tgL j rows).count 1 = c := ⟨_, rfl⟩
          have HCE : Kept (∀ l, tgF j rows = l → ckE j rows = if l = 0 then 60 else 0) := ⟨fun l hl => by
            unfold ckE
            rw [if_neg (by omega), if_neg (by rw [HN.out]; omega), if_pos hab, show ((j : Nat) : Int).toNat = j from rfl, hl]⟩
          have HT2 : Kept ((∀ a b : Nat, a < b → b < j → T.count (a * j + b) = c) → tgF j rows = c) := ⟨fun hall => by
            rw [tgF, if_pos (fun a b h1 h2 => by rw [hcc, ← HT.out]; exact hall a b h1 h2), hcc]⟩
          have HT3 : Kept ((¬ ∀ a b : Nat, a < b → b < j → T.count (a * j + b) = c) → tgF j rows = 0) := ⟨fun hall => by
            rw [tgF, if_neg (fun h => hall (fun a b h1 h2 => by rw [HT.out, h a b h1 h2, hcc]))]⟩
          have HT0 : Kept (c = 0 → tgF j rows = 0) := ⟨fun h0 => by
            rw [tgF]
            split
            · rw [hcc]; exact h0
            · rfl⟩
          have HC1 : Kept ((cnr j T 0)[1]?.getD 0 = (c : Int)) := ⟨by rw [cnr_get _ _ (by omega), HT.out, Nat.zero_mul, Nat.zero_add, hcc]⟩
          have m0 := hmx.out.row.cell (r := 0) (by omega)
          rw [if_pos (by omega)] at m0
          have m1 := (hmx.out.rows 0 (by omega)).cell (i := 1) (by rw [cnr_len]; omega)
          rw [HC1.out] at m1
          simp only [Nat.add_zero] at m0 m1
          obtain ⟨wz, hwz⟩ : ∃ W, W = wr := ⟨_, rfl⟩
          subst hwz
          have hj0 : (0 : Int) < (j : Int) := by omega
          have hj1 : (1 : Int) < (j : Int) := by omega
          clear hrow hab hT hcc
          go_wp2
          go_loopw [15] (fun xv W => ∃ x : Nat, x ≤ j ∧ xv = .int .i64 x ∧ W = wz ∧ Kept (∀ a b : Nat, a < x → a < b → b < j → T.count (a * j + b) = c) ∧ Kept (0 < x → 1 ≤ c)) (fun xv _ => j - (intOf xv).toNat)
          case atStart => exact ⟨0, Nat.zero_le _, rfl, rfl, ⟨fun a b h => absurd h (Nat.not_lt_zero _)⟩, ⟨fun h => absurd h (Nat.lt_irrefl _)⟩⟩
          case round =>
            obtain ⟨x, hxj, rfl, rfl, hall, hone⟩ := hrel
            by_cases hlx : x < j
            · go_wp2
              go_loopw [16] (fun yv W => ∃ y : Nat, x < y ∧ y ≤ j ∧ yv = .int .i64 y ∧ W = wr ∧ Kept (∀ b : Nat, x < b → b < y → T.count (x * j + b) = c) ∧ Kept (x + 1 < y → 1 ≤ c)) (fun yv _ => j - (intOf yv).toNat)
              case atStart => exact ⟨x + 1, by omega, by omega, by go_num, rfl, ⟨fun b h1 h2 => by omega⟩, ⟨fun h => absurd h (Nat.lt_irrefl _)⟩⟩
              case round =>
                obtain ⟨y, hxy, hyj, rfl, rfl, hally, honey⟩ := hrel
                by_cases hly : y < j
                · obtain ⟨d, hd⟩ : ∃ d, T.count (x * j + y) = d := ⟨_, rfl⟩
                  have HDV : Kept ((cnr j T x)[y]?.getD 0 = (d : Int)) := ⟨by rw [cnr_get _ _ hly, hd]⟩
                  have m2 := hmx.out.row.cell hlx
                  rw [if_pos hlx] at m2
                  have m3 := (hmx.out.rows x hlx).cell (i := y) (by rw [cnr_len]; exact hly)
                  rw [HDV.out] at m3
                  have hlx' : (x : Int) < (j : Int) := by omega
                  have hly' : (y : Int) < (j : Int) := by omega
                  have HDD := Kept.mk hd
                  clear hd
                  by_cases hdc : d = c
                  rotate_left
                  · have e8 : ((d : Int) != (c : Int)) = true := by rw [bne_iff_ne]; omega
                    have HZ := Kept.mk ((HCE.out _ (HT3.out (fun h => hdc (by rw [← HDD.out]; exact h x y hxy hly)))).trans (if_pos rfl))
                    have hg2 := (hmx.out.bel.block _ HX0.out.l1).trans HX0.out.b0
                    obtain ⟨⟨d0, d1, d2, d3, d4⟩, f⟩ := five_cells hg2
                    have g0 := f 0; have g1 := f 1; have g2 := f 2; have g3 := f 3; have g4 := f 4
                    have hset := five_set hg2 (.int .i64 0) (.int .i64 0) (.int .i64 0) (.int .i64 0) (.int .i64 0)
                    obtain ⟨⟨s0, s1, s2, s3, s4⟩, _⟩ := five_cells hset
                    have hbe : Below w.heap.size w wr := HX0.out.1.trans (hmx.out.bel.mono HX0.out.1.size)
                    have HBE := Kept.mk (((((hbe.setCell (p := ⟨w.heap.size, 0, none⟩) (Nat.le_refl _) (.int .i64 0)).setCell (p := ⟨w.heap.size, 1, none⟩) (Nat.le_refl _) (.int .i64 0)).setCell (p := ⟨w.heap.size, 2, none⟩) (Nat.le_refl _) (.int .i64 0)).setCell (p := ⟨w.heap.size, 3, none⟩) (Nat.le_refl _) (.int .i64 0)).setCell (p := ⟨w.heap.size, 4, none⟩) (Nat.le_refl _) (.int .i64 0))
                    clear f hset hg2 hbe
                    go_wp2
                    exact bodyPost_ret (v := .tuple #[prv 0 0 0 0 0, .int .i64 60]) (by simp [results, Tryz.results6, go_sem, s0, s1, s2, s3, s4]) rfl ⟨HBE.out, by rw [HZ.out]; unfold ckV; rw [if_neg (by rw [HZ.out]; omega)]; rfl⟩
                  subst hdc
                  have e8 : ((d : Int) != (d : Int)) = false := by simp
                  by_cases hd1 : d < 1
                  · have e9 : decide ((d : Int) < 1) = true := decide_eq_true (by omega)
                    have HZ := Kept.mk ((HCE.out _ (HT0.out (by omega))).trans (if_pos rfl))
                    have hg2 := (hmx.out.bel.block _ HX0.out.l1).trans HX0.out.b0
                    obtain ⟨⟨d0, d1, d2, d3, d4⟩, f⟩ := five_cells hg2
                    have g0 := f 0; have g1 := f 1; have g2 := f 2; have g3 := f 3; have g4 := f 4
                    have hset := five_set hg2 (.int .i64 0) (.int .i64 0) (.int .i64 0) (.int .i64 0) (.int .i64 0)
                    obtain ⟨⟨s0, s1, s2, s3, s4⟩, _⟩ := five_cells hset
                    have hbe : Below w.heap.size w wr := HX0.out.1.trans (hmx.out.bel.mono HX0.out.1.size)
                    have HBE := Kept.mk (((((hbe.setCell (p := ⟨w.heap.size, 0, none⟩) (Nat.le_refl _) (.int .i64 0)).setCell (p := ⟨w.heap.size, 1, none⟩) (Nat.le_refl _) (.int .i64 0)).setCell (p := ⟨w.heap.size, 2, none⟩) (Nat.le_refl _) (.int .i64 0)).setCell (p := ⟨w.heap.size, 3, none⟩) (Nat.le_refl _) (.int .i64 0)).setCell (p := ⟨w.heap.size, 4, none⟩) (Nat.le_refl _) (.int .i64 0))
                    clear f hset hg2 hbe
                    go_wp2
                    exact bodyPost_ret (v := .tuple #[prv 0 0 0 0 0, .int .i64 60]) (by simp [results, Tryz.results6, go_sem, s0, s1, s2, s3, s4]) rfl ⟨HBE.out, by rw [HZ.out]; unfold ckV; rw [if_neg (by rw [HZ.out]; omega)]; rfl⟩
                  have e9 : decide ((d : Int) < 1) = false := decide_eq_false (by omega)
                  have HALLY : Kept (∀ b : Nat, x < b → b < y + 1 → T.count (x * j + b) = d) := ⟨fun b h1 h2 => by
                    by_cases e : b = y
                    · subst e; exact HDD.out
                    · exact hally.out b h1 (by omega)⟩
                  go_wp2
                  go_roundw
                  case rel => exact ⟨y + 1, by omega, by omega, by go_num, trivial, HALLY, ⟨fun _ => by omega⟩⟩
                  case measure => simp [intOf] <;> omega
                · obtain rfl : y = j := by omega
                  have HALL : Kept (∀ a b : Nat, a < x + 1 → a < b → b < y → T.count (a * y + b) = c) := ⟨fun a b h1 h2 h3 => by
                    by_cases e : a = x
                    · subst e; exact hally.out b h2 h3
                    · exact hall.out a b (by omega) h2 h3⟩
                  have HONE : Kept (0 < x + 1 → 1 ≤ c) := ⟨fun _ => by
                    by_cases e : x + 1 < y
                    · exact honey.out e
                    · exact hone.out (by omega)⟩
                  go_wp2
                  go_roundw
                  case rel => exact ⟨x + 1, by omega, by go_num, trivial, HALL, HONE⟩
                  case measure => simp [intOf] <;> omega
            · obtain rfl : x = j := by omega
              have hc1 : 1 ≤ c := hone.out (by omega)
              have htg : tgF x rows = c := HT2.out (fun a b h1 h2 => hall.out a b (by omega) h1 h2)
              have HZ : Kept (ckE x rows = 0) := ⟨by rw [HCE.out _ htg, if_neg (by omega)]⟩
              have hrep := replication (v := x) (L := c) (k := k) (rows := rows) (by omega) (by omega) HROW.out (fun a b h1 h2 => by rw [← HT.out]; exact hall.out a b (by omega) h1 h2)
              rw [HN.out] at hrep
              obtain ⟨R, hR⟩ : ∃ R, r * k / x = R := ⟨_, rfl⟩
              obtain ⟨M, hM⟩ : ∃ M, r * k = M := ⟨_, rfl⟩
              have hMb : M ≤ 2000 * 200 := by rw [← hM]; exact Nat.mul_le_mul (by omega) (by omega)
              have hRb : R ≤ M := by rw [← hR, hM]; exact Nat.div_le_self _ _
              have HV : Kept (ckV x rows = prv x r R k c) := ⟨by
                unfold ckV
                rw [if_pos HZ.out, show ((x : Nat) : Int).toNat = x from rfl, htg, HK.out, HN.out, show ((x : Int) - 1) = ((x - 1 : Nat) : Int) by omega, show ((k : Int) - 1) = ((k - 1 : Nat) : Int) by omega, ← Int.natCast_mul, Int.tdiv_eq_ediv_of_nonneg (by omega), ← Int.natCast_ediv, ← hrep, hR]⟩
              rw [hM] at hR
              have w1' : IntKind.i64.wrap ((r : Int) * k) = M := by rw [← Int.natCast_mul, hM]; exact wrapB (by omega) (by omega)
              have hxz : ¬ ((x : Int) = 0) := by omega
              have w2' : (M : Int).tdiv (x : Int) = R := by rw [Int.tdiv_eq_ediv_of_nonneg (by omega), ← Int.natCast_ediv, hR]
              have w2'' : (M : Int) / (x : Int) = R := by rw [← Int.natCast_ediv, hR]
              have w3' : IntKind.i64.wrap (R : Int) = R := wrapB (by omega) (by omega)
              clear hrep htg hM hR hone hall m0 m1
              have hg2 := (hmx.out.bel.block _ HX0.out.l1).trans HX0.out.b0
              obtain ⟨⟨d0, d1, d2, d3, d4⟩, f⟩ := five_cells hg2
              have g0 := f 0; have g1 := f 1; have g2 := f 2; have g3 := f 3; have g4 := f 4
              have hset := five_set hg2 (.int .i64 x) (.int .i64 r) (.int .i64 R) (.int .i64 k) (.int .i64 c)
              obtain ⟨⟨s0, s1, s2, s3, s4⟩, _⟩ := five_cells hset
              have hbe : Below w.heap.size w wr := HX0.out.1.trans (hmx.out.bel.mono HX0.out.1.size)
              have HBE := Kept.mk (((((hbe.setCell (p := ⟨w.heap.size, 0, none⟩) (Nat.le_refl _) (.int .i64 x)).setCell (p := ⟨w.heap.size, 1, none⟩) (Nat.le_refl _) (.int .i64 r)).setCell (p := ⟨w.heap.size, 2, none⟩) (Nat.le_refl _) (.int .i64 R)).setCell (p := ⟨w.heap.size, 3, none⟩) (Nat.le_refl _) (.int .i64 k)).setCell (p := ⟨w.heap.size, 4, none⟩) (Nat.le_refl _) (.int .i64 c))
              clear f hset hg2 hbe
              go_wp2
              exact bodyPost_ret (v := .tuple #[prv x r R k c, .int .i64 0]) (by simp [results, Tryz.results6, go_sem, s0, s1, s2, s3, s4]) rfl ⟨HBE.out, by rw [HZ.out, HV.out]; rfl⟩
end Go.Proofs.YtalahdkhglagpaaGreatDoor
