import Derived.Test.YtalahdkhglagpaaGreatDc
set_option linter.unusedVariables false
set_option linter.unusedSimpArgs false
namespace Go.Proofs.YtalahdkhglagpaaGreat
open Go Go.RowKit Go.Deep
open Dsg
theorem drewN_add (w : World) (m q : Nat) : (w.drewN m).drewN q = w.drewN (m + q) := by
  simp [World.drewN, Nat.add_assoc]
theorem made_zero (n : Nat) : madeCells #[.int .i64 0] n = ((List.replicate n (0 : Int)).map (Value.int .i64)).toArray := by
  apply Array.toList_inj.1
  rw [toList_madeCells_one]
  simp
theorem Row.zeros (w : World) (n : Nat) : Row 3 .i64 (w.alloc (.cells (madeCells #[.int .i64 0] n) 3)) w.heap.size (List.replicate n 0) := by
  rw [made_zero]
  exact Row.new w _
/-- What IsDifference answers. -/
noncomputable def DfRet (v : Int) (xs : List Int) (w : World) : Ending → World → Prop := RB w (.tuple #[.int .i64 (dfF v xs).1, .bool (dfF v xs).2])
set_option maxRecDepth 20000 in
set_option maxHeartbeats 4000000 in
theorem isDifference_any (v : Int) (vv : Value) (xs : List Int) (w : World) (h : Sl .i64 w vv xs) :
    Calls Tryz.prog 7 #[.int .i64 v, vv] w (DfRet v xs w) := by
  have HS := Kept.mk h
  obtain ⟨ao, cap, rfl, hcap, hmax, hc⟩ := h
  obtain ⟨n, hN⟩ : ∃ n, xs.length = n := ⟨_, rfl⟩
  have HC := Kept.mk hc
  rw [hN] at hcap HS ⊢
  have HN := Kept.mk hN
  unfold maxLen at hmax
  clear hc hN
  have HNO : Kept (∀ w', Below w.heap.size w w' → ¬ (3 ≤ v ∧ v ≤ 10000 ∧ (xs.length : Int) < v ∧ difB v xs = true ∧ alike v.toNat xs ∧ (prs v.toNat xs xs.length 0).count 1 ≠ 0) → DfRet v xs w (.returned (.tuple #[.int .i64 0, .bool false])) w') := ⟨fun w' hb hno => ⟨hb, by rw [dfF_no hno]⟩⟩
  by_cases h1 : v < 3
  · have e1 : decide (v < 3) = true := decide_eq_true h1
    have HF := Kept.mk (HNO.out w (Below.refl _ _) (by omega))
    go_enter Tryz.func7, Tryz.ntmps7
    go_wp2
    exact bodyPost_ret (v := .tuple #[.int .i64 0, .bool false]) (by simp [results, Tryz.results7, go_sem]) rfl HF.out
  have e1 : decide (v < 3) = false := decide_eq_false h1
  by_cases h2 : v > 10000
  · have e2 : decide (v > 10000) = true := decide_eq_true h2
    have HF := Kept.mk (HNO.out w (Below.refl _ _) (by omega))
    go_enter Tryz.func7, Tryz.ntmps7
    go_wp2
    exact bodyPost_ret (v := .tuple #[.int .i64 0, .bool false]) (by simp [results, Tryz.results7, go_sem]) rfl HF.out
  have e2 : decide (v > 10000) = false := decide_eq_false h2
  by_cases h3 : (n : Int) ≥ v
  · have e3 : decide ((n : Int) ≥ v) = true := decide_eq_true h3
    have HF := Kept.mk (HNO.out w (Below.refl _ _) (by rw [HN.out]; omega))
    go_enter Tryz.func7, Tryz.ntmps7
    go_wp2
    exact bodyPost_ret (v := .tuple #[.int .i64 0, .bool false]) (by simp [results, Tryz.results7, go_sem]) rfl HF.out
  have e3 : decide ((n : Int) ≥ v) = false := decide_eq_false h3
  obtain ⟨u, rfl⟩ : ∃ u : Nat, v = u := ⟨v.toNat, by omega⟩
  have HAD := Kept.mk (areDifferent_any u _ xs w HS.out (by omega))
  cases hd : difB u xs with
  | false =>
    have HF := Kept.mk (fun w' hb => HNO.out w' hb (by rw [hd]; simp))
    rw [hd] at HAD
    clear hd
    go_enter Tryz.func7, Tryz.ntmps7
    go_wp2_with fail
    refine HAD.out.mono ?_
    rintro e w1 ⟨hb1, rfl⟩
    go_wp2
    exact bodyPost_ret (v := .tuple #[.int .i64 0, .bool false]) (by simp [results, Tryz.results7, go_sem]) rfl (HF.out _ hb1)
  | true =>
    have HR : Kept (∀ x ∈ xs, 0 ≤ x ∧ x < (u : Int)) := ⟨(difB_iff.1 hd).1⟩
    have HY : Kept (∀ w', Below w.heap.size w w' → alike u xs → (prs u xs xs.length 0).count 1 ≠ 0 → DfRet u xs w (.returned (.tuple #[.int .i64 ((prs u xs xs.length 0).count 1 : Nat), .bool true])) w') := ⟨fun w' hb ha hz => ⟨hb, by rw [dfF_yes ⟨by omega, by omega, by rw [HN.out]; omega, hd, ha, hz⟩]; rfl⟩⟩
    rw [hd] at HAD
    clear hd
    have hu0 : 0 < u := by omega
    have hmk := run_make_row' (P := Tryz.prog) 22 3 (.int .i64 0) 8 Tryz.underlying22 info_i64 rfl .i64 .i64 u (by omega) (by omega)
    go_enter Tryz.func7, Tryz.ntmps7
    go_wp2_with fail
    refine HAD.out.mono ?_
    rintro e w1 ⟨hb1, rfl⟩
    have HZ0 : Kept (Row 3 .i64 (w1.alloc (.cells (madeCells #[.int .i64 0] u) 3)) w1.heap.size (cn u (prs u xs 0 0))) := ⟨by rw [prs_zero, cn_nil]; exact Row.zeros w1 u⟩
    have HB0 : Kept (Below w.heap.size w (w1.alloc (.cells (madeCells #[.int .i64 0] u) 3))) := ⟨hb1.alloc hb1.size _⟩
    have hw1 := hb1.size
    clear hb1
    go_wp2
    go_loopw [35] (fun iv wr => ∃ i : Nat, i ≤ n ∧ iv = .int .i64 i ∧ Kept (Row 3 .i64 wr w1.heap.size (cn u (prs u xs i 0))) ∧ Kept (Below w.heap.size w wr)) (fun iv _ => n - (intOf iv).toNat)
    case atStart => exact ⟨0, Nat.zero_le _, rfl, HZ0, HB0⟩
    case round =>
      obtain ⟨i, hin, rfl, hrw, hbl⟩ := hrel
      by_cases hlt : i < n
      · obtain ⟨g, o, rfl, hg, hcell⟩ := HC.out i (by rw [HN.out]; exact hlt)
        obtain ⟨a, ha⟩ : ∃ a, xs[i]?.getD 0 = a := ⟨_, rfl⟩
        rw [ha] at hcell
        have ic := (hbl.out.cell (p := ⟨g, o + i, none⟩) hg).trans hcell
        obtain ⟨a0, a1⟩ := HR.out a (by rw [← ha]; exact get_mem' (by rw [HN.out]; exact hlt))
        have HAI := Kept.mk ha
        clear ha hcell
        obtain ⟨wz, hwz⟩ : ∃ W, W = wr := ⟨_, rfl⟩
        subst hwz
        go_wp2
        go_loopw [41] (fun kv wr => ∃ k : Nat, k ≤ n ∧ kv = .int .i64 k ∧ Kept (Row 3 .i64 wr w1.heap.size (cn u (prs u xs i k))) ∧ Kept (Below w.heap.size w wr)) (fun kv _ => n - (intOf kv).toNat)
        case atStart => exact ⟨0, Nat.zero_le _, rfl, hrw, hbl⟩
        case round =>
          obtain ⟨k, hkn, rfl, hrk, hbk⟩ := hrel
          by_cases hlk : k < n
          · obtain ⟨g2, o2, e2, hg2, hcell⟩ := HC.out k (by rw [HN.out]; exact hlk)
            simp only [Option.some.injEq, Addr.mk.injEq, and_true] at e2
            obtain ⟨rfl, rfl⟩ := e2
            obtain ⟨b, hb⟩ : ∃ b, xs[k]?.getD 0 = b := ⟨_, rfl⟩
            rw [hb] at hcell
            have kc := (hbk.out.cell (p := ⟨g, o + k, none⟩) hg).trans hcell
            obtain ⟨b0, b1⟩ := HR.out b (by rw [← hb]; exact get_mem' (by rw [HN.out]; exact hlk))
            obtain ⟨r, hr⟩ : ∃ r, res u a b = r := ⟨_, rfl⟩
            have hru : r < u := by rw [← hr]; exact res_lt hu0 a b
            obtain ⟨c, hcc⟩ : ∃ c, (prs u xs i k).count r = c := ⟨_, rfl⟩
            have hcb : c ≤ 100010000 := by
              rw [← hcc]
              refine Nat.le_trans (count_prs_le _ _ _ _ _) ?_
              rw [HN.out]
              have : i * n ≤ 10000 * 10000 := Nat.mul_le_mul (by omega) (by omega)
              omega
            have HNX : Kept (cn u (prs u xs i (k + 1)) = (cn u (prs u xs i k)).set r ((c : Int) + 1)) := ⟨by rw [prs_in (by rw [HN.out]; exact hlk), HAI.out, hb, hr, cn_succ _ hru, hcc]⟩
            have q0 := hrk.out.cell (i := r) (by rw [cn_len]; exact hru)
            rw [cn_get _ hru, hcc] at q0
            have q1 := hrk.out.free r
            have HRK : Kept (Row 3 .i64 (wr.setCell ⟨w1.heap.size, r, none⟩ (.int .i64 ((c : Int) + 1))) w1.heap.size (cn u (prs u xs i (k + 1)))) := ⟨by rw [HNX.out]; exact hrk.out.set r _⟩
            have HBK : Kept (Below w.heap.size w (wr.setCell ⟨w1.heap.size, r, none⟩ (.int .i64 ((c : Int) + 1)))) := ⟨hbk.out.setCell (p := ⟨w1.heap.size, r, none⟩) hw1 _⟩
            clear hcc hb hcell
            by_cases hab : a < b
            · have hri := res_less a0 b1 hab
              rw [hr] at hri
              have w1' : IntKind.i64.wrap (a - b) = a - b := wrapB (by omega) (by omega)
              have w2' : IntKind.i64.wrap (a - b + u) = r := by rw [hri]; exact wrapB (by omega) (by omega)
              clear hri hr
              go_wp2
              go_roundw
              case rel => exact ⟨k + 1, by omega, by go_num, HRK, HBK⟩
              case measure => simp [intOf] <;> omega
            · have hri := res_more b0 a1 hab
              rw [hr] at hri
              have w2' : IntKind.i64.wrap (a - b) = r := by rw [hri]; exact wrapB (by omega) (by omega)
              clear hri hr
              go_wp2
              go_roundw
              case rel => exact ⟨k + 1, by omega, by go_num, HRK, HBK⟩
              case measure => simp [intOf] <;> omega
          · obtain rfl : k = n := by omega
            have HE : Kept (Row 3 .i64 wr w1.heap.size (cn u (prs u xs (i + 1) 0))) := ⟨by rw [← prs_out (by rw [HN.out]; exact hlt), HN.out]; exact hrk.out⟩
            go_wp2
            go_roundw
            case rel => exact ⟨i + 1, by omega, by go_num, HE, hbk⟩
            case measure => simp [intOf] <;> omega
      · obtain rfl : i = n := by omega
        obtain ⟨c, hcc⟩ : ∃ c, (prs u xs xs.length 0).count 1 = c := ⟨_, rfl⟩
        rw [hcc] at HY
        have HNC : Kept (∀ w', Below w.heap.size w w' → ¬ (alike u xs ∧ c ≠ 0) → DfRet u xs w (.returned (.tuple #[.int .i64 0, .bool false])) w') := ⟨fun w' hb hno => HNO.out w' hb (fun h => hno ⟨h.2.2.2.2.1, by have := h.2.2.2.2.2; rw [show ((u : Nat) : Int).toNat = u from rfl, hcc] at this; exact this⟩)⟩
        have HRW : Kept (Row 3 .i64 wr w1.heap.size (cn u (prs u xs xs.length 0))) := ⟨by rw [HN.out]; exact hrw.out⟩
        have q0 := HRW.out.cell (i := 1) (by rw [cn_len]; omega)
        rw [cn_get _ (by omega), hcc] at q0
        have HCC := Kept.mk hcc
        clear hcc
        obtain ⟨wz, hwz⟩ : ∃ W, W = wr := ⟨_, rfl⟩
        subst hwz
        have hu1 : ((u : Int) - 1).toNat = u - 1 := by omega
        have hu2 : ((u - 1 : Nat) : Int) = (u : Int) - 1 := by omega
        go_wp2
        go_loopw [4, 74] (fun lv jv W => ∃ j : Nat, j < u ∧ lv = .int .i64 c ∧ jv = .int .i64 j ∧ W = wz ∧ Kept (j ≠ 0 → c ≠ 0) ∧ Kept (∀ r, 1 ≤ r → r < 1 + j → (prs u xs xs.length 0).count r = c)) (fun _ jv _ => u - (intOf jv).toNat)
        case atStart => exact ⟨0, hu0, rfl, rfl, rfl, ⟨by omega⟩, ⟨fun r h1 h2 => by omega⟩⟩
        case round =>
          obtain ⟨j, hju, rfl, rfl, rfl, hcz, hall⟩ := hrel
          by_cases hlt : j < u - 1
          · obtain ⟨d, hdd⟩ : ∃ d, (prs u xs xs.length 0).count (1 + j) = d := ⟨_, rfl⟩
            have q1 := HRW.out.cell (i := 1 + j) (by rw [cn_len]; omega)
            rw [cn_get _ (by omega), hdd] at q1
            by_cases hdc : d = c
            · subst hdc
              have e5 : ((d : Int) != (d : Int)) = false := by simp
              by_cases hd0 : d = 0
              · subst hd0
                have HF := Kept.mk (HNC.out _ hbl.out (fun h => h.2 rfl))
                go_wp2
                exact bodyPost_ret (v := .tuple #[.int .i64 0, .bool false]) (by simp [results, Tryz.results7, go_sem]) rfl HF.out
              · have e6 : ((d : Int) == 0) = false := by simp; omega
                have HA : Kept (∀ r, 1 ≤ r → r < 1 + (j + 1) → (prs u xs xs.length 0).count r = d) := ⟨fun r h1 h2 => by
                  by_cases hrj : r = 1 + j
                  · rw [hrj]; exact hdd
                  · exact hall.out r h1 (by omega)⟩
                clear hdd
                go_wp2
                go_roundw
                case rel => exact ⟨j + 1, by omega, rfl, by go_num, trivial, ⟨fun _ => hd0⟩, HA⟩
                case measure => simp [intOf] <;> omega
            · have e5 : ((d : Int) != (c : Int)) = true := by rw [bne_iff_ne]; omega
              have HF := Kept.mk (HNC.out _ hbl.out (fun h => hdc (by rw [← hdd, h.1 (1 + j) (by omega) (by omega)]; exact HCC.out)))
              clear hdd
              go_wp2
              exact bodyPost_ret (v := .tuple #[.int .i64 0, .bool false]) (by simp [results, Tryz.results7, go_sem]) rfl HF.out
          · have hj : j + 1 = u := by omega
            have HF := Kept.mk (HY.out _ hbl.out (fun r h1 h2 => by rw [hall.out r h1 (by omega)]; exact HCC.out.symm) (hcz.out (by omega)))
            go_wp2
            exact bodyPost_ret (v := .tuple #[.int .i64 c, .bool true]) (by simp [results, Tryz.results7, go_sem]) rfl HF.out
end Go.Proofs.YtalahdkhglagpaaGreat
