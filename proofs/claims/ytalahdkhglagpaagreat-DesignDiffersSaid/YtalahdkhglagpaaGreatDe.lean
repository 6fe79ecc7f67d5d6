import Derived.Test.YtalahdkhglagpaaGreatDd
set_option linter.unusedVariables false
set_option linter.unusedSimpArgs false
namespace Go.Proofs.YtalahdkhglagpaaGreat
open Go Go.RowKit Go.Deep
open Dsg
theorem nz_out {v : Nat} {xs : List Int} {i : Nat} (hi : i < xs.length) : nz (prs v xs i xs.length) = nz (prs v xs (i + 1) 0) := by rw [prs_out hi]
theorem nz_count_le (v : Nat) (xs : List Int) (i k r : Nat) : (nz (prs v xs i k)).count r ≤ i * xs.length + k :=
  Nat.le_trans (List.Sublist.count_le _ List.filter_sublist) (count_prs_le v xs i k r)
set_option maxRecDepth 20000 in
set_option maxHeartbeats 8000000 in
theorem risDifference_any (v : Int) (vv : Value) (xs : List Int) (w : World) (h : Sl .i64 w vv xs) :
    Calls Tryz.prog 8 #[.int .i64 v, vv] w (DfRet v xs w) := by
  obtain ⟨ao, cap, rfl, hcap, hmax, hc⟩ := h
  obtain ⟨n, hN⟩ : ∃ n, xs.length = n := ⟨_, rfl⟩
  have HC := Kept.mk hc
  rw [hN] at hcap ⊢
  have HN := Kept.mk hN
  unfold maxLen at hmax
  clear hc hN
  have HNO : Kept (∀ w', Below w.heap.size w w' → ¬ (3 ≤ v ∧ v ≤ 10000 ∧ (xs.length : Int) < v ∧ difB v xs = true ∧ alike v.toNat xs ∧ (prs v.toNat xs xs.length 0).count 1 ≠ 0) → DfRet v xs w (.returned (.tuple #[.int .i64 0, .bool false])) w') := ⟨fun w' hb hno => ⟨hb, by rw [dfF_no hno]⟩⟩
  by_cases h1 : v < 3
  · have e1 : decide (v < 3) = true := decide_eq_true h1
    have HF := Kept.mk (HNO.out w (Below.refl _ _) (by omega))
    go_enter Tryz.func8, Tryz.ntmps8
    go_wp2
    exact bodyPost_ret (v := .tuple #[.int .i64 0, .bool false]) (by simp [results, Tryz.results8, go_sem]) rfl HF.out
  have e1 : decide (v < 3) = false := decide_eq_false h1
  by_cases h2 : v > 10000
  · have e2 : decide (v > 10000) = true := decide_eq_true h2
    have HF := Kept.mk (HNO.out w (Below.refl _ _) (by omega))
    go_enter Tryz.func8, Tryz.ntmps8
    go_wp2
    exact bodyPost_ret (v := .tuple #[.int .i64 0, .bool false]) (by simp [results, Tryz.results8, go_sem]) rfl HF.out
  have e2 : decide (v > 10000) = false := decide_eq_false h2
  by_cases h22 : (n : Int) < 2
  · have e3 : decide ((n : Int) < 2) = true := decide_eq_true h22
    have HF : Kept (DfRet v xs w (.returned (.tuple #[.int .i64 0, .bool false])) w) := ⟨⟨Below.refl _ _, by rw [short_no (by rw [HN.out]; omega)]⟩⟩
    go_enter Tryz.func8, Tryz.ntmps8
    go_wp2
    exact bodyPost_ret (v := .tuple #[.int .i64 0, .bool false]) (by simp [results, Tryz.results8, go_sem]) rfl HF.out
  have e22 : decide ((n : Int) < 2) = false := decide_eq_false h22
  by_cases h3 : (n : Int) ≥ v
  · have e3 : decide ((n : Int) ≥ v) = true := decide_eq_true h3
    have HF := Kept.mk (HNO.out w (Below.refl _ _) (by rw [HN.out]; omega))
    go_enter Tryz.func8, Tryz.ntmps8
    go_wp2
    exact bodyPost_ret (v := .tuple #[.int .i64 0, .bool false]) (by simp [results, Tryz.results8, go_sem]) rfl HF.out
  have e3 : decide ((n : Int) ≥ v) = false := decide_eq_false h3
  obtain ⟨u, rfl⟩ : ∃ u : Nat, v = u := ⟨v.toNat, by omega⟩
  have HND := Kept.mk (fun w' hb (hd : ¬ difB u xs = true) => HNO.out w' hb (fun h => hd h.2.2.2.1))
  have HY : Kept (∀ w', Below w.heap.size w w' → difB u xs = true → alike u xs → DfRet u xs w (.returned (.tuple #[.int .i64 ((prs u xs xs.length 0).count 1 : Nat), .bool true])) w') := ⟨fun w' hb hd ha => ⟨hb, by rw [dfF_yes ⟨by omega, by omega, by rw [HN.out]; omega, hd, ha, some_count (by omega) (by rw [HN.out]; omega) hd ha⟩]; rfl⟩⟩
  have hu0 : 0 < u := by omega
  have hmk := run_make_row' (P := Tryz.prog) 22 3 (.int .i64 0) 8 Tryz.underlying22 info_i64 rfl .i64 .i64 u (by omega) (by omega)
  have HZ0 : Kept (Row 3 .i64 (w.alloc (.cells (madeCells #[.int .i64 0] u) 3)) w.heap.size (cn u (nz (prs u xs 0 0)))) := ⟨by rw [prs_zero, show nz [] = [] from rfl, cn_nil]; exact Row.zeros w u⟩
  have HB0 : Kept (Below w.heap.size w (w.alloc (.cells (madeCells #[.int .i64 0] u) 3))) := ⟨(Below.refl _ _).alloc (Nat.le_refl _) _⟩
  go_enter Tryz.func8, Tryz.ntmps8
  go_wp2
  go_loopw [7] (fun iv wr => ∃ i : Nat, i ≤ n ∧ iv = .int .i64 i ∧ Kept (difB u (xs.take i) = true) ∧ Kept (Row 3 .i64 wr w.heap.size (cn u (nz (prs u xs 0 0)))) ∧ Kept (Below w.heap.size w wr)) (fun iv _ => n - (intOf iv).toNat)
  case atStart => exact ⟨0, Nat.zero_le _, rfl, ⟨by simp [difB]⟩, HZ0, HB0⟩
  case round =>
    obtain ⟨i, hin, rfl, hat, hrw, hbl⟩ := hrel
    by_cases hlt : i < n
    · obtain ⟨g, o, rfl, hg, hcell⟩ := HC.out i (by rw [HN.out]; exact hlt)
      obtain ⟨a, ha⟩ : ∃ a, xs[i]?.getD 0 = a := ⟨_, rfl⟩
      rw [ha] at hcell
      have ic := (hbl.out.cell (p := ⟨g, o + i, none⟩) hg).trans hcell
      have HM : Kept (a ∈ xs) := ⟨by rw [← ha]; exact get_mem' (by rw [HN.out]; exact hlt)⟩
      have HAI := Kept.mk ha
      have HCI := Kept.mk hcell
      clear ha hcell
      by_cases h0 : a < 0
      · have HF := Kept.mk (HND.out _ hbl.out (fun hd => by have := ((difB_iff.1 hd).1 a HM.out).1; omega))
        have e0 : decide (a < 0) = true := decide_eq_true h0
        go_wp2
        exact bodyPost_ret (v := .tuple #[.int .i64 0, .bool false]) (by simp [results, Tryz.results8, go_sem]) rfl HF.out
      have e0 : decide (a < 0) = false := decide_eq_false h0
      by_cases h1 : a ≥ (u : Int)
      · have HF := Kept.mk (HND.out _ hbl.out (fun hd => by have := ((difB_iff.1 hd).1 a HM.out).2; omega))
        have e1 : decide (a ≥ (u : Int)) = true := decide_eq_true h1
        go_wp2
        exact bodyPost_ret (v := .tuple #[.int .i64 0, .bool false]) (by simp [results, Tryz.results8, go_sem]) rfl HF.out
      have e1 : decide (a ≥ (u : Int)) = false := decide_eq_false h1
      obtain ⟨wz, hwz⟩ : ∃ W, W = wr := ⟨_, rfl⟩
      subst hwz
      go_wp2
      go_loopw [8] (fun kv wr => ∃ k : Nat, k ≤ i ∧ kv = .int .i64 k ∧ Kept (∀ j, j < k → xs[j]?.getD 0 ≠ a) ∧ Kept (Row 3 .i64 wr w.heap.size (cn u (nz (prs u xs 0 0)))) ∧ Kept (Below w.heap.size w wr)) (fun kv _ => i - (intOf kv).toNat)
      case atStart => exact ⟨0, Nat.zero_le _, rfl, ⟨fun j hj => absurd hj (Nat.not_lt_zero _)⟩, hrw, hbl⟩
      case round =>
        obtain ⟨k, hki, rfl, hne, hrk, hbk⟩ := hrel
        by_cases hlk : k < i
        · obtain ⟨g2, o2, e2, hg2, hcell⟩ := HC.out k (by rw [HN.out]; omega)
          simp only [Option.some.injEq, Addr.mk.injEq, and_true] at e2
          obtain ⟨rfl, rfl⟩ := e2
          obtain ⟨b, hb⟩ : ∃ b, xs[k]?.getD 0 = b := ⟨_, rfl⟩
          rw [hb] at hcell
          have kc := (hbk.out.cell (p := ⟨g, o + k, none⟩) hg).trans hcell
          have ic2 := (hbk.out.cell (p := ⟨g, o + i, none⟩) hg).trans HCI.out
          have HKB := Kept.mk hb
          clear hb hcell
          by_cases hab : a = b
          · have HF := Kept.mk (fun (W : World) hb => HND.out W hb (fun hd => by
              have := (nd_get (difB_iff.1 hd).2 (i := i) (k := k) (by rw [HN.out]; exact hlt) (by rw [HN.out]; omega)).1 (by rw [HAI.out, HKB.out, hab])
              omega))
            have e5 : (a == b) = true := beq_iff_eq.2 hab
            clear hab ic
            go_wp2
            go_quiet (fail)
            go_wp2
            exact bodyPost_ret (v := .tuple #[.int .i64 0, .bool false]) (by simp [results, Tryz.results8, go_sem]) rfl (HF.out _ (below_drewN hbk.out _))
          · have e5 : (a == b) = false := beq_eq_false_iff_ne.2 hab
            have HNE : Kept (∀ j, j < k + 1 → xs[j]?.getD 0 ≠ a) := ⟨fun j hj => by
              by_cases hjk : j = k
              · subst hjk; rw [HKB.out]; exact fun e => hab e.symm
              · exact hne.out j (by omega)⟩
            clear hab ic
            go_wp2
            go_quiet (fail)
            go_wp2
            go_roundw
            case rel => exact ⟨k + 1, by omega, by go_num, HNE, ⟨hrk.out.keep rfl⟩, ⟨below_drewN hbk.out _⟩⟩
            case measure => simp [intOf] <;> omega
        · obtain rfl : k = i := by omega
          have HT : Kept (difB u (xs.take (k + 1)) = true) := ⟨by
            obtain ⟨h2, h3⟩ := difB_iff.1 hat.out
            have hkl : k < xs.length := by rw [HN.out]; exact hlt
            refine difB_iff.2 ⟨fun x hx => ?_, (take_nodup hkl).2 ⟨h3, fun hm => ?_⟩⟩
            · rw [List.take_add_one, List.getElem?_eq_getElem hkl] at hx
              have := HAI.out
              rw [List.getElem?_eq_getElem hkl] at this
              simp at this
              rcases List.mem_append.1 hx with h4 | h4
              · exact h2 x h4
              · simp at h4
                rw [h4, this]
                omega
            · rw [HAI.out] at hm
              obtain ⟨j, hj, hj2⟩ := List.mem_take_iff_getElem.1 hm
              refine hne.out j (by omega) ?_
              rw [List.getElem?_eq_getElem (by omega)]
              exact hj2⟩
          go_wp2
          go_roundw
          case rel => exact ⟨k + 1, by omega, by go_num, HT, hrk, hbk⟩
          case measure => simp [intOf] <;> omega
    · obtain rfl : i = n := by omega
      have hd : difB u xs = true := by have := hat.out; rw [← HN.out, List.take_length] at this; exact this
      have HR : Kept (∀ x ∈ xs, 0 ≤ x ∧ x < (u : Int)) := ⟨(difB_iff.1 hd).1⟩
      have HD := Kept.mk hd
      clear hd hat HND
      obtain ⟨wz, hwz⟩ : ∃ W, W = wr := ⟨_, rfl⟩
      subst hwz
      go_wp2
      go_loopw [9] (fun iv wr => ∃ j : Nat, j ≤ i ∧ iv = .int .i64 j ∧ Kept (Row 3 .i64 wr w.heap.size (cn u (nz (prs u xs j 0)))) ∧ Kept (Below w.heap.size w wr)) (fun iv _ => i - (intOf iv).toNat)
      case atStart => exact ⟨0, Nat.zero_le _, rfl, hrw, hbl⟩
      case round =>
        obtain ⟨j, hji, rfl, hrj, hbj⟩ := hrel
        by_cases hlt : j < i
        · obtain ⟨g, o, rfl, hg, hcell⟩ := HC.out j (by rw [HN.out]; exact hlt)
          obtain ⟨a, ha⟩ : ∃ a, xs[j]?.getD 0 = a := ⟨_, rfl⟩
          rw [ha] at hcell
          obtain ⟨a0, a1⟩ := HR.out a (by rw [← ha]; exact get_mem' (by rw [HN.out]; exact hlt))
          have HAI := Kept.mk ha
          have HCI := Kept.mk hcell
          clear ha hcell
          obtain ⟨wy, hwy⟩ : ∃ W, W = wr := ⟨_, rfl⟩
          subst hwy
          go_wp2
          go_loopw [10] (fun kv wr => ∃ k : Nat, k ≤ i ∧ kv = .int .i64 k ∧ Kept (Row 3 .i64 wr w.heap.size (cn u (nz (prs u xs j k)))) ∧ Kept (Below w.heap.size w wr)) (fun kv _ => i - (intOf kv).toNat)
          case atStart => exact ⟨0, Nat.zero_le _, rfl, hrj, hbj⟩
          case round =>
            obtain ⟨k, hki, rfl, hrk, hbk⟩ := hrel
            by_cases hlk : k < i
            · obtain ⟨g2, o2, e2, hg2, hcell⟩ := HC.out k (by rw [HN.out]; exact hlk)
              simp only [Option.some.injEq, Addr.mk.injEq, and_true] at e2
              obtain ⟨rfl, rfl⟩ := e2
              obtain ⟨b, hb⟩ : ∃ b, xs[k]?.getD 0 = b := ⟨_, rfl⟩
              rw [hb] at hcell
              have kc := (hbk.out.cell (p := ⟨g, o + k, none⟩) hg).trans hcell
              have jc := (hbk.out.cell (p := ⟨g, o + j, none⟩) hg).trans HCI.out
              obtain ⟨b0, b1⟩ := HR.out b (by rw [← hb]; exact get_mem' (by rw [HN.out]; exact hlk))
              by_cases hjk : j = k
              · have HNX : Kept (nz (prs u xs j (k + 1)) = nz (prs u xs j k)) := ⟨by
                  rw [prs_in (by rw [HN.out]; exact hlk), nz_add, if_pos ((res_zero (by rw [HAI.out]; exact ⟨a0, a1⟩) (by rw [hb]; exact ⟨b0, b1⟩)).2 (by rw [hjk]))]⟩
                have e5 : ((j : Int) != (k : Int)) = false := by simp [hjk]
                have HRK : Kept (Row 3 .i64 wr w.heap.size (cn u (nz (prs u xs j (k + 1))))) := ⟨by rw [HNX.out]; exact hrk.out⟩
                clear hjk hb hcell
                go_wp2
                go_roundw
                case rel => exact ⟨k + 1, by omega, by go_num, HRK, hbk⟩
                case measure => simp [intOf] <;> omega
              · have hab : a ≠ b := fun e => hjk ((nd_get (difB_iff.1 HD.out).2 (by rw [HN.out]; exact hlt) (by rw [HN.out]; exact hlk)).1 (by rw [HAI.out, hb, e]))
                obtain ⟨r, hr⟩ : ∃ r, res u a b = r := ⟨_, rfl⟩
                have hru : r < u := by rw [← hr]; exact res_lt hu0 a b
                have hr0 : r ≠ 0 := by rw [← hr]; exact fun e => hab ((res_zero ⟨a0, a1⟩ ⟨b0, b1⟩).1 e)
                obtain ⟨c, hcc⟩ : ∃ c, (nz (prs u xs j k)).count r = c := ⟨_, rfl⟩
                have hcb : c ≤ 100010000 := by
                  rw [← hcc]
                  refine Nat.le_trans (nz_count_le _ _ _ _ _) ?_
                  rw [HN.out]
                  have : j * i ≤ 10000 * 10000 := Nat.mul_le_mul (by omega) (by omega)
                  omega
                have HNX : Kept (cn u (nz (prs u xs j (k + 1))) = (cn u (nz (prs u xs j k))).set r ((c : Int) + 1)) := ⟨by rw [prs_in (by rw [HN.out]; exact hlk), nz_add, HAI.out, hb, hr, if_neg hr0, cn_succ _ hru, hcc]⟩
                have q0 := hrk.out.cell (i := r) (by rw [cn_len]; exact hru)
                rw [cn_get _ hru, hcc] at q0
                have q1 := hrk.out.free r
                have e5 : ((j : Int) != (k : Int)) = true := by rw [bne_iff_ne]; omega
                have w1' : IntKind.i64.wrap (a - b) = a - b := wrapB (by omega) (by omega)
                have w2' : IntKind.i64.wrap (a - b + u) = a - b + u := wrapB (by omega) (by omega)
                have w3' : (a - b + u).tmod (u : Int) = r := by
                  rw [← hr, Int.tmod_eq_emod_of_nonneg (by omega), Int.add_emod_right, res_int hu0]
                have w4' : IntKind.i64.wrap ((c : Int) + 1) = (c : Int) + 1 := wrapB (by omega) (by omega)
                have hru' : (r : Int) < (u : Int) := by omega
                have hr0' : (0 : Int) ≤ (r : Int) := by omega
                have hun : ¬ ((u : Int) = 0) := by omega
                have hun2 : ¬ (u = 0) := by omega
                have HRK : Kept (Row 3 .i64 ((wr.drew).setCell ⟨w.heap.size, r, none⟩ (.int .i64 ((c : Int) + 1))) w.heap.size (cn u (nz (prs u xs j (k + 1))))) := ⟨by rw [HNX.out]; exact hrk.out.drew.set r _⟩
                have HBK : Kept (Below w.heap.size w ((wr.drew).setCell ⟨w.heap.size, r, none⟩ (.int .i64 ((c : Int) + 1)))) := ⟨((hbk.out).trans (belowDrew wr |>.mono hbk.out.size)).setCell (p := ⟨w.heap.size, r, none⟩) (Nat.le_refl _) _⟩
                clear hcc hb hcell hr hab hjk
                go_wp2
                go_region
                go_wp2
                go_roundw
                case rel => exact ⟨k + 1, by omega, by go_num, HRK, HBK⟩
                case measure => simp [intOf] <;> omega
            · obtain rfl : k = i := by omega
              have HE : Kept (Row 3 .i64 wr w.heap.size (cn u (nz (prs u xs (j + 1) 0)))) := ⟨by rw [← nz_out (by rw [HN.out]; exact hlt), HN.out]; exact hrk.out⟩
              go_wp2
              go_roundw
              case rel => exact ⟨j + 1, by omega, by go_num, HE, hbk⟩
              case measure => simp [intOf] <;> omega
        · obtain rfl : j = i := by omega
          obtain ⟨c, hcc⟩ : ∃ c, (prs u xs xs.length 0).count 1 = c := ⟨_, rfl⟩
          rw [hcc] at HY
          have HRW : Kept (Row 3 .i64 wr w.heap.size (cn u (nz (prs u xs xs.length 0)))) := ⟨by rw [HN.out]; exact hrj.out⟩
          have HCC := Kept.mk hcc
          have HNA : Kept (∀ w', Below w.heap.size w w' → ¬ alike u xs → DfRet u xs w (.returned (.tuple #[.int .i64 0, .bool false])) w') := ⟨fun w' hb hno => HNO.out w' hb (fun h => hno h.2.2.2.2.1)⟩
          clear hcc
          obtain ⟨wy, hwy⟩ : ∃ W, W = wr := ⟨_, rfl⟩
          subst hwy
          go_wp2
          go_loopw [11] (fun kv W => ∃ k : Nat, 2 ≤ k ∧ k ≤ u ∧ kv = .int .i64 k ∧ Kept (∃ m, W = wy.drewN m) ∧ Kept (∀ r, 1 ≤ r → r < k → (prs u xs xs.length 0).count r = c)) (fun kv _ => u - (intOf kv).toNat)
          case atStart => exact ⟨2, by omega, by omega, rfl, ⟨0, rfl⟩, ⟨fun r h1 h2 => by rw [show r = 1 by omega]; exact HCC.out⟩⟩
          case round =>
            obtain ⟨k, hk2, hku, rfl, hW, hall⟩ := hrel
            have HRK : Kept (Row 3 .i64 wr w.heap.size (cn u (nz (prs u xs xs.length 0)))) := ⟨by obtain ⟨m, rfl⟩ := hW.out; exact HRW.out⟩
            have HBK : Kept (Below w.heap.size w wr) := ⟨by obtain ⟨m, rfl⟩ := hW.out; exact below_drewN hbj.out _⟩
            have q1 := HRK.out.cell (i := 1) (by rw [cn_len]; omega)
            rw [cn_get _ (by omega), nz_count (by omega), HCC.out] at q1
            by_cases hlt : k < u
            · obtain ⟨d, hdd⟩ : ∃ d, (prs u xs xs.length 0).count k = d := ⟨_, rfl⟩
              have q0 := HRK.out.cell (i := k) (by rw [cn_len]; omega)
              rw [cn_get _ (by omega), nz_count (by omega), hdd] at q0
              by_cases hdc : d = c
              · have e5 : ((d : Int) != (c : Int)) = false := by simp [hdc]
                have HA : Kept (∀ r, 1 ≤ r → r < k + 1 → (prs u xs xs.length 0).count r = c) := ⟨fun r h1 h2 => by
                  by_cases hrj : r = k
                  · rw [hrj, ← hdc]; exact hdd
                  · exact hall.out r h1 (by omega)⟩
                have HM : Kept (∀ q, ∃ m, wr.drewN q = wy.drewN m) := ⟨fun q => by obtain ⟨m, rfl⟩ := hW.out; exact ⟨m + q, drewN_add _ _ _⟩⟩
                clear hdd hdc
                go_wp2
                go_quiet (fail)
                go_wp2
                go_roundw
                case rel => exact ⟨k + 1, by omega, by omega, by go_num, ⟨HM.out _⟩, HA⟩
                case measure => simp [intOf] <;> omega
              · have e5 : ((d : Int) != (c : Int)) = true := by rw [bne_iff_ne]; omega
                have HF := Kept.mk (fun (W : World) hb => HNA.out W hb (fun h => hdc (by rw [← hdd, h k (by omega) (by omega)]; exact HCC.out)))
                clear hdd hdc
                go_wp2
                go_quiet (fail)
                go_wp2
                exact bodyPost_ret (v := .tuple #[.int .i64 0, .bool false]) (by simp [results, Tryz.results8, go_sem]) rfl (HF.out _ (below_drewN HBK.out _))
            · obtain rfl : k = u := by omega
              have HF := Kept.mk (HY.out _ HBK.out HD.out (fun r h1 h2 => by rw [hall.out r h1 (by omega)]; exact HCC.out.symm))
              go_wp2
              exact bodyPost_ret (v := .tuple #[.int .i64 c, .bool true]) (by simp [results, Tryz.results8, go_sem]) rfl HF.out
end Go.Proofs.YtalahdkhglagpaaGreat
