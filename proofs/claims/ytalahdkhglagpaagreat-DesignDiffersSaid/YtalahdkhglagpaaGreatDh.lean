import Derived.Test.YtalahdkhglagpaaGreatDg
import Derived.Test.YtalahdkhglagpaaGreatDe
set_option linter.unusedVariables false
set_option linter.unusedSimpArgs false
namespace Go.Proofs.YtalahdkhglagpaaGreat
open Go Go.RowKit Go.Deep
open Dsg
/-- One line of a development up to a number. -/
def dvP (v : Nat) (xs : List Int) (i x : Nat) : List Int := ((List.range x).map Int.ofNat).filter fun x => decide ((x - i + v) % (v : Int) ∈ xs)
theorem dvP_all (v : Nat) (xs : List Int) (i : Nat) : dvP v xs i v = dvL v xs i := rfl
theorem dvP_succ (v : Nat) (xs : List Int) (i x : Nat) : dvP v xs i (x + 1) = dvP v xs i x ++ if ((x : Int) - i + v) % (v : Int) ∈ xs then [(x : Int)] else [] := by
  unfold dvP
  rw [List.range_succ, List.map_append, List.filter_append]
  congr 1
  by_cases h : ((x : Int) - i + v) % (v : Int) ∈ xs
  · rw [if_pos h]; exact List.filter_cons_of_pos (decide_eq_true h)
  · rw [if_neg h]; exact List.filter_cons_of_neg (by rw [decide_eq_true_eq]; exact h)
theorem dvP_len (v : Nat) (xs : List Int) (i x : Nat) : (dvP v xs i x).length ≤ x := by
  unfold dvP
  refine Nat.le_trans (List.length_filter_le _ _) ?_
  simp
set_option maxRecDepth 20000 in
set_option maxHeartbeats 8000000 in
theorem rdevelop_any (v : Int) (vv : Value) (xs : List Int) (w : World) (h : Sl .i64 w vv xs) :
    Calls Tryz.prog 10 #[.int .i64 v, vv] w (DvRet v xs w) := by
  have HS := Kept.mk h
  obtain ⟨ao, cap, rfl, hcap, hmax, hc⟩ := h
  obtain ⟨n, hN⟩ : ∃ n, xs.length = n := ⟨_, rfl⟩
  have HC := Kept.mk hc
  rw [hN] at hcap HS ⊢
  have HN := Kept.mk hN
  unfold maxLen at hmax
  clear hc hN
  have HNO : Kept (∀ w', Below w.heap.size w w' → ¬ okDv v xs → DvRet v xs w (.returned (.tuple #[.slice none 0 0, .int .i64 1])) w') := ⟨fun w' hb hno => ⟨hb, .inr ⟨hno, rfl⟩⟩⟩
  by_cases h1 : v < 3
  · have e1 : decide (v < 3) = true := decide_eq_true h1
    have HF := Kept.mk (HNO.out w (Below.refl _ _) (fun h => by have := h.1; omega))
    go_enter Tryz.func10, Tryz.ntmps10
    go_wp2
    exact bodyPost_ret (v := .tuple #[.slice none 0 0, .int .i64 1]) (by simp [results, Tryz.results10, go_sem]) rfl HF.out
  have e1 : decide (v < 3) = false := decide_eq_false h1
  by_cases h2 : v > 200
  · have e2 : decide (v > 200) = true := decide_eq_true h2
    have HF := Kept.mk (HNO.out w (Below.refl _ _) (fun h => by have := h.2.1; omega))
    go_enter Tryz.func10, Tryz.ntmps10
    go_wp2
    exact bodyPost_ret (v := .tuple #[.slice none 0 0, .int .i64 1]) (by simp [results, Tryz.results10, go_sem]) rfl HF.out
  have e2 : decide (v > 200) = false := decide_eq_false h2
  by_cases h0 : n = 0
  · have HF := Kept.mk (HNO.out w (Below.refl _ _) (fun h => h.2.2.1 (List.eq_nil_of_length_eq_zero (by rw [HN.out]; exact h0))))
    subst h0
    go_enter Tryz.func10, Tryz.ntmps10
    go_wp2
    exact bodyPost_ret (v := .tuple #[.slice none 0 0, .int .i64 1]) (by simp [results, Tryz.results10, go_sem]) rfl HF.out
  have e0 : ((n : Int) == 0) = false := by simp; omega
  obtain ⟨u, rfl⟩ : ∃ u : Nat, v = u := ⟨v.toNat, by omega⟩
  have HND : Kept (∀ w', Below w.heap.size w w' → ¬ difB u xs = true → DvRet u xs w (.returned (.tuple #[.slice none 0 0, .int .i64 1])) w') := ⟨fun w' hb hd => HNO.out w' hb (fun h => hd h.2.2.2)⟩
  have HY : Kept (∀ w' ao cap, Below w.heap.size w w' → difB u xs = true → u ≤ cap → cap ≤ maxLen → Sls w' ao (dvF u xs) → DvRet u xs w (.returned (.tuple #[.slice ao u cap, .int .i64 0])) w') := ⟨fun w' ao cap hb hd h3 h4 h5 => ⟨hb, .inl ⟨⟨by omega, by omega, fun e => h0 (by rw [← HN.out, e]; rfl), hd⟩, ao, cap, rfl, h3, h4, h5⟩⟩⟩
  have hu0 : 0 < u := by omega
  have HB0 : Kept (Below w.heap.size w w) := ⟨Below.refl _ _⟩
  clear h0
  go_enter Tryz.func10, Tryz.ntmps10
  go_wp2
  go_loopw [6] (fun iv wr => ∃ i : Nat, i ≤ n ∧ iv = .int .i64 i ∧ Kept (difB u (xs.take i) = true) ∧ Kept (Below w.heap.size w wr)) (fun iv _ => n - (intOf iv).toNat)
  case atStart => exact ⟨0, Nat.zero_le _, rfl, ⟨by simp [difB]⟩, HB0⟩
  case round =>
    obtain ⟨i, hin, rfl, hat, hbl⟩ := hrel
    by_cases hlt : i < n
    · obtain ⟨g, o, rfl, hg, hcell⟩ := HC.out i (by rw [HN.out]; exact hlt)
      obtain ⟨a, ha⟩ : ∃ a, xs[i]?.getD 0 = a := ⟨_, rfl⟩
      rw [ha] at hcell
      have ic := (hbl.out.cell (p := ⟨g, o + i, none⟩) hg).trans hcell
      have HM : Kept (a ∈ xs) := ⟨by rw [← ha]; exact get_mem' (by rw [HN.out]; exact hlt)⟩
      have HAI := Kept.mk ha
      have HCI := Kept.mk hcell
      clear ha hcell
      by_cases h0 : a < 0
      · have HF := Kept.mk (HND.out _ hbl.out (fun hd => by have := ((difB_iff.1 hd).1 a HM.out).1; omega))
        have e0 : decide (a < 0) = true := decide_eq_true h0
        go_wp2
        exact bodyPost_ret (v := .tuple #[.slice none 0 0, .int .i64 1]) (by simp [results, Tryz.results10, go_sem]) rfl HF.out
      have e0 : decide (a < 0) = false := decide_eq_false h0
      by_cases h1 : a ≥ (u : Int)
      · have HF := Kept.mk (HND.out _ hbl.out (fun hd => by have := ((difB_iff.1 hd).1 a HM.out).2; omega))
        have e1 : decide (a ≥ (u : Int)) = true := decide_eq_true h1
        go_wp2
        exact bodyPost_ret (v := .tuple #[.slice none 0 0, .int .i64 1]) (by simp [results, Tryz.results10, go_sem]) rfl HF.out
      have e1 : decide (a ≥ (u : Int)) = false := decide_eq_false h1
      obtain ⟨wz, hwz⟩ : ∃ W, W = wr := ⟨_, rfl⟩
      subst hwz
      go_wp2
      go_loopw [7] (fun kv wr => ∃ k : Nat, k ≤ i ∧ kv = .int .i64 k ∧ Kept (∀ j, j < k → xs[j]?.getD 0 ≠ a) ∧ Kept (Below w.heap.size w wr)) (fun kv _ => i - (intOf kv).toNat)
      case atStart => exact ⟨0, Nat.zero_le _, rfl, ⟨fun j hj => absurd hj (Nat.not_lt_zero _)⟩, hbl⟩
      case round =>
        obtain ⟨k, hki, rfl, hne, hbk⟩ := hrel
        by_cases hlk : k < i
        · obtain ⟨g2, o2, e2, hg2, hcell⟩ := HC.out k (by rw [HN.out]; omega)
          simp only [Option.some.injEq, Addr.mk.injEq, and_true] at e2
          obtain ⟨rfl, rfl⟩ := e2
          obtain ⟨b, hb⟩ : ∃ b, xs[k]?.getD 0 = b := ⟨_, rfl⟩
          rw [hb] at hcell
          have kc := (hbk.out.cell (p := ⟨g, o + k, none⟩) hg).trans hcell
          have ic2 := (hbk.out.cell (p := ⟨g, o + i, none⟩) hg).trans HCI.out
          have HKB := Kept.mk hb
          clear hb hcell
          by_cases hab : a = b
          · have HF := Kept.mk (fun (W : World) hb => HND.out W hb (fun hd => by
              have := (nd_get (difB_iff.1 hd).2 (i := i) (k := k) (by rw [HN.out]; exact hlt) (by rw [HN.out]; omega)).1 (by rw [HAI.out, HKB.out, hab])
              omega))
            have e5 : (a == b) = true := beq_iff_eq.2 hab
            clear hab ic
            go_wp2
            go_quiet (fail)
            go_wp2
            exact bodyPost_ret (v := .tuple #[.slice none 0 0, .int .i64 1]) (by simp [results, Tryz.results10, go_sem]) rfl (HF.out _ (below_drewN hbk.out _))
          · have e5 : (a == b) = false := beq_eq_false_iff_ne.2 hab
            have HNE : Kept (∀ j, j < k + 1 → xs[j]?.getD 0 ≠ a) := ⟨fun j hj => by
              by_cases hjk : j = k
              · subst hjk; rw [HKB.out]; exact fun e => hab e.symm
              · exact hne.out j (by omega)⟩
            clear hab ic
            go_wp2
            go_quiet (fail)
            go_wp2
            go_roundw
            case rel => exact ⟨k + 1, by omega, by go_num, HNE, ⟨below_drewN hbk.out _⟩⟩
            case measure => simp [intOf] <;> omega
        · obtain rfl : k = i := by omega
          have HT : Kept (difB u (xs.take (k + 1)) = true) := ⟨by
            obtain ⟨h2, h3⟩ := difB_iff.1 hat.out
            have hkl : k < xs.length := by rw [HN.out]; exact hlt
            refine difB_iff.2 ⟨fun x hx => ?_, (take_nodup hkl).2 ⟨h3, fun hm => ?_⟩⟩
            · rw [List.take_add_one, List.getElem?_eq_getElem hkl] at hx
              have := HAI.out
              rw [List.getElem?_eq_getElem hkl] at this
              simp at this
              rcases List.mem_append.1 hx with h4 | h4
              · exact h2 x h4
              · simp at h4
                rw [h4, this]
                omega
            · rw [HAI.out] at hm
              obtain ⟨j, hj, hj2⟩ := List.mem_take_iff_getElem.1 hm
              refine hne.out j (by omega) ?_
              rw [List.getElem?_eq_getElem (by omega)]
              exact hj2⟩
          go_wp2
          go_roundw
          case rel => exact ⟨k + 1, by omega, by go_num, HT, hbk⟩
          case measure => simp [intOf] <;> omega
    · obtain rfl : i = n := by omega
      have hd : difB u xs = true := by have := hat.out; rw [← HN.out, List.take_length] at this; exact this
      have HD := Kept.mk hd
      clear hd hat HND
      obtain ⟨wz, hwz⟩ : ∃ W, W = wr := ⟨_, rfl⟩
      subst hwz
      go_wp2
      go_loopw [8, 9] (fun ov jv wr => ∃ (j : Nat) (L : List (Value × List Int)), j ≤ u ∧ jv = .int .i64 j ∧ L.length = j ∧ Kept (Rws w.heap.size wr ov L) ∧ Kept (L.map (·.2) = (List.range j).map (dvL u xs)) ∧ Kept (Below w.heap.size w wr)) (fun _ jv _ => u - (intOf jv).toNat)
      case atStart => exact ⟨0, [], Nat.zero_le _, rfl, rfl, ⟨Rws.nil _ _⟩, ⟨rfl⟩, hbl⟩
      case round =>
        obtain ⟨j, L, hju, rfl, hLl, hrw, hLm, hbj⟩ := hrel
        by_cases hlt : j < u
        · obtain ⟨oa, oc, hov, _, _⟩ := hrw.out.own.form
          rw [List.length_map, hLl] at hov
          subst hov
          obtain ⟨wy, hwy⟩ : ∃ W, W = wr := ⟨_, rfl⟩
          subst hwy
          have HLL := Kept.mk hLl
          clear hLl
          go_wp2
          go_loopw [10, 11] (fun lv xv wr => ∃ x : Nat, x ≤ u ∧ xv = .int .i64 x ∧ Kept (Mine 3 .i64 wy.heap.size wr lv (dvP u xs j x)) ∧ Kept (Below wy.heap.size wy wr)) (fun _ xv _ => u - (intOf xv).toNat)
          case atStart => exact ⟨0, Nat.zero_le _, rfl, ⟨Mine.nil _ _ _ _⟩, ⟨Below.refl _ _⟩⟩
          case round =>
            obtain ⟨x, hxu, rfl, hmn, hbx⟩ := hrel
            have hbw := hbj.out.trans (hbx.out.mono hbj.out.size)
            by_cases hlx : x < u
            · obtain ⟨r, hr⟩ : ∃ r, ((x : Int) - j + u) % (u : Int) = r := ⟨_, rfl⟩
              have HHA := Kept.mk (has6_any _ xs r wr (HS.out.below hbw))
              have HNX := Kept.mk (dvP_succ u xs j x)
              rw [hr] at HNX
              have w1' : IntKind.i64.wrap ((x : Int) - j) = (x : Int) - j := wrapB (by omega) (by omega)
              have w2' : IntKind.i64.wrap ((x : Int) - j + u) = (x : Int) - j + u := wrapB (by omega) (by omega)
              have w3' : ((x : Int) - j + u).tmod (u : Int) = r := by rw [← hr]; exact Int.tmod_eq_emod_of_nonneg (by omega)
              have hun : ¬ ((u : Int) = 0) := by omega
              have HBW := Kept.mk hbw
              clear hr hbw
              by_cases hm : r ∈ xs
              · have HM1 : Kept (dvP u xs j (x + 1) = dvP u xs j x ++ [(x : Int)]) := ⟨by rw [HNX.out, if_pos hm]⟩
                rw [hasB_iff.2 hm] at HHA
                obtain ⟨la, lc, hlv, _, _⟩ := hmn.out.sl.form
                obtain ⟨m, hml⟩ : ∃ m, (dvP u xs j x).length = m := ⟨_, rfl⟩
                rw [hml] at hlv
                subst hlv
                have hmx := dvP_len u xs j x
                rw [hml] at hmx
                obtain ⟨ys, hys⟩ : ∃ ys, dvP u xs j x = ys := ⟨_, rfl⟩
                rw [hys] at hmn HM1 hml
                have H1 := Kept.mk (show (ys.length + [(x : Int)].length) * 8 ≤ 140737488355328 by rw [hml]; simp; omega)
                have H2 := Kept.mk (show ys.length + [(x : Int)].length ≤ maxLen by rw [hml]; unfold maxLen; simp; omega)
                have HMA := Kept.mk (hmn.out.alloc (.cells #[.int .i64 (x : Int)] 3))
                have HBB := Kept.mk (show wy.heap.size ≤ (wr.alloc (.cells #[.int .i64 (x : Int)] 3)).heap.size by have := hbx.out.size; simp; omega)
                have HNW := Kept.mk (new_one (K := .i64) (x := (x : Int)) (w := wr.alloc (.cells #[.int .i64 (x : Int)] 3)) (b := wr.heap.size) (o := 0) (by exact (Row.new (E := 3) (K := .i64) wr [(x : Int)]).cell (i := 0) (by simp)))
                have HBA := Kept.mk (hbx.out.alloc hbx.out.size (.cells #[.int .i64 (x : Int)] 3))
                clear hm hml hys HNX
                go_wp2_with fail
                refine HHA.out.mono ?_
                rintro e w1 ⟨rfl, rfl⟩
                go_wp2_with (at_builtin; refine wpList_append_mine _ rfl _ _ 22 rfl 3 .i64 8 Tryz.underlying22 info_i64 wy.heap.size _ ys rfl HMA.out HBB.out ⟨wr.heap.size, 0, none⟩ 1 1 [(x : Int)] rfl rfl HNW.out H1.out H2.out ?_)
                intro v' w5 hM5 hg5 hn5
                have HM5 := Kept.mk hM5
                have HB5 := Kept.mk (HBA.out.grown hg5 HBA.out.size (fun k hk => (HMA.out.own k hk).1))
                clear hM5 hg5 hn5
                go_wp2
                go_roundw
                case rel => exact ⟨x + 1, by omega, by go_num, ⟨by rw [HM1.out]; exact HM5.out⟩, HB5⟩
                case measure => simp [intOf] <;> omega
              · have HM1 : Kept (dvP u xs j (x + 1) = dvP u xs j x) := ⟨by rw [HNX.out, if_neg hm, List.append_nil]⟩
                rw [show hasB xs r = false from Bool.eq_false_iff.2 fun h => hm (hasB_iff.1 h)] at HHA
                clear hm HNX
                go_wp2_with fail
                refine HHA.out.mono ?_
                rintro e w1 ⟨rfl, rfl⟩
                go_wp2
                go_roundw
                case rel => exact ⟨x + 1, by omega, by go_num, ⟨by rw [HM1.out]; exact hmn.out⟩, hbx⟩
                case measure => simp [intOf] <;> omega
            · obtain rfl : x = u := by omega
              rw [dvP_all] at hmn
              have HBW := Kept.mk hbw
              obtain ⟨la, lc, hlv, _, _⟩ := hmn.out.sl.form
              obtain ⟨m, hml⟩ : ∃ m, (dvL x xs j).length = m := ⟨_, rfl⟩
              rw [hml] at hlv
              subst hlv
              have hal := hbx.out.alloc hbx.out.size (.cells #[.slice la m lc] 22)
              have hMA : Mine 3 .i64 w.heap.size (wr.alloc (.cells #[.slice la m lc] 22)) (.slice la m lc) (dvL x xs j) := (hmn.out.alloc _).lower hbj.out.size
              have hRA : Rws w.heap.size (wr.alloc (.cells #[.slice la m lc] 22)) (.slice oa j oc) L := hrw.out.below hal
              have hne : ∀ g, (Value.slice la m lc).ownBlock = some g → (Value.slice oa j oc).ownBlock ≠ some g := fun g hg e => by
                have h1 := (hmn.out.own g hg).1
                have h2 := (hrw.out.own.own g e).2
                omega
              have HOW := Kept.mk hRA.own
              have HBB := Kept.mk (show w.heap.size ≤ (wr.alloc (.cells #[.slice la m lc] 22)).heap.size by have := HBW.out.size; simp; omega)
              have HNV := Kept.mk (rows_one (W := wr) (rv := .slice la m lc))
              have HLN := Kept.mk (show (L.map (·.1)).length = j by rw [List.length_map]; exact HLL.out)
              have HPU := Kept.mk (fun (v' : Value) (w5 : World) ho hg hn => hRA.push hMA hne (v' := v') (w' := w5) ho hg hn)
              have HGB := Kept.mk (fun (w5 : World) (hg : (wr.alloc (.cells #[.slice la m lc] 22)).grownBy w5 (Value.slice oa j oc).ownBlock) => (hbj.out.trans (hal.mono hbj.out.size)).grown hg HBB.out (fun k hk => (hRA.own.own k hk).1))
              have HLM : Kept ((L ++ [(Value.slice la m lc, dvL x xs j)]).map (·.2) = (List.range (j + 1)).map (dvL x xs)) := ⟨by rw [List.map_append, hLm.out, List.range_succ, List.map_append]; rfl⟩
              have HLC : Kept ((L ++ [(Value.slice la m lc, dvL x xs j)]).length = j + 1) := ⟨by rw [List.length_append, HLL.out]; rfl⟩
              clear hal hMA hRA hne hml
              go_wp2_with (at_builtin; refine wpList_append_w _ rfl _ _ 26 (by rfl) 22 (.slice none 0 0) 24 Tryz.underlying26 info_rows rfl w.heap.size (.slice oa j oc) (L.map (·.1)) (by rfl) HOW.out HBB.out ⟨wr.heap.size, 0, none⟩ 1 (.slice la m lc) (by rfl) HNV.out rfl j HLN.out (by omega) (by omega) ?_)
              intro v' w5 hO5 hg5 hn5
              have HR5 := Kept.mk (HPU.out v' w5 hO5 hg5 (by rw [World.size_alloc]; exact hn5))
              have HB5 := Kept.mk (HGB.out w5 hg5)
              clear hO5 hg5 hn5
              go_wp2
              go_roundw
              case rel => exact ⟨j + 1, _, by omega, by go_num, HLC.out, HR5, HLM, HB5⟩
              case measure => simp [intOf] <;> omega
        · obtain rfl : j = u := by omega
          obtain ⟨oa, oc, hov, hoc, hom, hsl⟩ := hrw.out.sls
          rw [hLl] at hov hoc
          subst hov
          have HF := Kept.mk (HY.out wr oa oc hbj.out HD.out hoc hom (by rw [hLm.out] at hsl; exact hsl))
          clear hsl hoc hom
          go_wp2
          exact bodyPost_ret (v := .tuple #[.slice oa j oc, .int .i64 0]) (by simp [results, Tryz.results10, go_sem]) rfl HF.out
end Go.Proofs.YtalahdkhglagpaaGreat
