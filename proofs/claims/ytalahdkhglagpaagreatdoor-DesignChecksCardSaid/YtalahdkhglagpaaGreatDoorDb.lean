import Derived.Test.YtalahdkhglagpaaGreatDoorDa
import Derived.Test.YtalahdkhglagpaaGreatDoorDpu
set_option linter.unusedVariables false
set_option linter.unusedSimpArgs false
namespace Go.Proofs.YtalahdkhglagpaaGreatDoor
open Go Go.RowKit Go.Deep
open Dsg
theorem get_mem' {xs : List Int} {i : Nat} (h : i < xs.length) : xs[i]?.getD 0 ∈ xs := by
  rw [List.getElem?_eq_getElem h]
  exact List.getElem_mem h
set_option maxRecDepth 20000 in
set_option maxHeartbeats 2000000 in
/-- A copy of the first elements, in a row of its own. -/
theorem raw6_any (v : Value) (xs : List Int) (most : Nat) (w : World) (h : Sl .i64 w v xs) (hm : most ≤ 1000) :
    Calls Tryz.prog 15 #[v, .int .i64 most] w (RetM w (xs.take most)) := by
  obtain ⟨ao, cap, rfl, hcap, hmax, hc⟩ := h
  obtain ⟨n, hN⟩ : ∃ n, xs.length = n := ⟨_, rfl⟩
  obtain ⟨k, hk⟩ : ∃ k, min n most = k := ⟨_, rfl⟩
  have hlen : (xs.take most).length = k := by rw [List.length_take, hN, ← hk]; omega
  rw [hN] at hcap ⊢
  have HSL : Kept (Sl .i64 w (.slice ao k cap) (xs.take most)) := ⟨⟨ao, cap, by rw [hlen], by omega, hmax, fun i hi => by
    obtain ⟨b, o, e, hb, hcell⟩ := hc i (by omega)
    exact ⟨b, o, e, hb, by rw [hcell, List.getElem?_take, if_pos (by omega)]⟩⟩⟩
  have em : min (n : Int) (most : Int) = k := by omega
  have hk0 : (0 : Int) ≤ (k : Int) := by omega
  have hk1 : (k : Int) ≤ (cap : Int) := by omega
  have hk2 : k ≤ cap := by omega
  have H1 := Kept.mk (show (([] : List Int).length + (xs.take most).length) * 8 ≤ 140737488355328 by rw [hlen]; simp; omega)
  have H2 := Kept.mk (show ([] : List Int).length + (xs.take most).length ≤ maxLen by rw [hlen]; unfold maxLen; simp; omega)
  unfold maxLen at hmax
  have hc0 := Kept.mk hc
  have HN := Kept.mk hN
  clear hc hN hlen
  cases ao with
  | none =>
    clear H1 H2 HSL em hk0 hk1 hk2
    obtain rfl : xs = [] := by
      cases xs with
      | nil => rfl
      | cons x t => obtain ⟨b, o, e, _⟩ := hc0.out 0 (by simp); cases e
    obtain rfl : n = 0 := by have := HN.out; simp at this; omega
    have hm0 : ¬ (most : Int) < ((0 : Nat) : Int) := by omega
    go_enter Tryz.func15, Tryz.ntmps15
    go_wp2
    go_ret
    exact ⟨Below.refl _ _, .slice none 0 0, rfl, by first | exact Mine.nil _ _ _ _ | (rw [List.take_nil]; exact Mine.nil _ _ _ _)⟩
  | some ad =>
    clear hc0 HN
    by_cases hlt : most < n
    · obtain rfl : k = most := by omega
      have hlt' : (k : Int) < (n : Int) := by omega
      clear em
      go_enter Tryz.func15, Tryz.ntmps15
      go_wp2_with (at_builtin; refine wpList_append_sl _ rfl _ _ 40 rfl 3 .i64 8 Tryz.underlying40 info_i64 w.heap.size _ [] rfl (Mine.nil _ _ _ _) (Nat.le_refl _) _ _ rfl HSL.out H1.out H2.out ?_)
      intro v' w5 hm5 hg5
      have HM5 := Kept.mk hm5
      have HB5 := Kept.mk ((Below.refl _ _).grown hg5 (Nat.le_refl _) (fun k hk => by simp [Value.ownBlock] at hk))
      clear hm5 hg5
      go_wp2
      go_ret
      exact ⟨HB5.out, _, rfl, by simpa using HM5.out⟩
    · obtain rfl : k = n := by omega
      have hlt' : ¬ (most : Int) < (k : Int) := by omega
      clear em
      go_enter Tryz.func15, Tryz.ntmps15
      go_wp2_with (at_builtin; refine wpList_append_sl _ rfl _ _ 40 rfl 3 .i64 8 Tryz.underlying40 info_i64 w.heap.size _ [] rfl (Mine.nil _ _ _ _) (Nat.le_refl _) _ _ rfl HSL.out H1.out H2.out ?_)
      intro v' w5 hm5 hg5
      have HM5 := Kept.mk hm5
      have HB5 := Kept.mk ((Below.refl _ _).grown hg5 (Nat.le_refl _) (fun k hk => by simp [Value.ownBlock] at hk))
      clear hm5 hg5
      go_wp2
      go_ret
      exact ⟨HB5.out, _, rfl, by simpa using HM5.out⟩
/-- Whether a list has a number. -/
def hasB (l : List Int) (n : Int) : Bool := l.any fun a => decide (a = n)
theorem hasB_iff {l : List Int} {n : Int} : hasB l n = true ↔ n ∈ l := by
  unfold hasB
  rw [List.any_eq_true]
  constructor
  · rintro ⟨a, ha, h⟩
    exact of_decide_eq_true h ▸ ha
  · exact fun h => ⟨n, h, decide_eq_true rfl⟩
set_option maxRecDepth 20000 in
set_option maxHeartbeats 2000000 in
theorem has6_any (v : Value) (xs : List Int) (x : Int) (w : World) (h : Sl .i64 w v xs) :
    Calls Tryz.prog 23 #[v, .int .i64 x] w (fun e w' => w = w' ∧ e = .returned (.bool (hasB xs x))) := by
  obtain ⟨ao, cap, rfl, hcap, hmax, hc⟩ := h
  obtain ⟨n, hN⟩ : ∃ n, xs.length = n := ⟨_, rfl⟩
  have HC := Kept.mk hc
  rw [hN] at hcap ⊢
  have HN := Kept.mk hN
  unfold maxLen at hmax
  clear hc hN
  go_enter Tryz.func23, Tryz.ntmps23
  go_wp2
  go_loopw [5] (fun iv wr => ∃ (i : Nat), i ≤ n ∧ iv = .int .i64 i ∧ Kept (hasB (xs.take i) x = false) ∧ w = wr) (fun iv _ => n - (intOf iv).toNat)
  case atStart => exact ⟨0, Nat.zero_le _, rfl, ⟨rfl⟩, rfl⟩
  case round =>
    obtain ⟨i, hin, rfl, hat, rfl⟩ := hrel
    by_cases hlt : i < n
    · obtain ⟨g, o, rfl, hg, hcell⟩ := HC.out i (by rw [HN.out]; exact hlt)
      obtain ⟨a, ha⟩ : ∃ a, xs[i]?.getD 0 = a := ⟨_, rfl⟩
      rw [ha] at hcell
      have hT : xs.take (i + 1) = xs.take i ++ [a] := by
        rw [List.take_add_one]
        congr 1
        rw [← ha, List.getElem?_eq_getElem (by rw [HN.out]; exact hlt)]
        rfl
      have HM : Kept (a ∈ xs) := ⟨by rw [← ha]; exact get_mem' (by rw [HN.out]; exact hlt)⟩
      have HT : Kept (hasB (xs.take (i + 1)) x = decide (a = x)) := ⟨by
        have := hat.out
        unfold hasB at this ⊢
        rw [hT, List.any_append, this]
        simp only [List.any_cons, List.any_nil, Bool.or_false, Bool.false_or]⟩
      clear ha hT
      by_cases h1 : a = x
      · have HE : Kept (hasB xs x = true) := ⟨hasB_iff.2 (h1 ▸ HM.out)⟩
        have d1 : (a == x) = true := beq_iff_eq.2 h1
        go_wp2
        go_ret
        exact ⟨rfl, by rw [HE.out]; rfl⟩
      · have d1 : (a == x) = false := beq_eq_false_iff_ne.2 h1
        have HT' : Kept (hasB (xs.take (i + 1)) x = false) := ⟨by rw [HT.out]; exact decide_eq_false h1⟩
        go_wp2
        go_roundw
        case rel => exact ⟨i + 1, by omega, by go_num, HT', trivial⟩
        case measure => simp [intOf] <;> omega
    · obtain rfl : i = n := by omega
      have HE : Kept (hasB xs x = false) := ⟨by have := hat.out; rw [← HN.out, List.take_length] at this; exact this⟩
      go_wp2
      go_ret
      exact ⟨rfl, by rw [HE.out]; rfl⟩
set_option maxRecDepth 20000 in
set_option maxHeartbeats 2000000 in
/-- same answers true of slices that hold the same. -/
theorem same6_eq (va vb : Value) (xs : List Int) (w : World) (ha : Sl .i64 w va xs) (hb : Sl .i64 w vb xs) (hn : xs.length ≤ 1000000) :
    Calls Tryz.prog 22 #[va, vb] w (RB w (.bool true)) := by
  obtain ⟨a1, k1, rfl, hk1, hm1, hx1⟩ := ha
  obtain ⟨a2, k2, rfl, hk2, hm2, hx2⟩ := hb
  obtain ⟨n, hN⟩ : ∃ n, xs.length = n := ⟨_, rfl⟩
  rw [hN] at hk1 hk2 hn ⊢
  have HN := Kept.mk hN
  have H1 := Kept.mk hx1
  have H2 := Kept.mk hx2
  unfold maxLen at hm1 hm2
  have e0 : ((n : Int) == (n : Int)) = true := by simp
  clear hx1 hx2 hN
  go_enter Tryz.func22, Tryz.ntmps22
  go_wp2
  go_loopw [5] (fun iv wr => ∃ (i : Nat), i ≤ n ∧ iv = .int .i64 i ∧ Kept (Below w.heap.size w wr)) (fun iv _ => n - (intOf iv).toNat)
  case atStart => exact ⟨0, Nat.zero_le _, rfl, ⟨Below.refl _ _⟩⟩
  case round =>
    obtain ⟨i, hin, rfl, hbx⟩ := hrel
    by_cases hlt : i < n
    · obtain ⟨g1, o1, rfl, hg1, u1⟩ := H1.out i (by rw [HN.out]; exact hlt)
      obtain ⟨g2, o2, rfl, hg2, u2⟩ := H2.out i (by rw [HN.out]; exact hlt)
      obtain ⟨x, hx⟩ : ∃ x, xs[i]?.getD 0 = x := ⟨_, rfl⟩
      rw [hx] at u1 u2
      have u1 := (hbx.out.cell (p := ⟨g1, o1 + i, none⟩) hg1).trans u1
      have u2 := (hbx.out.cell (p := ⟨g2, o2 + i, none⟩) hg2).trans u2
      clear hx
      go_wp2
      go_quiet (fail)
      go_wp2
      go_roundw
      case rel => exact ⟨i + 1, by omega, by go_num, ⟨below_drewN hbx.out _⟩⟩
      case measure => simp [intOf] <;> omega
    · obtain rfl : i = n := by omega
      go_wp2
      go_ret
      exact ⟨hbx.out, rfl⟩
set_option maxRecDepth 20000 in
set_option maxHeartbeats 2000000 in
/-- Rows that are the same. -/
theorem rows6_eq (ao bo : Option Addr) (rows : List (List Int)) (ca cb n : Nat) (w : World) (ha : Sls w ao rows) (hb : Sls w bo rows) (hn : rows.length = n) (hca : n ≤ ca) (hcb : n ≤ cb) (hma : ca ≤ maxLen) (hmb : cb ≤ maxLen) (hl : ∀ l ∈ rows, l.length ≤ 1000000) :
    Calls Tryz.prog 11 #[.slice ao n ca, .slice bo n cb] w (RB w (.bool true)) := by
  have HA := Kept.mk ha
  have HB := Kept.mk hb
  have HN := Kept.mk hn
  have HL := Kept.mk hl
  unfold maxLen at hma hmb
  have enn : ((n : Int) == (n : Int)) = true := by simp
  have enn2 : ((n : Int) != (n : Int)) = false := by simp
  clear ha hb hn hl
  go_enter Tryz.func11, Tryz.ntmps11
  go_wp2
  go_loopw [5] (fun iv wr => ∃ i : Nat, i ≤ n ∧ iv = .int .i64 i ∧ Kept (Below w.heap.size w wr)) (fun iv _ => n - (intOf iv).toNat)
  case atStart => exact ⟨0, Nat.zero_le _, rfl, ⟨Below.refl _ _⟩⟩
  case round =>
    obtain ⟨i, hi, rfl, hbw⟩ := hrel
    by_cases hlt : i < n
    · obtain ⟨g, o, rv, rfl, hg, hcell, hsl⟩ := (HA.out.below hbw.out) i (by rw [HN.out]; exact hlt)
      obtain ⟨g2, o2, rv2, rfl, hg2, hcell2, hsl2⟩ := (HB.out.below hbw.out) i (by rw [HN.out]; exact hlt)
      obtain ⟨xs, hxs⟩ : ∃ xs, rows[i]?.getD [] = xs := ⟨_, rfl⟩
      have hxl : xs.length ≤ 1000000 := by
        rw [← hxs, List.getElem?_eq_getElem (by rw [HN.out]; exact hlt)]
        exact HL.out _ (List.getElem_mem _)
      rw [hxs] at hsl hsl2
      obtain ⟨a1, c1, rfl, hc1, hm1⟩ := hsl.form
      obtain ⟨a2, c2, rfl, hc2, hm2⟩ := hsl2.form
      have HS := Kept.mk (fun W (hW : Below wr.heap.size wr W) => same6_eq _ _ xs W (hsl.below hW) (hsl2.below hW) hxl)
      obtain ⟨m, hm⟩ : ∃ m, xs.length = m := ⟨_, rfl⟩
      rw [hm] at hcell hcell2 HS
      clear hsl hsl2 hxs hxl hm
      go_wp2
      go_region_held3 (fun w' => w'.cell? ⟨g, o + i, none⟩ = some (.slice a1 m c1) ∧ w'.cell? ⟨g2, o2 + i, none⟩ = some (.slice a2 m c2))
        (first | exact ⟨j0, j1⟩ | exact ⟨hcell, hcell2⟩ | go_keep)
        ((first
          | (go_at_call 22; (with_reducible refine (HS.out _ ?h1).mono ?_); (case h1 => first | exact Below.refl _ _ | exact (Below.refl _ _).drew); rintro e v1 ⟨hb, rfl⟩; have hy := Kept.mk (bstep (show Below wr.heap.size wr _ from (by first | exact Below.refl _ _ | exact (Below.refl _ _).drew)) hb); have j0 := belowCell hy.out hcell; have j1 := belowCell hy.out hcell2; clear hb)))
      have HB1 := Kept.mk (bstep hbw.out hy.out)
      go_wp2
      go_roundw
      case rel => exact ⟨i + 1, by omega, by go_num, HB1⟩
      case measure => simp [intOf] <;> omega
    · obtain rfl : i = n := by omega
      go_wp2
      go_ret
      exact ⟨hbw.out, rfl⟩
end Go.Proofs.YtalahdkhglagpaaGreatDoor
