import Derived.Test.YtalahdkhglagpaaGreatDoorDm
import Derived.Test.YtalahdkhglagpaaGreatDoorDo
set_option linter.unusedVariables false
set_option linter.unusedSimpArgs false
namespace Go.Proofs.YtalahdkhglagpaaGreatDoor
open Go Go.RowKit Go.Deep
open Dnt
theorem Dnt.Pl.ok {a b : Int} {l : List Int} (h : Pl a b l) (ha0 : a ≠ 0) (hb0 : b ≠ 0) (ha : -1000000 ≤ a ∧ a ≤ 1000000) (hb : -1000000 ≤ b ∧ b ≤ 1000000) {x : Int} (hx : x ∈ l) : okPl x := by
  rcases (h.mem x).1 hx with e | e | ⟨m, e, h1, h4⟩
  · exact .inl e
  · exact .inr (.inl e)
  · have hm := h1.1
    have hle : m ≤ 1000000 := by
      rcases h4 with h4 | h4
      · exact Nat.le_trans (Nat.le_of_dvd (by omega) (Nat.dvd_of_mod_eq_zero h4)) (by omega)
      · exact Nat.le_trans (Nat.le_of_dvd (by omega) (Nat.dvd_of_mod_eq_zero h4)) (by omega)
    by_cases h2 : m = 2
    · exact .inr (.inl (by omega))
    · exact .inr (.inr ⟨by omega, by omega⟩)
theorem Dnt.Pl.len {a b : Int} {l : List Int} (h : Pl a b l) (ha0 : a ≠ 0) (hb0 : b ≠ 0) (ha : -1000000 ≤ a ∧ a ≤ 1000000) (hb : -1000000 ≤ b ∧ b ≤ 1000000) : l.length ≤ 1000010 := by
  have h1 : ∀ x ∈ l, -1 ≤ x ∧ x < 1000001 := fun x hx => by
    rcases h.ok ha0 hb0 ha hb hx with e | e | e <;> omega
  have key : ∀ (l : List Int) (c : Int), l.Pairwise (· < ·) → (∀ x ∈ l, c ≤ x ∧ x < 1000001) → (l.length : Int) ≤ max 0 (1000001 - c) := by
    intro l
    induction l with
    | nil => intro c _ _; simp; omega
    | cons y t ih =>
      intro c hpw hb
      obtain ⟨h2, h3⟩ := List.pairwise_cons.1 hpw
      have := ih (y + 1) h3 (fun x hx => ⟨by have := h2 x hx; omega, (hb x (List.mem_cons_of_mem _ hx)).2⟩)
      have := hb y List.mem_cons_self
      simp only [List.length_cons]
      omega
  have := key l (-1) h.up h1
  omega
/-- The first place at which the symbol is -1. -/
structure ObF (a b : Int) (l : List Int) (p : Int) (t : Bool) : Prop where
  yes : ∀ i x, l[i]? = some x → (∀ y ∈ l.take i, syF a b y ≠ -1) → syF a b x = -1 → p = x ∧ t = true
  no : (∀ y ∈ l, syF a b y ≠ -1) → p = 0 ∧ t = false
set_option maxRecDepth 20000 in
set_option maxHeartbeats 4000000 in
theorem obstacle_any (a b : Int) (w : World) (ha0 : a ≠ 0) (hb0 : b ≠ 0) (ha : -1000000 ≤ a ∧ a ≤ 1000000) (hb : -1000000 ≤ b ∧ b ≤ 1000000) (l : List Int) (hl : Pl a b l) (p : Int) (t : Bool) (ho : ObF a b l p t) :
    Calls Tryz.prog 42 #[.int .i64 a, .int .i64 b] w (RB w (.tuple #[.int .i64 p, .bool t])) := by
  have HPL := Kept.mk (places_any a b w ha0 hb0 ha hb l hl)
  have HSY := Kept.mk (fun x (hx : x ∈ l) w => symbol_any a b x w ha0 hb0 ha hb (hl.ok ha0 hb0 ha hb hx))
  have HLN := Kept.mk (hl.len ha0 hb0 ha hb)
  have HO := Kept.mk ho
  clear hl ha hb ha0 hb0 ho
  go_enter Tryz.func42, Tryz.ntmps42
  go_wp2_with fail
  refine HPL.out.mono ?_
  rintro e w1 ⟨hb1, v, rfl, hm⟩
  obtain ⟨ao, cap, rfl, _, _⟩ := hm.sl.form
  obtain ⟨n, hN⟩ : ∃ n, l.length = n := ⟨_, rfl⟩
  have HS := Kept.mk hm.sl
  have hln := HLN.out
  rw [hN] at HS hln ⊢
  have HN := Kept.mk hN
  have HB := Kept.mk hb1
  clear hm hb1 hN
  go_wp2
  go_loopw [12] (fun iv wr => ∃ i : Nat, i ≤ n ∧ iv = .int .i64 i ∧ Kept (∀ y ∈ l.take i, syF a b y ≠ -1) ∧ wr = w1) (fun iv _ => n - (intOf iv).toNat)
  case atStart => exact ⟨0, Nat.zero_le _, rfl, ⟨by simp⟩, rfl⟩
  case round =>
    obtain ⟨i, hin, rfl, hat, rfl⟩ := hrel
    by_cases hlt : i < n
    · obtain ⟨g, o, rfl, hg, hcell⟩ : ∃ g o, ao = some ⟨g, o, none⟩ ∧ g < wr.heap.size ∧ wr.cell? ⟨g, o + i, none⟩ = some (.int .i64 (l[i]?.getD 0)) := by
        obtain ⟨ao', c', e, _, _, hx⟩ := HS.out
        simp only [Value.slice.injEq] at e
        obtain ⟨b, o', e2, h1, h2⟩ := hx i (by rw [HN.out]; exact hlt)
        exact ⟨b, o', by rw [e.1, e2], h1, h2⟩
      obtain ⟨x, hx⟩ : ∃ x, l[i]?.getD 0 = x := ⟨_, rfl⟩
      have hxs : l[i]? = some x := by rw [← hx, List.getElem?_eq_getElem (by rw [HN.out]; exact hlt)]; rfl
      have hxm : x ∈ l := by rw [← hx]; exact get_mem' (by rw [HN.out]; exact hlt)
      rw [hx] at hcell
      have HSX := Kept.mk (HSY.out x hxm)
      obtain ⟨s, hs⟩ : ∃ s, syF a b x = s := ⟨_, rfl⟩
      rw [hs] at HSX
      by_cases hs1 : s = -1
      · obtain ⟨f1, f2⟩ := HO.out.yes i x hxs hat.out (by rw [hs]; exact hs1)
        have e1 : (s == -1) = true := beq_iff_eq.2 hs1
        have HF := Kept.mk (And.intro f1 f2)
        clear hx hs hs1 f1 f2 hxs hxm
        go_wp2_with fail
        refine (HSX.out _).mono ?_
        rintro e w2 ⟨rfl, rfl⟩
        go_wp2
        exact bodyPost_ret (v := .tuple #[.int .i64 x, .bool true]) (by simp [results, Tryz.results42, go_sem]) rfl ⟨HB.out, by rw [HF.out.1, HF.out.2]⟩
      · have e1 : (s == -1) = false := beq_eq_false_iff_ne.2 hs1
        have HA : Kept (∀ y ∈ l.take (i + 1), syF a b y ≠ -1) := ⟨fun y hy => by
          rw [List.take_add_one, hxs] at hy
          rcases List.mem_append.1 hy with h1 | h1
          · exact hat.out y h1
          · simp at h1
            rw [h1, hs]
            exact hs1⟩
        clear hx hs hs1 hxs hxm
        go_wp2_with fail
        refine (HSX.out _).mono ?_
        rintro e w2 ⟨rfl, rfl⟩
        go_wp2
        go_roundw
        case rel => exact ⟨i + 1, by omega, by go_num, HA, trivial⟩
        case measure => simp [intOf] <;> omega
    · obtain rfl : i = n := by omega
      obtain ⟨f1, f2⟩ := HO.out.no (by have := hat.out; rw [← HN.out, List.take_length] at this; exact this)
      have HF := Kept.mk (And.intro f1 f2)
      clear f1 f2
      go_wp2
      exact bodyPost_ret (v := .tuple #[.int .i64 0, .bool false]) (by simp [results, Tryz.results42, go_sem]) rfl ⟨HB.out, by rw [HF.out.1, HF.out.2]⟩
theorem isPr3 : isPr 3 := ⟨by omega, fun d h1 h2 => by
  have h : d = 2 := by omega
  subst h
  decide⟩
theorem pl6 : Pl 6 (-1) [-1, 2, 3] := by
  refine ⟨by simp, fun x => ?_⟩
  constructor
  · intro hx
    simp at hx
    rcases hx with e | e | e
    · exact .inl e
    · exact .inr (.inl e)
    · exact .inr (.inr ⟨3, e, isPr3, .inl (by decide)⟩)
  · rintro (e | e | ⟨m, e, h1, h2⟩)
    · simp [e]
    · simp [e]
    · have hm := h1.1
      have h6 : m ≤ 6 := by
        rcases h2 with h2 | h2
        · exact Nat.le_of_dvd (by decide) (Nat.dvd_of_mod_eq_zero h2)
        · exact Nat.le_trans (Nat.le_of_dvd (by decide) (Nat.dvd_of_mod_eq_zero h2)) (by decide)
      have h24 : m ≠ 4 := fun h => h1.2 2 (by omega) (by omega) (by subst h; decide)
      have h26 : m ≠ 6 := fun h => h1.2 2 (by omega) (by omega) (by subst h; decide)
      have h25 : m ≠ 5 := fun h => by subst h; rcases h2 with h2 | h2 <;> revert h2 <;> decide
      have : m = 2 ∨ m = 3 := by omega
      rcases this with rfl | rfl
      · simp [e]
      · simp [e]
theorem sy6 : syF 6 (-1) 2 = -1 := by
  obtain ⟨h1, h2⟩ := vp_of (p := 2) (n := 6) (e := 1) (u := 3) (by omega) ⟨by decide, by decide⟩ (by omega)
  obtain ⟨h3, h4⟩ := vp_of (p := 2) (n := -1) (e := 0) (u := -1) (by omega) ⟨by decide, by decide⟩ (by omega)
  unfold syF
  rw [if_neg (by omega), if_pos rfl, h1, h2, h3, h4]
  decide
theorem sy23 : syF 2 3 3 = -1 := by
  obtain ⟨h1, h2⟩ := vp_of (p := 3) (n := 2) (e := 0) (u := 2) (by omega) ⟨by decide, by decide⟩ (by omega)
  obtain ⟨h3, h4⟩ := vp_of (p := 3) (n := 3) (e := 1) (u := 1) (by omega) ⟨by decide, by decide⟩ (by omega)
  rw [syF_odd _ _ (by omega), h1, h2, h3, h4]
  decide
theorem ob6 : ObF 6 (-1) [-1, 2, 3] 2 true := by
  refine ⟨fun i x hx h1 h2 => ?_, fun h => absurd sy6 (h 2 (by simp))⟩
  match i, hx with
  | 0, hx =>
    simp at hx
    subst hx
    rw [syF_real] at h2
    revert h2
    decide
  | 1, hx =>
    simp at hx
    exact ⟨hx, rfl⟩
  | n + 2, hx => exact absurd sy6 (h1 2 (by simp))
/-- A verdict as a value, and its box. -/
abbrev vdv (a b : Int) : Value := .agg #[.int .i64 a, .int .i64 b, .bool false, .slice none 0 0, .bool false, .slice none 0 0, .bool false, .slice none 0 0]
abbrev vdbox (a b : Int) : Obj := .cells #[.int .i64 a, .int .i64 b, .bool false, .slice none 0 0, .bool false, .slice none 0 0, .bool false, .slice none 0 0] 52
theorem eight_cells {w : World} {g : Nat} {z0 z1 z2 z3 z4 z5 z6 z7 : Value} {T : TypeId} (h : w.heap[g]? = some (.cells #[z0, z1, z2, z3, z4, z5, z6, z7] T (0, 0))) :
    (w.cell? ⟨g, 0, none⟩ = some z0 ∧ w.cell? ⟨g, 1, none⟩ = some z1 ∧ w.cell? ⟨g, 2, none⟩ = some z2 ∧ w.cell? ⟨g, 3, none⟩ = some z3 ∧ w.cell? ⟨g, 4, none⟩ = some z4 ∧ w.cell? ⟨g, 5, none⟩ = some z5 ∧ w.cell? ⟨g, 6, none⟩ = some z6 ∧ w.cell? ⟨g, 7, none⟩ = some z7) ∧ ∀ i, w.frozen? ⟨g, i, none⟩ = false :=
  ⟨⟨by rw [cell_of_row w g 0 _ T (0, 0) h]; rfl, by rw [cell_of_row w g 1 _ T (0, 0) h]; rfl, by rw [cell_of_row w g 2 _ T (0, 0) h]; rfl, by rw [cell_of_row w g 3 _ T (0, 0) h]; rfl, by rw [cell_of_row w g 4 _ T (0, 0) h]; rfl, by rw [cell_of_row w g 5 _ T (0, 0) h]; rfl, by rw [cell_of_row w g 6 _ T (0, 0) h]; rfl, by rw [cell_of_row w g 7 _ T (0, 0) h]; rfl⟩, fun i => frozen_of_row w g i _ T h⟩
theorem eight_set {w : World} {g : Nat} {z0 z1 z2 z3 z4 z5 z6 z7 : Value} {T : TypeId} (h : w.heap[g]? = some (.cells #[z0, z1, z2, z3, z4, z5, z6, z7] T (0, 0))) (y0 y1 y2 y3 y4 y5 y6 y7 : Value) :
    (((((((((w.setCell ⟨g, 0, none⟩ y0).setCell ⟨g, 1, none⟩ y1).setCell ⟨g, 2, none⟩ y2).setCell ⟨g, 3, none⟩ y3).setCell ⟨g, 4, none⟩ y4).setCell ⟨g, 5, none⟩ y5).setCell ⟨g, 6, none⟩ y6).setCell ⟨g, 7, none⟩ y7)).heap[g]? = some (.cells #[y0, y1, y2, y3, y4, y5, y6, y7] T (0, 0)) := by
  have h1 := heap_setCell_same _ g 0 _ T y0 h
  have h2 := heap_setCell_same _ g 1 _ T y1 h1
  have h3 := heap_setCell_same _ g 2 _ T y2 h2
  have h4 := heap_setCell_same _ g 3 _ T y3 h3
  have h5 := heap_setCell_same _ g 4 _ T y4 h4
  have h6 := heap_setCell_same _ g 5 _ T y5 h5
  have h7 := heap_setCell_same _ g 6 _ T y6 h6
  have h8 := heap_setCell_same _ g 7 _ T y7 h7
  simpa using h8
theorem eight_below {w0 w : World} {g : Nat} (h : Below w0.heap.size w0 w) (hg : w0.heap.size ≤ g) (y0 y1 y2 y3 y4 y5 y6 y7 : Value) : Below w0.heap.size w0 ((((((((w.setCell ⟨g, 0, none⟩ y0).setCell ⟨g, 1, none⟩ y1).setCell ⟨g, 2, none⟩ y2).setCell ⟨g, 3, none⟩ y3).setCell ⟨g, 4, none⟩ y4).setCell ⟨g, 5, none⟩ y5).setCell ⟨g, 6, none⟩ y6).setCell ⟨g, 7, none⟩ y7) :=
  ((((((((h.setCell (p := ⟨g, 0, none⟩) hg y0).setCell (p := ⟨g, 1, none⟩) hg y1).setCell (p := ⟨g, 2, none⟩) hg y2).setCell (p := ⟨g, 3, none⟩) hg y3).setCell (p := ⟨g, 4, none⟩) hg y4).setCell (p := ⟨g, 5, none⟩) hg y5).setCell (p := ⟨g, 6, none⟩) hg y6).setCell (p := ⟨g, 7, none⟩) hg y7)
set_option maxRecDepth 20000 in
set_option maxHeartbeats 4000000 in
theorem judgeSym_43 (w : World) : Calls Tryz.prog 31 #[.int .i64 43, .int .i64 7, .int .i64 1] w (RB w (vdv 4 2)) := by
  have HOB := Kept.mk (fun w => obstacle_any 6 (-1) w (by omega) (by omega) (by omega) (by omega) _ pl6 _ _ ob6)
  have e1 : ((43 : Int).tmod 2 == 0) = false := by decide
  have e2 : ((43 : Int).tmod 4 == 3) = true := by decide
  have HX0 : Kept (Bxs w [vdbox 0 0] (w.alloc (vdbox 0 0))) := ⟨(Bxs.start w).alloc (by simp) _⟩
  go_enter Tryz.func31, Tryz.ntmps31
  go_wp2_with fail
  refine (HOB.out _).mono ?_
  rintro e w1 ⟨hb1, rfl⟩
  have hg2 := (hb1.block _ HX0.out.l1).trans HX0.out.b0
  obtain ⟨⟨d0, d1, d2, d3, d4, d5, d6, d7⟩, f⟩ := eight_cells hg2
  have g0 := f 0; have g1 := f 1; have g2 := f 2; have g3 := f 3; have g4 := f 4; have g5 := f 5; have g6 := f 6; have g7 := f 7
  have hset := eight_set hg2 (.int .i64 4) (.int .i64 2) (.bool false) (.slice none 0 0) (.bool false) (.slice none 0 0) (.bool false) (.slice none 0 0)
  obtain ⟨⟨s0, s1, s2, s3, s4, s5, s6, s7⟩, _⟩ := eight_cells hset
  have HBE := Kept.mk (eight_below (HX0.out.1.trans (hb1.mono HX0.out.1.size)) (Nat.le_refl _) (.int .i64 4) (.int .i64 2) (.bool false) (.slice none 0 0) (.bool false) (.slice none 0 0) (.bool false) (.slice none 0 0))
  clear f hset hg2 hb1
  go_wp2
  exact bodyPost_ret (v := vdv 4 2) (by simp [results, Tryz.results31, go_sem, s0, s1, s2, s3, s4, s5, s6, s7]) rfl ⟨HBE.out, rfl⟩
set_option maxRecDepth 20000 in
set_option maxHeartbeats 4000000 in
theorem judge_43 (w : World) : Calls Tryz.prog 24 #[.int .i64 43, .int .i64 7, .int .i64 1] w (RB w (.tuple #[vdv 4 2, .int .i64 0])) := by
  have HJS := Kept.mk (fun w => judgeSym_43 w)
  have HX0 : Kept (Bxs w [vdbox 0 0] (w.alloc (vdbox 0 0))) := ⟨(Bxs.start w).alloc (by simp) _⟩
  have q1 : ((42 : Int).tdiv 6) = 7 := by decide
  have q2 : ((301 : Int).tdiv 7) = 43 := by decide
  have q3 : ((42 : Int).tmod 6 != 0) = false := by decide
  have q4 : ((301 : Int).tmod 7 != 0) = false := by decide
  go_enter Tryz.func24, Tryz.ntmps24
  go_wp2_with fail
  refine (HJS.out _).mono ?_
  rintro e w1 ⟨hb1, rfl⟩
  have hg2 := (hb1.block _ HX0.out.l1).trans HX0.out.b0
  obtain ⟨⟨d0, d1, d2, d3, d4, d5, d6, d7⟩, f⟩ := eight_cells hg2
  have g0 := f 0; have g1 := f 1; have g2 := f 2; have g3 := f 3; have g4 := f 4; have g5 := f 5; have g6 := f 6; have g7 := f 7
  have hset := eight_set hg2 (.int .i64 4) (.int .i64 2) (.bool false) (.slice none 0 0) (.bool false) (.slice none 0 0) (.bool false) (.slice none 0 0)
  obtain ⟨⟨s0, s1, s2, s3, s4, s5, s6, s7⟩, _⟩ := eight_cells hset
  have HBE := Kept.mk (eight_below (HX0.out.1.trans (hb1.mono HX0.out.1.size)) (Nat.le_refl _) (.int .i64 4) (.int .i64 2) (.bool false) (.slice none 0 0) (.bool false) (.slice none 0 0) (.bool false) (.slice none 0 0))
  clear f hset hg2 hb1
  go_wp2
  exact bodyPost_ret (v := .tuple #[vdv 4 2, .int .i64 0]) (by simp [results, Tryz.results24, go_sem, s0, s1, s2, s3, s4, s5, s6, s7]) rfl ⟨HBE.out, rfl⟩
end Go.Proofs.YtalahdkhglagpaaGreatDoor
