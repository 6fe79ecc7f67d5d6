import Derived.Test.YtalahdkhglagpaaGreatDj
set_option linter.unusedVariables false
set_option linter.unusedSimpArgs false
namespace Go.Proofs.YtalahdkhglagpaaGreat
open Go Go.RowKit Go.Deep
open Dnt
open Dsg (rising_eq)
theorem tmod_nat {a : Int} {m : Nat} : a.tmod (m : Int) = 0 ↔ a.natAbs % m = 0 := by
  have h := Int.natAbs_tmod a (m : Int)
  rw [Int.natAbs_natCast] at h
  omega
/-- How far the reference's Places has come. -/
structure RlAt (a b : Int) (p : Nat) (l : List Int) : Prop where
  up : l.Pairwise (· < ·)
  mem : ∀ x, x ∈ l ↔ x = -1 ∨ x = 2 ∨ ∃ m : Nat, x = m ∧ isPr m ∧ 3 ≤ m ∧ m < p ∧ (a.natAbs % m = 0 ∨ b.natAbs % m = 0)
theorem RlAt.len {a b : Int} {p : Nat} {l : List Int} (h : RlAt a b p l) (hp : 3 ≤ p) : l.length ≤ p + 2 := by
  have h1 : ∀ x ∈ l, -1 ≤ x ∧ x < p := fun x hx => by
    rcases (h.mem x).1 hx with e | e | ⟨m, e, _, _, h3, _⟩ <;> omega
  have key : ∀ (l : List Int) (c : Int), l.Pairwise (· < ·) → (∀ x ∈ l, c ≤ x ∧ x < p) → (l.length : Int) ≤ max 0 (p - c) := by
    intro l
    induction l with
    | nil => intro c _ _; simp; omega
    | cons y t ih =>
      intro c hpw hb
      obtain ⟨h2, h3⟩ := List.pairwise_cons.1 hpw
      have := ih (y + 1) h3 (fun x hx => ⟨by have := h2 x hx; omega, (hb x (List.mem_cons_of_mem _ hx)).2⟩)
      have := hb y List.mem_cons_self
      simp only [List.length_cons]
      omega
  have := key l (-1) h.up h1
  omega
theorem RlAt.skip {a b : Int} {p : Nat} {l : List Int} (h : RlAt a b p l) (hp : p % 2 = 1) (hp3 : 3 ≤ p) (hn : ¬ ((a.natAbs % p = 0 ∨ b.natAbs % p = 0) ∧ isPr p)) : RlAt a b (p + 2) l := by
  refine ⟨h.up, fun x => ?_⟩
  rw [h.mem]
  constructor
  · rintro (e | e | ⟨m, e, h1, h2, h3, h4⟩)
    · exact .inl e
    · exact .inr (.inl e)
    · exact .inr (.inr ⟨m, e, h1, h2, by omega, h4⟩)
  · rintro (e | e | ⟨m, e, h1, h2, h3, h4⟩)
    · exact .inl e
    · exact .inr (.inl e)
    · refine .inr (.inr ⟨m, e, h1, h2, ?_, h4⟩)
      apply Classical.byContradiction
      intro hc
      have : m = p ∨ m = p + 1 := by omega
      rcases this with e1 | e1
      · subst e1
        exact hn ⟨h4, h1⟩
      · exact h1.2 2 (by omega) (by omega) (by omega)
theorem RlAt.take {a b : Int} {p : Nat} {l : List Int} (h : RlAt a b p l) (hp : p % 2 = 1) (hp3 : 3 ≤ p) (hd : a.natAbs % p = 0 ∨ b.natAbs % p = 0) (hpr : isPr p) : RlAt a b (p + 2) (l ++ [(p : Int)]) := by
  refine ⟨List.pairwise_append.2 ⟨h.up, by simp, fun x hx y hy => ?_⟩, fun x => ?_⟩
  · rw [List.mem_singleton] at hy
    subst hy
    rcases (h.mem x).1 hx with e | e | ⟨m, e, _, _, h3, _⟩ <;> omega
  · rw [List.mem_append, h.mem, List.mem_singleton]
    constructor
    · rintro ((e | e | ⟨m, e, h1, h2, h3, h4⟩) | e)
      · exact .inl e
      · exact .inr (.inl e)
      · exact .inr (.inr ⟨m, e, h1, h2, by omega, h4⟩)
      · exact .inr (.inr ⟨p, e, hpr, hp3, by omega, hd⟩)
    · rintro (e | e | ⟨m, e, h1, h2, h3, h4⟩)
      · exact .inl (.inl e)
      · exact .inl (.inr (.inl e))
      · by_cases hm : m < p
        · exact .inl (.inr (.inr ⟨m, e, h1, h2, hm, h4⟩))
        · have : m = p ∨ m = p + 1 := by omega
          rcases this with e1 | e1
          · subst e1
            exact .inr e
          · exact absurd (by omega) (h1.2 2 (by omega) (by omega))
theorem RlAt.done {a b : Int} {p : Nat} {l l' : List Int} (h : RlAt a b p l) (hp : 1000000 < p) (ha0 : a ≠ 0) (hb0 : b ≠ 0) (ha : a.natAbs ≤ 1000000) (hb : b.natAbs ≤ 1000000) (hl : Pl a b l') : l = l' := by
  refine rising_eq h.up hl.up fun x => ?_
  rw [h.mem, hl.mem]
  constructor
  · rintro (e | e | ⟨m, e, h1, h2, h3, h4⟩)
    · exact .inl e
    · exact .inr (.inl e)
    · exact .inr (.inr ⟨m, e, h1, h4⟩)
  · rintro (e | e | ⟨m, e, h1, h4⟩)
    · exact .inl e
    · exact .inr (.inl e)
    · by_cases h2 : m = 2
      · exact .inr (.inl (by omega))
      · have hm := h1.1
        have hle : m ≤ 1000000 := by
          rcases h4 with h4 | h4
          · exact Nat.le_trans (Nat.le_of_dvd (by omega) (Nat.dvd_of_mod_eq_zero h4)) ha
          · exact Nat.le_trans (Nat.le_of_dvd (by omega) (Nat.dvd_of_mod_eq_zero h4)) hb
        exact .inr (.inr ⟨m, e, h1, by omega, by omega, h4⟩)
theorem RlAt.start (a b : Int) : RlAt a b 3 [-1, 2] := by
  refine ⟨by simp, fun x => ?_⟩
  constructor
  · intro hx
    simp at hx
    rcases hx with e | e
    · exact .inl e
    · exact .inr (.inl e)
  · rintro (e | e | ⟨m, e, h1, h2, h3, h4⟩)
    · simp [e]
    · simp [e]
    · omega
open Classical in
set_option maxRecDepth 20000 in
set_option maxHeartbeats 8000000 in
theorem rplaces_any (a b : Int) (w : World) (ha0 : a ≠ 0) (hb0 : b ≠ 0) (ha : -1000000 ≤ a ∧ a ≤ 1000000) (hb : -1000000 ≤ b ∧ b ≤ 1000000) (l : List Int) (hl : Pl a b l) :
    Calls Tryz.prog 17 #[.int .i64 a, .int .i64 b] w (RetM w l) := by
  have HL := Kept.mk hl
  have HNZ := Kept.mk (And.intro (And.intro ha0 ha) (And.intro hb0 hb))
  have HPR := Kept.mk (fun (p : Nat) (hp : p ≤ 1000000) w => rprime_any (p : Int) w (by omega) (by omega))
  have hal := (Below.refl w.heap.size w).alloc (Nat.le_refl _) (.cells #[.int .i64 (-1), .int .i64 2] 3)
  have HM0 : Kept (Mine 3 .i64 w.heap.size (w.alloc (.cells #[.int .i64 (-1), .int .i64 2] 3)) (.slice (some ⟨w.heap.size, 0, none⟩) 2 2) [-1, 2]) := ⟨.inr ⟨w.heap.size, 2, _, rfl, Nat.le_refl _, heap_alloc_new w _, by simp, by simp, by unfold maxLen; omega, by simp⟩⟩
  have HB0 := Kept.mk hal
  have HR0 := Kept.mk (RlAt.start a b)
  clear hl ha0 hb0 ha hb hal
  go_enter Tryz.func17, Tryz.ntmps17
  go_wp2
  go_loopw [5, 6] (fun lv pv wr => ∃ (p : Nat) (xs : List Int), pv = .int .i64 p ∧ 3 ≤ p ∧ p ≤ 1000001 ∧ p % 2 = 1 ∧ Kept (RlAt a b p xs) ∧ Kept (Mine 3 .i64 w.heap.size wr lv xs) ∧ Kept (Below w.heap.size w wr)) (fun _ pv _ => 1000002 - (intOf pv).toNat)
  case atStart => exact ⟨3, _, rfl, by omega, by omega, by omega, HR0, HM0, HB0⟩
  case round =>
    obtain ⟨p, xs, rfl, hp3, hp1, hp2, hat, hmn, hbl⟩ := hrel
    by_cases hlt : p ≤ 1000000
    · have hlt' : (p : Int) ≤ 1000000 := by omega
      have hpz : ¬ ((p : Int) = 0) := by omega
      have HP := Kept.mk (HPR.out p hlt)
      obtain ⟨t, ht⟩ : ∃ t, decide (prI (p : Int)) = t := ⟨_, rfl⟩
      rw [ht] at HP
      have HT : Kept (t = true ↔ isPr p) := ⟨by rw [← ht, decide_eq_true_eq]; exact ⟨fun h => h.2, fun h => ⟨by omega, h⟩⟩⟩
      clear ht
      by_cases hd : a.natAbs % p = 0 ∨ b.natAbs % p = 0
      · cases t with
        | false =>
          have HN := Kept.mk (hat.out.skip hp2 hp3 (fun h => by have := HT.out.2 h.2; cases this))
          by_cases hda : a.natAbs % p = 0
          · have e1 : (a.tmod (p : Int) == 0) = true := beq_iff_eq.2 (tmod_nat.2 hda)
            clear hd hda
            go_wp2_with fail
            refine (HP.out _).mono ?_
            rintro e w1 ⟨rfl, rfl⟩
            go_wp2
            go_roundw
            case rel => exact ⟨p + 2, xs, by go_num, by omega, by omega, by omega, HN, hmn, hbl⟩
            case measure => simp [intOf] <;> omega
          · have e1 : (a.tmod (p : Int) == 0) = false := beq_eq_false_iff_ne.2 (fun h => hda (tmod_nat.1 h))
            have e2 : (b.tmod (p : Int) == 0) = true := beq_iff_eq.2 (tmod_nat.2 (hd.resolve_left hda))
            clear hd hda
            go_wp2_with fail
            refine (HP.out _).mono ?_
            rintro e w1 ⟨rfl, rfl⟩
            go_wp2
            go_roundw
            case rel => exact ⟨p + 2, xs, by go_num, by omega, by omega, by omega, HN, hmn, hbl⟩
            case measure => simp [intOf] <;> omega
        | true =>
          have HN := Kept.mk (hat.out.take hp2 hp3 hd (HT.out.1 rfl))
          have hlen := hat.out.len hp3
          obtain ⟨la, lc, hlv, _, _⟩ := hmn.out.sl.form
          obtain ⟨m, hml⟩ : ∃ m, xs.length = m := ⟨_, rfl⟩
          rw [hml] at hlv hlen
          subst hlv
          have H1 := Kept.mk (show (xs.length + [(p : Int)].length) * 8 ≤ 140737488355328 by rw [hml]; simp; omega)
          have H2 := Kept.mk (show xs.length + [(p : Int)].length ≤ maxLen by rw [hml]; unfold maxLen; simp; omega)
          have HMA := Kept.mk (hmn.out.alloc (.cells #[.int .i64 (p : Int)] 3))
          have HBB := Kept.mk (show w.heap.size ≤ (wr.alloc (.cells #[.int .i64 (p : Int)] 3)).heap.size by have := hbl.out.size; simp; omega)
          have HNW := Kept.mk (new_one (K := .i64) (x := (p : Int)) (w := wr.alloc (.cells #[.int .i64 (p : Int)] 3)) (b := wr.heap.size) (o := 0) (by exact (Row.new (E := 3) (K := .i64) wr [(p : Int)]).cell (i := 0) (by simp)))
          have HBA := Kept.mk (hbl.out.alloc hbl.out.size (.cells #[.int .i64 (p : Int)] 3))
          clear hml hlen
          by_cases hda : a.natAbs % p = 0
          · have e1 : (a.tmod (p : Int) == 0) = true := beq_iff_eq.2 (tmod_nat.2 hda)
            clear hd hda
            go_wp2_with fail
            refine (HP.out _).mono ?_
            rintro e w1 ⟨rfl, rfl⟩
            go_wp2_with (at_builtin; refine wpList_append_mine _ rfl _ _ 22 rfl 3 .i64 8 Tryz.underlying22 info_i64 w.heap.size _ xs rfl HMA.out HBB.out ⟨wr.heap.size, 0, none⟩ 1 1 [(p : Int)] rfl rfl HNW.out H1.out H2.out ?_)
            intro v' w5 hM5 hg5 hn5
            have HM5 := Kept.mk hM5
            have HB5 := Kept.mk (HBA.out.grown hg5 HBA.out.size (fun k hk => (HMA.out.own k hk).1))
            clear hM5 hg5 hn5
            go_wp2
            go_roundw
            case rel => exact ⟨p + 2, _, by go_num, by omega, by omega, by omega, HN, HM5, HB5⟩
            case measure => simp [intOf] <;> omega
          · have e1 : (a.tmod (p : Int) == 0) = false := beq_eq_false_iff_ne.2 (fun h => hda (tmod_nat.1 h))
            have e2 : (b.tmod (p : Int) == 0) = true := beq_iff_eq.2 (tmod_nat.2 (hd.resolve_left hda))
            clear hd hda
            go_wp2_with fail
            refine (HP.out _).mono ?_
            rintro e w1 ⟨rfl, rfl⟩
            go_wp2_with (at_builtin; refine wpList_append_mine _ rfl _ _ 22 rfl 3 .i64 8 Tryz.underlying22 info_i64 w.heap.size _ xs rfl HMA.out HBB.out ⟨wr.heap.size, 0, none⟩ 1 1 [(p : Int)] rfl rfl HNW.out H1.out H2.out ?_)
            intro v' w5 hM5 hg5 hn5
            have HM5 := Kept.mk hM5
            have HB5 := Kept.mk (HBA.out.grown hg5 HBA.out.size (fun k hk => (HMA.out.own k hk).1))
            clear hM5 hg5 hn5
            go_wp2
            go_roundw
            case rel => exact ⟨p + 2, _, by go_num, by omega, by omega, by omega, HN, HM5, HB5⟩
            case measure => simp [intOf] <;> omega
      · have HN := Kept.mk (hat.out.skip hp2 hp3 (fun h => hd h.1))
        have e1 : (a.tmod (p : Int) == 0) = false := beq_eq_false_iff_ne.2 (fun h => hd (.inl (tmod_nat.1 h)))
        have e2 : (b.tmod (p : Int) == 0) = false := beq_eq_false_iff_ne.2 (fun h => hd (.inr (tmod_nat.1 h)))
        clear hd
        go_wp2
        go_roundw
        case rel => exact ⟨p + 2, xs, by go_num, by omega, by omega, by omega, HN, hmn, hbl⟩
        case measure => simp [intOf] <;> omega
    · have hlt' : ¬ (p : Int) ≤ 1000000 := by omega
      have HE : Kept (xs = l) := ⟨hat.out.done (by omega) HNZ.out.1.1 HNZ.out.2.1 (by have := HNZ.out.1.2; omega) (by have := HNZ.out.2.2; omega) HL.out⟩
      go_wp2
      go_ret
      exact ⟨hbl.out, _, rfl, by rw [← HE.out]; exact hmn.out⟩
end Go.Proofs.YtalahdkhglagpaaGreat
