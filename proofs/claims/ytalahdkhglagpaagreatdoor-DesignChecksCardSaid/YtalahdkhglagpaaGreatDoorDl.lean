import Derived.Test.YtalahdkhglagpaaGreatDoorDk
set_option linter.unusedVariables false
set_option linter.unusedSimpArgs false
namespace Go.Proofs.YtalahdkhglagpaaGreatDoor
open Go Go.RowKit Go.Deep
open Dnt
attribute [local go_sem] Oper.semAt_some
theorem ret_plain {P : Program} {n : Nat} {fn : Func} {R : Ending → World → Prop} {tmps : Array Value} {w : World} {v : Value} (h1 : (results fn tmps).run P w = .ok v w) (h2 : R (.returned v) w) :
    bodyPostM Fence.wide n P fn R .ret { tmps, defers := [] } w := ⟨v, h1, h2⟩
theorem ret_mark {P : Program} {n : Nat} {fn : Func} {R : Ending → World → Prop} {tmps : Array Value} {w : World} {v : Value} {D : Nat} (hK : w.heap[D]? = some dl0) (h1 : (results fn tmps).run P (w.putObj D (.deferred none)) = .ok v (w.putObj D (.deferred none))) (h2 : R (.returned v) (w.putObj D (.deferred none))) :
    bodyPostM Fence.wide n P fn R .ret { tmps, defers := [{ target := .collected D, args := #[] }] } w := ⟨by simp, .inl ⟨D, _, rfl, run_takeDeferred hK, v, h1, h2⟩⟩
set_option maxRecDepth 20000 in
theorem primes_call (n : Int) (W : World) :
    Calls Tryz.prog 44 #[.int .i64 n] W (fun e w' => e = .returned (.func (.func 67) #[] #[.pointer (some ⟨W.heap.size, 0, none⟩)]) ∧ W.alloc (.cells #[.int .i64 n] 2) = w') := by
  go_enter Tryz.func44, Tryz.ntmps44
  go_wp2
  go_ret
  exact ⟨rfl, rfl⟩
theorem put_below {w W : World} {D : Nat} (h : Below w.heap.size w W) (hD : w.heap.size ≤ D) (o : Obj) : Below w.heap.size w (W.putObj D o) :=
  h.grown (grownBy_putObj' W D o) h.size (fun k hk => by cases hk; exact hD)
theorem beq_decide (a b : Int) : decide (a = b) = (a == b) := by
  by_cases h : a = b
  · rw [decide_eq_true h, beq_iff_eq.2 h]
  · rw [decide_eq_false h, beq_eq_false_iff_ne.2 h]
open Classical in
set_option maxRecDepth 20000 in
set_option maxHeartbeats 2000000 in
theorem isPlace_any (n : Int) (w : World) (hm : -9223372036854775808 ≤ n ∧ n ≤ 9223372036854775807) : Calls Tryz.prog 33 #[.int .i64 n] w (RB w (.bool (decide (plI n)))) := by
  obtain ⟨t, ht⟩ : ∃ t, decide (plI n) = t := ⟨_, rfl⟩
  rw [ht]
  have HT := Kept.mk ht
  have HPC := Kept.mk (fun W => primes_call n W)
  clear ht
  have HX2 : Kept (Bxs w [.cells #[.int .i64 n] 3, .cells #[.bool false] 4] ((w.alloc (.cells #[.int .i64 n] 3)).alloc (.cells #[.bool false] 4))) := ⟨((Bxs.start w).alloc (by simp) _).alloc (by simp) _⟩
  have c0 := one_cell_ HX2.out.b0
  have c1 := one_cell_ HX2.out.b1
  have f1 := frozen_of_row _ _ 0 _ _ HX2.out.b1
  refine (callsIn_wide (n := 1)).1 ?_
  refine callsIn_of_wp_marks Tryz.func33 rfl trivial ?_ rfl
  simp only [Tryz.ntmps33, List.size_toArray, List.length_cons, List.length_nil, Nat.reduceAdd, Nat.reduceSub, Array.replicate_succ, Array.replicate_zero, List.push_toArray, List.append_toArray, List.nil_append, List.cons_append]
  refine wpIn_wide.2 ?_
  by_cases h1 : n < 2
  · have e1 : decide (n < 2) = true := decide_eq_true h1
    obtain ⟨b, hb⟩ : ∃ b, (n == -1) = b := ⟨_, rfl⟩
    have HF : Kept (t = b) := ⟨by
      rw [← HT.out, ← hb, ← beq_decide]
      exact decide_eq_decide.2 ⟨fun h => h.elim id fun h => by have := h.2.1; omega, .inl⟩⟩
    have HX3 : Kept (Bxs w [.cells #[.int .i64 n] 3, .cells #[.bool b] 4] ((w.alloc (.cells #[.int .i64 n] 3)).alloc (.cells #[.bool b] 4))) := ⟨((Bxs.start w).alloc (by simp) _).alloc (by simp) _⟩
    have d1 := one_cell_ HX3.out.b1
    go_wp2
    refine ret_plain (v := .bool b) (by simp [results, Tryz.results33, go_sem, d1]) ⟨HX3.out.1, by rw [HF.out]⟩
  · have e1 : decide (n < 2) = false := decide_eq_false h1
    by_cases h2 : n > 1000000
    · have e2 : decide (n > 1000000) = true := decide_eq_true h2
      obtain ⟨b, hb⟩ : ∃ b, (n == -1) = b := ⟨_, rfl⟩
      have HF : Kept (t = b) := ⟨by
        rw [← HT.out, ← hb, ← beq_decide]
        exact decide_eq_decide.2 ⟨fun h => h.elim id fun h => by have := h.1; omega, .inl⟩⟩
      have HX3 : Kept (Bxs w [.cells #[.int .i64 n] 3, .cells #[.bool b] 4] ((w.alloc (.cells #[.int .i64 n] 3)).alloc (.cells #[.bool b] 4))) := ⟨((Bxs.start w).alloc (by simp) _).alloc (by simp) _⟩
      have d1 := one_cell_ HX3.out.b1
      go_wp2
      refine ret_plain (v := .bool b) (by simp [results, Tryz.results33, go_sem, d1]) ⟨HX3.out.1, by rw [HF.out]⟩
    · have e2 : decide (n > 1000000) = false := decide_eq_false h2
      obtain ⟨l, hl⟩ := Pf.ex n.natAbs 2 n.natAbs (by omega) (by omega) (by omega)
      have HMEM : Kept (∀ x : Nat, x ∈ l.map (·.1) ↔ isPr x ∧ n.natAbs % x = 0) := ⟨hl.mem (by omega) (by omega) (Rough.two _)⟩
      have HL := Kept.mk hl
      clear hl
      go_wp2_with fail
      refine (HPC.out _).mono ?_
      rintro e w3 ⟨rfl, hw3⟩
      have HX3 : Bxs w [.cells #[.int .i64 n] 3, .cells #[.bool false] 4, .cells #[.int .i64 n] 2] w3 := by rw [← hw3]; exact HX2.out.alloc (by simp) _
      have hz3 : w3.heap.size = w.heap.size + 3 := by rw [← hw3]; simp
      have g0 := HX3.b0
      have g1 := HX3.b1
      have g2 := HX3.2.2 2 _ rfl
      have hbz := HX3.1
      have HIT := primes1_any n (w.heap.size + 2) l w3 HL.out (by omega) (by omega) (by omega) (one_cell_ g2)
      clear hw3 HX3 c0 c1 f1 HX2
      go_wp2
      refine range_own (gf := 67) (lb := #[.pointer (some ⟨w.heap.size + 2, 0, none⟩)]) rfl (enters_of Tryz.func67 (by kernel_rfl) rfl)
        HIT (Below.refl _ _) (fun _ _ => rfl) (fun s x A A' h _ => h) (fun _ _ _ _ _ _ _ => trivial)
        (fun pre W => (∀ x ∈ pre, (x.1 : Int) ≠ n) ∧ Below w.heap.size w W ∧ W.heap[w.heap.size]? = some (.cells #[.int .i64 n] 3 (0, 0)) ∧ W.heap[w.heap.size + 1]? = some (.cells #[.bool false] 4 (0, 0)))
        (fun c pre W => c = .ret ∧ (∃ x ∈ pre, (x.1 : Int) = n) ∧ Below w.heap.size w W ∧ W.heap[w.heap.size + 1]? = some (.cells #[.bool true] 4 (0, 0)))
        (fun s A A' ⟨h1, h2, h3, h4⟩ ho => ⟨h1, h2.trans (ho.below h2.size fun k hk => by have := hk.1; omega), (ho.block _ (Array.getElem?_eq_some_iff.1 h3).1 (fun hu => by have := hu.1; omega)).trans h3, (ho.block _ (Array.getElem?_eq_some_iff.1 h4).1 (fun hu => by have := hu.1; omega)).trans h4⟩)
        (fun c s A A' ⟨h0, h1, h2, h4⟩ ho => ⟨h0, h1, h2.trans (ho.below h2.size fun k hk => by have := hk.1; omega), (ho.block _ (Array.getElem?_eq_some_iff.1 h4).1 (fun hu => by have := hu.1; omega)).trans h4⟩)
        ⟨by simp, hbz, g0, g1⟩
        (fun x => { tmps := #[.int .i64 n, .pointer (some ⟨w.heap.size, 0, none⟩), .pointer (some ⟨w.heap.size + 1, 0, none⟩), .int .i64 (x.1 : Nat), .int .i64 n, .bool false, .bool false, .int .i64 n, .bool false, .bool false, undef, undef, .int .i64 n, .func (.func 67) #[] #[.pointer (some ⟨w.heap.size + 1 + 1, 0, none⟩)], .int .i64 (x.1 : Nat), .int .i64 (x.2 : Nat), undef, undef, undef], defers := [] }) ?assign ?body ?done ?stop
      case assign =>
        intro x W H hH
        gi_wp2
        exact hH
      case stop =>
        rintro c pre W hp ⟨rfl, ⟨x, hx, hxn⟩, hb, hg⟩ hK
        have HF : Kept (t = true) := ⟨by
          rw [← HT.out]
          obtain ⟨suf, hsf⟩ := hp.ex
          have hm : x.1 ∈ l.map (·.1) := List.mem_map.2 ⟨x, by rw [hsf]; exact List.mem_append_left _ hx, rfl⟩
          have := ((HMEM.out x.1).1 hm).1
          exact decide_eq_true (.inr ⟨by omega, by omega, by rw [show n.toNat = x.1 by omega]; exact this⟩)⟩
        have d1 := one_cell_ hg
        have hK2 : (W.putObj w3.heap.size (.deferred none)).cell? ⟨w.heap.size + 1, 0, none⟩ = some (.bool true) := by
          rw [← d1]
          exact World.cell?_of_block (World.putObj_heap_other (by show w.heap.size + 1 ≠ w3.heap.size; omega))
        have hb2 := put_below hb (D := w3.heap.size) (by omega) (.deferred none)
        go_wp2
        refine ret_mark (v := .bool true) hK (by simp [results, Tryz.results33, go_sem, hK2]) ⟨hb2, by rw [HF.out]⟩
      case done =>
        rintro xs W hS ⟨h1, hb, hg0, hg1⟩ hK
        obtain rfl := hS.eq
        have HF : Kept (t = false) := ⟨by
          rw [← HT.out]
          refine decide_eq_false fun h => ?_
          rcases h with h | h
          · omega
          · have hm := (HMEM.out n.toNat).2 ⟨h.2.2, by rw [show n.natAbs = n.toNat by omega]; exact Nat.mod_self _⟩
            obtain ⟨x, hx, he⟩ := List.mem_map.1 hm
            exact h1 x hx (by omega)⟩
        have d1 := one_cell_ hg1
        have f1 := frozen_of_row _ _ 0 _ _ hg1
        have hset := heap_setCell_same W (w.heap.size + 1) 0 _ _ (.bool false) hg1
        have hKs : (W.setCell ⟨w.heap.size + 1, 0, none⟩ (.bool false)).heap[w3.heap.size]? = some dl0 := (heap_setCell_other W _ _ _ (by show w3.heap.size ≠ w.heap.size + 1; omega)).trans hK
        have hbs := hb.setCell (p := ⟨w.heap.size + 1, 0, none⟩) (by show w.heap.size ≤ w.heap.size + 1; omega) (.bool false)
        have hK2 : ((W.setCell ⟨w.heap.size + 1, 0, none⟩ (.bool false)).putObj w3.heap.size (.deferred none)).cell? ⟨w.heap.size + 1, 0, none⟩ = some (.bool false) := by
          rw [World.cell?_of_block (World.putObj_heap_other (by show w.heap.size + 1 ≠ w3.heap.size; omega))]
          exact one_cell_ (by simpa using hset)
        have hb2 := put_below hbs (D := w3.heap.size) (by omega) (.deferred none)
        clear h1 hg0 hset
        go_wp2
        refine ret_mark (v := .bool false) hKs (by simp [results, Tryz.results33, go_sem, hK2]) ⟨hb2, by rw [HF.out]⟩
      case body =>
        rintro pre x W hz ⟨h1, hb, hg0, hg1⟩ ⟨suf, hsf⟩
        have d0 := one_cell_ hg0
        have d1 := one_cell_ hg1
        have f1 := frozen_of_row _ _ 0 _ _ hg1
        have hset := heap_setCell_same W (w.heap.size + 1) 0 _ _ (.bool true) hg1
        have hbs := hb.setCell (p := ⟨w.heap.size + 1, 0, none⟩) (by show w.heap.size ≤ w.heap.size + 1; omega) (.bool true)
        have hr1 : (W.setCell ⟨w.heap.size + 1, 0, none⟩ (.bool true)).heap[w3.heap.size]? = W.heap[w3.heap.size]? := heap_setCell_other W _ _ _ (by show w3.heap.size ≠ w.heap.size + 1; omega)
        have hr2 : (W.setCell ⟨w.heap.size + 1, 0, none⟩ (.bool true)).heap[w3.heap.size + 1]? = W.heap[w3.heap.size + 1]? := heap_setCell_other W _ _ _ (by show w3.heap.size + 1 ≠ w.heap.size + 1; omega)
        by_cases hxn : (x.1 : Int) = n
        · have e5 : ((x.1 : Int) == n) = true := beq_iff_eq.2 hxn
          gi_wp2
          exact ⟨⟨hr1, hr2⟩, rfl, ⟨x, by simp, hxn⟩, hbs, by simpa using hset⟩
        · have e5 : ((x.1 : Int) == n) = false := beq_eq_false_iff_ne.2 hxn
          gi_wp2
          exact ⟨⟨rfl, rfl⟩, trivial, fun y hy => (List.mem_append.1 hy).elim (h1 y) (fun h => by rw [List.mem_singleton] at h; rw [h]; exact hxn), hb, hg0, hg1⟩
end Go.Proofs.YtalahdkhglagpaaGreatDoor
