import Derived.Test.YtalahdkhglagpaaGreatDoorDl
import Derived.Test.YtalahdkhglagpaaGreatDoorInl
import Derived.Test.YtalahdkhglagpaaGreatDoorDcm
import Derived.LoopN
set_option linter.unusedVariables false
set_option linter.unusedSimpArgs false
namespace Go.Proofs.YtalahdkhglagpaaGreatDoor
open Go Go.RowKit Go.Deep
open Dnt
open Dsg (srt srt_perm srt_le rising_eq rising_of)
attribute [local go_sem] Oper.semAt_some
theorem wpListIn_append_mine {P : Program} {L n : Nat} (w : World) {ops : Array Oper} {rest : List Oper} {o : Oper} {a : Act} {Q : Exit → Act → World → Prop} (hgd : o.guard = none) (s x : Operand) (t : TypeId)
    (ho : o.op = .call { callee := .builtin .append, args := #[s, x], argTypes := #[t, t] }) (E : TypeId) (K : IntKind) (bytes : Nat) (ht : P.underlying t = some (.slice E))
    (hinfo : (P.info? E).map (fun i => (i.zero, i.size, i.bytes)) = some (some (.int K 0), 1, bytes)) (B : Nat) (v : Value) (xs : List Int) (hs : a.eval s = v) (hM : Mine E K B w v xs) (hB : B ≤ w.heap.size)
    (ad : Addr) (m c : Nat) (news : List Int) (hx : a.eval x = .slice (some ad) m c) (hl : news.length = m) (hnews : ∀ j u, (news.map (Value.int K))[j]? = some u → w.cell? (ad.add j) = some u)
    (hb : (xs.length + news.length) * bytes ≤ 140737488355328) (hm : xs.length + news.length ≤ maxLen)
    (h : ∀ v' w', Mine E K B w' v' (xs ++ news) → w.grownBy w' v.ownBlock → (v'.ownBlock = v.ownBlock ∨ Frm w.heap.size v') → wpListIn (Fence.wide.inRound L) n P ops Q rest (a.put o.dst v') w') : wpListIn (Fence.wide.inRound L) n P ops Q (o :: rest) a w :=
  wpListIn_plain hgd fun K' hK => oper_round (fun c e => by rw [ho] at e; cases e) (wp_append_mine w s x t ho E K bytes ht hinfo B v xs hs hM hB ad m c news hx hl hnews hb hm (fun v' w' h1 h2 h3 => hK _ _ (h v' w' h1 h2 h3)))
/-- The box at B1 holds a slice of xs, in a row of the call's own, in no block of the loops'. -/
structure Bx (B B1 : Nat) (X : Nat → Prop) (w0 : World) (xs : List Int) (W : World) : Prop where
  bel : Below B w0 W
  box : ∃ v, W.heap[B1]? = some (.cells #[v] 40 (0, 0)) ∧ Mine 3 .i64 B W v xs ∧ ∀ k, v.ownBlock = some k → k ≠ B1 ∧ ¬ X k
theorem Bx.oth {B B1 : Nat} {X U : Nat → Prop} {w0 : World} {xs : List Int} {A A' : World} (h : Bx B B1 X w0 xs A) (ho : Oth U A A') (h1 : ¬ U B1) (hU : ∀ k, U k → X k ∧ B ≤ k) (hb : B ≤ A.heap.size) : Bx B B1 X w0 xs A' := by
  obtain ⟨v, h2, h3, h4⟩ := h.box
  refine ⟨h.bel.trans (ho.below hb fun k hk => (hU k hk).2), v, (ho.block _ (Array.getElem?_eq_some_iff.1 h2).1 h1).trans h2, ?_, h4⟩
  rcases h3 with h3 | ⟨g, cap, cur, rfl, hB, hg, rest⟩
  · exact .inl h3
  · exact .inr ⟨g, cap, cur, rfl, hB, (ho.block g (Array.getElem?_eq_some_iff.1 hg).1 (fun hu => (h4 g rfl).2 (hU g hu).1)).trans hg, rest⟩
theorem Bx.weak {B B1 : Nat} {X Y : Nat → Prop} {w0 : World} {xs : List Int} {A : World} (h : Bx B B1 X w0 xs A) (hY : ∀ k, k < A.heap.size → Y k → X k) : Bx B B1 Y w0 xs A := by
  obtain ⟨v, h2, h3, h4⟩ := h.box
  exact ⟨h.bel, v, h2, h3, fun k hk => ⟨(h4 k hk).1, fun hy => (h4 k hk).2 (hY k (h3.own k hk).2 hy)⟩⟩
/-- What a round leaves: the row has grown, and the box holds it. -/
theorem Bx.next {B B1 : Nat} {X : Nat → Prop} {w0 : World} {xs ys : List Int} {W W5 : World} {v u : Value} {o : Obj} (h : Bx B B1 X w0 xs W) (hv : W.heap[B1]? = some (.cells #[v] 40 (0, 0))) (hB1 : B ≤ B1) (hBW : B ≤ W.heap.size)
    (hm : Mine 3 .i64 B W5 u ys) (hg : (W.alloc o).grownBy W5 v.ownBlock) (hn : u.ownBlock = v.ownBlock ∨ Frm (W.heap.size + 1) u) (hX : ∀ k, X k → k < W.heap.size) (hXB : ¬ X B1) :
    Bx B B1 X w0 ys (W5.setCell ⟨B1, 0, none⟩ u) ∧ (∀ k, X k → (W5.setCell ⟨B1, 0, none⟩ u).heap[k]? = W.heap[k]?) ∧ W5.cell? ⟨B1, 0, none⟩ = some v ∧ W5.frozen? ⟨B1, 0, none⟩ = false := by
  obtain ⟨v', h2, h3, h4⟩ := h.box
  rw [hv] at h2
  obtain rfl : v = v' := by simpa using h2
  have hB1l : B1 < W.heap.size := (Array.getElem?_eq_some_iff.1 hv).1
  have hb5 : W5.heap[B1]? = some (.cells #[v] 40 (0, 0)) := by
    rw [hg.block B1 (by simp; omega) (fun e => (h4 B1 e.symm).1 rfl)]
    exact (heap_alloc_old _ _ hB1l).trans hv
  have hset := heap_setCell_same W5 B1 0 _ _ u hb5
  have hgs : W5.grownBy (W5.setCell ⟨B1, 0, none⟩ u) (some B1) := growSet (growRefl _ _) _ _
  have hun : ∀ k, u.ownBlock = some k → k ≠ B1 ∧ ¬ X k := fun k hk => by
    rcases hn with e | e
    · exact h4 k (by rw [← e]; exact hk)
    · have := e k hk
      exact ⟨by omega, fun hx => by have := hX k hx; omega⟩
  refine ⟨⟨?_, u, by simpa using hset, hm.off hgs fun k hk e => (hun k hk).1 (by cases e; rfl), hun⟩, fun k hk => ?_, one_cell_ hb5, frozen_of_row _ _ 0 _ _ hb5⟩
  · have h5 : Below B w0 W5 := (h.bel.alloc hBW o).grown hg (by simp; omega) fun k hk => (h3.own k hk).1
    exact h5.setCell (p := ⟨B1, 0, none⟩) hB1 _
  · have hkl := hX k hk
    rw [heap_setCell_other W5 _ _ _ (show k ≠ B1 from fun e => hXB (e ▸ hk))]
    rw [hg.block k (by simp; omega) (fun e => (h4 k e.symm).2 hk)]
    exact heap_alloc_old _ _ hkl
theorem zs_next (zs : List Int) (pre : List (Nat × Nat)) (x : Nat × Nat) : zs ++ (pre ++ [x]).map (fun x => (x.1 : Int)) = (zs ++ pre.map (fun x => (x.1 : Int))) ++ [(x.1 : Int)] := by simp
theorem ret_mark2 {P : Program} {n : Nat} {fn : Func} {R : Ending → World → Prop} {tmps : Array Value} {w : World} {v : Value} {D D2 : Nat} (hne : D ≠ D2) (hK2 : w.heap[D2]? = some dl0) (hK : w.heap[D]? = some dl0)
    (h1 : (results fn tmps).run P ((w.putObj D2 (.deferred none)).putObj D (.deferred none)) = .ok v ((w.putObj D2 (.deferred none)).putObj D (.deferred none))) (h2 : R (.returned v) ((w.putObj D2 (.deferred none)).putObj D (.deferred none))) :
    bodyPostM Fence.wide n P fn R .ret { tmps, defers := [{ target := .collected D2, args := #[] }, { target := .collected D, args := #[] }] } w :=
  ⟨by simp, .inl ⟨D2, _, rfl, run_takeDeferred hK2, by simp, .inl ⟨D, _, rfl, run_takeDeferred ((World.putObj_heap_other hne).trans hK), v, h1, h2⟩⟩⟩
set_option maxRecDepth 20000 in
set_option maxHeartbeats 4000000 in
theorem places_any (a b : Int) (w : World) (ha0 : a ≠ 0) (hb0 : b ≠ 0) (ha : -1000000 ≤ a ∧ a ≤ 1000000) (hb : -1000000 ≤ b ∧ b ≤ 1000000) (l : List Int) (hl : Pl a b l) :
    Calls Tryz.prog 62 #[.int .i64 a, .int .i64 b] w (RetM w l) := by
  obtain ⟨la, hla⟩ := Pf.ex a.natAbs 2 a.natAbs (by omega) (by omega) (by omega)
  obtain ⟨lb, hlb⟩ := Pf.ex b.natAbs 2 b.natAbs (by omega) (by omega) (by omega)
  have HMA : Kept (∀ x : Nat, x ∈ la.map (·.1) ↔ isPr x ∧ a.natAbs % x = 0) := ⟨hla.mem (by omega) (by omega) (Rough.two _)⟩
  have HMB : Kept (∀ x : Nat, x ∈ lb.map (·.1) ↔ isPr x ∧ b.natAbs % x = 0) := ⟨hlb.mem (by omega) (by omega) (Rough.two _)⟩
  have HLA := Kept.mk hla
  have HLB := Kept.mk hlb
  have HPA := Kept.mk (fun W => primes_call a W)
  have HPB := Kept.mk (fun W => primes_call b W)
  have HL := Kept.mk hl
  have HNA : Kept (la.length ≤ 40) := ⟨exp_le (hla.len (by omega) (by omega)) (by omega)⟩
  have HNB : Kept (lb.length ≤ 40) := ⟨exp_le (hlb.len (by omega) (by omega)) (by omega)⟩
  have HNZ := Kept.mk (And.intro (And.intro ha0 ha) (And.intro hb0 hb))
  have i0 : ∀ w, (Instr.index 132 (.agg #[.int .i64 a, .int .i64 b]) (.int .i64 0)).run Tryz.prog w = .ok (.int .i64 a) w := fun _ => by kernel_rfl
  have i1 : ∀ w, (Instr.index 132 (.agg #[.int .i64 a, .int .i64 b]) (.int .i64 1)).run Tryz.prog w = .ok (.int .i64 b) w := fun _ => by kernel_rfl
  clear hla hlb hl ha0 hb0 ha hb
  refine (callsIn_wide (n := 1)).1 ?_
  refine callsIn_of_wp_marks Tryz.func62 rfl trivial ?_ rfl
  simp only [Tryz.ntmps62, List.size_toArray, List.length_cons, List.length_nil, Nat.reduceAdd, Nat.reduceSub, Array.replicate_succ, Array.replicate_zero, List.push_toArray, List.append_toArray, List.nil_append, List.cons_append]
  refine wpIn_wide.2 ?_
  go_wp2
  obtain ⟨W1, hW1⟩ : ∃ W1, (w.alloc (.cells #[.int .i64 (-1), .int .i64 2] 3)).alloc (.cells #[.slice (some ⟨w.heap.size, 0, none⟩) 2 2] 40) = W1 := ⟨_, rfl⟩
  have HX1 : Bxs w [.cells #[.int .i64 (-1), .int .i64 2] 3, .cells #[.slice (some ⟨w.heap.size, 0, none⟩) 2 2] 40] W1 := by rw [← hW1]; exact ((Bxs.start w).alloc (by simp) _).alloc (by simp) _
  have hz1 : W1.heap.size = w.heap.size + 2 := by rw [← hW1]; simp
  rw [hW1]
  clear hW1
  refine wp_loop_rounds 3 ?_
  rw [rounds_succ]
  go_wp2_with fail
  refine (HPA.out _).mono ?_
  rintro e w3 ⟨rfl, hw3⟩
  rw [hz1]
  have HX3 : Bxs w [.cells #[.int .i64 (-1), .int .i64 2] 3, .cells #[.slice (some ⟨w.heap.size, 0, none⟩) 2 2] 40, .cells #[.int .i64 a] 2] w3 := by rw [← hw3]; exact HX1.alloc (by simp; omega) _
  have hz3 : w3.heap.size = w.heap.size + 3 := by rw [← hw3]; simp; omega
  have HITa := primes1_any a (w.heap.size + 2) la w3 HLA.out HNZ.out.1.1 HNZ.out.1.2 (by omega) (one_cell_ (HX3.2.2 2 _ rfl))
  obtain ⟨z0, hz0⟩ : ∃ z0, ([-1, 2] : List Int) = z0 := ⟨_, rfl⟩
  have HZLa : Kept (z0.length ≤ 2) := ⟨by rw [← hz0]; simp⟩
  have hbx0 : Bx w.heap.size (w.heap.size + 1) (fun k => k = w.heap.size + 3 ∨ k = w.heap.size + 3 + 1) w (z0 ++ ([] : List (Nat × Nat)).map (fun x => (x.1 : Int))) w3 := by
    refine ⟨HX3.1, _, HX3.b1, ?_, fun k hk => ?_⟩
    · rw [← hz0]
      exact .inr ⟨w.heap.size, 2, _, rfl, Nat.le_refl _, HX3.b0, by simp, by simp, by unfold maxLen; omega, by simp⟩
    · simp [Value.ownBlock] at hk
      omega
  have HZ0 := Kept.mk hz0
  clear hw3 HX1 HX3 hz0
  go_wp2
  refine range_own (gf := 67) (lb := #[.pointer (some ⟨w.heap.size + 2, 0, none⟩)]) rfl (enters_of Tryz.func67 (by kernel_rfl) rfl)
    HITa (Below.refl _ _) (fun _ _ => rfl) (fun s x A A' h _ => h) (fun _ _ _ _ _ _ _ => trivial)
    (fun pre W => Bx w.heap.size (w.heap.size + 1) (fun k => k = w.heap.size + 3 ∨ k = w.heap.size + 3 + 1) w (z0 ++ pre.map (fun x => (x.1 : Int))) W)
    (fun c pre W => False)
    (fun s A A' h ho => h.oth ho (fun hu => by have := hu.1; omega) (fun k hk => ⟨by have := hk.1; have := hk.2; omega, by have := hk.1; omega⟩) h.bel.size)
    (fun c s A A' h ho => h)
    hbx0
    (fun x => { tmps := #[.int .i64 a, .int .i64 b, undef, undef, .slice none 0 0, .pointer (some ⟨w.heap.size + 1, 0, none⟩), undef, .int .i64 a, .int .i64 (x.1 : Nat), .slice (some ⟨w.heap.size, 0, none⟩) 2 2, .int .i64 a, .int .i64 b, .agg #[.int .i64 a, .int .i64 b], .int .i64 0, .bool true, .int .i64 a, .int .i64 a, .func (.func 67) #[] #[.pointer (some ⟨w.heap.size + 2, 0, none⟩)], .int .i64 (x.1 : Nat), .int .i64 (x.2 : Nat), undef, undef, undef, undef, undef, undef, undef, undef, undef], defers := [] }) ?assign ?body ?done ?stop
  case assign =>
    intro x W H hH
    gi_wp2
    exact hH
  case stop =>
    intro c pre W _ h
    exact h.elim
  case body =>
    rintro pre x W hz hbx ⟨suf, hsf⟩
    obtain ⟨v, hv, hmn, hvx⟩ := hbx.box
    have hpl : (z0 ++ pre.map (fun x => (x.1 : Int))).length ≤ 200 := by
      have h1 := congrArg List.length hsf
      have h2 := HNA.out
      have h3 := HZLa.out
      simp at h1 h3 ⊢
      omega
    obtain ⟨ys, hys⟩ : ∃ ys, z0 ++ pre.map (fun x => (x.1 : Int)) = ys := ⟨_, rfl⟩
    rw [hys] at hbx hmn hpl
    have HZN : Kept (z0 ++ (pre ++ [x]).map (fun x => (x.1 : Int)) = ys ++ [(x.1 : Int)]) := ⟨by rw [zs_next, hys]⟩
    obtain ⟨va, vc, hvf, _, _⟩ := hmn.sl.form
    obtain ⟨m, hml⟩ : ∃ m, ys.length = m := ⟨_, rfl⟩
    rw [hml] at hvf hpl
    subst hvf
    have hB1l : w.heap.size + 1 < W.heap.size := (Array.getElem?_eq_some_iff.1 hv).1
    have HMA := Kept.mk (hmn.alloc (.cells #[.int .i64 (x.1 : Nat)] 3))
    have HBB := Kept.mk (show w.heap.size ≤ (W.alloc (.cells #[.int .i64 (x.1 : Nat)] 3)).heap.size by simp; omega)
    have HNW := Kept.mk (new_one (K := .i64) (x := (x.1 : Int)) (w := W.alloc (.cells #[.int .i64 (x.1 : Nat)] 3)) (b := W.heap.size) (o := 0) (by exact (Row.new (E := 3) (K := .i64) W [(x.1 : Int)]).cell (i := 0) (by simp)))
    have H1 := Kept.mk (show (ys.length + [(x.1 : Int)].length) * 8 ≤ 140737488355328 by rw [hml]; simp; omega)
    have H2 := Kept.mk (show ys.length + [(x.1 : Int)].length ≤ maxLen by rw [hml]; unfold maxLen; simp; omega)
    have HNX := Kept.mk (fun (u : Value) (W5 : World) hm hg hn => hbx.next (ys := ys ++ [(x.1 : Int)]) (W5 := W5) (u := u) (o := .cells #[.int .i64 (x.1 : Nat)] 3) hv (by omega) (by omega) hm hg hn (fun k hk => by omega) (by omega))
    have d0 := one_cell_ hv
    have HL5 : Kept ((ys ++ [(x.1 : Int)]).length = m + 1) := ⟨by simp [hml]⟩
    clear hbx hmn hvx hys hml
    gi_wp2_with (refine wpListIn_append_mine (o := ⟨some 23, _, _, _, _, _⟩) _ rfl _ _ 40 rfl 3 .i64 8 Tryz.underlying40 info_i64 w.heap.size (.slice va m vc) ys (by rfl) HMA.out HBB.out ⟨W.heap.size, 0, none⟩ 1 1 [(x.1 : Int)] (by rfl) (by rfl) HNW.out H1.out H2.out ?_)
    intro v' w5 hM5 hg5 hn5
    obtain ⟨ua, uc, hu5, _, _⟩ := hM5.sl.form
    rw [HL5.out] at hu5
    subst hu5
    obtain ⟨n1, n2, n3, n4⟩ := HNX.out _ w5 hM5 hg5 (by first | exact hn5 | (rw [World.size_alloc] at hn5; exact hn5))
    clear hM5 hg5 hn5
    gi_wp2
    exact ⟨⟨n2 _ (by omega), n2 _ (by omega)⟩, trivial, (show Bx _ _ _ _ (z0 ++ (pre ++ [x]).map (fun x => (x.1 : Int))) _ by rw [HZN.out]; exact n1)⟩
  case done =>
    rintro xs W hS hbx hK
    obtain rfl := hS.eq.symm
    obtain ⟨S, hSz⟩ : ∃ S, W.heap.size = S := ⟨_, rfl⟩
    have hS4 : w.heap.size + 3 < S := by have := (Array.getElem?_eq_some_iff.1 hK).1; omega
    obtain ⟨z1, hz1'⟩ : ∃ z1, z0 ++ la.map (fun x => (x.1 : Int)) = z1 := ⟨_, rfl⟩
    rw [hz1'] at hbx
    have HZLb : Kept (z1.length ≤ 42) := ⟨by have h1 := HZLa.out; have h2 := HNA.out; rw [← hz1']; simp; omega⟩
    have HZ1 := Kept.mk hz1'
    have HDK := Kept.mk (show W.heap[w.heap.size + 3]? = some dl0 by rw [← hz3]; exact hK)
    have HBX := Kept.mk hbx
    clear hbx HITa hbx0 hz1' hK
    go_wp2
    rw [rounds_succ]
    go_wp2_with fail
    refine (HPB.out _).mono ?_
    rintro e w5 ⟨rfl, hw5⟩
    rw [hSz]
    have hz5 : w5.heap.size = S + 1 := by rw [← hw5, World.size_alloc, hSz]
    have hal5 : Below W.heap.size W w5 := by rw [← hw5]; exact (Below.refl _ _).alloc (Nat.le_refl _) _
    have hbc : w5.cell? ⟨S, 0, none⟩ = some (.int .i64 b) := by rw [← hw5, ← hSz]; exact one_cell_ (heap_alloc_new W _)
    have HITb := primes1_any b S lb w5 HLB.out HNZ.out.2.1 HNZ.out.2.2 (by omega) hbc
    have hkd0 : w5.heap[w.heap.size + 3]? = some dl0 := (hal5.block _ (by omega)).trans HDK.out
    have hbx1 : Bx w.heap.size (w.heap.size + 1) (fun k => k = w.heap.size + 3 ∨ k = S + 1 ∨ k = S + 1 + 1) w (z1 ++ ([] : List (Nat × Nat)).map (fun x => (x.1 : Int))) w5 := by
      obtain ⟨v, hv, hmn, hvx⟩ := HBX.out.box
      refine ⟨HBX.out.bel.trans (hal5.mono (by omega)), v, (hal5.block _ (by omega)).trans hv, ?_, fun k hk => ?_⟩
      · rw [List.map_nil, List.append_nil]
        exact hmn.below hal5
      · have := hvx k hk
        have := (hmn.own k hk).2
        omega
    clear hw5 hbc hal5
    go_wp2
    refine range_own (gf := 67) (lb := #[.pointer (some ⟨S, 0, none⟩)]) rfl (enters_of Tryz.func67 (by kernel_rfl) rfl)
      HITb (Below.refl _ _) (fun _ _ => rfl) (fun s x A A' h _ => h) (fun _ _ _ _ _ _ _ => trivial)
      (fun pre W => Bx w.heap.size (w.heap.size + 1) (fun k => k = w.heap.size + 3 ∨ k = S + 1 ∨ k = S + 1 + 1) w (z1 ++ pre.map (fun x => (x.1 : Int))) W ∧ W.heap[w.heap.size + 3]? = some dl0)
      (fun c pre W => False)
      (fun s A A' h ho => ⟨h.1.oth ho (fun hu => by have := hu.1; omega) (fun k hk => ⟨by have := hk.1; have := hk.2; omega, by have := hk.1; omega⟩) h.1.bel.size, (ho.block _ (Array.getElem?_eq_some_iff.1 h.2).1 (fun hu => by have := hu.1; omega)).trans h.2⟩)
      (fun c s A A' h ho => h)
      ⟨hbx1, hkd0⟩
      (fun x => { tmps := #[.int .i64 a, .int .i64 b, undef, undef, .slice none 0 0, .pointer (some ⟨w.heap.size + 1, 0, none⟩), undef, .int .i64 b, .int .i64 (x.1 : Nat), .slice (some ⟨w.heap.size, 0, none⟩) 2 2, .int .i64 a, .int .i64 b, .agg #[.int .i64 a, .int .i64 b], .int .i64 1, .bool true, .int .i64 b, .int .i64 b, .func (.func 67) #[] #[.pointer (some ⟨S, 0, none⟩)], .int .i64 (x.1 : Nat), .int .i64 (x.2 : Nat), undef, undef, undef, undef, .int .i64 1, undef, undef, undef, undef], defers := [] }) ?assign ?body ?done ?stop
    case assign =>
      intro x W H hH
      gi_wp2
      exact hH
    case stop =>
      intro c pre W _ h
      exact h.elim
    case body =>
      rintro pre x W hz ⟨hbx, hkd⟩ ⟨suf, hsf⟩
      obtain ⟨v, hv, hmn, hvx⟩ := hbx.box
      have hpl : (z1 ++ pre.map (fun x => (x.1 : Int))).length ≤ 200 := by
        have h1 := congrArg List.length hsf
        have h2 := HNB.out
        have h3 := HZLb.out
        simp at h1 h3 ⊢
        omega
      obtain ⟨ys, hys⟩ : ∃ ys, z1 ++ pre.map (fun x => (x.1 : Int)) = ys := ⟨_, rfl⟩
      rw [hys] at hbx hmn hpl
      have HZN : Kept (z1 ++ (pre ++ [x]).map (fun x => (x.1 : Int)) = ys ++ [(x.1 : Int)]) := ⟨by rw [zs_next, hys]⟩
      obtain ⟨va, vc, hvf, _, _⟩ := hmn.sl.form
      obtain ⟨m, hml⟩ : ∃ m, ys.length = m := ⟨_, rfl⟩
      rw [hml] at hvf hpl
      subst hvf
      have hB1l : w.heap.size + 1 < W.heap.size := (Array.getElem?_eq_some_iff.1 hv).1
      have HMA := Kept.mk (hmn.alloc (.cells #[.int .i64 (x.1 : Nat)] 3))
      have HBB := Kept.mk (show w.heap.size ≤ (W.alloc (.cells #[.int .i64 (x.1 : Nat)] 3)).heap.size by simp; omega)
      have HNW := Kept.mk (new_one (K := .i64) (x := (x.1 : Int)) (w := W.alloc (.cells #[.int .i64 (x.1 : Nat)] 3)) (b := W.heap.size) (o := 0) (by exact (Row.new (E := 3) (K := .i64) W [(x.1 : Int)]).cell (i := 0) (by simp)))
      have H1 := Kept.mk (show (ys.length + [(x.1 : Int)].length) * 8 ≤ 140737488355328 by rw [hml]; simp; omega)
      have H2 := Kept.mk (show ys.length + [(x.1 : Int)].length ≤ maxLen by rw [hml]; unfold maxLen; simp; omega)
      have HNX := Kept.mk (fun (u : Value) (W5 : World) hm hg hn => hbx.next (ys := ys ++ [(x.1 : Int)]) (W5 := W5) (u := u) (o := .cells #[.int .i64 (x.1 : Nat)] 3) hv (by omega) (by omega) hm hg hn (fun k hk => by omega) (by omega))
      have d0 := one_cell_ hv
      have HL5 : Kept ((ys ++ [(x.1 : Int)]).length = m + 1) := ⟨by simp [hml]⟩
      clear hbx hmn hvx hys hml
      gi_wp2_with (refine wpListIn_append_mine (o := ⟨some 23, _, _, _, _, _⟩) _ rfl _ _ 40 rfl 3 .i64 8 Tryz.underlying40 info_i64 w.heap.size (.slice va m vc) ys (by rfl) HMA.out HBB.out ⟨W.heap.size, 0, none⟩ 1 1 [(x.1 : Int)] (by rfl) (by rfl) HNW.out H1.out H2.out ?_)
      intro v' w5 hM5 hg5 hn5
      obtain ⟨ua, uc, hu5, _, _⟩ := hM5.sl.form
      rw [HL5.out] at hu5
      subst hu5
      obtain ⟨n1, n2, n3, n4⟩ := HNX.out _ w5 hM5 hg5 (by first | exact hn5 | (rw [World.size_alloc] at hn5; exact hn5))
      clear hM5 hg5 hn5
      gi_wp2
      exact ⟨⟨n2 _ (by omega), n2 _ (by omega)⟩, trivial, ⟨(show Bx _ _ _ _ (z1 ++ (pre ++ [x]).map (fun x => (x.1 : Int))) _ by rw [HZN.out]; exact n1), (n2 _ (.inl rfl)).trans hkd⟩⟩
    case done =>
      rintro xs W_ hS ⟨hbx, hkd⟩ hK
      obtain rfl := hS.eq.symm
      have HDK2 := Kept.mk (And.intro hkd hK)
      have hWz := (Array.getElem?_eq_some_iff.1 hK).1
      obtain ⟨v, hv, hmn, hvx⟩ := hbx.box
      have hbel := hbx.bel
      obtain ⟨zz, hzz⟩ : ∃ zz, z1 ++ lb.map (fun x => (x.1 : Int)) = zz := ⟨_, rfl⟩
      rw [hzz] at hmn
      have HZZ : Kept (zz.length ≤ 100 ∧ zz ≠ [] ∧ ∀ x, x ∈ l ↔ x ∈ zz) := ⟨by
        have h1 := HZLb.out
        have h2 := HNB.out
        refine ⟨by rw [← hzz]; simp; omega, fun e => ?_, fun x => ?_⟩
        · rw [← hzz, ← HZ1.out, ← HZ0.out] at e
          simp at e
        · rw [HL.out.mem x, ← hzz, ← HZ1.out, ← HZ0.out]
          have ma : ∀ m : Nat, (x = (m : Int) ∧ isPr m ∧ a.natAbs % m = 0) → x ∈ List.map (fun x : Nat × Nat => (x.1 : Int)) la := fun m ⟨e, h3⟩ => by
            obtain ⟨y, hy, hy1⟩ := List.mem_map.1 ((HMA.out m).2 h3)
            exact List.mem_map.2 ⟨y, hy, by rw [e, hy1]⟩
          have mb : ∀ m : Nat, (x = (m : Int) ∧ isPr m ∧ b.natAbs % m = 0) → x ∈ List.map (fun x : Nat × Nat => (x.1 : Int)) lb := fun m ⟨e, h3⟩ => by
            obtain ⟨y, hy, hy1⟩ := List.mem_map.1 ((HMB.out m).2 h3)
            exact List.mem_map.2 ⟨y, hy, by rw [e, hy1]⟩
          simp only [List.mem_append, List.mem_cons, List.not_mem_nil, or_false]
          constructor
          · rintro (h | h | ⟨m, e, hp, hd | hd⟩)
            · exact .inl (.inl (.inl h))
            · exact .inl (.inl (.inr h))
            · exact .inl (.inr (ma m ⟨e, hp, hd⟩))
            · exact .inr (mb m ⟨e, hp, hd⟩)
          · rintro (((h | h) | h) | h)
            · exact .inl h
            · exact .inr (.inl h)
            · obtain ⟨y, hy, e⟩ := List.mem_map.1 h
              have h3 := (HMA.out y.1).1 (List.mem_map.2 ⟨y, hy, rfl⟩)
              exact .inr (.inr ⟨y.1, e.symm, h3.1, .inl h3.2⟩)
            · obtain ⟨y, hy, e⟩ := List.mem_map.1 h
              have h3 := (HMB.out y.1).1 (List.mem_map.2 ⟨y, hy, rfl⟩)
              exact .inr (.inr ⟨y.1, e.symm, h3.1, .inr h3.2⟩)⟩
      obtain ⟨va, vc, hvf, _, _⟩ := hmn.sl.form
      obtain ⟨m, hml⟩ : ∃ m, zz.length = m := ⟨_, rfl⟩
      rw [hml] at hvf
      subst hvf
      have HSO := Kept.mk (sort_mine hmn HZZ.out.2.1 (by have := HZZ.out.1; omega))
      have HMN := Kept.mk hmn
      have HVX := Kept.mk hvx
      have HBEL := Kept.mk hbel
      have HV := Kept.mk hv
      have d0 := one_cell_ hv
      clear hbx hmn hvx hbel hzz hml hK hkd hv HITb hbx1 hkd0
      go_wp2
      rw [rounds_succ]
      go_wp2_with fail
      refine HSO.out.mono ?_
      rintro e w6 ⟨rfl, hm6, hg6⟩
      have hv6 : w6.heap[w.heap.size + 1]? = some (.cells #[.slice va m vc] 40 (0, 0)) := (hg6.block _ (Array.getElem?_eq_some_iff.1 HV.out).1 (fun e => (HVX.out _ e.symm).1 rfl)).trans HV.out
      have d1 := one_cell_ hv6
      have hsl : (srt zz).length = zz.length := (srt_perm zz).length_eq
      have HCO := Kept.mk (compact_mine hm6 (fun e => by have h1 := congrArg List.length e; rw [hsl] at h1; exact HZZ.out.2.1 (List.eq_nil_of_length_eq_zero h1)) (by have := HZZ.out.1; omega))
      have HM6 := Kept.mk hm6
      have HG6 := Kept.mk hg6
      clear hm6 hg6 hv6 hsl d0
      go_wp2_with fail
      refine HCO.out.mono ?_
      rintro e w7 ⟨v', rfl, hm7, hg7, ho7⟩
      rw [compact_eq (srt_le zz) HL.out.up (fun x => by rw [(srt_perm zz).mem_iff]; exact HZZ.out.2.2 x)] at hm7
      have HM7 := Kept.mk hm7
      have HF7 : Kept (w7.heap[w5.heap.size]? = some dl0 ∧ w7.heap[w3.heap.size]? = some dl0 ∧ w3.heap.size ≠ w5.heap.size ∧ Below w.heap.size w w7 ∧ w.heap.size ≤ w3.heap.size ∧ w.heap.size ≤ w5.heap.size ∧ (∀ k, v'.ownBlock = some k → k ≠ w5.heap.size ∧ k ≠ w3.heap.size)) := ⟨by
        have n1 : ∀ k, k < W_.heap.size → (k = w.heap.size + 3 ∨ k = S + 1 ∨ k = S + 1 + 1) → w7.heap[k]? = W_.heap[k]? := fun k hk hx => by
          have hne : (Value.slice va m vc).ownBlock ≠ some k := fun e => (HVX.out k e).2 hx
          rw [hg7.block k (Nat.lt_of_lt_of_le hk HG6.out.size) (fun e => hne e.symm)]
          exact HG6.out.block k hk (fun e => hne e.symm)
        refine ⟨?_, ?_, by omega, ?_, by omega, by omega, fun k hk => ?_⟩
        · rw [n1 _ hWz (by rw [hz5]; exact .inr (.inl rfl))]; exact HDK2.out.2
        · rw [hz3, n1 _ (by omega) (.inl rfl)]; exact HDK2.out.1
        · exact (HBEL.out.grown HG6.out HBEL.out.size (fun k hk => (HMN.out.own k hk).1)).grown hg7 (by have := HBEL.out.size; have := HG6.out.size; omega) (fun k hk => (HM6.out.own k hk).1)
        · rw [ho7] at hk
          have := HVX.out k hk
          omega⟩
      obtain ⟨ua, uc, hu7, _, _⟩ := hm7.sl.form
      subst hu7
      clear hm7 hg7 ho7
      go_wp2
      obtain ⟨f1, f2, f3, f4, f5, f6, f7⟩ := HF7.out
      rw [hz5] at f1 f3 f6 f7
      rw [hz3] at f2 f3 f5 f7
      refine ret_mark2 (v := .slice ua l.length uc) f3 f1 f2 (by simp [results, Tryz.results62, go_sem]) ⟨put_below (put_below f4 f6 _) f5 _, _, rfl, ?_⟩
      refine (HM7.out.off (grownBy_putObj' w7 (S + 1) (.deferred none)) fun k hk e => ?_).off (grownBy_putObj' _ (w.heap.size + 3) (.deferred none)) fun k hk e => ?_
      · have := f7 k hk; cases e; omega
      · have := f7 k hk; cases e; omega
end Go.Proofs.YtalahdkhglagpaaGreatDoor
