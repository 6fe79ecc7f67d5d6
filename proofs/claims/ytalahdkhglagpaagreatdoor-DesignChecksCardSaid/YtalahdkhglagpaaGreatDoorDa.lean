/-
  Slices of integers and of slices in memory, a call's own rows, appends. No condition.
-/
import Derived.WalkKit
import Derived.WalkSpells
import Derived.WalkLawsBesides
import Derived.Lib.Hide
import Derived.Deep.LoopGhost
import Derived.Deep.DeepCutAuto
import Derived.Deep.DeepMust
import Derived.Deep.DeepFit
import Derived.Deep.RegionHeld3
import Derived.Deep.RegionWith
import Derived.Deep.QuietTactic
import Derived.BigQuiet
import Derived.Deep.Upon
import Derived.Deep.OwnRows
import Derived.WalkMore
import Derived.Test.YtalahdkhglagpaaGreatDoorProg
set_option linter.unusedVariables false
set_option linter.unusedSimpArgs false
set_option linter.unusedSectionVars false
namespace Go.Proofs.YtalahdkhglagpaaGreatDoor
open Go Go.RowKit

/-- The slice value v holds the numbers xs (of kind K) in the world w. -/
def Sl (K : IntKind) (w : World) (v : Value) (xs : List Int) : Prop :=
  ∃ ao cap, v = .slice ao xs.length cap ∧ xs.length ≤ cap ∧ cap ≤ maxLen ∧
    ∀ i, i < xs.length → ∃ b o, ao = some ⟨b, o, none⟩ ∧ b < w.heap.size ∧ w.cell? ⟨b, o + i, none⟩ = some (.int K (xs[i]?.getD 0))

theorem Sl.below {K : IntKind} {w w' : World} {v : Value} {xs : List Int} (h : Sl K w v xs) (hb : Below w.heap.size w w') : Sl K w' v xs := by
  obtain ⟨ao, cap, rfl, hc, hm, hx⟩ := h
  refine ⟨ao, cap, rfl, hc, hm, fun i hi => ?_⟩
  obtain ⟨b, o, e, hl, hcell⟩ := hx i hi
  exact ⟨b, o, e, Nat.lt_of_lt_of_le hl hb.size, (hb.cell (p := ⟨b, o + i, none⟩) hl).trans hcell⟩
theorem Sl.nil (K : IntKind) (w : World) : Sl K w (.slice none 0 0) [] :=
  ⟨none, 0, rfl, Nat.le_refl _, Nat.zero_le _, fun i hi => absurd hi (Nat.not_lt_zero _)⟩
theorem Sl.len {K : IntKind} {w : World} {v : Value} {xs : List Int} (h : Sl K w v xs) : xs.length ≤ maxLen := by
  obtain ⟨ao, cap, rfl, hc, hm, hx⟩ := h; exact Nat.le_trans hc hm

/-- The call returns a slice of its own that holds xs; of what was there nothing has turned. -/
def RetSl (K : IntKind) (w : World) (xs : List Int) (e : Ending) (w' : World) : Prop := Below w.heap.size w w' ∧ ∃ v', e = .returned v' ∧ Sl K w' v' xs ∧ ∀ k, v'.ownBlock = some k → w.heap.size ≤ k
/-- v lies in a block from B on, or has none. -/
def Frm (B : Nat) (v : Value) : Prop := ∀ k, v.ownBlock = some k → B ≤ k
theorem Frm.nil (B : Nat) : Frm B (.slice none 0 0) := fun k h => by simp [Value.ownBlock] at h
theorem Frm.mk {B b o n c : Nat} (h : B ≤ b) : Frm B (.slice (some ⟨b, o, none⟩) n c) := fun k hk => by simp [Value.ownBlock] at hk; omega
theorem Frm.of {B : Nat} {v v' : Value} (h : Frm B v) (hv : ∀ k, v'.ownBlock = some k → v.ownBlock = some k) : Frm B v' := fun k hk => h k (hv k hk)
theorem Frm.mono {B B' : Nat} {v : Value} (h : Frm B v) (hB : B' ≤ B) : Frm B' v := fun k hk => Nat.le_trans hB (h k hk)
def RetSame (K : IntKind) (w : World) (v : Value) (xs : List Int) (e : Ending) (w' : World) : Prop := w = w' ∧ ∃ v', e = .returned v' ∧ Sl K w v' xs ∧ ∀ k, v'.ownBlock = some k → v.ownBlock = some k

/-- Block g is a row of numbers of kind K (element type E), wholly xs. -/
def Row (E : TypeId) (K : IntKind) (w : World) (g : Nat) (xs : List Int) : Prop := w.heap[g]? = some (.cells (xs.map (Value.int K)).toArray E (0, 0))
section
variable {E : TypeId} {K : IntKind} {w w' : World} {g : Nat} {xs : List Int}
theorem Row.lt (h : Row E K w g xs) : g < w.heap.size := (Array.getElem?_eq_some_iff.1 h).1
theorem Row.cell (h : Row E K w g xs) {i : Nat} (hi : i < xs.length) : w.cell? ⟨g, i, none⟩ = some (.int K (xs[i]?.getD 0)) := by
  rw [cell_of_row w g i _ E (0, 0) h]; simp [hi]
theorem Row.free (h : Row E K w g xs) (i : Nat) : w.frozen? ⟨g, i, none⟩ = false := frozen_of_row w g i _ E h
theorem Row.set (h : Row E K w g xs) (i : Nat) (x : Int) : Row E K (w.setCell ⟨g, i, none⟩ (.int K x)) g (xs.set i x) := by
  have := heap_setCell_same w g i _ E (.int K x) h
  unfold Row
  rw [this]
  congr 1
  apply congrArg (fun a => Obj.cells a E (0, 0))
  simp [List.map_set]
theorem Row.keep (h : Row E K w g xs) (he : w'.heap[g]? = w.heap[g]?) : Row E K w' g xs := he.trans h
theorem Row.below (h : Row E K w g xs) (hb : Below w.heap.size w w') : Row E K w' g xs := (hb.block g h.lt).trans h
theorem Row.drew (h : Row E K w g xs) : Row E K w.drew g xs := h
theorem Row.alloc (h : Row E K w g xs) (o : Obj) : Row E K (w.alloc o) g xs := (heap_alloc_old w o h.lt).trans h
theorem Row.setOther (h : Row E K w g xs) {a : Addr} (v : Value) (hne : a.block ≠ g) : Row E K (w.setCell a v) g xs := (heap_setCell_other w a g v (fun e => hne e.symm)).trans h
/-- The block of a slice that is not empty. -/
def live : Value → Option Nat
  | .slice (some a) n _ => if n = 0 then none else some a.block
  | _ => none
theorem live_own {v : Value} {k : Nat} (h : live v = some k) : v.ownBlock = some k := by
  unfold live at h
  split at h
  · split at h
    · cases h
    · exact h
  · cases h
theorem Sl.live_lt {v : Value} (h : Sl K w v xs) {k : Nat} (hk : live v = some k) : k < w.heap.size := by
  obtain ⟨ao, cap, rfl, hc, hm, hx⟩ := h
  by_cases h0 : 0 < xs.length
  · obtain ⟨b, o, rfl, hb, _⟩ := hx 0 h0
    have := live_own hk
    simp [Value.ownBlock] at this
    omega
  · have : xs.length = 0 := by omega
    rw [this] at hk
    cases ao <;> simp [live] at hk
theorem Sl.kept {v : Value} {row : Option Nat} (h : Sl K w v xs) (hg : w.grownBy w' row) (hne : ∀ k, live v = some k → row ≠ some k) : Sl K w' v xs := by
  obtain ⟨ao, cap, rfl, hc, hm, hx⟩ := h
  refine ⟨ao, cap, rfl, hc, hm, fun i hi => ?_⟩
  obtain ⟨b, o, rfl, hl, hcell⟩ := hx i hi
  exact ⟨b, o, rfl, Nat.lt_of_lt_of_le hl hg.size, hg.cell hcell (fun e => hne b (by simp only [live]; rw [if_neg (by omega)]) e.symm)⟩
theorem Row.new (w : World) (xs : List Int) : Row E K (w.alloc (.cells (xs.map (Value.int K)).toArray E)) w.heap.size xs := heap_alloc_new w _
theorem Row.sl (h : Row E K w g xs) {o n cap : Nat} (hn : o + n ≤ xs.length) (hc : n ≤ cap) (hm : cap ≤ maxLen) : Sl K w (.slice (some ⟨g, o, none⟩) n cap) ((xs.drop o).take n) := by
  have e : ((xs.drop o).take n).length = n := by simp; omega
  refine ⟨_, cap, by rw [e], by rw [e]; exact hc, hm, fun i hi => ?_⟩
  have hi' : i < n := by rw [e] at hi; exact hi
  refine ⟨g, o, rfl, h.lt, ?_⟩
  rw [h.cell (by omega), List.getElem?_take, if_pos hi', List.getElem?_drop]
theorem Row.slAll (h : Row E K w g xs) {n cap : Nat} (hn : n = xs.length) (hc : n ≤ cap) (hm : cap ≤ maxLen) : Sl K w (.slice (some ⟨g, 0, none⟩) n cap) xs := by
  have := h.sl (o := 0) (n := n) (cap := cap) (by omega) hc hm
  simpa [hn] using this
end

/-- make([]T, n): a new row of zeros. -/
theorem wpList_make_zeros {P : Program} (w : World) {ops : Array Oper} {rest : List Oper} {o : Oper} {a : Act} {Q : Exit → Act → World → Prop}
    (hg : o.guard = none) (l c : Operand) (t : TypeId) (hop : o.op = Op.makeSlice t l c)
    (e : TypeId) (K : IntKind) (h1 : P.underlying t = some (.slice e)) (h2 : (P.info? e).map (fun i => (i.zero, i.size, i.bytes)) = some (some (.int K 0), 1, 8))
    (L C : Int) (n : Nat) (hl : a.eval l = .int .i64 L) (hc : a.eval c = .int .i64 C) (hL : L = (n : Int)) (hC : C = (n : Int)) (b2 : 8 * n ≤ 281474976710656)
    (hK : ∀ w', Row e K w' w.heap.size (List.replicate n 0) → Below w.heap.size w w' → wpList P ops Q rest (a.put o.dst (.slice (some ⟨w.heap.size, 0, none⟩) n n)) w') :
    wpList P ops Q (o :: rest) a w := by
  refine wpList_plain hg fun K' hK' => ?_
  obtain ⟨i, hi, hz, hs, hb⟩ := info_parts h2
  have hrun := run_make (P := P) w t e i (.int K 0) h1 hi hz .i64 .i64 n n (by omega) (Int.le_refl _) (by rw [hb]; omega) (by omega)
  subst hL
  subst hC
  unfold Oper.wp
  simp only [execOp, hop, hl, hc]
  simp [hrun, Result.andThen]
  refine hK' _ _ ?_
  refine hK _ ?_ ((Below.refl _ _).alloc (Nat.le_refl _) _)
  have hm : madeCells (Value.cells (.int K 0)) (n * i.size) = ((List.replicate n (0 : Int)).map (Value.int K)).toArray := by
    rw [hs, Nat.mul_one]
    apply Array.toList_inj.1
    rw [show Value.cells (.int K 0) = #[.int K 0] from rfl, toList_madeCells_one]
    simp
  rw [hm]
  exact Row.new w _

/-- The slice value v holds xs, in a block of the call's own (from number B on), or is nil. -/
def Mine (E : TypeId) (K : IntKind) (B : Nat) (w : World) (v : Value) (xs : List Int) : Prop :=
  (v = .slice none 0 0 ∧ xs = []) ∨
    ∃ g cap cur, v = .slice (some ⟨g, 0, none⟩) xs.length cap ∧ B ≤ g ∧ w.heap[g]? = some (.cells cur E (0, 0)) ∧ xs.length ≤ cap ∧ cap ≤ cur.size ∧ cap ≤ maxLen ∧ cur.toList.take xs.length = xs.map (Value.int K)
section
variable {E : TypeId} {K : IntKind} {B : Nat} {w w' : World} {v : Value} {xs : List Int}
theorem Mine.nil (E : TypeId) (K : IntKind) (B : Nat) (w : World) : Mine E K B w (.slice none 0 0) [] := .inl ⟨rfl, rfl⟩
theorem Mine.sl (h : Mine E K B w v xs) : Sl K w v xs := by
  rcases h with ⟨rfl, rfl⟩ | ⟨g, cap, cur, rfl, hB, hg, hn, hc, hm, ht⟩
  · exact Sl.nil _ _
  · refine ⟨_, cap, rfl, hn, hm, fun i hi => ⟨g, 0, rfl, (Array.getElem?_eq_some_iff.1 hg).1, ?_⟩⟩
    rw [Nat.zero_add, cell_of_row w g i cur E (0, 0) hg]
    have : (cur.toList.take xs.length)[i]? = cur[i]? := by rw [List.getElem?_take, if_pos hi]; simp
    rw [← this, ht]
    simp [hi]
theorem Mine.own (h : Mine E K B w v xs) : ∀ k, v.ownBlock = some k → B ≤ k ∧ k < w.heap.size := by
  intro k hk
  rcases h with ⟨rfl, rfl⟩ | ⟨g, cap, cur, rfl, hB, hg, hn, hc, hm, ht⟩
  · simp [Value.ownBlock] at hk
  · simp [Value.ownBlock] at hk
    subst hk
    exact ⟨hB, (Array.getElem?_eq_some_iff.1 hg).1⟩
theorem Mine.kept {row : Option Nat} (h : Mine E K B w v xs) (hg : w.grownBy w' row) (hne : v.ownBlock = none ∨ v.ownBlock ≠ row) : Mine E K B w' v xs := by
  rcases h with h | ⟨g, cap, cur, rfl, hB, hgg, rest⟩
  · exact .inl h
  · refine .inr ⟨g, cap, cur, rfl, hB, ?_, rest⟩
    rw [hg.block g (Array.getElem?_eq_some_iff.1 hgg).1 (by simpa [Value.ownBlock] using hne)]
    exact hgg
theorem Mine.below (h : Mine E K B w v xs) (hb : Below w.heap.size w w') : Mine E K B w' v xs :=
  h.kept (row := none) ⟨hb.os, hb.tape, hb.output, hb.size, fun i hi _ => hb.block i hi⟩ (by cases hv : v.ownBlock <;> simp)
theorem Mine.alloc (h : Mine E K B w v xs) (o : Obj) : Mine E K B (w.alloc o) v xs := h.kept (World.grownBy_alloc w o none) (by cases hv : v.ownBlock <;> simp)
theorem Mine.lower {B' : Nat} (h : Mine E K B w v xs) (hB : B' ≤ B) : Mine E K B' w v xs := by
  rcases h with h | ⟨g, cap, cur, rfl, hb, rest⟩
  · exact .inl h
  · exact .inr ⟨g, cap, cur, rfl, by omega, rest⟩
/-- A place of the row: its address, its cell, that it may be written; and what is held behind a store. -/
theorem Mine.at (h : Mine E K B w v xs) {i : Nat} (hi : i < xs.length) : ∃ g cap, v = .slice (some ⟨g, 0, none⟩) xs.length cap ∧ B ≤ g ∧ g < w.heap.size ∧ xs.length ≤ cap ∧ cap ≤ maxLen ∧ w.cell? ⟨g, i, none⟩ = some (.int K (xs[i]?.getD 0)) ∧ w.frozen? ⟨g, i, none⟩ = false ∧
    (∀ x, Mine E K B (w.setCell ⟨g, i, none⟩ (.int K x)) v (xs.set i x)) := by
  rcases h with ⟨rfl, rfl⟩ | ⟨g, cap, cur, rfl, hB, hg, hn, hc, hm, ht⟩
  · simp at hi
  · have hcell : w.cell? ⟨g, i, none⟩ = some (.int K (xs[i]?.getD 0)) := by
      rw [cell_of_row w g i cur E (0, 0) hg]
      have : (cur.toList.take xs.length)[i]? = cur[i]? := by rw [List.getElem?_take, if_pos hi]; simp
      rw [← this, ht]
      simp [hi]
    refine ⟨g, cap, rfl, hB, (Array.getElem?_eq_some_iff.1 hg).1, hn, hm, hcell, frozen_of_row w g i cur E hg, fun x => .inr ⟨g, cap, cur.setIfInBounds i (.int K x), by simp, hB, heap_setCell_same w g i cur E _ hg, by simpa using hn, by simpa using hc, hm, ?_⟩⟩
    rw [Array.toList_setIfInBounds, List.length_set, List.take_set, ht, List.map_set]
theorem Mine.of_owns {n : Nat} (h : w.ownsRow B E 1 v n (xs.map (Value.int K))) : Mine E K B w v xs := by
  have hl : xs.length = n := by simpa using h.1
  rcases h.2 with ⟨rfl, h0⟩ | ⟨g, cap, cur, rfl, hg, hh, hn, hm, hc, ht⟩
  · have : xs = [] := by cases xs with | nil => rfl | cons => simp at hl; omega
    exact .inl ⟨rfl, this⟩
  · exact .inr ⟨g, cap, cur, by rw [hl], hg, hh, by omega, by omega, hm, by rw [hl]; simpa using ht⟩
end
/-- append to a slice of the call's own. -/
theorem run_append_mine {P : Program} (w : World) (t ty E : TypeId) (K : IntKind) (bytes : Nat) (ht : P.underlying t = some (.slice E))
    (hinfo : (P.info? E).map (fun i => (i.zero, i.size, i.bytes)) = some (some (.int K 0), 1, bytes)) (B : Nat) (v : Value) (xs : List Int) (hM : Mine E K B w v xs) (hB : B ≤ w.heap.size)
    (a : Addr) (c : Nat) (news : List Int) (hnews : ∀ j u, (news.map (Value.int K))[j]? = some u → w.cell? (a.add j) = some u)
    (hb : (xs.length + news.length) * bytes ≤ 140737488355328) (hm : xs.length + news.length ≤ maxLen) :
    ∃ v' w', (Builtin.append_ #[t, t] ty #[v, .slice (some a) news.length c]).run P w = .ok v' w' ∧ Mine E K B w' v' (xs ++ news) ∧ w.grownBy w' v.ownBlock ∧ (v'.ownBlock = v.ownBlock ∨ Frm w.heap.size v') := by
  obtain ⟨i, hi, hz, hs, hby⟩ := info_parts hinfo
  have hone : ∀ u ∈ news.map (Value.int K), u.oneCell' = true := by
    intro u hu
    obtain ⟨a, _, rfl⟩ := List.mem_map.1 hu
    rfl
  have hl : (news.map (Value.int K)).length = news.length * 1 := by simp
  rcases hM with ⟨rfl, rfl⟩ | ⟨g, cap, cur, rfl, hBg, hg, hn, hc, hcm, htk⟩
  · obtain ⟨v', w', hr, h2, h3, _⟩ := run_append_own (P := P) w w.heap.size t ty E i (.int K 0) 1 bytes ht hi hz hs hby rfl (by decide) (.slice none 0 0) 0 [] (World.ownsRow_nil w w.heap.size E 1) a news.length c (news.map (Value.int K)) hl hnews hone (by simpa using hm) (by simpa using hb) (Nat.le_refl _)
    exact ⟨v', w', hr, (Mine.of_owns (n := 0 + news.length) (by simpa using h2)).lower hB, h3, .inr (fun k hk => (h2.lt k hk).1)⟩
  · by_cases hroom : xs.length + news.length ≤ cap
    · have hfit : xs.length * i.size + (news.map (Value.int K)).length ≤ cur.size := by rw [hs]; simp; omega
      have hr := run_append_room (P := P) w t ty E i ht hi g xs.length cap cur hg a news.length c (news.map (Value.int K)) (by rw [hs]; exact hl) hnews hone hroom hfit
      rw [hs, Nat.mul_one] at hr
      refine ⟨_, _, hr, .inr ⟨g, cap, _, by simp, hBg, setRow_heap w g cur _ E _ hg, by simpa using hroom, ?_, hcm, ?_⟩, ⟨rfl, rfl, rfl, by simp, fun k _ hk => setRow_other w g k _ (fun e => hk (by simp [Value.ownBlock, e]))⟩, .inl rfl⟩
      · simp only [List.size_toArray, List.length_append, List.length_take, List.length_drop, Array.length_toList, List.length_map]
        omega
      · rw [htk, List.length_append, List.map_append]
        have : (xs.map (Value.int K) ++ news.map (Value.int K)).length = xs.length + news.length := by simp
        rw [← this]
        exact List.take_left
    · have holds : ∀ j u, (xs.map (Value.int K))[j]? = some u → w.cell? ((⟨g, 0, none⟩ : Addr).add j) = some u := by
        intro j u hu
        have e : (⟨g, 0, none⟩ : Addr).add j = ⟨g, j, none⟩ := by unfold Addr.add; split <;> simp_all
        rw [e, cell_of_row w g j cur E (0, 0) hg]
        have hj : j < xs.length := by
          apply Classical.byContradiction
          intro hc'
          simp [hc'] at hu
        rw [← htk, List.getElem?_take, if_pos hj] at hu
        simpa using hu
      obtain ⟨v', w', hr, h2, h3⟩ := run_append_arg_grows (P := P) w t ty E i (.int K 0) 1 bytes ht hi hz hs hby rfl (by decide) ⟨g, 0, none⟩ xs.length cap (xs.map (Value.int K)) (by simp) holds a news.length c (news.map (Value.int K)) hl hnews (by omega) hm hb
      refine ⟨v', w', hr, ?_, ⟨h3.os, h3.tape, h3.output, h3.size, fun k hk _ => h3.block k hk (by simp)⟩, .inr (fun k hk => (h2.lt k hk).1)⟩
      exact (Mine.of_owns (n := xs.length + news.length) (by simpa using h2)).lower hB
theorem wpList_append_mine {P : Program} (w : World) {ops : Array Oper} {rest : List Oper} {o : Oper} {a : Act} {Q : Exit → Act → World → Prop} (hgd : o.guard = none) (s x : Operand) (t : TypeId)
    (ho : o.op = .call { callee := .builtin .append, args := #[s, x], argTypes := #[t, t] }) (E : TypeId) (K : IntKind) (bytes : Nat) (ht : P.underlying t = some (.slice E))
    (hinfo : (P.info? E).map (fun i => (i.zero, i.size, i.bytes)) = some (some (.int K 0), 1, bytes)) (B : Nat) (v : Value) (xs : List Int) (hs : a.eval s = v) (hM : Mine E K B w v xs) (hB : B ≤ w.heap.size)
    (ad : Addr) (m c : Nat) (news : List Int) (hx : a.eval x = .slice (some ad) m c) (hl : news.length = m) (hnews : ∀ j u, (news.map (Value.int K))[j]? = some u → w.cell? (ad.add j) = some u)
    (hb : (xs.length + news.length) * bytes ≤ 140737488355328) (hm : xs.length + news.length ≤ maxLen)
    (h : ∀ v' w', Mine E K B w' v' (xs ++ news) → w.grownBy w' v.ownBlock → (v'.ownBlock = v.ownBlock ∨ Frm w.heap.size v') → wpList P ops Q rest (a.put o.dst v') w') : wpList P ops Q (o :: rest) a w := by
  refine wpList_plain hgd fun K' hK => ?_
  subst hl
  obtain ⟨v', w', hrun, r1, r2, r3⟩ := run_append_mine (P := P) w t o.type E K bytes ht hinfo B v xs hM hB ad c news hnews hb hm
  unfold Oper.wp
  simp [execOp, ho, resolve, invoke, builtin, hs, hx, hrun, Result.andThen]
  exact hK _ _ (h v' w' r1 r2 r3)
theorem new_one {K : IntKind} {w : World} {b o : Nat} {x : Int} (h : w.cell? ⟨b, o, none⟩ = some (.int K x)) : ∀ j u, ([x].map (Value.int K))[j]? = some u → w.cell? ((⟨b, o, none⟩ : Addr).add j) = some u := by
  intro j u hu
  cases j with
  | zero => simp at hu; subst hu; rw [← h]; congr 1
  | succ j => simp at hu
/-- A fact that no tactic looks into. -/
structure Kept (p : Prop) : Prop where
  out : p
theorem growRefl (w : World) (r : Option Nat) : w.grownBy w r := ⟨rfl, rfl, rfl, Nat.le_refl _, fun _ _ _ => rfl⟩
theorem growTrans {a b c : World} {r : Option Nat} (h : a.grownBy b r) (k : b.grownBy c r) : a.grownBy c r :=
  ⟨k.os.trans h.os, k.tape.trans h.tape, k.output.trans h.output, Nat.le_trans h.size k.size, fun i hi hne => (k.block i (Nat.lt_of_lt_of_le hi h.size) hne).trans (h.block i hi hne)⟩
theorem growSet {w w' : World} {g : Nat} (h : w.grownBy w' (some g)) (i : Nat) (v : Value) : w.grownBy (w'.setCell ⟨g, i, none⟩ v) (some g) :=
  growTrans h ⟨rfl, rfl, rfl, by simp [World.setCell], fun k _ hk => heap_setCell_other w' ⟨g, i, none⟩ k v (fun e => hk (by rw [e]))⟩
theorem growBelow {w w' : World} {r : Option Nat} (h : Below w.heap.size w w') : w.grownBy w' r := ⟨h.os, h.tape, h.output, h.size, fun i hi _ => h.block i hi⟩
theorem belowGrow {w0 w w' : World} {g : Nat} (h : w.grownBy w' (some g)) (hb : Below w0.heap.size w0 w) (hg : w0.heap.size ≤ g) : Below w0.heap.size w0 w' :=
  hb.grown h hb.size (fun k hk => by cases hk; exact hg)
/-- How far addMultiple has come. -/
theorem belowCell {w w' : World} {b o : Nat} {v : Value} (h : Below w.heap.size w w') (hc : w.cell? ⟨b, o, none⟩ = some v) : w'.cell? ⟨b, o, none⟩ = some v :=
  (h.cell (p := ⟨b, o, none⟩) (World.block_lt_of_cell? w _ hc)).trans hc
theorem belowDrew (w : World) : Below w.heap.size w w.drew := ⟨rfl, rfl, rfl, Nat.le_refl _, fun _ _ => rfl⟩
theorem heap_last (W : World) (o : Obj) (n : Nat) (h : W.heap.size = n) : (W.alloc o).heap[n]? = some o := by subst h; exact heap_alloc_new W o
/-- The end of a call that stores an integer into its result's box g. -/
theorem two_cells {w : World} {g : Nat} {a b : Value} {T : TypeId} (h : w.heap[g]? = some (.cells #[a, b] T (0, 0))) :
    w.cell? ⟨g, 0, none⟩ = some a ∧ w.cell? ⟨g, 1, none⟩ = some b ∧ w.frozen? ⟨g, 0, none⟩ = false ∧ w.frozen? ⟨g, 1, none⟩ = false :=
  ⟨by rw [cell_of_row w g 0 _ T (0, 0) h]; rfl, by rw [cell_of_row w g 1 _ T (0, 0) h]; rfl, frozen_of_row w g 0 _ T h, frozen_of_row w g 1 _ T h⟩
theorem two_set {w : World} {g : Nat} {a b : Value} {T : TypeId} (h : w.heap[g]? = some (.cells #[a, b] T (0, 0))) (u v : Value) :
    ((w.setCell ⟨g, 0, none⟩ u).setCell ⟨g, 1, none⟩ v).heap[g]? = some (.cells #[u, v] T (0, 0)) := by
  have h1 := heap_setCell_same w g 0 #[a, b] T u h
  have h2 := heap_setCell_same _ g 1 _ T v h1
  simpa using h2
theorem boxed {w w' : World} {o : Obj} (h : Below (w.heap.size + 1) (w.alloc o) w') : w'.heap[w.heap.size]? = some o := (h.block _ (by omega)).trans (heap_alloc_new w o)
theorem three_cells {w : World} {g : Nat} {a b c : Value} {T : TypeId} (h : w.heap[g]? = some (.cells #[a, b, c] T (0, 0))) :
    w.cell? ⟨g, 0, none⟩ = some a ∧ w.cell? ⟨g, 1, none⟩ = some b ∧ w.cell? ⟨g, 2, none⟩ = some c ∧ w.frozen? ⟨g, 0, none⟩ = false ∧ w.frozen? ⟨g, 1, none⟩ = false ∧ w.frozen? ⟨g, 2, none⟩ = false :=
  ⟨by rw [cell_of_row w g 0 _ T (0, 0) h]; rfl, by rw [cell_of_row w g 1 _ T (0, 0) h]; rfl, by rw [cell_of_row w g 2 _ T (0, 0) h]; rfl, frozen_of_row w g 0 _ T h, frozen_of_row w g 1 _ T h, frozen_of_row w g 2 _ T h⟩
/-- Blocks that a call has laid behind the world w0, one after the other, and that are as they were. -/
def Bxs (w0 : World) (os : List Obj) (W : World) : Prop := Below w0.heap.size w0 W ∧ w0.heap.size + os.length ≤ W.heap.size ∧ ∀ i o, os[i]? = some o → W.heap[w0.heap.size + i]? = some o
theorem Bxs.start (w : World) : Bxs w [] w := ⟨Below.refl _ _, by simp, fun i o h => by simp at h⟩
theorem Bxs.alloc {w0 W : World} {os : List Obj} (h : Bxs w0 os W) (hs : W.heap.size = w0.heap.size + os.length) (o : Obj) : Bxs w0 (os ++ [o]) (W.alloc o) := by
  refine ⟨h.1.alloc h.1.size _, by simp; omega, fun i o' hi => ?_⟩
  by_cases hl : i < os.length
  · rw [List.getElem?_append_left hl] at hi
    exact (heap_alloc_old _ _ (by omega)).trans (h.2.2 i o' hi)
  · rw [List.getElem?_append_right (by omega)] at hi
    have : i - os.length = 0 := by
      apply Classical.byContradiction
      intro hc
      rw [List.getElem?_eq_none (by simp; omega)] at hi
      cases hi
    rw [this] at hi
    simp only [List.getElem?_cons_zero, Option.some.injEq] at hi
    subst hi
    have e : w0.heap.size + i = W.heap.size := by omega
    rw [e]
    exact heap_alloc_new W _
theorem Bxs.below {w0 W W' : World} {os : List Obj} (h : Bxs w0 os W) (hb : Below W.heap.size W W') : Bxs w0 os W' :=
  ⟨h.1.trans (hb.mono h.1.size), Nat.le_trans h.2.1 hb.size, fun i o hi => (hb.block _ (Array.getElem?_eq_some_iff.1 (h.2.2 i o hi)).1).trans (h.2.2 i o hi)⟩
theorem Bxs.drew {w0 W : World} {os : List Obj} (h : Bxs w0 os W) : Bxs w0 os W.drew := h.below (belowDrew W)
theorem Bxs.b0 {w0 W : World} {o : Obj} {os : List Obj} (h : Bxs w0 (o :: os) W) : W.heap[w0.heap.size]? = some o := h.2.2 0 o rfl
theorem Bxs.b1 {w0 W : World} {o o1 : Obj} {os : List Obj} (h : Bxs w0 (o :: o1 :: os) W) : W.heap[w0.heap.size + 1]? = some o1 := h.2.2 1 o1 rfl
theorem Bxs.l1 {w0 W : World} {o : Obj} {os : List Obj} (h : Bxs w0 (o :: os) W) : w0.heap.size < W.heap.size := (Array.getElem?_eq_some_iff.1 h.b0).1
theorem Bxs.l2 {w0 W : World} {o o1 : Obj} {os : List Obj} (h : Bxs w0 (o :: o1 :: os) W) : w0.heap.size + 1 < W.heap.size := (Array.getElem?_eq_some_iff.1 h.b1).1
theorem Bxs.lt {w0 W : World} {os : List Obj} (h : Bxs w0 os W) {i : Nat} (hi : i < os.length) : w0.heap.size + i < W.heap.size := by have := h.2.1; omega
theorem Bxs.grown {w0 W W' : World} {os : List Obj} {row : Option Nat} (h : Bxs w0 os W) (hg : W.grownBy W' row) (hr : ∀ k, row = some k → w0.heap.size + os.length ≤ k) : Bxs w0 os W' :=
  ⟨h.1.grown hg h.1.size (fun k hk => by have := hr k hk; omega), Nat.le_trans h.2.1 hg.size, fun i o hi => by
    have hl := h.2.1
    have hi' : i < os.length := (List.getElem?_eq_some_iff.1 hi).1
    rw [hg.block (w0.heap.size + i) (by omega) (fun e => by have := hr _ e.symm; omega)]
    exact h.2.2 i o hi⟩
/-- The call returns z, and no error. -/
theorem info_i64 : (Tryz.prog.info? 3).map (fun i => (i.zero, i.size, i.bytes)) = some (some (.int .i64 0), 1, 8) := by kernel_rfl
/-- The slice value v holds the limbs of n, at most L of them. -/
theorem quietSame {P : Program} {f : FuncId} {args : Array Value} {w : World} {n : Nat} {v : Value}
    (h : Calls P f args (w.drewN n) fun e w' => e = .returned v ∧ w.drewN n = w') : Calls P f args (w.drewN n) fun e w'' => e = .returned v ∧ ∃ m, w'' = w.drewN m :=
  h.mono fun _ _ ⟨he, hm⟩ => ⟨he, n, hm.symm⟩
/-- The call returns v; of what was there nothing has turned. -/
def RB (w : World) (v : Value) (e : Ending) (w' : World) : Prop := Below w.heap.size w w' ∧ e = .returned v
/-- The call returns v, and only reads. -/
def RQ (w : World) (v : Value) (e : Ending) (w' : World) : Prop := e = .returned v ∧ ∃ m, w' = w.drewN m
theorem RQ.same {w : World} {v : Value} : RQ w v (.returned v) w := ⟨rfl, 0, rfl⟩
theorem RQ.rb {w w' : World} {v : Value} {e : Ending} (h : RQ w v e w') : RB w v e w' := by
  obtain ⟨rfl, m, rfl⟩ := h
  exact ⟨below_drewN (Below.refl _ _) m, rfl⟩
/-- A row of one's own, cut at its end. -/
theorem Mine.upto {E : TypeId} {K : IntKind} {B : Nat} {w : World} {g n cap : Nat} {xs : List Int} (h : Mine E K B w (.slice (some ⟨g, 0, none⟩) xs.length cap) xs) (hn : n ≤ xs.length) : Mine E K B w (.slice (some ⟨g, 0, none⟩) n cap) (xs.take n) := by
  rcases h with ⟨e, _⟩ | ⟨g', cap', cur, e, hB, hg, h1, h2, h3, h4⟩
  · cases e
  · simp only [Value.slice.injEq, Option.some.injEq, Addr.mk.injEq, and_true, true_and] at e
    obtain ⟨rfl, rfl⟩ := e
    have hl : (xs.take n).length = n := by simp; omega
    refine .inr ⟨g, cap, cur, by rw [hl], hB, hg, by omega, h2, h3, ?_⟩
    rw [hl, List.map_take, ← h4, List.take_take, Nat.min_eq_left hn]
/-- The digits without the zeros that lead the number. -/
def sliceLen : Value → Nat | .slice _ k _ => k | _ => 0
theorem w64 {n : Int} (h0 : 0 ≤ n) (h1 : n ≤ 4611686018427387904) : wrap64 n = n := by unfold wrap64; omega
theorem wi {n : Int} (h0 : 0 ≤ n) (h1 : n ≤ 4611686018427387904) : IntKind.i64.wrap n = n := by rw [IntKind.wrap_i64]; omega
/-- A product by a name. -/
theorem wmul {a b c : Nat} (h : a * b = c) (hc : c ≤ 1152921504606846976) : wrap64 ((a : Int) * b) = c := by rw [← Int.natCast_mul, h]; exact w64 (by omega) (by omega)
theorem wimul {a b c : Nat} (h : a * b = c) (hc : c ≤ 1152921504606846976) : IntKind.i64.wrap ((a : Int) * b) = c := by rw [← Int.natCast_mul, h]; exact wi (by omega) (by omega)
theorem nmul_le {a b A B : Nat} (h1 : a ≤ A) (h2 : b ≤ B) : a * b ≤ A * B := Nat.mul_le_mul h1 h2
theorem imul_le {a b A B : Int} (h0 : 0 ≤ a) (h1 : a ≤ A) (h2 : 0 ≤ b) (h3 : b ≤ B) : a * b ≤ A * B := Int.mul_le_mul h1 h3 h2 (Int.le_trans h0 h1)
theorem imul_nn {a b : Int} (h0 : 0 ≤ a) (h2 : 0 ≤ b) : 0 ≤ a * b := Int.mul_nonneg h0 h2
theorem info_rows : (Tryz.prog.info? 40).map (fun i => (i.zero, i.size, i.bytes)) = some (some (.slice none 0 0), 1, 24) := by kernel_rfl
/-- Rows that the slice at ao holds. -/
def Sls (w : World) (ao : Option Addr) (rows : List (List Int)) : Prop := ∀ i, i < rows.length → ∃ (b o : Nat) (rv : Value), ao = some ⟨b, o, none⟩ ∧ b < w.heap.size ∧ w.cell? ⟨b, o + i, none⟩ = some rv ∧ Sl .i64 w rv (rows[i]?.getD [])
theorem Sls.below {w w' : World} {ao : Option Addr} {rows : List (List Int)} (h : Sls w ao rows) (hb : Below w.heap.size w w') : Sls w' ao rows := fun i hi => by
  obtain ⟨b, o, rv, e, hl, hc, hs⟩ := h i hi
  exact ⟨b, o, rv, e, Nat.lt_of_lt_of_le hl hb.size, (hb.cell (p := ⟨b, o + i, none⟩) hl).trans hc, hs.below hb⟩
/-- append of a slice, of whatever block, to one of the call's own. -/
theorem run_append_sl {P : Program} (w : World) (t ty E : TypeId) (K : IntKind) (bytes : Nat) (ht : P.underlying t = some (.slice E))
    (hinfo : (P.info? E).map (fun i => (i.zero, i.size, i.bytes)) = some (some (.int K 0), 1, bytes)) (B : Nat) (v : Value) (xs : List Int) (hM : Mine E K B w v xs) (hB : B ≤ w.heap.size)
    (u : Value) (ys : List Int) (hu : Sl K w u ys) (hb : (xs.length + ys.length) * bytes ≤ 140737488355328) (hm : xs.length + ys.length ≤ maxLen) :
    ∃ v' w', (Builtin.append_ #[t, t] ty #[v, u]).run P w = .ok v' w' ∧ Mine E K B w' v' (xs ++ ys) ∧ w.grownBy w' v.ownBlock := by
  obtain ⟨ao, cap, rfl, hcap, hmax, hx⟩ := hu
  cases ao with
  | some a =>
    obtain ⟨v', w', h1, h2, h3, _⟩ := run_append_mine (P := P) w t ty E K bytes ht hinfo B v xs hM hB a cap ys (fun j q hj => by
      have hjl : j < ys.length := by
        apply Classical.byContradiction
        intro hc
        simp [hc] at hj
      obtain ⟨b, o, e, _, hcell⟩ := hx j hjl
      obtain rfl := Option.some.inj e
      have e : (⟨b, o, none⟩ : Addr).add j = ⟨b, o + j, none⟩ := by
        unfold Addr.add
        split <;> simp_all
      rw [e, hcell]
      simp [hjl] at hj ⊢
      exact hj) hb hm
    exact ⟨v', w', h1, h2, h3⟩
  | none =>
    have he : ys = [] := by
      cases ys with
      | nil => rfl
      | cons y t =>
        obtain ⟨b, o, e, _⟩ := hx 0 (by simp)
        cases e
    subst he
    obtain ⟨i, hi, hz, hs, hby⟩ := info_parts hinfo
    obtain ⟨ao, c, rfl, hc, _⟩ := hM.sl
    refine ⟨_, w, run_append_nothing w t t ty E i ht hi ao xs.length c hc (.slice none 0 cap) (Src.ofNil w ht cap), ?_, ⟨rfl, rfl, rfl, Nat.le_refl _, fun _ _ _ => rfl⟩⟩
    rw [List.append_nil]
    exact hM
theorem wpList_append_sl {P : Program} (w : World) {ops : Array Oper} {rest : List Oper} {o : Oper} {a : Act} {Q : Exit → Act → World → Prop} (hgd : o.guard = none) (s x : Operand) (t : TypeId)
    (ho : o.op = .call { callee := .builtin .append, args := #[s, x], argTypes := #[t, t] }) (E : TypeId) (K : IntKind) (bytes : Nat) (ht : P.underlying t = some (.slice E))
    (hinfo : (P.info? E).map (fun i => (i.zero, i.size, i.bytes)) = some (some (.int K 0), 1, bytes)) (B : Nat) (v : Value) (xs : List Int) (hs : a.eval s = v) (hM : Mine E K B w v xs) (hB : B ≤ w.heap.size)
    (u : Value) (ys : List Int) (hx : a.eval x = u) (hu : Sl K w u ys)
    (hb : (xs.length + ys.length) * bytes ≤ 140737488355328) (hm : xs.length + ys.length ≤ maxLen)
    (h : ∀ v' w', Mine E K B w' v' (xs ++ ys) → w.grownBy w' v.ownBlock → wpList P ops Q rest (a.put o.dst v') w') : wpList P ops Q (o :: rest) a w := by
  refine wpList_plain hgd fun K' hK => ?_
  obtain ⟨v', w', hrun, r1, r2⟩ := run_append_sl (P := P) w t o.type E K bytes ht hinfo B v xs hM hB u ys hu hb hm
  unfold Oper.wp
  simp [execOp, ho, resolve, invoke, builtin, hs, hx, hrun, Result.andThen]
  exact hK _ _ (h v' w' r1 r2)
theorem wp_append_mine {P : Program} (w : World) {o : Oper} {a : Act} {K' : Act → World → Prop} {Q : Exit → Act → World → Prop} (s x : Operand) (t : TypeId)
    (ho : o.op = .call { callee := .builtin .append, args := #[s, x], argTypes := #[t, t] }) (E : TypeId) (K : IntKind) (bytes : Nat) (ht : P.underlying t = some (.slice E))
    (hinfo : (P.info? E).map (fun i => (i.zero, i.size, i.bytes)) = some (some (.int K 0), 1, bytes)) (B : Nat) (v : Value) (xs : List Int) (hs : a.eval s = v) (hM : Mine E K B w v xs) (hB : B ≤ w.heap.size)
    (ad : Addr) (m c : Nat) (news : List Int) (hx : a.eval x = .slice (some ad) m c) (hl : news.length = m) (hnews : ∀ j u, (news.map (Value.int K))[j]? = some u → w.cell? (ad.add j) = some u)
    (hb : (xs.length + news.length) * bytes ≤ 140737488355328) (hm : xs.length + news.length ≤ maxLen)
    (h : ∀ v' w', Mine E K B w' v' (xs ++ news) → w.grownBy w' v.ownBlock → (v'.ownBlock = v.ownBlock ∨ Frm w.heap.size v') → K' (a.put o.dst v') w') : o.wp P a w K' Q := by
  subst hl
  obtain ⟨v', w', hrun, r1, r2, r3⟩ := run_append_mine (P := P) w t o.type E K bytes ht hinfo B v xs hM hB ad c news hnews hb hm
  unfold Oper.wp execOp
  simp only [ho, resolve, invoke, builtin, Sem.run_bind, Sem.run_pure, Result.andThen_ok, List.map_toArray, List.map_cons, List.map_nil, hs, hx, hrun]
  exact h v' w' r1 r2 r3
/-- At a step of a region that draws its order. -/
theorem step_append_mine {P : Program} (w : World) {ops : Array Oper} {o : Oper} {a : Act} {K' : Act → World → Prop} {Q : Exit → Act → World → Prop} {E' : Prop} (hgd : o.guard = none) (s x : Operand) (t : TypeId)
    (ho : o.op = .call { callee := .builtin .append, args := #[s, x], argTypes := #[t, t] }) (E : TypeId) (K : IntKind) (bytes : Nat) (ht : P.underlying t = some (.slice E))
    (hinfo : (P.info? E).map (fun i => (i.zero, i.size, i.bytes)) = some (some (.int K 0), 1, bytes)) (B : Nat) (v : Value) (xs : List Int) (hs : a.eval s = v) (hM : Mine E K B w v xs) (hB : B ≤ w.heap.size)
    (ad : Addr) (m c : Nat) (news : List Int) (hx : a.eval x = .slice (some ad) m c) (hl : news.length = m) (hnews : ∀ j u, (news.map (Value.int K))[j]? = some u → w.cell? (ad.add j) = some u)
    (hb : (xs.length + news.length) * bytes ≤ 140737488355328) (hm : xs.length + news.length ≤ maxLen)
    (h : ∀ v' w', Mine E K B w' v' (xs ++ news) → w.grownBy w' v.ownBlock → (v'.ownBlock = v.ownBlock ∨ Frm w.heap.size v') → K' (a.put o.dst v') w') :
    if Region.wanted o (yielded ops a.tmps) = true then Oper.wp P o a w K' Q else E' := by
  have hw : Region.wanted o (yielded ops a.tmps) = true := by simp [Region.wanted, hgd]
  rw [if_pos hw]
  exact wp_append_mine w s x t ho E K bytes ht hinfo B v xs hs hM hB ad m c news hx hl hnews hb hm h
/-- The call returns a slice of its own that holds xs. -/
def RetM (w : World) (xs : List Int) (e : Ending) (w' : World) : Prop := Below w.heap.size w w' ∧ ∃ v', e = .returned v' ∧ Mine 3 .i64 w.heap.size w' v' xs
/-- The slice value v holds the values xs, one cell each, in a block of the call's own, or is nil. -/
def OwnV (E : TypeId) (B : Nat) (w : World) (v : Value) (xs : List Value) : Prop :=
  (v = .slice none 0 0 ∧ xs = []) ∨
    ∃ g cap cur, v = .slice (some ⟨g, 0, none⟩) xs.length cap ∧ B ≤ g ∧ w.heap[g]? = some (.cells cur E (0, 0)) ∧ xs.length ≤ cap ∧ cap ≤ cur.size ∧ cap ≤ maxLen ∧ cur.toList.take xs.length = xs
section
variable {E : TypeId} {B : Nat} {w w' : World} {v : Value} {xs : List Value}
theorem OwnV.nil (E : TypeId) (B : Nat) (w : World) : OwnV E B w (.slice none 0 0) [] := .inl ⟨rfl, rfl⟩
theorem OwnV.own (h : OwnV E B w v xs) : ∀ k, v.ownBlock = some k → B ≤ k ∧ k < w.heap.size := by
  intro k hk
  rcases h with ⟨rfl, rfl⟩ | ⟨g, cap, cur, rfl, hB, hg, hn, hc, hm, ht⟩
  · simp [Value.ownBlock] at hk
  · simp [Value.ownBlock] at hk
    subst hk
    exact ⟨hB, (Array.getElem?_eq_some_iff.1 hg).1⟩
theorem OwnV.kept {row : Option Nat} (h : OwnV E B w v xs) (hg : w.grownBy w' row) (hne : v.ownBlock = none ∨ v.ownBlock ≠ row) : OwnV E B w' v xs := by
  rcases h with h | ⟨g, cap, cur, rfl, hB, hgg, rest⟩
  · exact .inl h
  · refine .inr ⟨g, cap, cur, rfl, hB, ?_, rest⟩
    rw [hg.block g (Array.getElem?_eq_some_iff.1 hgg).1 (by simpa [Value.ownBlock] using hne)]
    exact hgg
theorem OwnV.below (h : OwnV E B w v xs) (hb : Below w.heap.size w w') : OwnV E B w' v xs :=
  h.kept (row := none) (growBelow hb) (by cases hv : v.ownBlock <;> simp)
theorem OwnV.lower {B' : Nat} (h : OwnV E B w v xs) (hB : B' ≤ B) : OwnV E B' w v xs := by
  rcases h with h | ⟨g, cap, cur, rfl, hb, rest⟩
  · exact .inl h
  · exact .inr ⟨g, cap, cur, rfl, by omega, rest⟩
theorem OwnV.of_owns {n : Nat} (h : w.ownsRow B E 1 v n xs) : OwnV E B w v xs := by
  have hl : xs.length = n := by simpa using h.1
  rcases h.2 with ⟨rfl, h0⟩ | ⟨g, cap, cur, rfl, hg, hh, hn, hm, hc, ht⟩
  · have : xs = [] := by cases xs with | nil => rfl | cons => simp at hl; omega
    exact .inl ⟨rfl, this⟩
  · exact .inr ⟨g, cap, cur, by rw [hl], hg, hh, by omega, by omega, hm, by rw [hl]; simpa using ht⟩
theorem OwnV.cell (h : OwnV E B w v xs) {i : Nat} (hi : i < xs.length) : ∃ g cap, v = .slice (some ⟨g, 0, none⟩) xs.length cap ∧ g < w.heap.size ∧ w.cell? ⟨g, i, none⟩ = some (xs[i]?.getD (.int .i64 0)) := by
  rcases h with ⟨rfl, rfl⟩ | ⟨g, cap, cur, rfl, hB, hg, hn, hc, hm, ht⟩
  · simp at hi
  · refine ⟨g, cap, rfl, (Array.getElem?_eq_some_iff.1 hg).1, ?_⟩
    rw [cell_of_row w g i cur E (0, 0) hg]
    have : (cur.toList.take xs.length)[i]? = cur[i]? := by rw [List.getElem?_take, if_pos hi]; simp
    rw [← this, ht]
    simp [hi]
theorem OwnV.form (h : OwnV E B w v xs) : ∃ ao cap, v = .slice ao xs.length cap ∧ xs.length ≤ cap ∧ cap ≤ maxLen := by
  rcases h with ⟨rfl, rfl⟩ | ⟨g, cap, cur, rfl, hB, hg, hn, hc, hm, ht⟩
  · exact ⟨none, 0, rfl, Nat.le_refl _, Nat.zero_le _⟩
  · exact ⟨_, cap, rfl, hn, hm⟩
end
theorem add_zero' (g j : Nat) : (⟨g, 0, none⟩ : Addr).add j = ⟨g, j, none⟩ := by unfold Addr.add; split <;> simp_all
theorem run_append_v {P : Program} (w : World) (t ty E : TypeId) (z : Value) (bytes : Nat) (ht : P.underlying t = some (.slice E))
    (hinfo : (P.info? E).map (fun i => (i.zero, i.size, i.bytes)) = some (some z, 1, bytes)) (hz1 : z.cells.size = 1) (B : Nat) (v : Value) (xs : List Value) (hM : OwnV E B w v xs) (hB : B ≤ w.heap.size)
    (a : Addr) (c : Nat) (news : List Value) (hnews : ∀ j u, news[j]? = some u → w.cell? (a.add j) = some u) (hone : ∀ u ∈ news, u.oneCell' = true)
    (hb : (xs.length + news.length) * bytes ≤ 140737488355328) (hm : xs.length + news.length ≤ maxLen) :
    ∃ v' w', (Builtin.append_ #[t, t] ty #[v, .slice (some a) news.length c]).run P w = .ok v' w' ∧ OwnV E B w' v' (xs ++ news) ∧ w.grownBy w' v.ownBlock ∧ (v'.ownBlock = v.ownBlock ∨ Frm w.heap.size v') := by
  obtain ⟨i, hi, hz, hs, hby⟩ := info_parts hinfo
  have hl : news.length = news.length * 1 := by simp
  rcases hM with ⟨rfl, rfl⟩ | ⟨g, cap, cur, rfl, hBg, hg, hn, hc, hcm, htk⟩
  · obtain ⟨v', w', hr, h2, h3, _⟩ := run_append_own (P := P) w w.heap.size t ty E i z 1 bytes ht hi hz hs hby hz1 (by decide) (.slice none 0 0) 0 [] (World.ownsRow_nil w w.heap.size E 1) a news.length c news hl hnews hone (by simpa using hm) (by simpa using hb) (Nat.le_refl _)
    exact ⟨v', w', hr, (OwnV.of_owns (n := 0 + news.length) (by simpa using h2)).lower hB, h3, .inr (fun k hk => (h2.lt k hk).1)⟩
  · by_cases hroom : xs.length + news.length ≤ cap
    · have hfit : xs.length * i.size + news.length ≤ cur.size := by rw [hs]; simp; omega
      have hr := run_append_room (P := P) w t ty E i ht hi g xs.length cap cur hg a news.length c news (by rw [hs]; exact hl) hnews hone hroom hfit
      rw [hs, Nat.mul_one] at hr
      refine ⟨_, _, hr, .inr ⟨g, cap, _, by simp, hBg, setRow_heap w g cur _ E _ hg, by simpa using hroom, ?_, hcm, ?_⟩, ⟨rfl, rfl, rfl, by simp, fun k _ hk => setRow_other w g k _ (fun e => hk (by simp [Value.ownBlock, e]))⟩, .inl rfl⟩
      · simp only [List.size_toArray, List.length_append, List.length_take, List.length_drop, Array.length_toList]
        omega
      · rw [htk, List.length_append]
        have : (xs ++ news).length = xs.length + news.length := by simp
        rw [← this]
        exact List.take_left
    · have holds : ∀ j u, xs[j]? = some u → w.cell? ((⟨g, 0, none⟩ : Addr).add j) = some u := by
        intro j u hu
        have e : (⟨g, 0, none⟩ : Addr).add j = ⟨g, j, none⟩ := add_zero' g j
        rw [e, cell_of_row w g j cur E (0, 0) hg]
        have hj : j < xs.length := by
          apply Classical.byContradiction
          intro hc'
          simp [hc'] at hu
        rw [← htk, List.getElem?_take, if_pos hj] at hu
        simpa using hu
      obtain ⟨v', w', hr, h2, h3⟩ := run_append_arg_grows (P := P) w t ty E i z 1 bytes ht hi hz hs hby hz1 (by decide) ⟨g, 0, none⟩ xs.length cap xs (by simp) holds a news.length c news hl hnews (by omega) hm hb
      refine ⟨v', w', hr, ?_, ⟨h3.os, h3.tape, h3.output, h3.size, fun k hk _ => h3.block k hk (by simp)⟩, .inr (fun k hk => (h2.lt k hk).1)⟩
      exact (OwnV.of_owns (n := xs.length + news.length) (by simpa using h2)).lower hB
theorem wpList_append_v {P : Program} (w : World) {ops : Array Oper} {rest : List Oper} {o : Oper} {a : Act} {Q : Exit → Act → World → Prop} (hgd : o.guard = none) (s x : Operand) (t : TypeId)
    (ho : o.op = .call { callee := .builtin .append, args := #[s, x], argTypes := #[t, t] }) (E : TypeId) (z : Value) (bytes : Nat) (ht : P.underlying t = some (.slice E))
    (hinfo : (P.info? E).map (fun i => (i.zero, i.size, i.bytes)) = some (some z, 1, bytes)) (hz1 : z.cells.size = 1) (B : Nat) (v : Value) (xs : List Value) (hs : a.eval s = v) (hM : OwnV E B w v xs) (hB : B ≤ w.heap.size)
    (ad : Addr) (m c : Nat) (news : List Value) (hx : a.eval x = .slice (some ad) m c) (hl : news.length = m) (hnews : ∀ j u, news[j]? = some u → w.cell? (ad.add j) = some u) (hone : ∀ u ∈ news, u.oneCell' = true)
    (hb : (xs.length + news.length) * bytes ≤ 140737488355328) (hm : xs.length + news.length ≤ maxLen)
    (h : ∀ v' w', OwnV E B w' v' (xs ++ news) → w.grownBy w' v.ownBlock → (v'.ownBlock = v.ownBlock ∨ Frm w.heap.size v') → wpList P ops Q rest (a.put o.dst v') w') : wpList P ops Q (o :: rest) a w := by
  refine wpList_plain hgd fun K' hK => ?_
  subst hl
  obtain ⟨v', w', hrun, r1, r2, r3⟩ := run_append_v (P := P) w t o.type E z bytes ht hinfo hz1 B v xs hM hB ad c news hnews hone hb hm
  unfold Oper.wp
  simp [execOp, ho, resolve, invoke, builtin, hs, hx, hrun, Result.andThen]
  exact hK _ _ (h v' w' r1 r2 r3)
theorem wpList_append_w {P : Program} (w : World) {ops : Array Oper} {rest : List Oper} {o : Oper} {a : Act} {Q : Exit → Act → World → Prop} (hgd : o.guard = none) (s x : Operand) (t : TypeId)
    (ho : o.op = .call { callee := .builtin .append, args := #[s, x], argTypes := #[t, t] }) (E : TypeId) (z : Value) (bytes : Nat) (ht : P.underlying t = some (.slice E))
    (hinfo : (P.info? E).map (fun i => (i.zero, i.size, i.bytes)) = some (some z, 1, bytes)) (hz1 : z.cells.size = 1) (B : Nat) (v : Value) (xs : List Value) (hs : a.eval s = v) (hM : OwnV E B w v xs) (hB : B ≤ w.heap.size)
    (ad : Addr) (c : Nat) (nv : Value) (hx : a.eval x = .slice (some ad) 1 c) (hnews : ∀ j u, ([nv])[j]? = some u → w.cell? (ad.add j) = some u) (hone : nv.oneCell' = true)
    (n : Nat) (hn : xs.length = n) (hb : (n + 1) * bytes ≤ 140737488355328) (hm : n + 1 ≤ 1000000)
    (h : ∀ v' w', OwnV E B w' v' (xs ++ [nv]) → w.grownBy w' v.ownBlock → (v'.ownBlock = v.ownBlock ∨ Frm w.heap.size v') → wpList P ops Q rest (a.put o.dst v') w') : wpList P ops Q (o :: rest) a w :=
  wpList_append_v w hgd s x t ho E z bytes ht hinfo hz1 B v xs hs hM hB ad 1 c [nv] hx rfl hnews (fun u hu => by obtain rfl := List.mem_singleton.1 hu; exact hone) (by rw [hn]; exact hb) (by rw [hn]; unfold maxLen; simp; omega) h
/-- The slice value v holds the rows L (values and what they hold): it and each of them lie in a block of their own. -/
structure Rws (B : Nat) (w : World) (v : Value) (L : List (Value × List Int)) : Prop where
  own : OwnV 40 B w v (L.map (·.1))
  ok : ∀ r ∈ L, Mine 3 .i64 B w r.1 r.2
  ne : ∀ r ∈ L, ∀ g, r.1.ownBlock = some g → v.ownBlock ≠ some g
theorem Rws.nil (B : Nat) (w : World) : Rws B w (.slice none 0 0) [] := ⟨OwnV.nil _ _ _, by simp, by simp⟩
theorem Rws.below {B : Nat} {w w' : World} {v : Value} {L : List (Value × List Int)} (h : Rws B w v L) (hb : Below w.heap.size w w') : Rws B w' v L :=
  ⟨h.own.below hb, fun r hr => (h.ok r hr).below hb, h.ne⟩
theorem Rws.lower {B B' : Nat} {w : World} {v : Value} {L : List (Value × List Int)} (h : Rws B w v L) (hB : B' ≤ B) : Rws B' w v L := ⟨h.own.lower hB, fun r hr => (h.ok r hr).lower hB, h.ne⟩
theorem Mine.one {E : TypeId} {K : IntKind} {B : Nat} {w : World} {v : Value} {xs : List Int} (h : Mine E K B w v xs) : v.oneCell' = true := by
  obtain ⟨ao, c, rfl, _⟩ := h.sl
  rfl
/-- A row more. -/
theorem Rws.push {B : Nat} {w w' : World} {v v' rv : Value} {L : List (Value × List Int)} {xs : List Int} (h : Rws B w v L) (hr : Mine 3 .i64 B w rv xs) (hne : ∀ g, rv.ownBlock = some g → v.ownBlock ≠ some g)
    (ho : OwnV 40 B w' v' (L.map (·.1) ++ [rv])) (hg : w.grownBy w' v.ownBlock) (hv : v'.ownBlock = v.ownBlock ∨ Frm w.heap.size v') : Rws B w' v' (L ++ [(rv, xs)]) := by
  have all : ∀ s ∈ L ++ [(rv, xs)], Mine 3 .i64 B w s.1 s.2 ∧ ∀ g, s.1.ownBlock = some g → v.ownBlock ≠ some g := fun s hs => by
    rcases List.mem_append.1 hs with h1 | h1
    · exact ⟨h.ok s h1, h.ne s h1⟩
    · obtain rfl := List.mem_singleton.1 h1
      exact ⟨hr, hne⟩
  refine ⟨by rw [List.map_append]; exact ho, fun s hs => (all s hs).1.kept hg ?_, fun s hs g hgb e => ?_⟩
  · cases hb : s.1.ownBlock with
    | none => exact .inl rfl
    | some g => exact .inr (fun e => (all s hs).2 g hb e.symm)
  · rcases hv with h1 | h1
    · rw [h1] at e
      exact (all s hs).2 g hgb e
    · have := h1 g e
      have := ((all s hs).1.own g hgb).2
      omega
theorem Rws.sls {B : Nat} {w : World} {v : Value} {L : List (Value × List Int)} (h : Rws B w v L) : ∃ ao cap, v = .slice ao L.length cap ∧ L.length ≤ cap ∧ cap ≤ maxLen ∧ Sls w ao (L.map (·.2)) := by
  obtain ⟨ao, cap, e, h1, h2⟩ := h.own.form
  rw [List.length_map] at e h1
  refine ⟨ao, cap, e, h1, h2, fun i hi => ?_⟩
  have hi' : i < L.length := by simpa using hi
  obtain ⟨g, c, e2, hg, hcell⟩ := h.own.cell (i := i) (by simpa using hi')
  rw [e] at e2
  simp only [Value.slice.injEq] at e2
  obtain ⟨rfl, _, _⟩ := e2
  refine ⟨g, 0, (L[i]'hi').1, rfl, hg, ?_, ?_⟩
  · rw [Nat.zero_add, hcell]
    simp [hi']
  · have := (h.ok _ (List.getElem_mem hi')).sl
    simpa [hi'] using this
theorem rows_one {W : World} {rv : Value} : ∀ j u, ([rv])[j]? = some u → (W.alloc (.cells #[rv] 40)).cell? ((⟨W.heap.size, 0, none⟩ : Addr).add j) = some u := by
  intro j u hu
  cases j with
  | zero =>
    simp at hu
    subst hu
    have e : (⟨W.heap.size, 0, none⟩ : Addr).add 0 = ⟨W.heap.size, 0, none⟩ := by simp [Addr.add]
    rw [e, cell_of_row _ W.heap.size 0 _ _ (0, 0) (heap_alloc_new W _)]
    rfl
  | succ j => simp at hu
/-- What a call returns that returns rows of its own. -/
def RetR (w : World) (rows : List (List Int)) (e : Ending) (w' : World) : Prop := Below w.heap.size w w' ∧ ∃ v L, e = .returned v ∧ Rws w.heap.size w' v L ∧ L.map (·.2) = rows
theorem bstep {w W w' : World} (h1 : Below w.heap.size w W) (h2 : Below W.heap.size W w') : Below w.heap.size w w' := h1.trans (h2.mono h1.size)
theorem wrapB {n : Int} (h0 : -4611686018427387904 ≤ n) (h1 : n ≤ 4611686018427387904) : IntKind.i64.wrap n = n := by rw [IntKind.wrap_i64]; omega
theorem one_cell_ {w : World} {g : Nat} {a : Value} {T : TypeId} (h : w.heap[g]? = some (.cells #[a] T (0, 0))) : w.cell? ⟨g, 0, none⟩ = some a := by
  rw [cell_of_row w g 0 _ T (0, 0) h]; rfl
theorem Sl.form {w : World} {v : Value} {xs : List Int} (h : Sl .i64 w v xs) : ∃ ao cap, v = .slice ao xs.length cap ∧ xs.length ≤ cap ∧ cap ≤ maxLen := by
  obtain ⟨ao', cap', e, hc, hm, hx⟩ := h
  exact ⟨ao', cap', e, hc, hm⟩
end Go.Proofs.YtalahdkhglagpaaGreatDoor
