import Derived.Test.YtalahdkhglagpaaGreatDoorPob
import Derived.Test.YtalahdkhglagpaaGreatDoorDa
import Derived.Deep.Matrix
import Derived.Carry
set_option linter.unusedVariables false
/-! Slices of integers, and slices of these, that come in; and arguments that read behind the call as before. -/
namespace Go.Proofs.YtalahdkhglagpaaGreatDoor
open Go Go.ChangeShapes Go.WideShapes Go.RowKit
def I64s (xs : List Int) : Prop := ∀ x ∈ xs, -9223372036854775808 ≤ x ∧ x ≤ 9223372036854775807
theorem trodAll_stays {H : Type} {enc : TypeId × Value → H} {P : Program} (hl : laidOutB P = true) {W W' : World} (hb : Below W.heap.size W W') {sp : Nat → Bool} :
    ∀ {ts : List TypeId} {vs : List Value} {ds : List (DataW H)} {ps : List MemPlace}, (∀ t ∈ ts, P.readableRec t = true ∧ t < P.types.size) → DataW.TrodAll enc P W 0 (fun _ => true) true ts vs ds ps → (∀ p ∈ ps, p.block < W.heap.size) → (∀ p ∈ ps, sp p.block = true) → DataW.TrodAll enc P W' 0 sp true ts vs ds ps
  | [], [], [], _, _, h, _, _ => h
  | _ :: _, _ :: _, _ :: _, _, hT, ⟨p, q, h1, h2, e⟩, hlt, hs => ⟨p, q, WideElems.Trod_stays hl (hT _ List.mem_cons_self).1 (hT _ List.mem_cons_self).2 h1 (fun x hx => hb.same (hlt x (by rw [e]; exact List.mem_append_left _ hx))) (fun x hx => hs x (by rw [e]; exact List.mem_append_left _ hx)), trodAll_stays hl hb (fun t ht => hT t (List.mem_cons_of_mem _ ht)) h2 (fun x hx => hlt x (by rw [e]; exact List.mem_append_right _ hx)) (fun x hx => hs x (by rw [e]; exact List.mem_append_right _ hx)), e⟩
section
variable {H : Type} {enc : TypeId × Value → H} {P : Program} {w : World} {base : Nat} {held : Bool}
theorem cell_plain {a : Addr} {i : Nat} {v v0 : Value} (h0 : w.cell? (a.add 0) = some v0) (h : w.cell? (a.add i) = some v) : ∃ b o, a = ⟨b, o, none⟩ ∧ b < w.heap.size ∧ w.cell? ⟨b, o + i, none⟩ = some v := by
  obtain ⟨b, o, spot⟩ := a
  have hs : spot = none := by simpa [Addr.add] using World.cell?_spot h0
  subst hs
  have e : (⟨b, o, none⟩ : Addr).add i = ⟨b, o + i, none⟩ := by unfold Addr.add; split <;> simp_all
  rw [e] at h
  exact ⟨b, o, rfl, World.block_lt_of_cell? w _ h, h⟩
theorem take_get {zs : List Int} {n i : Nat} (hi : i < n) : (zs.take n)[i]?.getD 0 = zs.getD i 0 := by
  rw [List.getElem?_take, if_pos hi, List.getD_eq_getElem?_getD]
theorem open_slv {t e : TypeId} {fuel : Nat} {ao : Option Addr} {len cap : Nat} {x : DataW H × List MemPlace} (ht : P.underlying t = some (.slice e)) (he : P.underlying e = some (.int .i64)) (hc : P.cellsOf e = 1)
    (h : DataW.trod enc P w base (fun _ => true) held fuel t [.slice ao len cap] = some x) : ∃ xs, xs.length = len ∧ Sl .i64 w (.slice ao len cap) xs ∧ I64s xs := by
  rcases open_ints ht he hc h with ⟨hcs, hx⟩ | ⟨a, len', cap', zs, hcs, _, hl, hm, hz, hx, hcell, hwz⟩
  · simp at hcs
    obtain ⟨rfl, rfl, rfl⟩ := hcs
    exact ⟨[], rfl, Sl.nil _ _, by simp [I64s]⟩
  · simp at hcs
    obtain ⟨rfl, rfl, rfl⟩ := hcs
    simp only [if_true] at hz
    have hlen : (zs.take len).length = len := by rw [List.length_take, hz]; omega
    refine ⟨zs.take len, hlen, ⟨some a, cap, by rw [hlen], by rw [hlen]; exact hl, hm, fun i hi => ?_⟩, fun y hy => i64_bounds (hwz y (List.mem_of_mem_take hy))⟩
    rw [hlen] at hi
    obtain ⟨b, o, rfl, hb, hcl⟩ := cell_plain (hcell 0 (by omega)) (hcell i (by omega))
    exact ⟨b, o, rfl, hb, by rw [hcl, take_get hi]⟩
theorem open_sl {r : Reach} {b0 : Nat} {t e : TypeId} {v : Value} {d : DataW H} {ps : List MemPlace} (ht : P.underlying t = some (.slice e)) (he : P.underlying e = some (.int .i64)) (hc : P.cellsOf e = 1)
    (hval : Value.okWide P w r b0 t v) (hd : DataW.Trod enc P w base (fun _ => true) held t v d ps) : ∃ xs, Sl .i64 w v xs ∧ I64s xs := by
  obtain ⟨a0, len, cap, rfl⟩ := okWide_slice ht hval
  obtain ⟨fuel, hf⟩ := hd
  obtain ⟨xs, _, h1, h2⟩ := open_slv ht he hc (by simpa [Value.cells] using hf)
  exact ⟨xs, h1, h2⟩
theorem open_rows {r : Reach} {b0 : Nat} {t e q : TypeId} {v : Value} {d : DataW H} {ps : List MemPlace} (ht : P.underlying t = some (.slice e)) (he : P.underlying e = some (.slice q)) (hq : P.underlying q = some (.int .i64)) (ce : P.cellsOf e = 1) (cq : P.cellsOf q = 1)
    (hval : Value.okWide P w r b0 t v) (hd : DataW.Trod enc P w base (fun _ => true) held t v d ps) : ∃ (ao : Option Addr) (rows : List (List Int)) (cap : Nat), v = .slice ao rows.length cap ∧ rows.length ≤ cap ∧ cap ≤ maxLen ∧ Sls w ao rows ∧ ∀ l ∈ rows, I64s l := by
  obtain ⟨a0, len, cap, rfl⟩ := okWide_slice ht hval
  obtain ⟨fuel, hf⟩ := hd
  rcases Go.Deep.open_int_rows ht he hq ce cq (by simpa [Value.cells] using hf) with ⟨hcs, hx⟩ | ⟨a, len', cap', A, L, C, Z, hcs, _, hl, hm, hx, hrows⟩
  · simp at hcs
    obtain ⟨rfl, rfl, rfl⟩ := hcs
    exact ⟨none, [], 0, rfl, Nat.le_refl _, Nat.zero_le _, fun i hi => absurd hi (Nat.not_lt_zero _), by simp⟩
  · simp at hcs
    obtain ⟨rfl, rfl, rfl⟩ := hcs
    refine ⟨some a, (List.range len).map fun r => (Z r).take (L r), cap, by simp, by simpa using hl, hm, fun i hi => ?_, fun l hlm => ?_⟩
    · have hi : i < len := by simpa using hi
      obtain ⟨hcell, h1, h2, h3, h4, h5, h6⟩ := hrows i (by omega)
      obtain ⟨b, o, rfl, hb, hcl⟩ := cell_plain (hrows 0 (by omega)).1 hcell
      have hrow : ((List.range len).map fun r => (Z r).take (L r))[i]?.getD [] = (Z i).take (L i) := by simp [hi]
      rw [hrow]
      have hlen : ((Z i).take (L i)).length = L i := by rw [List.length_take, h3]; omega
      refine ⟨b, o, _, rfl, hb, hcl, A i, C i, by rw [hlen], by rw [hlen]; exact h1, h2, fun k hk => ?_⟩
      rw [hlen] at hk
      cases hA : A i with
      | none => have := h5 hA; omega
      | some a' =>
        obtain ⟨b', o', rfl, hb', hcl'⟩ := cell_plain ((h6 a' hA).2 0 (by omega)) ((h6 a' hA).2 k (by omega))
        exact ⟨b', o', rfl, hb', by rw [hcl', take_get hk]⟩
    · obtain ⟨i, hi, rfl⟩ := List.mem_map.1 hlm
      obtain ⟨_, _, _, _, h4, _⟩ := hrows i (by have := List.mem_range.1 hi; omega)
      exact fun y hy => i64_bounds (h4 y (List.mem_of_mem_take hy))
end
end Go.Proofs.YtalahdkhglagpaaGreatDoor
