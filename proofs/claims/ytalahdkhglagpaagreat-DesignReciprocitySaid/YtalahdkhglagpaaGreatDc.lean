import Derived.Test.YtalahdkhglagpaaGreatDb
set_option linter.unusedVariables false
set_option linter.unusedSimpArgs false
namespace Go.Proofs.YtalahdkhglagpaaGreat
open Go Go.RowKit Go.Deep
open Dsg
set_option maxRecDepth 20000 in
set_option maxHeartbeats 1000000 in
theorem isPointCount_any (v : Int) (w : World) :
    Calls Tryz.prog 21 #[.int .i64 v] w (fun e w' => w = w' ∧ e = .returned (.bool (decide (3 ≤ v ∧ v ≤ 200)))) := by
  by_cases h3 : 3 ≤ v
  · have e1 : decide (v ≥ 3) = true := decide_eq_true h3
    have e2 : decide (3 ≤ v ∧ v ≤ 200) = decide (v ≤ 200) := by simp [h3]
    rw [e2]
    go_enter Tryz.func21, Tryz.ntmps21
    go_wp2
    go_ret
    exact ⟨rfl, rfl⟩
  · have e1 : decide (v ≥ 3) = false := decide_eq_false h3
    have e2 : decide (3 ≤ v ∧ v ≤ 200) = false := by simp [h3]
    rw [e2]
    go_enter Tryz.func21, Tryz.ntmps21
    go_wp2
    go_ret
    exact ⟨rfl, rfl⟩
theorem info_bool : (Tryz.prog.info? 4).map (fun i => (i.zero, i.size, i.bytes)) = some (some (.bool false), 1, 1) := by kernel_rfl
/-- Block g is a row of v truth values. -/
def Brow (w : World) (g v : Nat) (f : Nat → Bool) : Prop := w.heap[g]? = some (.cells ((List.range v).map fun r => Value.bool (f r)).toArray 4 (0, 0))
section
variable {w w' : World} {g v : Nat} {f : Nat → Bool}
theorem Brow.lt (h : Brow w g v f) : g < w.heap.size := (Array.getElem?_eq_some_iff.1 h).1
theorem Brow.cell (h : Brow w g v f) {r : Nat} (hr : r < v) : w.cell? ⟨g, r, none⟩ = some (.bool (f r)) := by
  rw [cell_of_row w g r _ _ (0, 0) h]; simp [hr]
theorem Brow.free (h : Brow w g v f) (r : Nat) : w.frozen? ⟨g, r, none⟩ = false := frozen_of_row w g r _ _ h
theorem Brow.set (h : Brow w g v f) {r : Nat} (hr : r < v) : Brow (w.setCell ⟨g, r, none⟩ (.bool true)) g v (fun j => f j || decide (j = r)) := by
  have := heap_setCell_same w g r _ _ (.bool true) h
  unfold Brow
  rw [this]
  congr 1
  apply congrArg (fun a => Obj.cells a 4 (0, 0))
  apply Array.toList_inj.1
  rw [Array.toList_setIfInBounds]
  apply List.ext_getElem
  · simp
  · intro i h1 h2
    rw [List.getElem_set]
    by_cases e : r = i
    · subst e; simp
    · rw [if_neg e]
      simp [show ¬ i = r from fun x => e x.symm]
theorem Brow.keep (h : Brow w g v f) (he : w'.heap[g]? = w.heap[g]?) : Brow w' g v f := he.trans h
theorem Brow.congr {f' : Nat → Bool} (h : Brow w g v f) (he : ∀ r, r < v → f r = f' r) : Brow w g v f' := by
  unfold Brow at h ⊢
  rw [h]
  congr 1
  apply congrArg (fun a => Obj.cells a 4 (0, 0))
  congr 1
  apply List.map_congr_left
  intro r hr
  rw [he r (List.mem_range.1 hr)]
theorem Brow.new (w : World) (v : Nat) : Brow (w.alloc (.cells (madeCells #[.bool false] v) 4)) w.heap.size v fun _ => false := by
  unfold Brow
  rw [heap_alloc_new]
  congr 1
  apply congrArg (fun a => Obj.cells a 4 (0, 0))
  apply Array.toList_inj.1
  rw [toList_madeCells_one]
  apply List.ext_getElem <;> simp
end
set_option maxRecDepth 20000 in
set_option maxHeartbeats 4000000 in
theorem areDifferent_any (v : Nat) (vv : Value) (xs : List Int) (w : World) (h : Sl .i64 w vv xs) (hv : v ≤ 10000) :
    Calls Tryz.prog 20 #[.int .i64 v, vv] w (RB w (.bool (difB v xs))) := by
  obtain ⟨ao, cap, rfl, hcap, hmax, hc⟩ := h
  obtain ⟨n, hN⟩ : ∃ n, xs.length = n := ⟨_, rfl⟩
  have HC := Kept.mk hc
  rw [hN] at hcap ⊢
  have HN := Kept.mk hN
  unfold maxLen at hmax
  have hmk := run_make_row' (P := Tryz.prog) 66 4 (.bool false) 1 Tryz.underlying66 info_bool rfl .i64 .i64 v (by omega) (by omega)
  have hal : Below w.heap.size w (w.alloc (.cells (madeCells #[.bool false] v) 4)) := (Below.refl _ _).alloc (Nat.le_refl _) _
  have HB0 : Kept (Brow (w.alloc (.cells (madeCells #[.bool false] v) 4)) w.heap.size v fun r => decide ((r : Int) ∈ xs.take 0)) := ⟨(Brow.new w v).congr fun r _ => by simp⟩
  have HA0 := Kept.mk hal
  clear hc hN hal
  go_enter Tryz.func20, Tryz.ntmps20
  go_wp2
  go_loopw [12] (fun iv wr => ∃ (i : Nat), i ≤ n ∧ iv = .int .i64 i ∧ Kept (difB v (xs.take i) = true) ∧ Kept (Brow wr w.heap.size v fun r => decide ((r : Int) ∈ xs.take i)) ∧ Kept (Below w.heap.size w wr)) (fun iv _ => n - (intOf iv).toNat)
  case atStart => exact ⟨0, Nat.zero_le _, rfl, ⟨by simp [difB]⟩, HB0, HA0⟩
  case round =>
    obtain ⟨i, hin, rfl, hat, hbr, hbl⟩ := hrel
    by_cases hlt : i < n
    · obtain ⟨g, o, rfl, hg, hcell⟩ := HC.out i (by rw [HN.out]; exact hlt)
      obtain ⟨a, ha⟩ : ∃ a, xs[i]?.getD 0 = a := ⟨_, rfl⟩
      rw [ha] at hcell
      have ic := (hbl.out.cell (p := ⟨g, o + i, none⟩) hg).trans hcell
      have HM : Kept (a ∈ xs) := ⟨by rw [← ha]; exact get_mem' (by rw [HN.out]; exact hlt)⟩
      have HTN : Kept (a ∈ xs.take i → difB v xs = false) := ⟨fun hm => by
        rw [Bool.eq_false_iff]
        intro hd
        obtain ⟨_, hn⟩ := difB_iff.1 hd
        have h1 := List.Nodup.sublist (List.take_sublist (i + 1) xs) hn
        rw [take_nodup (by rw [HN.out]; exact hlt), ha] at h1
        exact h1.2 hm⟩
      have HT : Kept (0 ≤ a → a < v → a ∉ xs.take i → difB v (xs.take (i + 1)) = true) := ⟨fun h0 h1 hm => by
        obtain ⟨h2, h3⟩ := difB_iff.1 hat.out
        refine difB_iff.2 ⟨fun x hx => ?_, (take_nodup (by rw [HN.out]; exact hlt)).2 ⟨h3, by rw [ha]; exact hm⟩⟩
        rw [List.take_add_one, List.getElem?_eq_getElem (by rw [HN.out]; exact hlt)] at hx
        rcases List.mem_append.1 hx with h4 | h4
        · exact h2 x h4
        · simp at h4
          rw [List.getElem?_eq_getElem (by rw [HN.out]; exact hlt)] at ha
          simp at ha
          rw [h4, ha]
          exact ⟨h0, h1⟩⟩
      have HTM : Kept (∀ r : Nat, decide ((r : Int) ∈ xs.take (i + 1)) = (decide ((r : Int) ∈ xs.take i) || decide ((r : Int) = a))) := ⟨fun r => by
        rw [← Bool.decide_or]
        apply decide_eq_decide.2
        rw [List.take_add_one, List.getElem?_eq_getElem (by rw [HN.out]; exact hlt)]
        rw [List.getElem?_eq_getElem (by rw [HN.out]; exact hlt)] at ha
        simp at ha
        simp [ha]⟩
      clear ha hcell
      by_cases h0 : a < 0
      · have HE : Kept (difB v xs = false) := ⟨by
          rw [Bool.eq_false_iff]
          intro hd
          have := ((difB_iff.1 hd).1 a HM.out).1
          omega⟩
        have e0 : decide (a < 0) = true := decide_eq_true h0
        go_wp2
        go_ret
        exact ⟨hbl.out, by rw [HE.out]; rfl⟩
      · have e0 : decide (a < 0) = false := decide_eq_false h0
        by_cases h1 : a < v
        · have e1 : decide (a ≥ (v : Int)) = false := decide_eq_false (by omega)
          obtain ⟨r, rfl⟩ : ∃ r : Nat, a = r := ⟨a.toNat, by omega⟩
          have hrv : r < v := by omega
          have q0 := hbr.out.cell hrv
          have q1 := hbr.out.free r
          by_cases hm : (r : Int) ∈ xs.take i
          · have HE := Kept.mk (HTN.out hm)
            rw [decide_eq_true hm] at q0
            clear hm
            go_wp2
            go_ret
            exact ⟨hbl.out, by rw [HE.out]; rfl⟩
          · have HT1 := Kept.mk (HT.out (by omega) h1 hm)
            rw [decide_eq_false hm] at q0
            have HBR : Kept (Brow (wr.setCell ⟨w.heap.size, r, none⟩ (.bool true)) w.heap.size v fun j => decide ((j : Int) ∈ xs.take (i + 1))) := ⟨(hbr.out.set hrv).congr fun j _ => by
              rw [HTM.out j]
              congr 1
              apply decide_eq_decide.2
              omega⟩
            have HBL : Kept (Below w.heap.size w (wr.setCell ⟨w.heap.size, r, none⟩ (.bool true))) := ⟨hbl.out.setCell (p := ⟨w.heap.size, r, none⟩) (Nat.le_refl _) _⟩
            clear hm
            go_wp2
            go_roundw
            case rel => exact ⟨i + 1, by omega, by go_num, HT1, HBR, HBL⟩
            case measure => simp [intOf] <;> omega
        · have e1 : decide (a ≥ (v : Int)) = true := decide_eq_true (by omega)
          have HE : Kept (difB v xs = false) := ⟨by
            rw [Bool.eq_false_iff]
            intro hd
            have := ((difB_iff.1 hd).1 a HM.out).2
            omega⟩
          go_wp2
          go_ret
          exact ⟨hbl.out, by rw [HE.out]; rfl⟩
    · obtain rfl : i = n := by omega
      have HE : Kept (difB v xs = true) := ⟨by have := hat.out; rw [← HN.out, List.take_length] at this; exact this⟩
      go_wp2
      go_ret
      exact ⟨hbl.out, by rw [HE.out]; rfl⟩
end Go.Proofs.YtalahdkhglagpaaGreat
