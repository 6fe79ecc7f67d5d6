/-
  Texts of the proof, merged by program: Mh Mj Mk Mm.
-/
import Derived.Test.YtfhhnfpapgfnmaaGreatV14
set_option linter.unusedVariables false
set_option linter.unusedSimpArgs false
namespace Go.Proofs.YtfhhnfpapgfnmaaGreat
open Go Go.RowKit Go.Deep
open FFld (ints)
/-- Only blocks from B up to hi have turned. -/
structure Chg (B hi : Nat) (w w' : World) : Prop where
  os : w'.os = w.os
  tape : w'.tape = w.tape
  output : w'.output = w.output
  size : w.heap.size ≤ w'.heap.size
  block : ∀ k, k < w.heap.size → (k < B ∨ hi ≤ k) → w'.heap[k]? = w.heap[k]?
theorem Chg.trans {B hi : Nat} {a b c : World} (h : Chg B hi a b) (k : Chg B hi b c) : Chg B hi a c :=
  ⟨k.os.trans h.os, k.tape.trans h.tape, k.output.trans h.output, Nat.le_trans h.size k.size, fun i hi' hk => (k.block i (Nat.lt_of_lt_of_le hi' h.size) hk).trans (h.block i hi' hk)⟩
theorem Chg.ofGrown {B hi : Nat} {w w' : World} {row : Option Nat} (h : w.grownBy w' row) (hr : ∀ g, row = some g → B ≤ g ∧ g < hi) : Chg B hi w w' :=
  ⟨h.os, h.tape, h.output, h.size, fun k hk hc => h.block k hk (fun e => by have := hr k e.symm; omega)⟩
theorem Chg.ofBelow {B hi : Nat} {w w' : World} (h : Below w.heap.size w w') : Chg B hi w w' := ⟨h.os, h.tape, h.output, h.size, fun k hk _ => h.block k hk⟩
theorem Chg.below {hi : Nat} {w0 w w' : World} (h : Chg w0.heap.size hi w w') (hb : Below w0.heap.size w0 w) : Below w0.heap.size w0 w' :=
  ⟨h.os.trans hb.os, h.tape.trans hb.tape, h.output.trans hb.output, Nat.le_trans hb.size h.size, fun k hk => (h.block k (Nat.lt_of_lt_of_le hk hb.size) (.inl hk)).trans (hb.block k hk)⟩
theorem Chg.cell {B hi : Nat} {w w' : World} (h : Chg B hi w w') {b o : Nat} {v : Value} (hc : w.cell? ⟨b, o, none⟩ = some v) (hb : b < B ∨ hi ≤ b) : w'.cell? ⟨b, o, none⟩ = some v :=
  (World.cell?_of_block (a := ⟨b, o, none⟩) (h.block b (World.block_lt_of_cell? w _ hc) hb)).trans hc
/-- The pair of a matrix and its record. -/
abbrev prv (b G1 G2 n : Nat) : Value := .agg #[.pointer (some ⟨b, 0, none⟩), .slice (some ⟨G1, 0, none⟩) n n, .pointer (some ⟨b, 0, none⟩), .slice (some ⟨G2, 0, none⟩) n n]
abbrev prbox (b G1 G2 n : Nat) : Obj := .cells #[.pointer (some ⟨b, 0, none⟩), .slice (some ⟨G1, 0, none⟩) n n, .pointer (some ⟨b, 0, none⟩), .slice (some ⟨G2, 0, none⟩) n n] 130
theorem four_cells_ {w : World} {g : Nat} {a b c d : Value} {T : TypeId} (h : w.heap[g]? = some (.cells #[a, b, c, d] T (0, 0))) :
    w.cell? ⟨g, 0, none⟩ = some a ∧ w.cell? ⟨g, 1, none⟩ = some b ∧ w.cell? ⟨g, 2, none⟩ = some c ∧ w.cell? ⟨g, 3, none⟩ = some d :=
  ⟨by rw [cell_of_row w g 0 _ T (0, 0) h]; rfl, by rw [cell_of_row w g 1 _ T (0, 0) h]; rfl, by rw [cell_of_row w g 2 _ T (0, 0) h]; rfl, by rw [cell_of_row w g 3 _ T (0, 0) h]; rfl⟩
theorem Pr.low1 {B hi : Nat} {w : World} {G1 G2 : Nat} {L1 L2 : List RH} (h : Pr B hi w G1 G2 L1 L2) : ∀ r ∈ L1, r.blk ≠ some G1 := fun r hr e => by have := h.r1 r hr _ e; omega
theorem Pr.low2 {B hi : Nat} {w : World} {G1 G2 : Nat} {L1 L2 : List RH} (h : Pr B hi w G1 G2 L1 L2) : ∀ r ∈ L2, r.blk ≠ some G2 := fun r hr e => by have := h.r2 r hr _ e; omega
set_option maxRecDepth 20000 in
set_option maxHeartbeats 2000000 in
theorem pexch_any (B hi b G1 G2 n : Nat) (L1 L2 : List RH) (i j : Nat) (w : World) (hp : Pr B hi w G1 G2 L1 L2) (h1 : L1.length = n) (h2 : L2.length = n) (hil : i < n) (hjl : j < n) :
    Calls Tryz.prog 100 #[prv b G1 G2 n, .int .i64 i, .int .i64 j] w (fun e w' => e = .returned (.tuple #[]) ∧ Chg B hi w w' ∧ Pr B hi w' G1 G2 (FFld.exch RH.nil L1 i j) (FFld.exch RH.nil L2 i j)) := by
  have hb0 : Below w.heap.size w (w.alloc (prbox b G1 G2 n)) := (Below.refl _ _).alloc (Nat.le_refl _) _
  have hp0 := hp.below hb0
  obtain ⟨c0, c1, c2, c3⟩ := four_cells_ (heap_alloc_new w (prbox b G1 G2 n))
  have hG2 := hp.m2.lt
  have hb12 := hp.b2
  have hb1 := hp.b1
  have hb3 := hp.b3
  obtain ⟨W0, hW0⟩ : ∃ W, w.alloc (prbox b G1 G2 n) = W := ⟨_, rfl⟩
  rw [hW0] at c0 c1 c2 c3 hb0 hp0
  have HX1 := Kept.mk (mexch_any b G1 n L1 i j W0 hp0.m1 h1 hil hjl hp0.low1)
  have HX2 := Kept.mk (fun W (hW : Mx W G2 L2) => mexch_any b G2 n L2 i j W hW h2 hil hjl hp0.low2)
  have HP := Kept.mk hp0
  have HB := Kept.mk hb0
  clear hp hp0 hb0
  go_enter Tryz.func100, Tryz.ntmps100
  go_wp2_with fail
  try rw [hW0]
  clear hW0
  refine HX1.out.mono ?_
  rintro e w1 ⟨rfl, hg1, hm1⟩
  have HP1 := Kept.mk (HP.out.exch1 (by omega) (by omega) hg1 hm1)
  have HG1 := Kept.mk hg1
  have d0 := hg1.cell c2 (by simp; omega)
  have d1 := hg1.cell c3 (by simp; omega)
  clear hg1 hm1 c0 c1 c2 c3
  go_wp2_with fail
  refine (HX2.out _ HP1.out.m2).mono ?_
  rintro e w2 ⟨rfl, hg2, hm2⟩
  have HP2 := Kept.mk (HP1.out.exch2 (by omega) (by omega) hg2 hm2)
  have HG2 := Kept.mk hg2
  clear hg2 hm2 d0 d1
  go_wp2
  go_end0
  exact ⟨rfl, ((Chg.ofBelow HB.out).trans (Chg.ofGrown HG1.out (fun g e => by cases e; omega))).trans (Chg.ofGrown HG2.out (fun g e => by cases e; omega)), HP2.out⟩
set_option maxRecDepth 20000 in
set_option maxHeartbeats 2000000 in
theorem pmult_any {D : FFld.FD} (hi b G1 G2 n : Nat) (L1 L2 : List RH) (i : Nat) (w0 w : World) (hf : FldB D w0 b) (hb : Below w0.heap.size w0 w) (hp : Pr w0.heap.size hi w G1 G2 L1 L2) (h1 : L1.length = n) (h2 : L2.length = n) (hil : i < n) (r1 r2 : RH) (e1 : rowH L1 i = r1) (e2 : rowH L2 i = r2)
    (q1 : ∀ a ∈ r1.xs, a < D.p ^ D.k) (q2 : ∀ a ∈ r2.xs, a < D.p ^ D.k) (l1 : r1.xs.length ≤ 1000000) (l2 : r2.xs.length ≤ 1000000) (c : Nat) (hc : c < D.p ^ D.k) :
    Calls Tryz.prog 101 #[prv b G1 G2 n, .int .i64 i, .int .i64 c] w (fun e w' => e = .returned (.tuple #[]) ∧ Chg w0.heap.size hi w w' ∧ Pr w0.heap.size hi w' G1 G2 (L1.set i (r1.put (FFld.rowMul D r1.xs c))) (L2.set i (r2.put (FFld.rowMul D r2.xs c)))) := by
  have hb0 : Below w.heap.size w (w.alloc (prbox b G1 G2 n)) := (Below.refl _ _).alloc (Nat.le_refl _) _
  have hp0 := hp.below hb0
  obtain ⟨c0, c1, c2, c3⟩ := four_cells_ (heap_alloc_new w (prbox b G1 G2 n))
  have hG2 := hp.m2.lt
  have hb12 := hp.b2
  have hb1 := hp.b1
  have hb3 := hp.b3
  have hr1 := hp.r1 _ (rowH_mem (i := i) (by omega))
  have hr2 := hp.r2 _ (rowH_mem (i := i) (by omega))
  have hw1 : ∀ g, r1.blk = some g → g < w.heap.size := fun g e => (hp.m1.ok _ (rowH_mem (i := i) (by omega))).lt (by rw [e1]; exact e)
  rw [e1] at hr1
  rw [e2] at hr2
  have hbw := bstep hb (by exact hb0)
  obtain ⟨W0, hW0⟩ : ∃ W, w.alloc (prbox b G1 G2 n) = W := ⟨_, rfl⟩
  rw [hW0] at c0 c1 c2 c3 hb0 hp0 hbw
  have HX1 := Kept.mk (mmul_any w0 W0 hf hbw L1 hp0.m1 h1 hil r1 e1 hb1 (fun g e => by have := hr1 g e; omega) q1 l1 c hc)
  have HX2 := Kept.mk (fun W (hbW : Below w0.heap.size w0 W) (hW : Mx W G2 L2) => mmul_any w0 W hf hbW L2 hW h2 hil r2 e2 (by omega) (fun g e => by have := hr2 g e; omega) q2 l2 c hc)
  have HP := Kept.mk hp0
  have HB := Kept.mk hb0
  have HBW := Kept.mk hbw
  have HR1 := Kept.mk hr1
  have HR2 := Kept.mk hr2
  have HW1 := Kept.mk hw1
  have hnb : some w.heap.size ≠ r1.blk := fun e => by have := hw1 _ e.symm; omega
  clear hp hp0 hb0 hf hb hbw q1 q2 hr1 hr2 hw1
  go_enter Tryz.func101, Tryz.ntmps101
  go_wp2_with fail
  try rw [hW0]
  clear hW0
  refine HX1.out.mono ?_
  rintro e w1 ⟨rfl, hg1, ho1⟩
  have HG1 := Kept.mk hg1
  have HP1 : Kept (Pr w0.heap.size hi w1 G1 G2 (L1.set i (r1.put (FFld.rowMul D r1.xs c))) L2) := ⟨by
    have := HP.out.set1 (i := i) (by omega) (FFld.rowMul D r1.xs c) (by rw [FFld.rowMul_len, e1]) (by rw [e1]; exact hg1) (by rw [e1]; exact ho1)
    rw [e1] at this
    exact this⟩
  have HC1 := Kept.mk (Chg.ofGrown (B := w0.heap.size) (hi := hi) hg1 (fun g e => by have := HR1.out g e; omega))
  have d0 := hg1.cell c2 hnb
  have d1 := hg1.cell c3 hnb
  clear hg1 ho1 c0 c1 c2 c3
  go_wp2_with fail
  refine (HX2.out _ (HC1.out.below HBW.out) HP1.out.m2).mono ?_
  rintro e w2 ⟨rfl, hg2, ho2⟩
  have HP2 : Kept (Pr w0.heap.size hi w2 G1 G2 (L1.set i (r1.put (FFld.rowMul D r1.xs c))) (L2.set i (r2.put (FFld.rowMul D r2.xs c)))) := ⟨by
    have := HP1.out.set2 (i := i) (by omega) (FFld.rowMul D r2.xs c) (by rw [FFld.rowMul_len, e2]) (by rw [e2]; exact hg2) (by rw [e2]; exact ho2)
    rw [e2] at this
    exact this⟩
  have HC2 := Kept.mk (Chg.ofGrown (B := w0.heap.size) (hi := hi) hg2 (fun g e => by have := HR2.out g e; omega))
  clear hg2 ho2 d0 d1
  go_wp2
  go_end0
  exact ⟨rfl, ((Chg.ofBelow HB.out).trans HC1.out).trans HC2.out, HP2.out⟩
set_option maxRecDepth 20000 in
set_option maxHeartbeats 2000000 in
theorem psub_any {D : FFld.FD} (hi b G1 G2 n : Nat) (L1 L2 : List RH) (i j : Nat) (w0 w : World) (hf : FldB D w0 b) (hb : Below w0.heap.size w0 w) (hp : Pr w0.heap.size hi w G1 G2 L1 L2) (h1 : L1.length = n) (h2 : L2.length = n) (hil : i < n) (hjl : j < n) (hij : i ≠ j) (r1 r2 s1 s2 : RH) (e1 : rowH L1 i = r1) (e2 : rowH L2 i = r2) (f1 : rowH L1 j = s1) (f2 : rowH L2 j = s2)
    (q1 : ∀ a ∈ r1.xs, a < D.p ^ D.k) (q2 : ∀ a ∈ r2.xs, a < D.p ^ D.k) (p1 : ∀ a ∈ s1.xs, a < D.p ^ D.k) (p2 : ∀ a ∈ s2.xs, a < D.p ^ D.k) (l1 : s1.xs.length ≤ r1.xs.length) (l2 : s2.xs.length ≤ r2.xs.length) (m1 : s1.xs.length ≤ 1000000) (m2 : s2.xs.length ≤ 1000000) (t : Nat) (ht : t < D.p ^ D.k) :
    Calls Tryz.prog 103 #[prv b G1 G2 n, .int .i64 i, .int .i64 j, .int .i64 t] w (fun e w' => e = .returned (.tuple #[]) ∧ Chg w0.heap.size hi w w' ∧ Pr w0.heap.size hi w' G1 G2 (L1.set i (r1.put (FFld.addm D r1.xs 0 s1.xs (FFld.negF D t)))) (L2.set i (r2.put (FFld.addm D r2.xs 0 s2.xs (FFld.negF D t))))) := by
  have hb0 : Below w.heap.size w (w.alloc (prbox b G1 G2 n)) := (Below.refl _ _).alloc (Nat.le_refl _) _
  have hp0 := hp.below hb0
  obtain ⟨c0, c1, c2, c3⟩ := four_cells_ (heap_alloc_new w (prbox b G1 G2 n))
  have hG2 := hp.m2.lt
  have hb12 := hp.b2
  have hb1 := hp.b1
  have hb3 := hp.b3
  have hr1 := hp.r1 _ (rowH_mem (i := i) (by omega))
  have hr2 := hp.r2 _ (rowH_mem (i := i) (by omega))
  have hw1 : ∀ g, r1.blk = some g → g < w.heap.size := fun g e => (hp.m1.ok _ (rowH_mem (i := i) (by omega))).lt (by rw [e1]; exact e)
  rw [e1] at hr1
  rw [e2] at hr2
  have hbw := bstep hb (by exact hb0)
  obtain ⟨W0, hW0⟩ : ∃ W, w.alloc (prbox b G1 G2 n) = W := ⟨_, rfl⟩
  rw [hW0] at c0 c1 c2 c3 hb0 hp0 hbw
  have HX1 := Kept.mk (msub_any w0 W0 hf hbw L1 hp0.m1 h1 hil hjl hij hp0.d1 r1 s1 e1 f1 (fun g e => by have := hr1 g e; omega) l1 q1 p1 m1 t ht)
  have HX2 := Kept.mk (fun W (hbW : Below w0.heap.size w0 W) (hW : Mx W G2 L2) => msub_any w0 W hf hbW L2 hW h2 hil hjl hij hp0.d2 r2 s2 e2 f2 (fun g e => by have := hr2 g e; omega) l2 q2 p2 m2 t ht)
  have HP := Kept.mk hp0
  have HB := Kept.mk hb0
  have HBW := Kept.mk hbw
  have HR1 := Kept.mk hr1
  have HR2 := Kept.mk hr2
  have HW1 := Kept.mk hw1
  have hnb : some w.heap.size ≠ r1.blk := fun e => by have := hw1 _ e.symm; omega
  clear hp hp0 hb0 hf hb hbw q1 q2 p1 p2 hr1 hr2 hw1
  go_enter Tryz.func103, Tryz.ntmps103
  go_wp2_with fail
  try rw [hW0]
  clear hW0
  refine HX1.out.mono ?_
  rintro e w1 ⟨rfl, hg1, ho1⟩
  have HG1 := Kept.mk hg1
  have HP1 : Kept (Pr w0.heap.size hi w1 G1 G2 (L1.set i (r1.put (FFld.addm D r1.xs 0 s1.xs (FFld.negF D t)))) L2) := ⟨by
    have := HP.out.set1 (i := i) (by omega) (FFld.addm D r1.xs 0 s1.xs (FFld.negF D t)) (by rw [FFld.addm_len, e1]) (by rw [e1]; exact hg1) (by rw [e1]; exact ho1)
    rw [e1] at this
    exact this⟩
  have HC1 := Kept.mk (Chg.ofGrown (B := w0.heap.size) (hi := hi) hg1 (fun g e => by have := HR1.out g e; omega))
  have d0 := hg1.cell c2 hnb
  have d1 := hg1.cell c3 hnb
  clear hg1 ho1 c0 c1 c2 c3
  go_wp2_with fail
  refine (HX2.out _ (HC1.out.below HBW.out) HP1.out.m2).mono ?_
  rintro e w2 ⟨rfl, hg2, ho2⟩
  have HP2 : Kept (Pr w0.heap.size hi w2 G1 G2 (L1.set i (r1.put (FFld.addm D r1.xs 0 s1.xs (FFld.negF D t)))) (L2.set i (r2.put (FFld.addm D r2.xs 0 s2.xs (FFld.negF D t))))) := ⟨by
    have := HP1.out.set2 (i := i) (by omega) (FFld.addm D r2.xs 0 s2.xs (FFld.negF D t)) (by rw [FFld.addm_len, e2]) (by rw [e2]; exact hg2) (by rw [e2]; exact ho2)
    rw [e2] at this
    exact this⟩
  have HC2 := Kept.mk (Chg.ofGrown (B := w0.heap.size) (hi := hi) hg2 (fun g e => by have := HR2.out g e; omega))
  clear hg2 ho2 d0 d1
  go_wp2
  go_end0
  exact ⟨rfl, ((Chg.ofBelow HB.out).trans HC1.out).trans HC2.out, HP2.out⟩
end Go.Proofs.YtfhhnfpapgfnmaaGreat

set_option linter.unusedVariables false
set_option linter.unusedSimpArgs false
namespace Go.Proofs.YtfhhnfpapgfnmaaGreat
open Go Go.RowKit Go.Deep
open FFld (ints)
/-- The number of columns. -/
def wid (A : List (List Nat)) : Nat := (FFld.rowAt A 0).length
set_option maxRecDepth 20000 in
set_option maxHeartbeats 2000000 in
theorem width_any (b G n : Nat) (L : List RH) (w : World) (hm : Mx w G L) (hL : L.length = n) :
    Calls Tryz.prog 84 #[mxv b G n] w (RB w (.int .i64 (wid (L.map RH.xs) : Nat))) := by
  have hb0 : Below w.heap.size w (w.alloc (mxbox b G n)) := (Below.refl _ _).alloc (Nat.le_refl _) _
  have hm0 := hm.below hb0
  obtain ⟨c0, c1, _⟩ := two_cells (heap_alloc_new w (mxbox b G n))
  have HB := Kept.mk hb0
  by_cases h0 : n = 0
  · have e0 : ((n : Int) == 0) = true := by rw [h0]; rfl
    have HW : Kept (wid (L.map RH.xs) = 0) := ⟨by unfold wid FFld.rowAt; rw [List.getElem?_eq_none (by rw [List.length_map]; omega)]; rfl⟩
    rw [HW.out]
    clear hm hm0 hb0 h0
    go_enter Tryz.func84, Tryz.ntmps84
    go_wp2
    go_ret
    exact ⟨HB.out, rfl⟩
  · have e0 : ((n : Int) == 0) = false := by rw [beq_eq_false_iff_ne]; omega
    have ci := hm0.cell (i := 0) (by omega)
    obtain ⟨c, hv, hc, hcm⟩ := (hm0.ok _ (rowH_mem (i := 0) (by omega))).form
    have HW : Kept (wid (L.map RH.xs) = (rowH L 0).xs.length) := ⟨by unfold wid; rw [← rowH_xs]⟩
    rw [HW.out]
    obtain ⟨len, hlen⟩ : ∃ len, (rowH L 0).xs.length = len := ⟨_, rfl⟩
    rw [hv, hlen] at ci
    rw [hlen]
    have hn : 0 < n := by omega
    clear hm hm0 hb0 h0 hlen hv
    go_enter Tryz.func84, Tryz.ntmps84
    go_wp2
    go_ret
    exact ⟨HB.out, rfl⟩
/-- A row of n numbers with a 1 at the place i. -/
def unitR (n i : Nat) : List Nat := (List.replicate n 0).set i 1
def idM (n : Nat) : List (List Nat) := (List.range n).map (unitR n)
/-- The record, as far as it is laid. -/
structure ReAt (w : World) (b g5 G1 G2 n i : Nat) (L1 L2 : List RH) (W : World) : Prop where
  bel : Below w.heap.size w W
  b4 : W.heap[w.heap.size]? = some (.cells #[.pointer none, .slice none 0 0, .pointer none, .slice none 0 0] 130 (0, 0))
  b5 : W.heap[g5]? = some (prbox b G1 G2 n)
  o1 : w.heap.size < G1
  o2 : G1 < G2
  o3 : G2 < g5
  d1 : dis L1
  d2 : dis L2
  r1 : ∀ r ∈ L1, ∀ g, r.blk = some g → G1 < g ∧ g < G2
  r2 : ∀ r ∈ L2, ∀ g, r.blk = some g → g5 < g
  m1 : Mx W G1 L1
  m2 : Mx W G2 L2
  len : L2.length = n
  val : ∀ j, (rowH L2 j).xs = if j < i then unitR n j else []
theorem ReAt.pr {w : World} {b g5 G1 G2 n i : Nat} {L1 L2 : List RH} {W : World} (h : ReAt w b g5 G1 G2 n i L1 L2 W) : Pr w.heap.size W.heap.size W G1 G2 L1 L2 :=
  ⟨Nat.le_of_lt h.o1, h.o2, h.m2.lt, h.r1, fun r hr g e => ⟨by have := h.r2 r hr g e; have := h.o3; omega, (h.m2.ok r hr).lt e⟩, h.d1, h.d2, h.m1, h.m2⟩
theorem ReAt.done {w : World} {b g5 G1 G2 n : Nat} {L1 L2 : List RH} {W : World} (h : ReAt w b g5 G1 G2 n n L1 L2 W) : L2.map RH.xs = idM n := by
  apply List.ext_getElem
  · rw [List.length_map, h.len]; simp [idM]
  · intro j h1 h2
    have := h.val j
    rw [List.length_map, h.len] at h1
    unfold rowH at this
    rw [if_pos h1, List.getElem?_eq_getElem (by rw [h.len]; exact h1)] at this
    rw [List.getElem_map]
    simp only [idM, List.getElem_map, List.getElem_range]
    exact this
theorem made_zeros (n : Nat) : madeCells #[.int .i64 0] n = ((ints (List.replicate n 0)).map (Value.int .i64)).toArray := made_row .i64 n
/-- One more row. -/
theorem ReAt.next {w : World} {b g5 G1 G2 n i : Nat} {L1 L2 : List RH} {W W5 : World} (h : ReAt w b g5 G1 G2 n i L1 L2 W) (hi : i < n) (hn : n ≤ 1000)
    (h5 : Below ((W.alloc (.cells (madeCells #[.int .i64 0] n) 3)).setCell ⟨G2, i, none⟩ (.slice (some ⟨W.heap.size, 0, none⟩) n n)).heap.size ((W.alloc (.cells (madeCells #[.int .i64 0] n) 3)).setCell ⟨G2, i, none⟩ (.slice (some ⟨W.heap.size, 0, none⟩) n n)) W5) :
    W5.cell? ⟨G2, i, none⟩ = some (.slice (some ⟨W.heap.size, 0, none⟩) n n) ∧ W5.cell? ⟨g5, 3, none⟩ = some (.slice (some ⟨G2, 0, none⟩) n n) ∧ Wv W5 W.heap.size (List.replicate n 0) ∧ ReAt w b g5 G1 G2 n (i + 1) L1 (L2.set i ⟨some W.heap.size, n, unitR n i⟩) (W5.setCell ⟨W.heap.size, i, none⟩ (.int .i64 1)) := by
  have hb : Below W.heap.size W (W.alloc (.cells (madeCells #[.int .i64 0] n) 3)) := (Below.refl _ _).alloc (Nat.le_refl _) _
  have hrow : Row 3 .i64 (W.alloc (.cells (madeCells #[.int .i64 0] n) 3)) W.heap.size (ints (List.replicate n 0)) := by
    unfold Row
    rw [← made_zeros]
    exact heap_alloc_new W _
  have o3 := h.o3
  have o2 := h.o2
  have o1 := h.o1
  have hG2 := h.m2.lt
  have hg5 : g5 < W.heap.size := (Array.getElem?_eq_some_iff.1 h.b5).1
  have hall : ∀ s ∈ L2, s.blk ≠ some G2 := fun s hs e => by have := h.r2 s hs _ e; omega
  have hlt2 : ∀ s ∈ L2, ∀ g, s.blk = some g → g < W.heap.size := fun s hs g e => (h.m2.ok s hs).lt e
  let r : RH := ⟨some W.heap.size, n, List.replicate n 0⟩
  have hrv : r.val = .slice (some ⟨W.heap.size, 0, none⟩) n n := by simp [r, RH.val]
  have hro : r.ok (W.alloc (.cells (madeCells #[.int .i64 0] n) 3)) := ⟨hrow.wv, by simp [r], by show n ≤ maxLen; unfold maxLen; omega⟩
  have hs := (h.m2.below hb).store (i := i) (by rw [h.len]; exact hi) hro (fun e => by cases e; omega) hall
  rw [hrv] at hs
  replace hs := hs.below h5
  have hd : dis (L2.set i r) := h.d2.store i (fun s hs g e e2 => by have := hlt2 s hs g e; cases e2; omega)
  have hri : rowH (L2.set i r) i = r := by unfold rowH; rw [List.getElem?_set_self (by rw [h.len]; exact hi)]; rfl
  have hgr5 : W.grownBy W5 (some G2) := growTrans (growSet (growBelow hb) _ _) (growBelow h5)
  have hro5 : r.ok W5 := by
    have := hs.ok r (by
      have := rowH_mem (L := L2.set i r) (i := i) (by rw [List.length_set, h.len]; exact hi)
      rw [hri] at this
      exact this)
    exact this
  have hgr6 : W5.grownBy (W5.setCell ⟨W.heap.size, i, none⟩ (.int .i64 1)) (some W.heap.size) := growSet (growRefl _ _) _ _
  have hro6 : (r.put (unitR n i)).ok (W5.setCell ⟨W.heap.size, i, none⟩ (.int .i64 1)) := ⟨hro5.1.set (i := i) 1, by show ((List.replicate n 0).set i 1).length ≤ n; simp, by show n ≤ maxLen; unfold maxLen; omega⟩
  have hm6 : Mx (W5.setCell ⟨W.heap.size, i, none⟩ (.int .i64 1)) G2 ((L2.set i r).set i (r.put (unitR n i))) := by
    have := hs.set (i := i) (w' := W5.setCell ⟨W.heap.size, i, none⟩ (.int .i64 1)) (by rw [List.length_set, h.len]; exact hi) (unitR n i) (by rw [hri]; simp [unitR, r]) (by rw [hri]; exact hgr6) (by rw [hri]; intro e; cases e; omega) hd (by rw [hri]; exact hro6)
    rw [hri] at this
    exact this
  rw [List.set_set] at hm6
  have hc5 := hs.cell (i := i) (by rw [List.length_set, h.len]; exact hi)
  rw [hri, hrv] at hc5
  obtain ⟨_, _, _, hc3⟩ := four_cells_ ((hgr5.block g5 hg5 (by simp; omega)).trans h.b5)
  refine ⟨hc5, hc3, hro5.1, ?_⟩
  have hw : W.heap.size ≤ W5.heap.size := hgr5.size
  have keep : ∀ k, k < W.heap.size → k ≠ G2 → (W5.setCell ⟨W.heap.size, i, none⟩ (.int .i64 1)).heap[k]? = W.heap[k]? := fun k hk hne =>
    (hgr6.block k (by omega) (by simp; omega)).trans (hgr5.block k hk (by simpa using hne))
  refine ⟨⟨hgr6.os.trans (hgr5.os.trans h.bel.os), hgr6.tape.trans (hgr5.tape.trans h.bel.tape), hgr6.output.trans (hgr5.output.trans h.bel.output), Nat.le_trans h.bel.size (Nat.le_trans hw hgr6.size), fun k hk => (keep k (by have := h.bel.size; omega) (by omega)).trans (h.bel.block k hk)⟩, (keep _ (by omega) (by omega)).trans h.b4, (keep _ hg5 (by omega)).trans h.b5, o1, o2, o3, h.d1, ?_, h.r1, ?_, ?_, hm6, by simp [h.len], fun j => ?_⟩
  · exact h.d2.store i (fun s hs g e e2 => by have := hlt2 s hs g e; cases e2; omega)
  · intro s hs' g e
    rcases List.mem_or_eq_of_mem_set hs' with h1 | rfl
    · exact h.r2 s h1 g e
    · cases e; omega
  · exact (h.m1.grown hgr5 (by simp; omega) (fun s hs g e e2 => by have := h.r1 s hs g e; cases e2; omega)).grown hgr6 (by simp; omega) (fun s hs g e e2 => by have := h.r1 s hs g e; cases e2; omega)
  · by_cases e : j = i
    · subst e
      unfold rowH
      rw [List.getElem?_set_self (by rw [h.len]; exact hi), if_pos (by omega)]
      rfl
    · have := h.val j
      unfold rowH at this ⊢
      rw [List.getElem?_set_ne (fun e2 => e e2.symm), this]
      by_cases hl : j < i
      · rw [if_pos hl, if_pos (by omega)]
      · rw [if_neg hl, if_neg (by omega)]
end Go.Proofs.YtfhhnfpapgfnmaaGreat

set_option linter.unusedVariables false
set_option linter.unusedSimpArgs false
namespace Go.Proofs.YtfhhnfpapgfnmaaGreat
open Go Go.RowKit Go.Deep
open FFld (ints)
theorem Pr.low {B hi : Nat} {w w' : World} {G1 G2 : Nat} {L1 L2 : List RH} {k : Nat} (h : Pr B hi w G1 G2 L1 L2) (hg : w.grownBy w' (some k)) (hk : k < G1) : Pr B hi w' G1 G2 L1 L2 := by
  have b2 := h.b2
  refine { h with m1 := h.m1.grown hg (by simp; omega) (fun r hr g hgb e => ?_), m2 := h.m2.grown hg (by simp; omega) (fun r hr g hgb e => ?_) }
  · cases e; have := h.r1 r hr _ hgb; omega
  · cases e; have := h.r2 r hr _ hgb; omega
theorem four_end_g {w W : World} {g : Nat} {a b c d : Value} {T : TypeId} (h : W.heap[g]? = some (.cells #[a, b, c, d] T (0, 0))) (hb : Below w.heap.size w W) (hg : w.heap.size ≤ g) (a' b' c' d' : Value) :
    Below w.heap.size w ((((W.setCell ⟨g, 0, none⟩ a').setCell ⟨g, 1, none⟩ b').setCell ⟨g, 2, none⟩ c').setCell ⟨g, 3, none⟩ d') ∧
    W.grownBy ((((W.setCell ⟨g, 0, none⟩ a').setCell ⟨g, 1, none⟩ b').setCell ⟨g, 2, none⟩ c').setCell ⟨g, 3, none⟩ d') (some g) ∧
    ((((W.setCell ⟨g, 0, none⟩ a').setCell ⟨g, 1, none⟩ b').setCell ⟨g, 2, none⟩ c').setCell ⟨g, 3, none⟩ d').cell? ⟨g, 0, none⟩ = some a' ∧
    ((((W.setCell ⟨g, 0, none⟩ a').setCell ⟨g, 1, none⟩ b').setCell ⟨g, 2, none⟩ c').setCell ⟨g, 3, none⟩ d').cell? ⟨g, 1, none⟩ = some b' ∧
    ((((W.setCell ⟨g, 0, none⟩ a').setCell ⟨g, 1, none⟩ b').setCell ⟨g, 2, none⟩ c').setCell ⟨g, 3, none⟩ d').cell? ⟨g, 2, none⟩ = some c' ∧
    ((((W.setCell ⟨g, 0, none⟩ a').setCell ⟨g, 1, none⟩ b').setCell ⟨g, 2, none⟩ c').setCell ⟨g, 3, none⟩ d').cell? ⟨g, 3, none⟩ = some d' := by
  have h1 := heap_setCell_same W g 0 _ T a' h
  have h2 := heap_setCell_same _ g 1 _ T b' h1
  have h3 := heap_setCell_same _ g 2 _ T c' h2
  have h4 := heap_setCell_same _ g 3 _ T d' h3
  obtain ⟨e0, e1, e2, e3⟩ := four_cells_ (a := a') (b := b') (c := c') (d := d') (T := T) (by simpa using h4)
  exact ⟨(((hb.setCell (p := ⟨g, 0, none⟩) hg _).setCell (p := ⟨g, 1, none⟩) hg _).setCell (p := ⟨g, 2, none⟩) hg _).setCell (p := ⟨g, 3, none⟩) hg _, growSet (growSet (growSet (growSet (growRefl _ _) _ _) _ _) _ _) _ _, e0, e1, e2, e3⟩
/-- What recorded returns. -/
def RcRet (b : Nat) (rows : List (List Nat)) (w : World) (e : Ending) (w' : World) : Prop := Below w.heap.size w w' ∧ ∃ G1 G2 L1 L2 hi, e = .returned (prv b G1 G2 rows.length) ∧ hi ≤ w'.heap.size ∧ Pr w.heap.size hi w' G1 G2 L1 L2 ∧ L1.map RH.xs = rows ∧ L2.map RH.xs = idM rows.length
set_option maxRecDepth 20000 in
set_option maxHeartbeats 4000000 in
theorem recorded_any (b : Nat) (rows : List (List Nat)) (ao : Option Addr) (cap : Nat) (w : World) (h : Sls w ao (rows.map ints)) (hn : rows.length ≤ 1000) (hl : ∀ r ∈ rows, r.length ≤ 100000) :
    Calls Tryz.prog 81 #[.pointer (some ⟨b, 0, none⟩), .slice ao rows.length cap] w (RcRet b rows w) := by
  have HC := Kept.mk (fun W (hW : Below w.heap.size w W) => copied_any rows ao cap W (h.below hW) hn hl)
  unfold RcRet
  obtain ⟨n, hN⟩ : ∃ n, rows.length = n := ⟨_, rfl⟩
  rw [hN] at hn HC ⊢
  have HU := Kept.mk (fun W => unrecorded_any b n W hn)
  have hmk := run_make_row' (P := Tryz.prog) 35 3 (.int .i64 0) 8 Tryz.underlying35 info_i64 rfl .i64 .i64 n (by omega) (by omega)
  have HN := Kept.mk hN
  have HX0 : Kept (Bxs w [.cells #[.pointer none, .slice none 0 0, .pointer none, .slice none 0 0] 130] (w.alloc (.cells #[.pointer none, .slice none 0 0, .pointer none, .slice none 0 0] 130))) := ⟨(Bxs.start w).alloc (by simp) _⟩
  clear h hl hN
  go_enter Tryz.func81, Tryz.ntmps81
  go_wp2_with fail
  refine (HC.out _ HX0.out.1).mono ?_
  rintro e w1 ⟨hb1, G1, L1, rfl, ho1⟩
  have HX1 := Kept.mk (HX0.out.below hb1)
  have HO1 := Kept.mk ho1
  have hs1 := ho1.mx.lt
  have hlo1 : w.heap.size + 1 ≤ G1 := by have := ho1.lo; simpa using this
  rw [HN.out]
  clear hb1 ho1
  go_wp2_with fail
  refine (HU.out w1).mono ?_
  rintro e w2 ⟨hb2, G2, rfl, ho2⟩
  have HX2 := Kept.mk (HX1.out.below hb2)
  have HO2 := Kept.mk ho2
  have hs2 := ho2.mx.lt
  have hlo2 := ho2.lo
  have hz2 := hb2.size
  have HM1 := Kept.mk (HO1.out.mx.below hb2)
  have HR1 : Kept (∀ r ∈ L1, ∀ g, r.blk = some g → G1 < g ∧ g < G2) := ⟨fun r hr g e => ⟨HO1.out.low r hr g e, by have := (HO1.out.mx.ok r hr).lt e; omega⟩⟩
  clear hb2 ho2
  go_wp2
  have HST : Kept (ReAt w b w2.heap.size G1 G2 n 0 L1 (List.replicate n RH.nil) (w2.alloc (prbox b G1 G2 n))) := ⟨by
    have hb : Below w2.heap.size w2 (w2.alloc (prbox b G1 G2 n)) := (Below.refl _ _).alloc (Nat.le_refl _) _
    have hx := HX2.out.below hb
    exact ⟨hx.1, hx.b0, heap_alloc_new _ _, by omega, by omega, hs2, HO1.out.dis, dis_rep n, HR1.out, fun r hr g e => (by rw [List.eq_of_mem_replicate hr] at e; cases e), HM1.out.below hb, HO2.out.mx.below hb, by simp, fun j => by rw [rowH_rep, if_neg (by omega)]; rfl⟩⟩
  obtain ⟨g5, hg5⟩ : ∃ g, w2.heap.size = g := ⟨_, rfl⟩
  rw [hg5] at HST ⊢
  clear hg5
  go_loopw [20] (fun iv wr => ∃ (i : Nat) (L2 : List RH), i ≤ n ∧ iv = .int .i64 i ∧ Kept (ReAt w b g5 G1 G2 n i L1 L2 wr)) (fun iv _ => n - (intOf iv).toNat)
  case atStart => exact ⟨0, _, Nat.zero_le _, rfl, HST⟩
  case round =>
    obtain ⟨i, L2, hin, rfl, hat⟩ := hrel
    obtain ⟨c0, c1, c2, c3⟩ := four_cells_ hat.out.b5
    by_cases hlt : i < n
    · have HNX := Kept.mk (fun W5 => hat.out.next (W5 := W5) hlt hn)
      have hG2 := hat.out.m2.lt
      have fr := hat.out.m2.free i
      have fc := hat.out.m2.cell (i := i) (by rw [hat.out.len]; exact hlt)
      have hl5 : g5 < wr.heap.size := (Array.getElem?_eq_some_iff.1 hat.out.b5).1
      go_wp2
      go_region
      all_goals
        (have h5 := Kept.mk (show Below ((wr.alloc (.cells (madeCells #[.int .i64 0] n) 3)).setCell ⟨G2, i, none⟩ (.slice (some ⟨wr.heap.size, 0, none⟩) n n)).heap.size ((wr.alloc (.cells (madeCells #[.int .i64 0] n) 3)).setCell ⟨G2, i, none⟩ (.slice (some ⟨wr.heap.size, 0, none⟩) n n)) (((wr.setCell ⟨G2, i, none⟩ (.slice (some ⟨wr.heap.size, 0, none⟩) n n)).alloc (.cells (madeCells #[.int .i64 0] n) 3)).drew) from by rw [World.setCell_alloc_past _ _ _ _ hG2]; exact belowDrew _)
         obtain ⟨W5, hW5⟩ : ∃ W, ((wr.setCell ⟨G2, i, none⟩ (.slice (some ⟨wr.heap.size, 0, none⟩) n n)).alloc (.cells (madeCells #[.int .i64 0] n) 3)).drew = W := ⟨_, rfl⟩
         rw [hW5] at h5 ⊢
         clear hW5
         obtain ⟨d2, d3, hwn, hnx⟩ := HNX.out W5 h5.out
         obtain ⟨gN, hgN⟩ : ∃ g, wr.heap.size = g := ⟨_, rfl⟩
         rw [hgN] at d2 hwn hnx
         have d4 := hwn.cell (i := i) (by simp; exact hlt)
         have z4 := hwn.free i
         have HNX2 := Kept.mk hnx
         clear hwn hnx HNX h5 c0 c1 c2 c3 fr fc hgN
         go_wp2
         go_roundw
         case rel => exact ⟨i + 1, _, by omega, by go_num, HNX2⟩
         case measure => simp [intOf] <;> omega)
    · obtain rfl : i = n := by omega
      obtain ⟨z0, z1, z2, z3⟩ := four_cells_ hat.out.b4
      have f0 := frozen_of_row wr w.heap.size 0 _ _ hat.out.b4
      have f1 := frozen_of_row wr w.heap.size 1 _ _ hat.out.b4
      have f2 := frozen_of_row wr w.heap.size 2 _ _ hat.out.b4
      have f3 := frozen_of_row wr w.heap.size 3 _ _ hat.out.b4
      obtain ⟨hb, hgr, e0, e1, e2, e3⟩ := four_end_g hat.out.b4 hat.out.bel (Nat.le_refl _) (.pointer (some ⟨b, 0, none⟩)) (.slice (some ⟨G1, 0, none⟩) i i) (.pointer (some ⟨b, 0, none⟩)) (.slice (some ⟨G2, 0, none⟩) i i)
      have HP := Kept.mk (hat.out.pr.low hgr hat.out.o1)
      have HD := Kept.mk hat.out.done
      have HB := Kept.mk hb
      have HG := Kept.mk hgr.size
      clear hb hgr
      go_wp2
      exact bodyPost_ret (v := prv b G1 G2 i) (by simp [results, Tryz.results81, go_sem, e0, e1, e2, e3]) rfl ⟨HB.out, G1, G2, L1, L2, wr.heap.size, rfl, HG.out, HP.out, HO1.out.val, HD.out⟩
end Go.Proofs.YtfhhnfpapgfnmaaGreat

set_option linter.unusedVariables false
set_option linter.unusedSimpArgs false
namespace Go.Proofs.YtfhhnfpapgfnmaaGreat
open Go Go.RowKit Go.Deep
open FFld (ints)
/-- The elimination under way: the box of the pair, the rows, the columns. -/
structure ElAt (B hi b G1 G2 n : Nat) (w : World) (sv : Value) (cols : List Nat) (A R : List (List Nat)) (L1 L2 : List RH) (W : World) : Prop where
  hhi : hi ≤ w.heap.size
  chg : Chg B hi w W
  box : W.heap[w.heap.size]? = some (prbox b G1 G2 n)
  pr : Pr B hi W G1 G2 L1 L2
  a : L1.map RH.xs = A
  r : L2.map RH.xs = R
  cols : Mine 3 .i64 (w.heap.size + 1) W sv (ints cols)
  la : L1.length = n
  lr : L2.length = n
def ElS (B hi b G1 G2 n : Nat) (w : World) (sv : Value) (cols : List Nat) (A R : List (List Nat)) (W : World) : Prop := ∃ L1 L2, ElAt B hi b G1 G2 n w sv cols A R L1 L2 W
section
variable {B hi b G1 G2 n : Nat} {w W W' : World} {sv : Value} {cols : List Nat} {A R : List (List Nat)} {L1 L2 : List RH}
theorem ElAt.lt (h : ElAt B hi b G1 G2 n w sv cols A R L1 L2 W) : w.heap.size < W.heap.size := (Array.getElem?_eq_some_iff.1 h.box).1
theorem Mine.chg {E : TypeId} {K : IntKind} {C : Nat} {v : Value} {xs : List Int} (h : Mine E K C W v xs) (hc : Chg B hi W W') (hC : hi ≤ C) : Mine E K C W' v xs := by
  rcases h with h | ⟨g, cap, cur, e, hB, hg, rest⟩
  · exact .inl h
  · exact .inr ⟨g, cap, cur, e, hB, (hc.block g (Array.getElem?_eq_some_iff.1 hg).1 (.inr (by omega))).trans hg, rest⟩
theorem ElAt.step (h : ElAt B hi b G1 G2 n w sv cols A R L1 L2 W) {L1' L2' : List RH} {A' R' : List (List Nat)} (hc : Chg B hi W W') (hp : Pr B hi W' G1 G2 L1' L2') (h1 : L1'.map RH.xs = A') (h2 : L2'.map RH.xs = R') (l1 : L1'.length = n) (l2 : L2'.length = n) : ElAt B hi b G1 G2 n w sv cols A' R' L1' L2' W' :=
  ⟨h.hhi, h.chg.trans hc, (hc.block _ h.lt (.inr h.hhi)).trans h.box, hp, h1, h2, h.cols.chg hc (by have := h.hhi; omega), l1, l2⟩
theorem ElS.below (h : ElS B hi b G1 G2 n w sv cols A R W) (hb : Below W.heap.size W W') : ElS B hi b G1 G2 n w sv cols A R W' := by
  obtain ⟨L1, L2, h⟩ := h
  exact ⟨L1, L2, h.step (Chg.ofBelow hb) (h.pr.below hb) h.a h.r h.la h.lr⟩
theorem ElS.box (h : ElS B hi b G1 G2 n w sv cols A R W) : W.heap[w.heap.size]? = some (prbox b G1 G2 n) := by
  obtain ⟨L1, L2, h⟩ := h
  exact h.box
theorem ElS.chg (h : ElS B hi b G1 G2 n w sv cols A R W) : Chg B hi w W := by
  obtain ⟨L1, L2, h⟩ := h
  exact h.chg
theorem ElS.colsM (h : ElS B hi b G1 G2 n w sv cols A R W) : Mine 3 .i64 (w.heap.size + 1) W sv (ints cols) := by
  obtain ⟨L1, L2, h⟩ := h
  exact h.cols
theorem ElS.len (h : ElS B hi b G1 G2 n w sv cols A R W) : A.length = n ∧ R.length = n := by
  obtain ⟨L1, L2, h⟩ := h
  exact ⟨by rw [← h.a, List.length_map]; exact h.la, by rw [← h.r, List.length_map]; exact h.lr⟩
/-- An element of the matrix, and the header of its row. -/
theorem ElS.cell (h : ElS B hi b G1 G2 n w sv cols A R W) {D : FFld.FD} {wd i c : Nat} (hA : FFld.Wfm D wd A) (hi' : i < n) (hc : c < wd) : ∃ g cap, W.cell? ⟨G1, i, none⟩ = some (.slice (some ⟨g, 0, none⟩) wd cap) ∧ wd ≤ cap ∧ cap ≤ maxLen ∧ W.cell? ⟨g, c, none⟩ = some (.int .i64 ((FFld.cellAt A i c : Nat) : Int)) := by
  have hlen := h.len.1
  obtain ⟨L1, L2, h⟩ := h
  have hx : (rowH L1 i).xs = FFld.rowAt A i := by rw [rowH_xs, h.a]
  have hw := (hA.row (i := i) (by omega)).1
  have hok := h.pr.m1.ok _ (rowH_mem (i := i) (by rw [h.la]; exact hi'))
  have hcell := h.pr.m1.cell (i := i) (by rw [h.la]; exact hi')
  obtain ⟨cap, hv, h1, h2⟩ := hok.form
  obtain ⟨g, hg, hwv⟩ := hok.blk1 (by rw [hx]; omega)
  rw [hv, hg, hx, hw] at hcell
  rw [hx, hw] at h1
  refine ⟨g, cap, hcell, h1, h2, ?_⟩
  have := hwv.cell (i := c) (by rw [hx]; omega)
  rw [hx] at this
  exact this
theorem map_put (L : List RH) {i : Nat} (hi : i < L.length) (r : RH) (l : List Nat) (hr : r.put l = (rowH L i).put l) : (L.set i (r.put l)).map RH.xs = (L.map RH.xs).set i l := by
  rw [List.map_set]
  rfl
/-- More columns. -/
theorem ElS.put (h : ElS B hi b G1 G2 n w sv cols A R W) {row : Option Nat} (hg : W.grownBy W' row) (hr : ∀ k, row = some k → w.heap.size + 1 ≤ k) {sv' : Value} {cols' : List Nat} (hm : Mine 3 .i64 (w.heap.size + 1) W' sv' (ints cols')) : ElS B hi b G1 G2 n w sv' cols' A R W' := by
  obtain ⟨L1, L2, h⟩ := h
  have hlt := h.lt
  have hhi := h.hhi
  exact ⟨L1, L2, hhi, ⟨hg.os.trans h.chg.os, hg.tape.trans h.chg.tape, hg.output.trans h.chg.output, Nat.le_trans h.chg.size hg.size, fun k hk hc => (hg.block k (by have := h.chg.size; omega) (fun e => by have := hr k e.symm; omega)).trans (h.chg.block k hk hc)⟩,
    (hg.block _ hlt (fun e => by have := hr _ e.symm; omega)).trans h.box, h.pr.grown hg (fun k e => by have := hr k e; omega), h.a, h.r, hm, h.la, h.lr⟩
theorem rowAt_exch (A : List (List Nat)) {i j : Nat} (hi : i < A.length) (hj : j < A.length) : FFld.rowAt (FFld.exch [] A i j) i = FFld.rowAt A j := by
  unfold FFld.rowAt
  rw [FFld.exch_get [] A hi hj]
  congr 2
  split
  · omega
  · rw [if_pos rfl]
theorem step_eq (D : FFld.FD) (h : FFld.PK D.p D.k D.m) (c : Nat) {row x : Nat} (hrow : FFld.piv A c (A.length - cols.length) cols.length = row) (hne : row < A.length) (htop : cols.length < A.length) (hx : FFld.cellAt A row c = x) :
    FFld.stepF D h c ⟨A, R, cols⟩ = ⟨(FFld.subsF D cols.length c (FFld.mulAt D (FFld.exch [] A cols.length row) cols.length (FFld.ppow h x (D.q - 2)), FFld.mulAt D (FFld.exch [] R cols.length row) cols.length (FFld.ppow h x (D.q - 2))) A.length).1, (FFld.subsF D cols.length c (FFld.mulAt D (FFld.exch [] A cols.length row) cols.length (FFld.ppow h x (D.q - 2)), FFld.mulAt D (FFld.exch [] R cols.length row) cols.length (FFld.ppow h x (D.q - 2))) A.length).2, cols ++ [c]⟩ := by
  unfold FFld.stepF
  simp only
  rw [hrow, if_neg (by omega)]
  have : FFld.cellAt (FFld.exch [] A cols.length row) cols.length c = x := by
    unfold FFld.cellAt
    rw [rowAt_exch A htop hne]
    exact hx
  rw [this]
theorem step_skip (D : FFld.FD) (h : FFld.PK D.p D.k D.m) (c : Nat) (hrow : FFld.piv A c (A.length - cols.length) cols.length = A.length) : FFld.stepF D h c ⟨A, R, cols⟩ = ⟨A, R, cols⟩ := by
  unfold FFld.stepF
  simp only
  rw [hrow, if_pos rfl]
variable {D : FFld.FD} {w0 : World} {wd m : Nat}
theorem els_exch (h : ElS w0.heap.size hi b G1 G2 n w sv cols A R W) {i j : Nat} (h1 : i < n) (h2 : j < n) :
    Calls Tryz.prog 100 #[prv b G1 G2 n, .int .i64 i, .int .i64 j] W (fun e W' => e = .returned (.tuple #[]) ∧ Chg w0.heap.size hi W W' ∧ ElS w0.heap.size hi b G1 G2 n w sv cols (FFld.exch [] A i j) (FFld.exch [] R i j) W') := by
  obtain ⟨L1, L2, h⟩ := h
  refine (pexch_any w0.heap.size hi b G1 G2 n L1 L2 i j W h.pr h.la h.lr h1 h2).mono ?_
  rintro e W' ⟨rfl, hc, hp⟩
  exact ⟨rfl, hc, _, _, h.step hc hp (by rw [FFld.exch_map RH.xs RH.nil [] L1 (by rw [h.la]; exact h1) (by rw [h.la]; exact h2), h.a]) (by rw [FFld.exch_map RH.xs RH.nil [] L2 (by rw [h.lr]; exact h1) (by rw [h.lr]; exact h2), h.r]) (by rw [FFld.exch_len]; exact h.la) (by rw [FFld.exch_len]; exact h.lr)⟩
theorem els_mult (hf : FldB D w0 b) (hb : Below w0.heap.size w0 w) (h : ElS w0.heap.size hi b G1 G2 n w sv cols A R W) (hA : FFld.Wfm D wd A) (hR : FFld.Wfm D m R) (hwd : wd ≤ 1000000) (hm : m ≤ 1000000) {i c : Nat} (h1 : i < n) (hc : c < D.p ^ D.k) :
    Calls Tryz.prog 101 #[prv b G1 G2 n, .int .i64 i, .int .i64 c] W (fun e W' => e = .returned (.tuple #[]) ∧ Chg w0.heap.size hi W W' ∧ ElS w0.heap.size hi b G1 G2 n w sv cols (FFld.mulAt D A i c) (FFld.mulAt D R i c) W') := by
  have hl := h.len
  obtain ⟨L1, L2, h⟩ := h
  have x1 : (rowH L1 i).xs = FFld.rowAt A i := by rw [rowH_xs, h.a]
  have x2 : (rowH L2 i).xs = FFld.rowAt R i := by rw [rowH_xs, h.r]
  have w1 := hA.row (i := i) (by omega)
  have w2 := hR.row (i := i) (by omega)
  refine (pmult_any hi b G1 G2 n L1 L2 i w0 W hf (h.chg.below hb) h.pr h.la h.lr h1 _ _ rfl rfl (by rw [x1]; exact w1.2) (by rw [x2]; exact w2.2) (by rw [x1]; omega) (by rw [x2]; omega) c hc).mono ?_
  rintro e W' ⟨rfl, hcg, hp⟩
  exact ⟨rfl, hcg, _, _, h.step hcg hp (by rw [map_put L1 (by rw [h.la]; exact h1) _ _ rfl, h.a, x1]; rfl) (by rw [map_put L2 (by rw [h.lr]; exact h1) _ _ rfl, h.r, x2]; rfl) (by rw [List.length_set]; exact h.la) (by rw [List.length_set]; exact h.lr)⟩
theorem els_sub (hf : FldB D w0 b) (hb : Below w0.heap.size w0 w) (h : ElS w0.heap.size hi b G1 G2 n w sv cols A R W) (hA : FFld.Wfm D wd A) (hR : FFld.Wfm D m R) (hwd : wd ≤ 1000000) (hm : m ≤ 1000000) {i j t : Nat} (h1 : i < n) (h2 : j < n) (hij : i ≠ j) (ht : t < D.p ^ D.k) :
    Calls Tryz.prog 103 #[prv b G1 G2 n, .int .i64 i, .int .i64 j, .int .i64 t] W (fun e W' => e = .returned (.tuple #[]) ∧ Chg w0.heap.size hi W W' ∧ ElS w0.heap.size hi b G1 G2 n w sv cols (FFld.subAt D A i j t) (FFld.subAt D R i j t) W') := by
  have hl := h.len
  obtain ⟨L1, L2, h⟩ := h
  have x1 : (rowH L1 i).xs = FFld.rowAt A i := by rw [rowH_xs, h.a]
  have x2 : (rowH L2 i).xs = FFld.rowAt R i := by rw [rowH_xs, h.r]
  have y1 : (rowH L1 j).xs = FFld.rowAt A j := by rw [rowH_xs, h.a]
  have y2 : (rowH L2 j).xs = FFld.rowAt R j := by rw [rowH_xs, h.r]
  have w1 := hA.row (i := i) (by omega)
  have w2 := hR.row (i := i) (by omega)
  have v1 := hA.row (i := j) (by omega)
  have v2 := hR.row (i := j) (by omega)
  refine (psub_any hi b G1 G2 n L1 L2 i j w0 W hf (h.chg.below hb) h.pr h.la h.lr h1 h2 hij _ _ _ _ rfl rfl rfl rfl (by rw [x1]; exact w1.2) (by rw [x2]; exact w2.2) (by rw [y1]; exact v1.2) (by rw [y2]; exact v2.2) (by rw [x1, y1]; omega) (by rw [x2, y2]; omega) (by rw [y1]; omega) (by rw [y2]; omega) t ht).mono ?_
  rintro e W' ⟨rfl, hcg, hp⟩
  exact ⟨rfl, hcg, _, _, h.step hcg hp (by rw [map_put L1 (by rw [h.la]; exact h1) _ _ rfl, h.a, x1, y1]; rfl) (by rw [map_put L2 (by rw [h.lr]; exact h1) _ _ rfl, h.r, x2, y2]; rfl) (by rw [List.length_set]; exact h.la) (by rw [List.length_set]; exact h.lr)⟩
theorem els_width (h : ElS B hi b G1 G2 n w sv cols A R W) : Calls Tryz.prog 84 #[mxv b G1 n] W (fun e W' => e = .returned (.int .i64 (wid A : Nat)) ∧ ElS B hi b G1 G2 n w sv cols A R W') := by
  have h' := h
  obtain ⟨L1, L2, h⟩ := h
  refine (width_any b G1 n L1 W h.pr.m1 h.la).mono ?_
  rintro e W' ⟨hb, rfl⟩
  rw [h.a]
  exact ⟨rfl, h'.below hb⟩
end
end Go.Proofs.YtfhhnfpapgfnmaaGreat
