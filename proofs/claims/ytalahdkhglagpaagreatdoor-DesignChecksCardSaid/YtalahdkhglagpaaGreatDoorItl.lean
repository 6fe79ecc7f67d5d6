import Derived.Test.YtalahdkhglagpaaGreatDoorDa
import Derived.RangeFuncBound
import Derived.RangeFuncRecord
import Derived.RangeFuncCalls
set_option linter.unusedVariables false
set_option linter.unusedSimpArgs false
namespace Go.Proofs.YtalahdkhglagpaaGreatDoor
open Go Go.RowKit
/-! A range over a function, in a plain walk; its iterator may keep K blocks of its own, which it writes between the rounds. -/
/-- All blocks but those of U lie as they lay. -/
structure Oth (U : Nat → Prop) (w w' : World) : Prop where
  os : w'.os = w.os
  tape : w'.tape = w.tape
  output : w'.output = w.output
  size : w.heap.size ≤ w'.heap.size
  block : ∀ k, k < w.heap.size → ¬ U k → w'.heap[k]? = w.heap[k]?
theorem Oth.refl (U : Nat → Prop) (w : World) : Oth U w w := ⟨rfl, rfl, rfl, Nat.le_refl _, fun _ _ _ => rfl⟩
theorem Oth.trans {U : Nat → Prop} {a b c : World} (h : Oth U a b) (k : Oth U b c) : Oth U a c :=
  ⟨k.os.trans h.os, k.tape.trans h.tape, k.output.trans h.output, Nat.le_trans h.size k.size, fun i hi hu => (k.block i (Nat.lt_of_lt_of_le hi h.size) hu).trans (h.block i hi hu)⟩
theorem Oth.of_below {U : Nat → Prop} {w w' : World} (h : Below w.heap.size w w') : Oth U w w' := ⟨h.os, h.tape, h.output, h.size, fun k hk _ => h.block k hk⟩
theorem Oth.of_grown {U : Nat → Prop} {w w' : World} {row : Option Nat} (h : w.grownBy w' row) (hr : ∀ r, row = some r → U r) : Oth U w w' :=
  ⟨h.os, h.tape, h.output, h.size, fun k hk hu => h.block k hk fun e => hu (hr k e.symm)⟩
theorem Oth.mono {U V : Nat → Prop} {w w' : World} (h : Oth U w w') (hUV : ∀ k, U k → V k) : Oth V w w' := ⟨h.os, h.tape, h.output, h.size, fun k hk hv => h.block k hk fun hu => hv (hUV k hu)⟩
theorem Oth.below {U : Nat → Prop} {w w' : World} {B : Nat} (h : Oth U w w') (hB : B ≤ w.heap.size) (hU : ∀ k, U k → B ≤ k) : Below B w w' :=
  ⟨h.os, h.tape, h.output, h.size, fun k hk => h.block k (by omega) fun hu => by have := hU k hu; omega⟩
abbrev Ob (B K : Nat) : Nat → Prop := fun k => B ≤ k ∧ k < B + K
/-- An iterator's contract: what it yields (Ex: what it tells of the world at a yield), what a round must keep (Kp). -/
def Iter {α : Type} (P : Program) (gf : Nat) (lb : Array Value) (K : Nat) (encs : Nat → α → Array Value) (Ex : Nat → List α → α → World → Prop) (Kp : Nat → World → World → Prop) (S Sp : List α → Prop) (w : World) : Prop :=
  ∀ (L : Nat) (J Jx : List α → World → Prop) (W : World), Below w.heap.size w W → (∀ s A A', W.heap.size ≤ A.heap.size → J s A → Oth (Ob W.heap.size K) A A' → J s A') → (∀ s A A', W.heap.size ≤ A.heap.size → Jx s A → Oth (Ob W.heap.size K) A A' → Jx s A') →
    (∀ pre x W1, J pre W1 → Ex W.heap.size pre x W1 → YieldAt Fence.wide 0 P L (encs W.heap.size x) W1 fun e W' =>
      (e = .returned (.bool true) ∧ J (pre ++ [x]) W' ∧ Kp W.heap.size W1 W') ∨ (e = .returned (.bool false) ∧ Jx (pre ++ [x]) W')) →
    J [] W → Calls P gf (#[.func (.yield L) #[] #[]] ++ lb) W fun e W' => (∃ v, e = .returned v) ∧ ((∃ xs, S xs ∧ J xs W') ∨ (∃ pre, Sp pre ∧ Jx pre W'))
/-- The loop's two blocks lie as they lay. -/
structure Rl (D : Nat) (W W' : World) : Prop where
  d : W'.heap[D]? = W.heap[D]?
  l : W'.heap[D + 1]? = W.heap[D + 1]?
theorem Rl.refl (D : Nat) (W : World) : Rl D W W := ⟨rfl, rfl⟩
theorem Rl.trans {D : Nat} {a b c : World} (h : Rl D a b) (k : Rl D b c) : Rl D a c := ⟨k.d.trans h.d, k.l.trans h.l⟩
/-- How a round's body may be left. -/
def rpost {α : Type} (D : Nat) (Kp : World → World → Prop) (I : List α → World → Prop) (Ix : Code → List α → World → Prop) (xs : List α) (W : World) : Exit → Act → World → Prop
  | .normal, _, W' => Rl D W W' ∧ Kp W W' ∧ I xs W'
  | .ret, _, W' => Rl D W W' ∧ Ix .ret xs W'
  | .exit id, _, W' => Rl D W W' ∧ Ix (.exit id) xs W'
  | .goto t, _, W' => Rl D W W' ∧ Ix (.goto t) xs W'
  | .panic _, _, _ => False
  | .outgrown, _, _ => False
abbrev dl0 : Obj := .deferred (some [])
theorem range_own {α : Type} {P : Program} {g : Operand} {ps : Array Tmp} {assign body : Code} {Q : Exit → Act → World → Prop} {a : Act} {w : World}
    {gf : Nat} {lb : Array Value} (hg : a.eval g = .func (.func gf) #[] lb) (eg : ∀ args w, (callFunc gf args).run P w = .ok (.enter gf args) w)
    {K : Nat} {encs : Nat → α → Array Value} {Ex : Nat → List α → α → World → Prop} {Kp : Nat → World → World → Prop} {S Sp : List α → Prop} {w0 : World} (hseq : Iter P gf lb K encs Ex Kp S Sp w0) (hb0 : Below w0.heap.size w0 w)
    (hps : ∀ B x, (encs B x).size = ps.size)
    (hEx : ∀ s x A A', Ex (w.heap.size + 2) s x A → Oth (Ob w.heap.size 2) A A' → Ex (w.heap.size + 2) s x A')
    (hKp : ∀ A A' B B', Kp (w.heap.size + 2) A' B → A.grownBy A' (some (w.heap.size + 1)) → B.grownBy B' (some (w.heap.size + 1)) → Kp (w.heap.size + 2) A B')
    (I : List α → World → Prop) (Ix : Code → List α → World → Prop)
    (hI : ∀ s A A', I s A → Oth (Ob w.heap.size (2 + K)) A A' → I s A') (hIx : ∀ c s A A', Ix c s A → Oth (Ob w.heap.size (2 + K)) A A' → Ix c s A')
    (h0 : I [] w) (a₁ : α → Act)
    (hassign : ∀ (x : α) (W : World) (H : Act → World → Prop), H (a₁ x) W →
      assign.wpIn (Fence.wide.inRound (w.heap.size + 1)) 0 P (Exit.then H (fun _ _ _ => False)) { tmps := (ps.zip (encs (w.heap.size + 2) x)).foldl (fun t (p, v) => t.setIfInBounds p v) a.tmps, defers := [] } W)
    (hbody : ∀ (pre : List α) (x : α) (W : World), w.heap.size + 2 ≤ W.heap.size → I pre W → Ex (w.heap.size + 2) pre x W → body.wpIn (Fence.wide.inRound (w.heap.size + 1)) 0 P (rpost w.heap.size (Kp (w.heap.size + 2)) I Ix (pre ++ [x]) W) (a₁ x) W)
    (hdone : ∀ (xs : List α) (W : World), S xs → I xs W → W.heap[w.heap.size]? = some dl0 → Q .normal { a with defers := { target := .collected w.heap.size, args := #[] } :: a.defers } W)
    (hstop : ∀ (c : Code) (pre : List α) (W : World), Sp pre → Ix c pre W → W.heap[w.heap.size]? = some dl0 → c.wp P Q { a with defers := { target := .collected w.heap.size, args := #[] } :: a.defers } W) :
    (Code.rangeFunc g ps assign body).wp P Q a w := by
  refine (wpIn_wide (n := 0)).1 (wpIn_rangeFunc fun fn hfn => ?_)
  obtain ⟨rec, hrec⟩ : ∃ rec : LoopState → Option Code → Loop, rec = fun st pe => { state := st, pending := pe, fn, tmps := a.tmps, params := ps, assign, body, defers := w.heap.size } := ⟨_, rfl⟩
  obtain ⟨D, hD⟩ : ∃ D, w.heap.size = D := ⟨_, rfl⟩
  rw [hD] at hEx hKp hI hIx hassign hbody hdone hstop
  obtain ⟨W1, hW1⟩ : ∃ W1, (w.alloc dl0).alloc (.loop (rec .ready none)) = W1 := ⟨_, rfl⟩
  have hz1 : W1.heap.size = D + 2 := by rw [← hW1]; simp; omega
  have hL1 : W1.heap[D + 1]? = some (.loop (rec .ready none)) := by
    rw [← hW1, ← hD]
    have := World.alloc_heap_new (w.alloc dl0) (.loop (rec .ready none))
    rwa [World.size_alloc] at this
  have hK1 : W1.heap[D]? = some dl0 := by
    rw [← hW1, ← hD]
    exact (Below.heap_alloc _ _ _ (by simp)).trans (World.alloc_heap_new w _)
  have hbw : Below w.heap.size w W1 := by
    rw [← hW1]
    exact ((Below.refl _ w).alloc (Nat.le_refl _) _).alloc (by simp) _
  have hI1 : I [] W1 := hI _ _ _ h0 (Oth.of_below hbw)
  refine ⟨D + 1, [{ target := .collected D, args := #[] }], W1, { target := .fn (.func gf) lb, args := #[.func (.yield (D + 1)) #[] #[]] }, W1, gf, #[.func (.yield (D + 1)) #[] #[]] ++ lb, W1, ?_, ?_, ?_, ?_, ?_, ?_⟩
  · rw [← hW1, hrec, ← hD]
    exact run_enterLoop_outer _ _ _ _ _
  · simp only [resolve, hg]
    simp [go_sem]
  · intro f' _
    trivial
  · simp [invoke, go_sem, eg]
  · intro h
    cases h
  · have hput : ∀ (A : World) (o : Obj), Oth (Ob D (2 + K)) A (A.putObj (D + 1) o) := fun A o => Oth.of_grown (grownBy_putObj' A (D + 1) o) fun r e => by cases e; exact ⟨by omega, by omega⟩
    have hput2 : ∀ (A : World) (o : Obj), Oth (Ob D 2) A (A.putObj (D + 1) o) := fun A o => Oth.of_grown (grownBy_putObj' A (D + 1) o) fun r e => by cases e; exact ⟨by omega, by omega⟩
    have habD : ∀ (A A' : World), W1.heap.size ≤ A.heap.size → Oth (Ob W1.heap.size K) A A' → A'.heap[D]? = A.heap[D]? ∧ A'.heap[D + 1]? = A.heap[D + 1]? := fun A A' hA h => ⟨h.block D (by omega) fun hu => by have := hu.1; omega, h.block (D + 1) (by omega) fun hu => by have := hu.1; omega⟩
    have hwid : ∀ (A A' : World), Oth (Ob W1.heap.size K) A A' → Oth (Ob D (2 + K)) A A' := fun A A' h => h.mono fun k hk => ⟨by have := hk.1; omega, by have := hk.2; omega⟩
    refine callsIn_wide.2 ((hseq (D + 1)
      (fun pre W => I pre W ∧ W1.heap.size ≤ W.heap.size ∧ W.heap[D + 1]? = some (.loop (rec .ready none)) ∧ W.heap[D]? = some dl0)
      (fun pre W => ∃ c, Ix c pre W ∧ W.heap[D + 1]? = some (.loop (rec .done (some c))) ∧ W.heap[D]? = some dl0)
      W1 (hb0.trans (hbw.mono hb0.size)) ?_ ?_ ?_ ⟨hI1, Nat.le_refl _, hL1, hK1⟩).mono ?_)
    · rintro s A A' hA ⟨hi, hz, hl, hk⟩ ho
      obtain ⟨e1, e2⟩ := habD A A' hA ho
      exact ⟨hI _ _ _ hi (hwid _ _ ho), Nat.le_trans hz ho.size, e2.trans hl, e1.trans hk⟩
    · rintro s A A' hA ⟨c, hi, hl, hk⟩ ho
      obtain ⟨e1, e2⟩ := habD A A' hA ho
      exact ⟨c, hIx _ _ _ _ hi (hwid _ _ ho), e2.trans hl, e1.trans hk⟩
    · rintro pre x W ⟨hi, hz, hl, hk⟩ hex
      rw [hz1] at hz hex
      have hlt : D + 1 < W.heap.size := by omega
      have hy := run_yield (P := P) (args := encs (D + 2) x) hl (by rw [hrec]; exact hps _ x)
      rw [hrec] at hy
      rw [hz1]
      refine ⟨fn, _, assign, body, hy, roundIn_of_wpIn hfn (hassign x W _ ⟨_, run_beginRound hl (by rw [hrec]), ?_⟩)⟩
      obtain ⟨V, hV⟩ : ∃ V, W.putObj (D + 1) (.loop { rec .ready none with state := .busy }) = V := ⟨_, rfl⟩
      have hgV : W.grownBy V (some (D + 1)) := by rw [← hV]; exact grownBy_putObj' _ _ _
      have hl2 : V.heap[D + 1]? = some (.loop { rec .ready none with state := .busy }) := by rw [← hV]; exact World.putObj_heap_same hlt
      have hk2 : V.heap[D]? = some dl0 := by rw [← hV]; exact (World.putObj_heap_other (by omega)).trans hk
      have hiV : I pre V := by rw [← hV]; exact hI _ _ _ hi (hput _ _)
      have hxV : Ex (D + 2) pre x V := by rw [← hV]; exact hEx _ _ _ _ hex (hput2 _ _)
      have hzV : D + 2 ≤ V.heap.size := Nat.le_trans hz hgV.size
      rw [hV]
      refine wpIn_mono (hbody pre x V hzV hiV hxV) ?_
      have fin : ∀ (jump : Option Code) (W3 : World), Rl D V W3 →
          (Instr.endRound (D + 1) jump).run P W3 = .ok (.bool jump.isNone) (W3.putObj (D + 1) (.loop (rec (if jump.isNone then .ready else .done) jump))) ∧
          (W3.putObj (D + 1) (.loop (rec (if jump.isNone then .ready else .done) jump))).heap[D + 1]? = some (.loop (rec (if jump.isNone then .ready else .done) jump)) ∧
          (W3.putObj (D + 1) (.loop (rec (if jump.isNone then .ready else .done) jump))).heap[D]? = some dl0 ∧ D + 1 < W3.heap.size := fun jump W3 hr => by
        have hl3 := hr.l.trans hl2
        have h3 := run_endRound (P := P) jump hl3
        rw [hrec] at h3 ⊢
        exact ⟨h3, World.putObj_heap_same (Array.getElem?_eq_some_iff.1 hl3).1, (World.putObj_heap_other (by omega)).trans (hr.d.trans hk2), (Array.getElem?_eq_some_iff.1 hl3).1⟩
      rintro e a3 W3 hp
      cases e with
      | normal =>
        obtain ⟨hr3, hkp3, hi3⟩ := hp
        obtain ⟨hr, hl4, hk4, hz4⟩ := fin none W3 hr3
        exact ⟨_, _, hr, .inl ⟨rfl, ⟨hI _ _ _ hi3 (hput _ _), by rw [World.putObj_size]; omega, hl4, hk4⟩, hKp _ _ _ _ hkp3 hgV (grownBy_putObj' _ _ _)⟩⟩
      | ret =>
        obtain ⟨hr3, hi3⟩ := hp
        obtain ⟨hr, hl4, hk4, _⟩ := fin (some .ret) W3 hr3
        exact ⟨_, _, hr, .inr ⟨rfl, .ret, hIx _ _ _ _ hi3 (hput _ _), hl4, hk4⟩⟩
      | exit id =>
        obtain ⟨hr3, hi3⟩ := hp
        obtain ⟨hr, hl4, hk4, _⟩ := fin (some (.exit id)) W3 hr3
        exact ⟨_, _, hr, .inr ⟨rfl, .exit id, hIx _ _ _ _ hi3 (hput _ _), hl4, hk4⟩⟩
      | goto t =>
        obtain ⟨hr3, hi3⟩ := hp
        obtain ⟨hr, hl4, hk4, _⟩ := fin (some (.goto t)) W3 hr3
        exact ⟨_, _, hr, .inr ⟨rfl, .goto t, hIx _ _ _ _ hi3 (hput _ _), hl4, hk4⟩⟩
      | panic ch => exact hp.elim
      | outgrown => exact hp.elim
    · rintro e W2 ⟨⟨v, rfl⟩, (⟨xs, hS, hi, _, hl, hk⟩ | ⟨pre, hSp, c, hi, hl, hk⟩)⟩
      · have h3 := run_endLoop (P := P) hl (by rw [hrec]; simp)
        rw [hrec] at h3
        exact ⟨none, _, h3, hdone xs _ hS (hI _ _ _ hi (hput _ _)) ((World.putObj_heap_other (by omega)).trans hk)⟩
      · have h3 := run_endLoop (P := P) hl (by rw [hrec]; simp)
        rw [hrec] at h3
        exact ⟨some c, _, h3, wpIn_wide.2 (hstop c pre _ hSp (hIx _ _ _ _ hi (hput _ _)) ((World.putObj_heap_other (by omega)).trans hk))⟩
theorem Oth.cell {U : Nat → Prop} {w w' : World} {p : Addr} (h : Oth U w w') (hl : p.block < w.heap.size) (hu : ¬ U p.block) : w'.cell? p = w.cell? p := World.cell?_of_block (h.block p.block hl hu)
end Go.Proofs.YtalahdkhglagpaaGreatDoor
