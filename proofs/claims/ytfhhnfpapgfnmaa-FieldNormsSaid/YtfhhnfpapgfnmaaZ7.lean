/-
  Texts of the proof, merged by program: Fl Bas Fm Rdg.
-/
import Derived.Test.YtfhhnfpapgfnmaaZ3
import Derived.Test.YtfhhnfpapgfnmaaZ4
import Derived.Test.YtfhhnfpapgfnmaaZ5
import Derived.Test.YtfhhnfpapgfnmaaZ6
import Derived.Test.YtfhhnfpapgfnmaaZ1
import Derived.Test.YtfhhnfpapgfnmaaProg
import Derived.Deep.LoopGhost
import Derived.Deep.DeepCutAuto
import Derived.Deep.DeepMust
import Derived.Deep.DeepFit
import Derived.Deep.RegionHeld3
import Derived.Deep.RegionWith
import Derived.Deep.QuietTactic
import Derived.BigQuiet
import Derived.Deep.Upon
set_option linter.unusedVariables false
set_option linter.unusedSectionVars false
set_option linter.unusedSimpArgs false
namespace Go.Proofs.Ytfhhnfpapgfnmaa
namespace FFld
/-! The fields: every power of a prime up to 65536 has one. -/
theorem free_iff (p d kk c : Nat) : ∀ (n x : Nat), free p d kk c n x = true ↔ ∀ y, x ≤ y → y < x + n → pmul p d y 1 kk c ≠ 0 := by
  intro n
  induction n with
  | zero => intro x; exact ⟨fun _ y h1 h2 => by omega, fun _ => rfl⟩
  | succ n ih =>
    intro x
    simp only [free, Bool.and_eq_true, bne_iff_ne, ih]
    constructor
    · intro h y h1 h2
      by_cases e : y = x
      · subst e; exact h.1
      · exact h.2 y (by omega) (by omega)
    · intro h
      exact ⟨h x (Nat.le_refl _) (by omega), fun y h1 h2 => h y (by omega) (by omega)⟩
theorem irrF_iff (p kk c : Nat) : ∀ (n d : Nat), irrF p kk c n d = true ↔ ∀ e, d ≤ e → e < d + n → ∀ y, p ^ e ≤ y → y < 2 * p ^ e → pmul p e y 1 kk c ≠ 0 := by
  intro n
  induction n with
  | zero => intro x; exact ⟨fun _ y h1 h2 => by omega, fun _ => rfl⟩
  | succ n ih =>
    intro d
    simp only [irrF, Bool.and_eq_true, free_iff, ih]
    constructor
    · intro h e h1 h2 y h3 h4
      by_cases he : e = d
      · subst he; exact h.1 y h3 (by omega)
      · exact h.2 e (by omega) (by omega) y h3 h4
    · intro h
      exact ⟨fun y h1 h2 => h d (Nat.le_refl _) (by omega) y h1 (by omega), fun e h1 h2 => h e (by omega) (by omega)⟩
/-- c is divisible by no monic polynomial of a degree from 1 to half of k. -/
def Irr (p k c : Nat) : Prop := ∀ d, 1 ≤ d → 2 * d ≤ k → ∀ y, p ^ d ≤ y → y < 2 * p ^ d → pmul p d y 1 (k + 1) c ≠ 0
theorem irr_iff (p k c : Nat) : irr p k c = true ↔ Irr p k c := by
  unfold irr Irr
  rw [irrF_iff]
  constructor
  · intro h d h1 h2; exact h d h1 (by omega)
  · intro h d h1 h2; exact h d h1 (by omega)
theorem nirr_iff (p k : Nat) : ∀ (n c : Nat), nirr p k n c = true ↔ ∀ y, c ≤ y → y < c + n → ¬ Irr p k y := by
  intro n
  induction n with
  | zero => intro x; exact ⟨fun _ y h1 h2 => by omega, fun _ => rfl⟩
  | succ n ih =>
    intro c
    simp only [nirr, Bool.and_eq_true, Bool.not_eq_true', ih]
    constructor
    · intro h y h1 h2
      by_cases e : y = c
      · subst e; rw [← irr_iff, h.1]; simp
      · exact h.2 y (by omega) (by omega)
    · intro h
      refine ⟨?_, fun y h1 h2 => h y (by omega) (by omega)⟩
      have := h c (Nat.le_refl _) (by omega)
      rw [← irr_iff] at this
      simpa using this
/-- A field: its prime, its degree, the number of its modulus, its generator. -/
structure FD where
  p : Nat
  k : Nat
  m : Nat
  g : Nat
def FD.q (D : FD) : Nat := D.p ^ D.k
structure FD.Pre (D : FD) : Prop where
  prime : Prime D.p
  k1 : 1 ≤ D.k
  small : D.q ≤ 65536
  mod1 : D.k = 1 → D.m = D.p
  mod2 : 2 ≤ D.k → D.q ≤ D.m ∧ D.m < 2 * D.q ∧ Irr D.p D.k D.m ∧ ∀ n, D.q ≤ n → n < D.m → ¬ Irr D.p D.k n
theorem FD.Pre.pk {D : FD} (h : D.Pre) : PK D.p D.k D.m := ⟨h.prime.1, h.k1⟩
def FD.Nzd (D : FD) (h : PK D.p D.k D.m) : Prop := ∀ a b, (rng h).mul a b = (rng h).zero → a = (rng h).zero ∨ b = (rng h).zero
def FD.dom {D : FD} {h : PK D.p D.k D.m} (hn : D.Nzd h) : Dom (El (D.p ^ D.k)) := (rng h).dom hn
theorem nzl_all {D : FD} {h : PK D.p D.k D.m} (hn : D.Nzd h) : (FD.dom hn).All (nzl (D.p ^ D.k)) := by
  refine ⟨nzl_nodup _, fun a => ?_⟩
  rw [nzl_mem]
  exact ⟨fun h e => h (congrArg Subtype.val e), fun h e => h (Subtype.ext e)⟩
/-- All that is asked of a field. -/
structure FD.Ok (D : FD) : Prop where
  pre : D.Pre
  nzd : D.Nzd pre.pk
  g1 : 1 ≤ D.g
  gq : D.g < D.p ^ D.k
  ord : (FD.dom nzd).Ord ⟨D.g, gq⟩ (D.p ^ D.k - 1)
  least : ∀ a (ha : a < D.p ^ D.k), 1 ≤ a → a < D.g → ¬ (FD.dom nzd).Ord ⟨a, ha⟩ (D.p ^ D.k - 1)
theorem exists_least {P : Nat → Prop} : ∀ (n : Nat), P n → ∃ m, P m ∧ ∀ i, i < m → ¬ P i := by
  intro n
  induction n using Nat.strongRecOn with
  | ind n ih =>
    intro h
    rcases Classical.em (∃ i, i < n ∧ P i) with ⟨i, hi, hp⟩ | hno
    · exact ih i hi hp
    · exact ⟨n, h, fun i hi hp => hno ⟨i, hi, hp⟩⟩
theorem FD.with_gen (p k m : Nat) (h : FD.Pre ⟨p, k, m, 0⟩) (hn : FD.Nzd ⟨p, k, m, 0⟩ h.pk) : ∃ g, FD.Ok ⟨p, k, m, g⟩ := by
  have h1 : 1 < p ^ k := h.pk.one_lt
  have hall := nzl_all hn
  obtain ⟨g, hg, ho⟩ := (FD.dom hn).exists_gen hall (by rw [nzl_len]; have : 1 < p ^ k := h1; show 0 < p ^ k - 1; omega)
  rw [nzl_len] at ho
  obtain ⟨a, ⟨ha, ha1, hao⟩, hl⟩ := exists_least (P := fun a => ∃ ha : a < p ^ k, 1 ≤ a ∧ (FD.dom hn).Ord ⟨a, ha⟩ (p ^ k - 1)) g.1 ⟨g.2, Nat.pos_of_ne_zero (fun e => hg (Subtype.ext e)), ho⟩
  have hpre : FD.Pre ⟨p, k, m, a⟩ := ⟨h.prime, h.k1, h.small, h.mod1, h.mod2⟩
  exact ⟨a, ⟨hpre, hn, ha1, ha, hao, fun b hb hb1 hlt hbo => hl b hlt ⟨hb, hb1, hbo⟩⟩⟩
theorem FD.prime_exists (p : Nat) (hp : Prime p) (hq : p ≤ 65536) : ∃ g, FD.Ok ⟨p, 1, p, g⟩ := by
  have h : FD.Pre ⟨p, 1, p, 0⟩ := ⟨hp, Nat.le_refl _, by show p ^ 1 ≤ _; rw [Nat.pow_one]; exact hq, fun _ => rfl, fun h => by simp at h⟩
  exact FD.with_gen p 1 p h (nzd_prime h.pk hp (Nat.mod_self p))
def tab : List (Nat × Nat × Nat × Nat × List Nat) := tab0 ++ tab1 ++ tab2 ++ tab3 ++ tab4 ++ tab5 ++ tab6
theorem tab_ok : tab.all cert = true := by
  unfold tab
  simp only [List.all_append, Bool.and_eq_true]
  exact ⟨⟨⟨⟨⟨⟨tab0_ok, tab1_ok⟩, tab2_ok⟩, tab3_ok⟩, tab4_ok⟩, tab5_ok⟩, tab6_ok⟩
theorem tab_all : (List.range 257).all (fun p => (List.range 17).all fun k => Nat.ble k 1 || Nat.blt 65536 (p ^ k) || !isP p || tab.any (fun e => e.1 == p && e.2.1 == k)) = true := by decide +kernel
theorem isP_of {p : Nat} (hp : Prime p) : isP p = true := by
  simp only [isP, Bool.and_eq_true, List.all_eq_true, List.mem_range, Bool.or_eq_true, bne_iff_ne, Nat.ble_eq]
  refine ⟨hp.1, fun d hd => ?_⟩
  by_cases h1 : d ≤ 1
  · exact .inl h1
  · right
    intro h0
    rcases hp.2 d (Nat.dvd_of_mod_eq_zero h0) with h | h <;> omega
theorem FD.ext_exists (p k : Nat) (hp : Prime p) (hk : 2 ≤ k) (hq : p ^ k ≤ 65536) : ∃ m g, FD.Ok ⟨p, k, m, g⟩ := by
  have hp2 := hp.1
  have hpl : p < 257 := by
    have h1 : p ^ 2 ≤ p ^ k := Nat.pow_le_pow_right (by omega) hk
    rcases Nat.lt_or_ge p 257 with h | h
    · exact h
    · have := Nat.mul_le_mul h h
      rw [Nat.pow_two] at h1
      omega
  have hkl : k < 17 := by
    rcases Nat.lt_or_ge k 17 with h | h
    · exact h
    · have h1 : 2 ^ 17 ≤ p ^ k := Nat.le_trans (Nat.pow_le_pow_right (by omega) h) (Nat.pow_le_pow_left hp2 k)
      rw [show (2 : Nat) ^ 17 = 131072 from rfl] at h1
      omega
  have ht := tab_all
  simp only [List.all_eq_true, List.mem_range, Bool.or_eq_true, Bool.not_eq_true', List.any_eq_true, Bool.and_eq_true, beq_iff_eq, Nat.ble_eq, Nat.blt_eq] at ht
  have h3 := ht p hpl k hkl
  rw [isP_of hp] at h3
  rcases h3 with ((h3 | h3) | h3) | h3
  · omega
  · omega
  · exact absurd h3 (by simp)
  · obtain ⟨⟨p', k', m, g, fs⟩, hm, h1, h2⟩ := h3
    simp only [] at h1 h2
    subst h1 h2
    have hc := List.all_eq_true.1 tab_ok _ hm
    simp only [cert, Bool.and_eq_true, Nat.ble_eq, Nat.blt_eq, nirr_iff, irr_iff] at hc
    obtain ⟨⟨⟨⟨c1, c2⟩, c3⟩, c4⟩, c5⟩ := hc
    have h : FD.Pre ⟨p', k', m, 0⟩ := ⟨hp, by show 1 ≤ k'; omega, hq, fun h => by have h' : k' = 1 := h; omega, fun _ => ⟨c1, c2, c4, fun n h1 h2 => c3 n h1 (by have e1 : p' ^ k' ≤ n := h1; have e2 : n < m := h2; omega)⟩⟩
    obtain ⟨g', hg'⟩ := FD.with_gen p' k' m h (nzd_cert h.pk hq c5)
    exact ⟨m, g', hg'⟩
theorem FD.exists (p k : Nat) (hp : Prime p) (hk : 1 ≤ k) (hq : p ^ k ≤ 65536) : ∃ m g, FD.Ok ⟨p, k, m, g⟩ := by
  by_cases h : k = 1
  · subst h
    rw [Nat.pow_one] at hq
    obtain ⟨g, hg⟩ := FD.prime_exists p hp hq
    exact ⟨p, g, hg⟩
  · exact FD.ext_exists p k hp (by omega) hq
end FFld
end Go.Proofs.Ytfhhnfpapgfnmaa

set_option linter.unusedVariables false
set_option linter.unusedSimpArgs false
namespace Go.Proofs.Ytfhhnfpapgfnmaa
open Go Go.RowKit
/-- A fact that no tactic looks into. -/
structure Kept (p : Prop) : Prop where
  out : p
theorem growRefl (w : World) (r : Option Nat) : w.grownBy w r := ⟨rfl, rfl, rfl, Nat.le_refl _, fun _ _ _ => rfl⟩
theorem growTrans {a b c : World} {r : Option Nat} (h : a.grownBy b r) (k : b.grownBy c r) : a.grownBy c r :=
  ⟨k.os.trans h.os, k.tape.trans h.tape, k.output.trans h.output, Nat.le_trans h.size k.size, fun i hi hne => (k.block i (Nat.lt_of_lt_of_le hi h.size) hne).trans (h.block i hi hne)⟩
theorem growSet {w w' : World} {g : Nat} (h : w.grownBy w' (some g)) (i : Nat) (v : Value) : w.grownBy (w'.setCell ⟨g, i, none⟩ v) (some g) :=
  growTrans h ⟨rfl, rfl, rfl, by simp [World.setCell], fun k _ hk => heap_setCell_other w' ⟨g, i, none⟩ k v (fun e => hk (by rw [e]))⟩
theorem growBelow {w w' : World} {r : Option Nat} (h : Below w.heap.size w w') : w.grownBy w' r := ⟨h.os, h.tape, h.output, h.size, fun i hi _ => h.block i hi⟩
theorem belowGrow {w0 w w' : World} {g : Nat} (h : w.grownBy w' (some g)) (hb : Below w0.heap.size w0 w) (hg : w0.heap.size ≤ g) : Below w0.heap.size w0 w' :=
  hb.grown h hb.size (fun k hk => by cases hk; exact hg)
/-- How far addMultiple has come. -/
theorem belowCell {w w' : World} {b o : Nat} {v : Value} (h : Below w.heap.size w w') (hc : w.cell? ⟨b, o, none⟩ = some v) : w'.cell? ⟨b, o, none⟩ = some v :=
  (h.cell (p := ⟨b, o, none⟩) (World.block_lt_of_cell? w _ hc)).trans hc
theorem belowDrew (w : World) : Below w.heap.size w w.drew := ⟨rfl, rfl, rfl, Nat.le_refl _, fun _ _ => rfl⟩
theorem heap_last (W : World) (o : Obj) (n : Nat) (h : W.heap.size = n) : (W.alloc o).heap[n]? = some o := by subst h; exact heap_alloc_new W o
/-- The end of a call that stores an integer into its result's box g. -/
theorem two_cells {w : World} {g : Nat} {a b : Value} {T : TypeId} (h : w.heap[g]? = some (.cells #[a, b] T (0, 0))) :
    w.cell? ⟨g, 0, none⟩ = some a ∧ w.cell? ⟨g, 1, none⟩ = some b ∧ w.frozen? ⟨g, 0, none⟩ = false ∧ w.frozen? ⟨g, 1, none⟩ = false :=
  ⟨by rw [cell_of_row w g 0 _ T (0, 0) h]; rfl, by rw [cell_of_row w g 1 _ T (0, 0) h]; rfl, frozen_of_row w g 0 _ T h, frozen_of_row w g 1 _ T h⟩
theorem two_set {w : World} {g : Nat} {a b : Value} {T : TypeId} (h : w.heap[g]? = some (.cells #[a, b] T (0, 0))) (u v : Value) :
    ((w.setCell ⟨g, 0, none⟩ u).setCell ⟨g, 1, none⟩ v).heap[g]? = some (.cells #[u, v] T (0, 0)) := by
  have h1 := heap_setCell_same w g 0 #[a, b] T u h
  have h2 := heap_setCell_same _ g 1 _ T v h1
  simpa using h2
theorem boxed {w w' : World} {o : Obj} (h : Below (w.heap.size + 1) (w.alloc o) w') : w'.heap[w.heap.size]? = some o := (h.block _ (by omega)).trans (heap_alloc_new w o)
theorem three_cells {w : World} {g : Nat} {a b c : Value} {T : TypeId} (h : w.heap[g]? = some (.cells #[a, b, c] T (0, 0))) :
    w.cell? ⟨g, 0, none⟩ = some a ∧ w.cell? ⟨g, 1, none⟩ = some b ∧ w.cell? ⟨g, 2, none⟩ = some c ∧ w.frozen? ⟨g, 0, none⟩ = false ∧ w.frozen? ⟨g, 1, none⟩ = false ∧ w.frozen? ⟨g, 2, none⟩ = false :=
  ⟨by rw [cell_of_row w g 0 _ T (0, 0) h]; rfl, by rw [cell_of_row w g 1 _ T (0, 0) h]; rfl, by rw [cell_of_row w g 2 _ T (0, 0) h]; rfl, frozen_of_row w g 0 _ T h, frozen_of_row w g 1 _ T h, frozen_of_row w g 2 _ T h⟩
/-- Blocks that a call has laid behind the world w0, one after the other, and that are as they were. -/
def Bxs (w0 : World) (os : List Obj) (W : World) : Prop := Below w0.heap.size w0 W ∧ w0.heap.size + os.length ≤ W.heap.size ∧ ∀ i o, os[i]? = some o → W.heap[w0.heap.size + i]? = some o
theorem Bxs.start (w : World) : Bxs w [] w := ⟨Below.refl _ _, by simp, fun i o h => by simp at h⟩
theorem Bxs.alloc {w0 W : World} {os : List Obj} (h : Bxs w0 os W) (hs : W.heap.size = w0.heap.size + os.length) (o : Obj) : Bxs w0 (os ++ [o]) (W.alloc o) := by
  refine ⟨h.1.alloc h.1.size _, by simp; omega, fun i o' hi => ?_⟩
  by_cases hl : i < os.length
  · rw [List.getElem?_append_left hl] at hi
    exact (heap_alloc_old _ _ (by omega)).trans (h.2.2 i o' hi)
  · rw [List.getElem?_append_right (by omega)] at hi
    have : i - os.length = 0 := by
      apply Classical.byContradiction
      intro hc
      rw [List.getElem?_eq_none (by simp; omega)] at hi
      cases hi
    rw [this] at hi
    simp only [List.getElem?_cons_zero, Option.some.injEq] at hi
    subst hi
    have e : w0.heap.size + i = W.heap.size := by omega
    rw [e]
    exact heap_alloc_new W _
theorem Bxs.below {w0 W W' : World} {os : List Obj} (h : Bxs w0 os W) (hb : Below W.heap.size W W') : Bxs w0 os W' :=
  ⟨h.1.trans (hb.mono h.1.size), Nat.le_trans h.2.1 hb.size, fun i o hi => (hb.block _ (Array.getElem?_eq_some_iff.1 (h.2.2 i o hi)).1).trans (h.2.2 i o hi)⟩
theorem Bxs.drew {w0 W : World} {os : List Obj} (h : Bxs w0 os W) : Bxs w0 os W.drew := h.below (belowDrew W)
theorem Bxs.b0 {w0 W : World} {o : Obj} {os : List Obj} (h : Bxs w0 (o :: os) W) : W.heap[w0.heap.size]? = some o := h.2.2 0 o rfl
theorem Bxs.b1 {w0 W : World} {o o1 : Obj} {os : List Obj} (h : Bxs w0 (o :: o1 :: os) W) : W.heap[w0.heap.size + 1]? = some o1 := h.2.2 1 o1 rfl
theorem Bxs.l1 {w0 W : World} {o : Obj} {os : List Obj} (h : Bxs w0 (o :: os) W) : w0.heap.size < W.heap.size := (Array.getElem?_eq_some_iff.1 h.b0).1
theorem Bxs.l2 {w0 W : World} {o o1 : Obj} {os : List Obj} (h : Bxs w0 (o :: o1 :: os) W) : w0.heap.size + 1 < W.heap.size := (Array.getElem?_eq_some_iff.1 h.b1).1
theorem Bxs.lt {w0 W : World} {os : List Obj} (h : Bxs w0 os W) {i : Nat} (hi : i < os.length) : w0.heap.size + i < W.heap.size := by have := h.2.1; omega
theorem Bxs.grown {w0 W W' : World} {os : List Obj} {row : Option Nat} (h : Bxs w0 os W) (hg : W.grownBy W' row) (hr : ∀ k, row = some k → w0.heap.size + os.length ≤ k) : Bxs w0 os W' :=
  ⟨h.1.grown hg h.1.size (fun k hk => by have := hr k hk; omega), Nat.le_trans h.2.1 hg.size, fun i o hi => by
    have hl := h.2.1
    have hi' : i < os.length := (List.getElem?_eq_some_iff.1 hi).1
    rw [hg.block (w0.heap.size + i) (by omega) (fun e => by have := hr _ e.symm; omega)]
    exact h.2.2 i o hi⟩
/-- The call returns z, and no error. -/
theorem info_i64 : (Try.prog.info? 3).map (fun i => (i.zero, i.size, i.bytes)) = some (some (.int .i64 0), 1, 8) := by kernel_rfl
/-- The slice value v holds the limbs of n, at most L of them. -/
theorem quietSame {P : Program} {f : FuncId} {args : Array Value} {w : World} {n : Nat} {v : Value}
    (h : Calls P f args (w.drewN n) fun e w' => e = .returned v ∧ w.drewN n = w') : Calls P f args (w.drewN n) fun e w'' => e = .returned v ∧ ∃ m, w'' = w.drewN m :=
  h.mono fun _ _ ⟨he, hm⟩ => ⟨he, n, hm.symm⟩
/-- The call returns v; of what was there nothing has turned. -/
def RB (w : World) (v : Value) (e : Ending) (w' : World) : Prop := Below w.heap.size w w' ∧ e = .returned v
/-- The call returns v, and only reads. -/
def RQ (w : World) (v : Value) (e : Ending) (w' : World) : Prop := e = .returned v ∧ ∃ m, w' = w.drewN m
theorem RQ.same {w : World} {v : Value} : RQ w v (.returned v) w := ⟨rfl, 0, rfl⟩
theorem RQ.rb {w w' : World} {v : Value} {e : Ending} (h : RQ w v e w') : RB w v e w' := by
  obtain ⟨rfl, m, rfl⟩ := h
  exact ⟨below_drewN (Below.refl _ _) m, rfl⟩
/-- A row of one's own, cut at its end. -/
theorem Mine.upto {E : TypeId} {K : IntKind} {B : Nat} {w : World} {g n cap : Nat} {xs : List Int} (h : Mine E K B w (.slice (some ⟨g, 0, none⟩) xs.length cap) xs) (hn : n ≤ xs.length) : Mine E K B w (.slice (some ⟨g, 0, none⟩) n cap) (xs.take n) := by
  rcases h with ⟨e, _⟩ | ⟨g', cap', cur, e, hB, hg, h1, h2, h3, h4⟩
  · cases e
  · simp only [Value.slice.injEq, Option.some.injEq, Addr.mk.injEq, and_true, true_and] at e
    obtain ⟨rfl, rfl⟩ := e
    have hl : (xs.take n).length = n := by simp; omega
    refine .inr ⟨g, cap, cur, by rw [hl], hB, hg, by omega, h2, h3, ?_⟩
    rw [hl, List.map_take, ← h4, List.take_take, Nat.min_eq_left hn]
/-- The digits without the zeros that lead the number. -/
def sliceLen : Value → Nat | .slice _ k _ => k | _ => 0
theorem w64 {n : Int} (h0 : 0 ≤ n) (h1 : n ≤ 4611686018427387904) : wrap64 n = n := by unfold wrap64; omega
theorem wi {n : Int} (h0 : 0 ≤ n) (h1 : n ≤ 4611686018427387904) : IntKind.i64.wrap n = n := by rw [IntKind.wrap_i64]; omega
/-- A product by a name. -/
theorem wmul {a b c : Nat} (h : a * b = c) (hc : c ≤ 1152921504606846976) : wrap64 ((a : Int) * b) = c := by rw [← Int.natCast_mul, h]; exact w64 (by omega) (by omega)
theorem wimul {a b c : Nat} (h : a * b = c) (hc : c ≤ 1152921504606846976) : IntKind.i64.wrap ((a : Int) * b) = c := by rw [← Int.natCast_mul, h]; exact wi (by omega) (by omega)
theorem nmul_le {a b A B : Nat} (h1 : a ≤ A) (h2 : b ≤ B) : a * b ≤ A * B := Nat.mul_le_mul h1 h2
theorem imul_le {a b A B : Int} (h0 : 0 ≤ a) (h1 : a ≤ A) (h2 : 0 ≤ b) (h3 : b ≤ B) : a * b ≤ A * B := Int.mul_le_mul h1 h3 h2 (Int.le_trans h0 h1)
theorem imul_nn {a b : Int} (h0 : 0 ≤ a) (h2 : 0 ≤ b) : 0 ≤ a * b := Int.mul_nonneg h0 h2
end Go.Proofs.Ytfhhnfpapgfnmaa

set_option linter.unusedVariables false
set_option linter.unusedSectionVars false
set_option linter.unusedSimpArgs false
namespace Go.Proofs.Ytfhhnfpapgfnmaa
namespace FFld
theorem isP_iff (n : Nat) : isP n = true ↔ Prime n := ⟨isP_prime, isP_of⟩
theorem isP_none {n k : Nat} (hk : 2 ≤ k) (h : ∀ i, 2 ≤ i → i < k → ¬ i ∣ n) (hn : n < k * k) : isP n = decide (1 < n) := by
  by_cases h1 : 1 < n
  · rw [decide_eq_true h1, isP_iff]
    refine ⟨h1, fun d hd => ?_⟩
    apply Classical.byContradiction
    intro hc
    have hd0 : d ≠ 0 := fun e => by subst e; rw [Nat.zero_dvd] at hd; omega
    obtain ⟨c, hcc⟩ := hd
    have hc0 : c ≠ 0 := fun e => by subst e; omega
    have hc1 : c ≠ 1 := fun e => by subst e; omega
    have hdk : k ≤ d := by
      rcases Nat.lt_or_ge d k with hl | hl
      · exact absurd ⟨c, hcc⟩ (h d (by omega) hl)
      · exact hl
    have hck : k ≤ c := by
      rcases Nat.lt_or_ge c k with hl | hl
      · exact absurd ⟨d, by rw [hcc, Nat.mul_comm]⟩ (h c (by omega) hl)
      · exact hl
    have := Nat.mul_le_mul hdk hck
    omega
  · rw [decide_eq_false h1]
    apply Bool.eq_false_iff.2
    intro hp
    have := (isP_prime hp).1
    omega
theorem isP_not {n k : Nat} (hk : 2 ≤ k) (hn : k * k ≤ n) (hd : k ∣ n) : isP n = false := by
  apply Bool.eq_false_iff.2
  intro hp
  rcases (isP_prime hp).2 k hd with h | h
  · omega
  · have : k * 2 ≤ k * k := Nat.mul_le_mul_left k hk
    omega
def ints (l : List Nat) : List Int := l.map (fun c : Nat => (c : Int))
theorem ints_len (l : List Nat) : (ints l).length = l.length := by simp [ints]
theorem ints_get (l : List Nat) (i : Nat) : (ints l)[i]?.getD 0 = ((l[i]?.getD 0 : Nat) : Int) := by
  simp only [ints, List.getElem?_map]
  cases l[i]? <;> rfl
theorem ints_append (l m : List Nat) : ints (l ++ m) = ints l ++ ints m := by simp [ints]
theorem ints_set (l : List Nat) (i v : Nat) : (ints l).set i (v : Int) = ints (l.set i v) := by simp [ints, List.map_set]
theorem ints_take (l : List Nat) (n : Nat) : (ints l).take n = ints (l.take n) := by simp [ints, List.map_take]
theorem ints_drop (l : List Nat) (n : Nat) : (ints l).drop n = ints (l.drop n) := by simp [ints, List.map_drop]
theorem ints_rep (n : Nat) : List.replicate n (0 : Int) = ints (List.replicate n 0) := by simp [ints]
theorem getD_lt {p : Nat} (hp : 0 < p) {l : List Nat} (h : ∀ c ∈ l, c < p) (i : Nat) : l[i]?.getD 0 < p := by
  cases e : l[i]? with
  | none => exact hp
  | some c => exact h c (List.mem_of_getElem? e)
/-- The digits of n. -/
structure Digs (p n : Nat) (l : List Nat) : Prop where
  val : num p l = n
  lt : ∀ c ∈ l, c < p
  nz : l.getLast? ≠ some 0
theorem num_snoc' (p c : Nat) (l : List Nat) : num p (l ++ [c]) = num p l + p ^ l.length * c := by
  induction l with
  | nil => simp [num]
  | cons d l ih => simp only [List.cons_append, num, ih, List.length_cons, Nat.pow_succ', Nat.mul_add, Nat.mul_assoc]; omega
structure DgAt (p n : Nat) (l : List Nat) (cur : Nat) : Prop where
  val : num p l + p ^ l.length * cur = n
  lt : ∀ c ∈ l, c < p
  nz : cur = 0 → l.getLast? ≠ some 0
theorem DgAt.start (p n : Nat) : DgAt p n [] n := ⟨by simp [num], fun c h => by simp at h, fun _ => by simp⟩
theorem DgAt.next {p n cur : Nat} {l : List Nat} (h : DgAt p n l cur) (hp : 2 ≤ p) (hc : 0 < cur) : DgAt p n (l ++ [cur % p]) (cur / p) := by
  refine ⟨?_, ?_, ?_⟩
  · rw [num_snoc', List.length_append, List.length_singleton, Nat.pow_succ, Nat.mul_assoc, Nat.add_assoc, ← Nat.mul_add, Nat.mod_add_div]
    exact h.val
  · intro c hc'
    rcases List.mem_append.1 hc' with h1 | h1
    · exact h.lt c h1
    · rw [List.mem_singleton.1 h1]; exact Nat.mod_lt _ (by omega)
  · intro h0
    rw [List.getLast?_append]
    simp
    have := Nat.mod_add_div cur p
    rw [h0] at this
    simp at this
    omega
theorem DgAt.done {p n : Nat} {l : List Nat} (h : DgAt p n l 0) : Digs p n l := ⟨by simpa using h.val, h.lt, h.nz rfl⟩
theorem DgAt.len {p n cur : Nat} {l : List Nat} (h : DgAt p n l cur) (hp : 2 ≤ p) (hc : 0 < cur) : 2 ^ l.length ≤ n := by
  have h1 := h.val
  have h2 : p ^ l.length * 1 ≤ p ^ l.length * cur := Nat.mul_le_mul_left _ hc
  have h3 : 2 ^ l.length ≤ p ^ l.length := Nat.pow_le_pow_left hp _
  omega
theorem len_of_pow {l n : Nat} (h : 2 ^ l ≤ n) (hn : n ≤ 1099511627776) : l ≤ 40 := by
  rcases Nat.lt_or_ge 40 l with h1 | h1
  · have := Nat.pow_le_pow_right (n := 2) (by omega) (show 41 ≤ l from h1)
    rw [show (2 : Nat) ^ 41 = 2199023255552 from rfl] at this
    generalize (2 : Nat) ^ l = z at *
    omega
  · exact h1
theorem snoc_of_ne {l : List Nat} (h : l ≠ []) : ∃ m c, l = m ++ [c] := ⟨l.dropLast, l.getLast h, (List.dropLast_concat_getLast h).symm⟩
theorem num_ge {p : Nat} {l : List Nat} (h : l.getLast? ≠ some 0) (hl : l ≠ []) : p ^ (l.length - 1) ≤ num p l := by
  obtain ⟨m, c, rfl⟩ := snoc_of_ne hl
  rw [num_snoc']
  simp at h ⊢
  have : p ^ m.length * 1 ≤ p ^ m.length * c := Nat.mul_le_mul_left _ (by omega)
  omega
theorem Digs.len {p n k : Nat} {l : List Nat} (h : Digs p n l) (hp : 2 ≤ p) (hn : n < p ^ k) : l.length ≤ k := by
  rcases Nat.lt_or_ge k l.length with h1 | h1
  · have h2 := num_ge (p := p) h.nz (fun e => by subst e; simp at h1)
    have h3 : p ^ k ≤ p ^ (l.length - 1) := Nat.pow_le_pow_right (by omega) (by omega)
    rw [h.val] at h2
    omega
  · exact h1
theorem Digs.zero {p : Nat} {l : List Nat} (h : Digs p 0 l) (hp : 2 ≤ p) : l = [] := by
  have := h.len hp (k := 0) (by simp)
  exact List.eq_nil_of_length_eq_zero (by omega)
theorem Digs.nil_iff {p n : Nat} {l : List Nat} (h : Digs p n l) (hp : 2 ≤ p) : l = [] ↔ n = 0 := by
  constructor
  · intro e; rw [← h.val, e]; rfl
  · intro e; subst e; exact h.zero hp
/-- A monic polynomial of degree k. -/
theorem Digs.monic {p n k : Nat} {l : List Nat} (h : Digs p n l) (hp : 2 ≤ p) (h1 : p ^ k ≤ n) (h2 : n < 2 * p ^ k) : ∃ m, l = m ++ [1] ∧ m.length = k := by
  have hk1 : n < p ^ (k + 1) := by
    have : 2 * p ^ k ≤ p * p ^ k := Nat.mul_le_mul_right _ hp
    rw [Nat.pow_succ']
    omega
  have hl := h.len hp hk1
  have hne : l ≠ [] := fun e => by
    have := (h.nil_iff hp).1 e
    have : 0 < p ^ k := Nat.pow_pos (by omega)
    omega
  obtain ⟨m, c, rfl⟩ := snoc_of_ne hne
  have hmlt := num_lt (p := p) (by omega) m (fun c hc => h.lt c (List.mem_append_left _ hc))
  have hv := h.val
  rw [num_snoc'] at hv
  simp at hl
  have hmk : m.length = k := by
    rcases Nat.lt_or_ge m.length k with hlt | hge
    · have hc := h.lt c (by simp)
      have e1 : p ^ m.length * c + p ^ m.length ≤ p ^ m.length * p := by rw [← Nat.mul_succ]; exact Nat.mul_le_mul_left _ hc
      rw [← Nat.pow_succ] at e1
      have e2 : p ^ (m.length + 1) ≤ p ^ k := Nat.pow_le_pow_right (by omega) hlt
      have e3 : p ^ m.length.succ = p ^ (m.length + 1) := rfl
      omega
    · omega
  refine ⟨m, ?_, hmk⟩
  rw [hmk] at hv hmlt
  have hpos : 0 < p ^ k := Nat.pow_pos (by omega)
  have hc1 : c = 1 := by
    rcases Nat.lt_trichotomy c 1 with hlt | he | hgt
    · have : c = 0 := by omega
      subst this
      omega
    · exact he
    · have : p ^ k * 2 ≤ p ^ k * c := Nat.mul_le_mul_left _ hgt
      omega
  rw [hc1]
theorem num_drop {p : Nat} {l : List Nat} {i : Nat} (hi : i < l.length) : num p (l.drop i) = l[i]?.getD 0 + p * num p (l.drop (i + 1)) := by
  rw [List.drop_eq_getElem_cons hi]
  simp [num, hi]
theorem num_drop_lt {p : Nat} (hp : 0 < p) {l : List Nat} (h : ∀ c ∈ l, c < p) (i : Nat) : num p (l.drop i) < p ^ (l.length - i) := by
  have := num_lt hp (l.drop i) (fun c hc => h c (List.mem_of_mem_drop hc))
  rwa [List.length_drop] at this
theorem mem_set {p v : Nat} {l : List Nat} {i : Nat} (h : ∀ c ∈ l, c < p) (hv : v < p) : ∀ c ∈ l.set i v, c < p := fun c hc => by
  rcases List.mem_or_eq_of_mem_set hc with h1 | h1
  · exact h c h1
  · omega
/-- Products of polynomials: the rows up to i, and of row i the places up to j, are added. -/
structure TmAt (p : Nat) (x y o : List Nat) (i j : Nat) : Prop where
  len : o.length = x.length + y.length - 1
  lt : ∀ c ∈ o, c < p
  val : ∀ k m, PK p k m → evl p k m 1 o = padd p k (evl p k m (evl p k m 1 y) (x.take i)) (pscl p k (x[i]?.getD 0) (shn p k m (evl p k m 1 (y.take j)) i))
theorem TmAt.start {p : Nat} (hp : 2 ≤ p) (x y : List Nat) : TmAt p x y (List.replicate (x.length + y.length - 1) 0) 0 0 := by
  refine ⟨by simp, fun c hc => ?_, fun k m h => ?_⟩
  · rw [List.eq_of_mem_replicate hc]; omega
  · rw [evl_zeros h]
    simp only [List.take_zero, evl, shn]
    rw [pscl_nil h, padd_zero h _ (Nat.pow_pos h.p0)]
theorem TmAt.next {p : Nat} {x y o : List Nat} {i j d : Nat} (h : TmAt p x y o i j) (hp : 2 ≤ p) (hi : i < x.length) (hj : j < y.length) (hd : (o[i + j]?.getD 0 + x[i]?.getD 0 * y[j]?.getD 0) % p = d) : TmAt p x y (o.set (i + j) d) i (j + 1) := by
  subst hd
  refine ⟨by rw [List.length_set]; exact h.len, mem_set h.lt (Nat.mod_lt _ (by omega)), fun k m hk => ?_⟩
  exact evl_row hk 1 (x[i]?.getD 0) i o y _ j hj (by have := h.len; omega) (h.val k m hk)
theorem TmAt.row {p : Nat} {x y o : List Nat} {i : Nat} (h : TmAt p x y o i y.length) (hi : i < x.length) : TmAt p x y o (i + 1) 0 := by
  refine ⟨h.len, h.lt, fun k m hk => ?_⟩
  rw [h.val k m hk, List.take_length, take_snoc hk x i hi, evl_snoc hk, List.length_take, Nat.min_eq_left (by omega)]
  simp only [List.take_zero, evl]
  rw [shn_zero hk, pscl_nil hk, padd_zero hk _ (padd_lt hk _ _)]
theorem TmAt.done {p : Nat} {x y o : List Nat} (h : TmAt p x y o x.length 0) : ∀ k m, PK p k m → evl p k m 1 o = evl p k m (evl p k m 1 y) x := fun k m hk => by
  rw [h.val k m hk, List.take_length]
  simp only [List.take_zero, evl]
  rw [shn_zero hk, pscl_nil hk, padd_zero hk _ (evl_lt hk _ _)]
/-- The product of two elements, before it is reduced. -/
structure Tms (p a b c n : Nat) : Prop where
  lt : c < p ^ n
  val : ∀ k m, PK p k m → a < p ^ k → b < p ^ k → pmul p k m 1 n c = pmul p k m a k b
theorem TmAt.tms {p a b n : Nat} {x y o : List Nat} (h : TmAt p x y o x.length 0) (hp : 2 ≤ p) (hx : Digs p a x) (hy : Digs p b y) (hn : x.length + y.length - 1 ≤ n) : Tms p a b (num p o) n := by
  have hl := num_lt (p := p) (by omega) o h.lt
  refine ⟨Nat.lt_of_lt_of_le hl (Nat.pow_le_pow_right (by omega) (by have := h.len; omega)), fun k m hk ha hb => ?_⟩
  rw [evl_pmul hk 1 o n h.lt (by have := h.len; omega), h.done k m hk, evl_one hk y hy.lt (hy.len hp hb), hy.val, ← evl_pmul hk b x k hx.lt (hx.len hp ha), hx.val, pmul_comm hk b a hb ha]
theorem Tms.zero {p a b n : Nat} (hp : 2 ≤ p) (hz : a = 0 ∨ b = 0) : Tms p a b 0 n := by
  refine ⟨Nat.pow_pos (by omega), fun k m hk ha hb => ?_⟩
  rw [pmul_zero_right hk]
  rcases hz with rfl | rfl
  · rw [pmul_comm hk 0 b ha hb, pmul_zero_right hk]
  · rw [pmul_zero_right hk]
/-- The rest of a polynomial (n digits at most) by a monic one: its value at x. -/
structure RsAt (p k y : Nat) (V : Nat) (x : List Nat) : Prop where
  lt : ∀ c ∈ x, c < p
  val : evl p k y 1 x = V
/-- Within a row: c times the first i coefficients of y were added from the place at on; the top c' = p - c of x stands yet. -/
structure RwAt (p k m at_ c V : Nat) (y x0 x : List Nat) (i : Nat) : Prop where
  len : x.length = x0.length
  lt : ∀ c ∈ x, c < p
  val : evl p k m 1 x = padd p k V (pscl p k c (shn p k m (evl p k m 1 (y.take i)) at_))
  old : ∀ j, at_ + i ≤ j → x[j]?.getD 0 = x0[j]?.getD 0
  top : i = y.length → x[x0.length - 1]?.getD 0 = 0
theorem RwAt.start {p k m V : Nat} {x : List Nat} (hk : PK p k m) (h : RsAt p k m V x) (at_ c : Nat) (y : List Nat) (hy : 1 ≤ y.length) : RwAt p k m at_ c V y x x 0 := by
  refine ⟨rfl, h.lt, ?_, fun j hj => rfl, fun e => by omega⟩
  have hV : V < p ^ k := by rw [← h.val]; exact evl_lt hk _ _
  rw [h.val]
  simp only [List.take_zero, evl]
  rw [shn_zero hk, pscl_nil hk, padd_zero hk _ hV]
theorem RwAt.next {p k m at_ c V i d : Nat} {y x0 x : List Nat} (hk : PK p k m) (h : RwAt p k m at_ c V y x0 x i) (hi : i < y.length) (hx : at_ + y.length = x0.length) (hc : x0[x0.length - 1]?.getD 0 + c = p) (hy : y[y.length - 1]?.getD 0 = 1) (hd : (x[at_ + i]?.getD 0 + c * y[i]?.getD 0) % p = d) : RwAt p k m at_ c V y x0 (x.set (at_ + i) d) (i + 1) := by
  subst hd
  refine ⟨by rw [List.length_set]; exact h.len, mem_set h.lt (Nat.mod_lt _ hk.p0), evl_row hk 1 c at_ x y V i hi (by have := h.len; omega) h.val, fun j hj => ?_, fun e => ?_⟩
  · rw [List.getElem?_set_ne (by omega)]
    exact h.old j (by omega)
  · have hl := h.len
    have e1 : x0.length - 1 = at_ + i := by omega
    have e2 : i = y.length - 1 := by omega
    rw [e1, List.getElem?_set_self (by omega), Option.getD_some, h.old _ (Nat.le_refl _), ← e1, e2, hy, Nat.mul_one, hc, Nat.mod_self]
theorem RwAt.done {p k m at_ c V : Nat} {y x0 x : List Nat} (hk : PK p k m) (h : RwAt p k m at_ c V y x0 x y.length) (hy : evl p k m 1 y = 0) (hV : V < p ^ k) : RsAt p k m V x := by
  refine ⟨h.lt, ?_⟩
  rw [h.val, List.take_length, hy, shn_zero hk, pscl_nil hk, padd_zero hk _ hV]
theorem RsAt.cut {p k m V : Nat} {x : List Nat} (hk : PK p k m) (h : RsAt p k m V x) {n : Nat} (hn : n + 1 = x.length) (h0 : x[n]?.getD 0 = 0) : RsAt p k m V (x.take n) := by
  refine ⟨fun c hc => h.lt c (List.mem_of_mem_take hc), ?_⟩
  have e : x = x.take n ++ [0] := by
    conv => lhs; rw [← List.take_length (l := x), ← hn, take_snoc hk x n (by omega), h0]
  rw [← h.val]
  conv => rhs; rw [e, evl_trim hk]
theorem RsAt.done {p k m V : Nat} {x : List Nat} (hk : PK p k m) (h : RsAt p k m V x) (hl : x.length ≤ k) : num p x = V := by
  rw [← h.val, evl_one hk x h.lt hl]
theorem Digs.rs {p k m a n : Nat} {x : List Nat} (hk : PK p k m) (h : Digs p a x) (ha : a < p ^ n) : RsAt p k m (pmul p k m 1 n a) x := by
  refine ⟨h.lt, ?_⟩
  conv => rhs; rw [← h.val]
  exact (evl_pmul hk 1 x n h.lt (h.len hk.p2 ha)).symm
/-- The coefficients of a monic polynomial of degree k. -/
structure Mon (p k m : Nat) (y : List Nat) : Prop where
  len : y.length = k + 1
  top : y[y.length - 1]?.getD 0 = 1
  lt : ∀ c ∈ y, c < p
  zero : evl p k m 1 y = 0
theorem Digs.mon {p k m : Nat} {y : List Nat} (hk : PK p k m) (h : Digs p m y) (h1 : p ^ k ≤ m) (h2 : m < 2 * p ^ k) : Mon p k m y := by
  obtain ⟨z, rfl, hz⟩ := h.monic hk.p2 h1 h2
  refine ⟨by simp [hz], by simp, h.lt, ?_⟩
  exact evl_modulus hk z (fun c hc => h.lt c (List.mem_append_left _ hc)) hz h.val.symm
theorem ofd_succ (p : Nat) : ∀ (j : Nat) (f : Nat → Nat), ofd p f (j + 1) = ofd p f j + p ^ j * f j := by
  intro j
  induction j with
  | zero => intro f; simp [ofd]
  | succ j ih =>
    intro f
    show f 0 + p * ofd p (fun i => f (i + 1)) (j + 1) = (f 0 + p * ofd p (fun i => f (i + 1)) j) + p ^ (j + 1) * f (j + 1)
    rw [ih (fun i => f (i + 1)), Nat.mul_add, ← Nat.mul_assoc, ← Nat.pow_succ', Nat.add_assoc]
theorem ofd_zeros (p : Nat) (f : Nat → Nat) (j : Nat) : ∀ (n : Nat), (∀ i, j ≤ i → i < j + n → f i = 0) → ofd p f (j + n) = ofd p f j := by
  intro n
  induction n with
  | zero => intro _; rfl
  | succ n ih => intro h; rw [← Nat.add_assoc, ofd_succ, ih (fun i h1 h2 => h i h1 (by omega)), h (j + n) (by omega) (by omega), Nat.mul_zero, Nat.add_zero]
/-- A loop over digits: after j of them. -/
structure DlAt (p : Nat) (f : Nat → Nat) (k j n u : Nat) : Prop where
  n : n = ofd p f j
  u : u = p ^ j
  jk : j ≤ k
theorem DlAt.start (p : Nat) (f : Nat → Nat) (k : Nat) : DlAt p f k 0 0 1 := ⟨rfl, rfl, Nat.zero_le _⟩
theorem DlAt.next {p k j n u : Nat} {f : Nat → Nat} (h : DlAt p f k j n u) (hj : j < k) : DlAt p f k (j + 1) (n + f j * u) (u * p) := by
  refine ⟨?_, by rw [h.u, Nat.pow_succ], hj⟩
  rw [ofd_succ, h.n, h.u, Nat.mul_comm]
theorem DlAt.done {p k j n u : Nat} {f : Nat → Nat} (h : DlAt p f k j n u) (hz : ∀ i, j ≤ i → f i = 0) : n = ofd p f k := by
  have hjk := h.jk
  rw [h.n]
  have := ofd_zeros p f j (k - j) (fun i h1 _ => hz i h1)
  rw [show j + (k - j) = k from by omega] at this
  exact this.symm
theorem DlAt.u_le {p k j n u : Nat} {f : Nat → Nat} (h : DlAt p f k j n u) (hp : 2 ≤ p) : u ≤ p ^ k := by
  rw [h.u]; exact Nat.pow_le_pow_right (by omega) h.jk
theorem DlAt.up_le {p k j n u : Nat} {f : Nat → Nat} (h : DlAt p f k j n u) (hp : 2 ≤ p) (hj : j < k) : u * p ≤ p ^ k := by
  rw [h.u, ← Nat.pow_succ]; exact Nat.pow_le_pow_right (by omega) hj
theorem DlAt.n_lt {p k j n u : Nat} {f : Nat → Nat} (h : DlAt p f k j n u) (hp : 2 ≤ p) (hf : ∀ i, f i < p) : n < p ^ k := by
  rw [h.n]; exact Nat.lt_of_lt_of_le (ofd_lt (by omega) j f hf) (Nat.pow_le_pow_right (by omega) h.jk)
theorem cur_zero {p a i j : Nat} (h : a / p ^ j = 0) (hp : 2 ≤ p) (hij : j ≤ i) : dig p a i = 0 := by
  have hpos : 0 < p ^ j := Nat.pow_pos (by omega)
  have : a < p ^ j := by
    rcases Nat.lt_or_ge a (p ^ j) with h1 | h1
    · exact h1
    · have := Nat.div_pos h1 hpos; omega
  exact dig_big (Nat.lt_of_lt_of_le this (Nat.pow_le_pow_right (by omega) hij))
theorem cur_pos {p a k j : Nat} (ha : a < p ^ k) (h : 0 < a / p ^ j) (hp : 2 ≤ p) : j < k := by
  rcases Nat.lt_or_ge j k with h1 | h1
  · exact h1
  · rw [Nat.div_eq_of_lt (Nat.lt_of_lt_of_le ha (Nat.pow_le_pow_right (by omega) h1))] at h; omega
theorem cur_next (p a j : Nat) : a / p ^ j / p = a / p ^ (j + 1) := by rw [Nat.div_div_eq_div_mul, Nat.pow_succ]
theorem neg_dig {p k m : Nat} (h : PK p k m) (a : Nat) : pscl p k (p - 1) a = ofd p (fun i => (p - dig p a i) % p) k := by
  refine ofd_congr k fun i _ => ?_
  have hp := h.p2
  have hd := dig_lt h.p0 a i
  generalize dig p a i = x at *
  obtain ⟨r, rfl⟩ : ∃ r, p = r + 1 := ⟨p - 1, by omega⟩
  simp only [Nat.add_sub_cancel]
  rcases Nat.eq_zero_or_pos x with h0 | h0
  · subst h0; simp
  · have e : x * r = (r + 1 - x) + (r + 1) * (x - 1) := by
      obtain ⟨y, rfl⟩ : ∃ y, x = y + 1 := ⟨x - 1, by omega⟩
      simp only [Nat.add_sub_cancel]
      rw [Nat.succ_mul, Nat.mul_comm (r + 1) y, Nat.mul_succ]
      omega
    rw [e, Nat.add_mul_mod_self_left]
end FFld
end Go.Proofs.Ytfhhnfpapgfnmaa

set_option linter.unusedVariables false
set_option linter.unusedSimpArgs false
namespace Go.Proofs.Ytfhhnfpapgfnmaa
open Go Go.RowKit
open FFld (ints)
set_option maxRecDepth 20000 in
set_option maxHeartbeats 1000000 in
theorem rprime_any (n : Nat) (w : World) (hn : n ≤ 70000) :
    Calls Try.prog 88 #[.int .i64 n] w (fun e w' => w = w' ∧ e = .returned (.bool (FFld.isP n))) := by
  go_enter Try.func88, Try.ntmps88
  go_wp2
  go_loopw [3] (fun d wr => ∃ (k : Nat), k ≤ 300 ∧ 2 ≤ k ∧ d = .int .i64 k ∧ Kept (∀ i, 2 ≤ i → i < k → ¬ i ∣ n) ∧ w = wr) (fun d _ => 301 - (intOf d).toNat)
  case atStart => exact ⟨2, by omega, by omega, rfl, ⟨fun i h1 h2 => by omega⟩, rfl⟩
  case round =>
    obtain ⟨k, hk, hk2, rfl, hd, rfl⟩ := hrel
    have hkk : (k : Int) * k ≤ 90000 := imul_le (A := 300) (B := 300) (by omega) (by omega) (by omega) (by omega)
    have hk0 : (0 : Int) ≤ (k : Int) * k := imul_nn (by omega) (by omega)
    have hwr : wrap64 ((k : Int) * k) = (k : Int) * k := w64 (by omega) (by omega)
    by_cases h1 : (k : Int) * k ≤ n
    · have h1n : k * k ≤ n := by exact_mod_cast h1
      have hk3 : k < 300 := by
        rcases Nat.lt_or_ge k 300 with h | h
        · exact h
        · have := Nat.mul_le_mul h h; omega
      by_cases h2 : (n : Int) % k = 0
      · have h2b : ((n : Int) % k == 0) = true := by rw [h2]; rfl
        have hp := Kept.mk (FFld.isP_not hk2 h1n (Nat.dvd_of_mod_eq_zero (by exact_mod_cast h2)))
        clear h2
        go_wp2
        go_ret
        exact ⟨rfl, by rw [hp.out]; rfl⟩
      · have h2b : ((n : Int) % k == 0) = false := by simpa using h2
        have hd' : Kept (∀ i, 2 ≤ i → i < k + 1 → ¬ i ∣ n) := ⟨fun i hi hi2 hdv => by
          by_cases e : i = k
          · subst e; exact h2 (by exact_mod_cast Nat.mod_eq_zero_of_dvd hdv)
          · exact hd.out i hi (by omega) hdv⟩
        clear h2
        go_wp2
        go_roundw
        case rel => exact ⟨k + 1, by omega, by omega, by go_num, hd', trivial⟩
        case measure => simp [intOf] <;> omega
    · have h1n : n < k * k := by
        rcases Nat.lt_or_ge n (k * k) with h | h
        · exact h
        · exact absurd (by exact_mod_cast h) h1
      have hp := Kept.mk (FFld.isP_none hk2 hd.out h1n)
      go_wp2
      go_ret
      refine ⟨rfl, ?_⟩
      rw [hp.out]
      simp
      omega
/-- The call returns the digits of n in a slice of its own. -/
def DigRet (p n : Nat) (w : World) (e : Ending) (w' : World) : Prop := Below w.heap.size w w' ∧ ∃ v l, e = .returned v ∧ Mine 3 .i64 w.heap.size w' v (ints l) ∧ FFld.Digs p n l
set_option maxRecDepth 20000 in
set_option maxHeartbeats 1000000 in
theorem rdigits_any (n p : Nat) (w : World) (hp : 2 ≤ p) (hp1 : p ≤ 65536) (hn : n < 1099511627776) :
    Calls Try.prog 87 #[.int .i64 n, .int .i64 p] w (DigRet p n w) := by
  go_enter Try.func87, Try.ntmps87
  go_wp2
  go_loopw [0, 5] (fun c o wr => ∃ (cur : Nat) (l : List Nat), c = .int .i64 cur ∧ cur ≤ n ∧ l.length ≤ 41 ∧ Kept (FFld.DgAt p n l cur) ∧ Kept (Mine 3 .i64 w.heap.size wr o (ints l)) ∧ Kept (Below w.heap.size w wr)) (fun c _ _ => (intOf c).toNat)
  case atStart => exact ⟨n, [], rfl, by omega, by simp, ⟨FFld.DgAt.start p n⟩, ⟨Mine.nil _ _ _ _⟩, ⟨Below.refl _ _⟩⟩
  case round =>
    obtain ⟨cur, l, rfl, hc, hl, hat, hm, hbl⟩ := hrel
    by_cases h0 : 0 < cur
    · have hlen : l.length ≤ 40 := FFld.len_of_pow (hat.out.len hp h0) (Nat.le_of_lt hn)
      have HNX := Kept.mk (hat.out.next hp h0)
      obtain ⟨d, hd⟩ : ∃ d, cur % p = d := ⟨_, rfl⟩
      obtain ⟨q, hq⟩ : ∃ q, cur / p = q := ⟨_, rfl⟩
      have hql : q < cur := by rw [← hq]; exact Nat.div_lt_self h0 hp
      have hdz : (cur : Int) % p = (d : Int) := by rw [← hd]; rfl
      have hqz : (cur : Int) / p = (q : Int) := by rw [← hq]; rfl
      rw [hd, hq] at HNX
      clear hd hq
      have HMa := Lib.hid (hm.out.alloc (.cells #[.int .i64 d] 3))
      have HNW := Lib.hid (new_one (K := .i64) (x := (d : Int)) (w := wr.alloc (.cells #[.int .i64 d] 3)) (b := wr.heap.size) (o := 0) (by exact (Row.new (E := 3) (K := .i64) wr [(d : Int)]).cell (i := 0) (by simp)))
      have HBB := Lib.hid (show w.heap.size ≤ (wr.alloc (.cells #[.int .i64 d] 3)).heap.size by have := hbl.out.size; simp; omega)
      have H1 := Lib.hid (show ((ints l).length + [(d : Int)].length) * 8 ≤ 140737488355328 by rw [FFld.ints_len]; simp; omega)
      have H2 := Lib.hid (show (ints l).length + [(d : Int)].length ≤ maxLen by rw [FFld.ints_len]; unfold maxLen; simp; omega)
      have hOwn := Kept.mk hm.out.own
      go_wp2_with (at_builtin; refine wpList_append_mine _ rfl _ _ 34 rfl 3 .i64 8 Try.underlying34 info_i64 w.heap.size _ (ints l) rfl HMa.out HBB.out ⟨wr.heap.size, 0, none⟩ 1 1 [(d : Int)] rfl rfl HNW.out H1.out H2.out ?_)
      intro v' w5 hm5 hg5 hn5
      have HM5 := Kept.mk hm5
      have HB5 := Kept.mk (hbl.out.grown (growTrans (World.grownBy_alloc wr (.cells #[.int .i64 d] 3) _) hg5) hbl.out.size (fun j hj => (hOwn.out j hj).1))
      clear hm5 hg5 hn5
      go_wp2
      go_roundw
      case rel => exact ⟨q, l ++ [d], rfl, by omega, by simp; omega, HNX, by rw [FFld.ints_append]; exact HM5, HB5⟩
      case measure => simp [intOf] <;> omega
    · have : cur = 0 := by omega
      subst this
      go_wp2
      go_ret
      exact ⟨hbl.out, _, _, rfl, hm.out, hat.out.done⟩
set_option maxRecDepth 20000 in
set_option maxHeartbeats 1000000 in
theorem rnumber_any (v : Value) (l : List Nat) (p : Nat) (w : World) (hs : Sl .i64 w v (ints l)) (hlt : ∀ c ∈ l, c < p) (hp : 2 ≤ p) (hp1 : p ≤ 65536) (hb : p ^ l.length ≤ 1099511627776) :
    Calls Try.prog 122 #[v, .int .i64 p] w (fun e w' => w = w' ∧ e = .returned (.int .i64 (FFld.num p l : Nat))) := by
  obtain ⟨ao, cap, rfl, hcap, hmax, hcell⟩ := hs
  rw [FFld.ints_len] at hcap hcell
  rw [FFld.ints_len]
  have hll : l.length ≤ 40 := FFld.len_of_pow (Nat.pow_le_pow_left hp _) hb
  have HC := Kept.mk hcell
  have HL := Kept.mk hlt
  have HB := Kept.mk hb
  clear hcell hlt hb hmax
  go_enter Try.func122, Try.ntmps122
  go_wp2
  go_loopw [5, 6] (fun nv iv wr => ∃ (i : Nat) (z : Int) (m : Nat), i ≤ l.length ∧ iv = .int .i64 z ∧ Hid (z + 1 = i) ∧ nv = .int .i64 m ∧ Kept (m = FFld.num p (l.drop i)) ∧ w = wr) (fun _ iv _ => (intOf iv + 1).toNat)
  case atStart => exact ⟨l.length, (l.length : Int) - 1, 0, Nat.le_refl _, rfl, by show (_ : Int) - 1 + 1 = _; omega, rfl, ⟨by simp [FFld.num]⟩, rfl⟩
  case round =>
    obtain ⟨i, z, m, hi, rfl, hz, rfl, hm, rfl⟩ := hrel
    by_cases h0 : 0 < i
    · obtain ⟨i, rfl⟩ : ∃ j, i = j + 1 := ⟨i - 1, by omega⟩
      obtain rfl : z = (i : Int) := by have := hz.out; omega
      clear hz
      obtain ⟨b, o, rfl, hbs, hcl⟩ := HC.out i (by omega)
      rw [FFld.ints_get] at hcl
      have HN := FFld.num_drop (p := p) (l := l) (i := i) (by omega)
      have hlt2 : FFld.num p (l.drop i) < 1099511627776 := by
        refine Nat.lt_of_lt_of_le (FFld.num_drop_lt (by omega) HL.out i) (Nat.le_trans (Nat.pow_le_pow_right (by omega) (by omega)) HB.out)
      rw [← hm.out] at HN
      obtain ⟨d, hd⟩ : ∃ d, l[i]?.getD 0 = d := ⟨_, rfl⟩
      obtain ⟨m', hm'⟩ : ∃ m', FFld.num p (l.drop i) = m' := ⟨_, rfl⟩
      rw [hd] at hcl HN
      rw [hm'] at HN hlt2
      have hmp0 : (0 : Int) ≤ (m : Int) * p := imul_nn (by omega) (by omega)
      have e1 : (m' : Int) = d + (m : Int) * p := by rw [HN, Nat.mul_comm]; simp
      have HM' := Kept.mk hm'.symm
      have e2 : wrap64 ((m : Int) * p) = (m : Int) * p := w64 (by omega) (by omega)
      have e4 : (m : Int) * p + d = m' := by omega
      have e3 : Kept (wrap64 ((m : Int) * p + d) = m') := ⟨by rw [e4]; exact w64 (by omega) (by omega)⟩
      clear e4
      clear hd hm' HN
      clear e1 hmp0
      go_wp2
      go_roundw
      case rel => exact ⟨i, (i : Int) - 1, m', by omega, by go_num, by show (_ : Int) - 1 + 1 = _; omega, congrArg (Value.int .i64) e3.out, HM', trivial⟩
      case measure => simp [intOf] <;> omega
    · have : i = 0 := by omega
      subst this
      obtain rfl : z = -1 := by have := hz.out; omega
      have hme := hm.out
      rw [List.drop_zero] at hme
      clear hz hm
      go_wp2
      go_ret
      exact ⟨rfl, by rw [hme]; rfl⟩
end Go.Proofs.Ytfhhnfpapgfnmaa
