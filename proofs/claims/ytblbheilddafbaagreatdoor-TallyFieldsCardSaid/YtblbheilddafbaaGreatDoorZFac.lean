/-
  Texts of the proof, merged by program: Pwm Bin Pwx Pow Mcut Fac.
-/
import Derived.Test.YtblbheilddafbaaGreatDoorZ5
import Derived.Test.YtblbheilddafbaaGreatDoorZ19
import Derived.Test.YtblbheilddafbaaGreatDoorZ9
import Derived.Lib.ItoaNum
set_option linter.unusedVariables false
set_option linter.unusedSimpArgs false
namespace Go.Proofs.YtblbheilddafbaaGreatDoor
open Go Go.RowKit
theorem smallB_mono {m n : Nat} (h : smallB m = false) (hmn : m ≤ n) : smallB n = false := by
  unfold smallB at *
  simp only [decide_eq_false_iff_not] at *
  omega
theorem smallB_anti {m n : Nat} (h : smallB n = true) (hmn : m ≤ n) : smallB m = true := by
  cases hm : smallB m with
  | true => rfl
  | false => rw [smallB_mono hm hmn] at h; cases h
theorem smallB_one : smallB ((1 : Nat) : Int) = true := by
  unfold smallB
  have := Dg.pow_mono (show (0 : Int) < 2 by omega) (show 1 ≤ maxBits by decide)
  simp only [decide_eq_true_eq]
  omega
theorem IntV.fit {L : Nat} {w : World} {v : Value} {z : Int} (h : IntV L w v z) (hs : smallB z.natAbs = true) : IntV 625 w v z := by
  obtain ⟨sb, sv, e, h1, xs, a1, a2, a3, a4, a5⟩ := h
  refine ⟨sb, sv, e, h1, xs, a1, a2, a3, a4, ?_⟩
  refine Dg.len_le_of_val_lt (by decide) a2 a3 ?_
  rw [a4]
  have h2 : (z.natAbs : Int) < 2 ^ maxBits := of_decide_eq_true hs
  rw [show maxBits = 64 * 625 from rfl, Int.pow_mul] at h2
  exact h2
/-- A power of an integer that is too large stays so. -/
theorem pow_large {a : Int} {m n : Nat} (h : smallB (a ^ m).natAbs = false) (hmn : m ≤ n) : smallB (a ^ n).natAbs = false := by
  refine smallB_mono h ?_
  rw [Int.natAbs_pow, Int.natAbs_pow]
  by_cases h0 : a.natAbs = 0
  · exfalso
    rw [Int.natAbs_pow, h0] at h
    have h1 : (0 : Nat) ^ m ≤ 1 := by
      cases m with
      | zero => simp
      | succ m => simp
    rw [smallB_anti smallB_one h1] at h
    cases h
  · exact Nat.pow_le_pow_right (by omega) hmn
theorem pw_half (n k : Nat) : n / 2 ^ k = 2 * (n / 2 ^ (k + 1)) + n / 2 ^ k % 2 := by
  rw [Nat.pow_succ, ← Nat.div_div_eq_div_mul]
  omega
theorem pw_even {a z : Int} {n k : Nat} (h : z = a ^ (n / 2 ^ (k + 1))) (h0 : n / 2 ^ k % 2 = 0) : z * z = a ^ (n / 2 ^ k) := by
  rw [pw_half n k, h0, h, ← Int.pow_add]
  congr 1
  omega
theorem pw_odd {a z : Int} {n k : Nat} (h : z = a ^ (n / 2 ^ (k + 1))) (h0 : n / 2 ^ k % 2 = 1) : z * z * a = a ^ (n / 2 ^ k) := by
  rw [pw_half n k, h0, h, ← Int.pow_add, Int.pow_succ]
  congr 2
  omega
theorem pw_big2 {a z : Int} {n k : Nat} (h : z = a ^ (n / 2 ^ (k + 1))) (hb : smallB (z * z).natAbs = false) : smallB (a ^ n).natAbs = false := by
  rw [h, ← Int.pow_add] at hb
  refine pow_large hb ?_
  have h1 := pw_half n k
  have h2 : n / 2 ^ k ≤ n := Nat.div_le_self _ _
  omega
theorem pw_big3 {a z : Int} {n k : Nat} (h : z = a ^ (n / 2 ^ (k + 1))) (h0 : n / 2 ^ k % 2 = 1) (hb : smallB (z * z * a).natAbs = false) : smallB (a ^ n).natAbs = false := by
  rw [pw_odd h h0] at hb
  exact pow_large hb (Nat.div_le_self _ _)
end Go.Proofs.YtblbheilddafbaaGreatDoor

set_option linter.unusedVariables false
set_option linter.unusedSimpArgs false
namespace Go.Proofs.YtblbheilddafbaaGreatDoor
open Go Go.RowKit
/-- Binomials. -/
def bin : Nat → Nat → Nat
  | _, 0 => 1
  | 0, _ + 1 => 0
  | n + 1, k + 1 => bin n k + bin n (k + 1)
theorem bin_zero (n : Nat) : bin n 0 = 1 := by cases n <;> rfl
theorem bin_out : ∀ {n k : Nat}, n < k → bin n k = 0
  | 0, k + 1, _ => rfl
  | n + 1, k + 1, h => by
    show bin n k + bin n (k + 1) = 0
    rw [bin_out (by omega), bin_out (by omega)]
theorem bin_self : ∀ n : Nat, bin n n = 1
  | 0 => rfl
  | n + 1 => by
    show bin n n + bin n (n + 1) = 1
    rw [bin_self n, bin_out (by omega)]
/-- What one more element makes of it. -/
theorem bin_step : ∀ (n k : Nat), bin n (k + 1) * (k + 1) = bin n k * (n - k)
  | 0, 0 => rfl
  | 0, k + 1 => by show 0 * _ = 0 * _; simp
  | n + 1, 0 => by
    have h : bin n 1 * 1 = bin n 0 * (n - 0) := bin_step n 0
    rw [bin_zero] at h
    show (bin n 0 + bin n 1) * 1 = bin (n + 1) 0 * (n + 1)
    rw [bin_zero, bin_zero]
    omega
  | n + 1, k + 1 => by
    have h1 := bin_step n k
    have h2 := bin_step n (k + 1)
    show (bin n (k + 1) + bin n (k + 1 + 1)) * (k + 1 + 1) = (bin n k + bin n (k + 1)) * (n + 1 - (k + 1))
    rw [show n + 1 - (k + 1) = n - k by omega, Nat.add_mul, Nat.add_mul, h2]
    by_cases hk : k + 1 ≤ n
    · have e1 : bin n (k + 1) * (k + 1 + 1) = bin n (k + 1) * (k + 1) + bin n (k + 1) := Nat.mul_succ _ _
      have e2 : bin n (k + 1) * (n - k) = bin n (k + 1) * (n - (k + 1)) + bin n (k + 1) := by rw [show n - k = n - (k + 1) + 1 by omega]; exact Nat.mul_succ _ _
      rw [e1, e2, h1]
      omega
    · rw [bin_out (show n < k + 1 by omega)] at h1 ⊢
      rw [← h1]
      simp
def fac : Nat → Nat
  | 0 => 1
  | n + 1 => fac n * (n + 1)
theorem fac_pos : ∀ n : Nat, 0 < fac n
  | 0 => by decide
  | n + 1 => Nat.mul_pos (fac_pos n) (by omega)
theorem fac_mono {m n : Nat} (h : m ≤ n) : fac m ≤ fac n := by
  induction n with
  | zero => obtain rfl : m = 0 := by omega
            exact Nat.le_refl _
  | succ n ih =>
    by_cases e : m = n + 1
    · subst e; exact Nat.le_refl _
    · refine Nat.le_trans (ih (by omega)) ?_
      show fac n ≤ fac n * (n + 1)
      exact Nat.le_mul_of_pos_right _ (by omega)
/-- Binomials are quotients of factorials. -/
theorem bin_fac : ∀ {n k : Nat}, k ≤ n → bin n k * fac k * fac (n - k) = fac n := by
  intro n k
  induction k with
  | zero => intro _; rw [bin_zero]; show 1 * 1 * fac n = fac n; simp
  | succ k ih =>
    intro h
    have h1 := ih (by omega)
    have h2 := bin_step n k
    have e : n - k = n - (k + 1) + 1 := by omega
    rw [e] at h1
    show bin n (k + 1) * (fac k * (k + 1)) * fac (n - (k + 1)) = fac n
    rw [← h1]
    show bin n (k + 1) * (fac k * (k + 1)) * fac (n - (k + 1)) = bin n k * fac k * (fac (n - (k + 1)) * (n - (k + 1) + 1))
    rw [← e]
    have : bin n (k + 1) * (fac k * (k + 1)) * fac (n - (k + 1)) = (bin n (k + 1) * (k + 1)) * (fac k * fac (n - (k + 1))) := by
      simp only [Nat.mul_comm, Nat.mul_left_comm, Nat.mul_assoc]
    rw [this, h2]
    simp only [Nat.mul_comm, Nat.mul_left_comm, Nat.mul_assoc]
theorem bin_symm {n k : Nat} (h : k ≤ n) : bin n (n - k) = bin n k := by
  have h1 := bin_fac h
  have h2 := bin_fac (show n - k ≤ n by omega)
  rw [show n - (n - k) = k by omega] at h2
  have e : bin n (n - k) * fac (n - k) * fac k = bin n (n - k) * (fac k * fac (n - k)) := by
    simp only [Nat.mul_comm, Nat.mul_left_comm, Nat.mul_assoc]
  rw [e, ← h1, Nat.mul_assoc] at h2
  exact Nat.eq_of_mul_eq_mul_right (Nat.mul_pos (fac_pos k) (fac_pos (n - k))) h2
/-- The sum of the first binomials of a row. -/
def binSum (n : Nat) : Nat → Nat
  | 0 => 0
  | k + 1 => binSum n k + bin n k
theorem binSum_succ (n : Nat) : ∀ k : Nat, binSum (n + 1) (k + 1) = binSum n (k + 1) + binSum n k
  | 0 => by show 0 + bin (n + 1) 0 = 0 + bin n 0 + 0; rw [bin_zero, bin_zero]
  | k + 1 => by
    show binSum (n + 1) (k + 1) + bin (n + 1) (k + 1) = binSum n (k + 1) + bin n (k + 1) + binSum n (k + 1)
    rw [binSum_succ n k]
    show binSum n (k + 1) + binSum n k + (bin n k + bin n (k + 1)) = _
    show _ = binSum n (k + 1) + bin n (k + 1) + (binSum n k + bin n k)
    omega
theorem binSum_row : ∀ n : Nat, binSum n (n + 1) = 2 ^ n
  | 0 => rfl
  | n + 1 => by
    have h := binSum_succ n (n + 1)
    have h1 := binSum_row n
    have h2 : binSum n (n + 1 + 1) = binSum n (n + 1) + bin n (n + 1) := rfl
    rw [bin_out (by omega)] at h2
    rw [h, h2, h1, Nat.pow_succ]
    omega
theorem binSum_le (n : Nat) : ∀ {k m : Nat}, k ≤ m → binSum n k ≤ binSum n m := by
  intro k m h
  induction m with
  | zero => obtain rfl : k = 0 := by omega
            exact Nat.le_refl _
  | succ m ih =>
    by_cases e : k = m + 1
    · subst e; exact Nat.le_refl _
    · exact Nat.le_trans (ih (by omega)) (Nat.le_add_right _ _)
theorem bin_le (n k : Nat) : bin n k ≤ 2 ^ n := by
  by_cases h : k ≤ n
  · have h1 := binSum_le n (show k + 1 ≤ n + 1 by omega)
    rw [binSum_row] at h1
    have : binSum n (k + 1) = binSum n k + bin n k := rfl
    omega
  · rw [bin_out (by omega)]; exact Nat.zero_le _
end Go.Proofs.YtblbheilddafbaaGreatDoor

set_option linter.unusedVariables false
set_option linter.unusedSimpArgs false
namespace Go.Proofs.YtblbheilddafbaaGreatDoor
open Go Go.RowKit
theorem Bxs.grown {w0 W W' : World} {os : List Obj} {row : Option Nat} (h : Bxs w0 os W) (hg : W.grownBy W' row) (hr : ∀ k, row = some k → w0.heap.size + os.length ≤ k) : Bxs w0 os W' :=
  ⟨h.1.grown hg h.1.size (fun k hk => by have := hr k hk; omega), Nat.le_trans h.2.1 hg.size, fun i o hi => by
    have hl := h.2.1
    have hi' : i < os.length := (List.getElem?_eq_some_iff.1 hi).1
    rw [hg.block (w0.heap.size + i) (by omega) (fun e => by have := hr _ e.symm; omega)]
    exact h.2.2 i o hi⟩
/-- The call returns z, and no error. -/
def RetOk (L : Nat) (w : World) (z : Int) (e : Ending) (w' : World) : Prop := Below w.heap.size w w' ∧ ∃ s ao k c, e = .returned (.tuple #[.agg #[.bool s, .slice ao k c], .int .i64 0]) ∧ IntV L w' (.agg #[.bool s, .slice ao k c]) z
theorem YdRet.yes {L : Nat} {w : World} {z : Int} {e : Ending} {w' : World} (h : YdRet L w z e w') (hs : smallB z.natAbs = true) : RetOk 625 w z e w' := by
  obtain ⟨hb, ⟨hsm, v', rfl, hI⟩ | ⟨hsm, _⟩⟩ := h
  · obtain ⟨s, sv, rfl, h1, hn⟩ := hI.fit hsm
    obtain ⟨ao, k, c, rfl⟩ := hn.form
    exact ⟨hb, s, ao, k, c, rfl, _, _, rfl, h1, hn⟩
  · rw [hs] at hsm; cases hsm
theorem YdRet.no {L : Nat} {w : World} {z : Int} {e : Ending} {w' : World} (h : YdRet L w z e w') (hs : smallB z.natAbs = false) : Below w.heap.size w w' ∧ e = .returned (.tuple #[.agg #[.bool false, .slice none 0 0], .int .i64 11]) := by
  obtain ⟨hb, ⟨hsm, _⟩ | ⟨hsm, he⟩⟩ := h
  · rw [hs] at hsm; cases hsm
  · exact ⟨hb, he⟩
end Go.Proofs.YtblbheilddafbaaGreatDoor

set_option linter.unusedVariables false
set_option linter.unusedSimpArgs false
namespace Go.Proofs.YtblbheilddafbaaGreatDoor
open Go Go.RowKit
theorem enter_pow (cap : Array Value) (W : World) : (callFunc 105 cap).run Tryz.prog W = .ok (.enter 105 cap) W := by
  kernel_rfl
theorem bitsLen (n : Nat) (w : World) (hn : n ≤ 10000) :
    Calls Tryz.prog 106 #[.int .u64 n] w fun e w' => ∃ l : Nat, e = .returned (.int .i64 l) ∧ w = w' ∧ n < 2 ^ l ∧ l ≤ 14 := by
  refine (Tryz.bits_Len (n : Int) w (by omega) (by omega)).mono ?_
  rintro e w' ⟨rfl, rfl⟩
  refine ⟨Lib.bitLen n, rfl, rfl, ?_, Lib.bitLen_le n 14 (by omega) (by omega)⟩
  by_cases h0 : n = 0
  · subst h0
    exact Nat.pos_of_ne_zero (by simp)
  · exact (Lib.bitLenAux_bounds 64 n (by omega) h0).2.2
theorem bit_of (n k : Nat) (hn : n ≤ 10000) : (bits BinOp.and IntKind.i64 ((n : Int) / 2 ^ k) 1 == 1) = decide (n / 2 ^ k % 2 = 1) := by
  have e1 : (n : Int) / 2 ^ k = ((n / 2 ^ k : Nat) : Int) := by
    rw [Int.natCast_ediv, Int.natCast_pow]; rfl
  have hle : n / 2 ^ k ≤ n := Nat.div_le_self _ _
  rw [e1]
  clear e1
  generalize n / 2 ^ k = m at *
  have h := bits_mask .i64 63 (by decide) (fun n h0 h1 => by rw [show (2 : Int) ^ 63 = 9223372036854775808 from rfl] at h1; rw [IntKind.wrap_i64]; omega) 1 (by decide) (m : Int) (by omega) (by rw [show (2 : Int) ^ 63 = 9223372036854775808 from rfl]; omega)
  have e2 : ((2 : Int) ^ 1 - 1) = 1 := by decide
  rw [e2] at h
  rw [h]
  by_cases hm : m % 2 = 1
  · rw [decide_eq_true hm]
    simp
    omega
  · rw [decide_eq_false hm]
    simp
    omega
theorem box_store {L : Nat} {w W : World} {os : List Obj} {g : Nat} {s x : Bool} {ao bo : Option Addr} {k c k' c' : Nat} {z : Int} {T : TypeId} (hx : Bxs w os W) (hg : W.heap[g]? = some (.cells #[.bool x, .slice bo k' c'] T (0, 0)))
    (hgs : w.heap.size + os.length ≤ g) (hI : IntV L W (.agg #[.bool s, .slice ao k c]) z) :
    Bxs w os ((W.setCell ⟨g, 0, none⟩ (.bool s)).setCell ⟨g, 1, none⟩ (.slice ao k c)) ∧ ((W.setCell ⟨g, 0, none⟩ (.bool s)).setCell ⟨g, 1, none⟩ (.slice ao k c)).heap[g]? = some (.cells #[.bool s, .slice ao k c] T (0, 0)) ∧
      IntV L ((W.setCell ⟨g, 0, none⟩ (.bool s)).setCell ⟨g, 1, none⟩ (.slice ao k c)) (.agg #[.bool s, .slice ao k c]) z := by
  obtain ⟨sb, sv, e, h1, hn⟩ := hI
  simp only [Value.agg.injEq, Array.mk.injEq, List.cons.injEq, Value.bool.injEq, and_true] at e
  obtain ⟨rfl, rfl⟩ := e
  exact ⟨hx.grown (growSet (growSet (growRefl W (some g)) 0 _) 1 _) (fun j hj => by cases hj; exact hgs), two_set hg _ _, _, _, rfl, h1, hn.box hg _ _⟩
set_option maxRecDepth 20000 in
set_option maxHeartbeats 2000000 in
theorem pow1_any {La : Nat} {a : Int} {n : Nat} (p q : Nat) (sa : Bool) (ao : Option Addr) (ka ca : Nat) (w : World) (hp : w.heap[p]? = some (.cells #[.bool sa, .slice ao ka ca] 30 (0, 0))) (hq : w.cell? ⟨q, 0, none⟩ = some (.int .i64 n))
    (hql : q < w.heap.size) (ha : IntV La w (.agg #[.bool sa, .slice ao ka ca]) a) (h1 : La ≤ 268435456) (hn : n ≤ 10000) :
    Calls Tryz.prog 105 #[.pointer (some ⟨q, 0, none⟩), .pointer (some ⟨p, 0, none⟩)] w (SmRet 625 w (a ^ n)) := by
  have hpl : p < w.heap.size := (Array.getElem?_eq_some_iff.1 hp).1
  have HP := Kept.mk hp
  have HQ := Kept.mk hq
  have HA := Kept.mk ha
  have HX0 : Kept (Bxs w [.cells #[.bool false, .slice none 0 0] 30] (w.alloc (.cells #[.bool false, .slice none 0 0] 30))) := ⟨(Bxs.start w).alloc (by simp) _⟩
  clear hp hq ha
  go_enter Tryz.func105, Tryz.ntmps105
  go_wp2_with fail
  refine (of_any 1 _ (by omega) (by omega)).mono ?_
  rintro e w1 ⟨hb1, v1, rfl, hI1⟩
  obtain ⟨s1, u1, rfl, hs1, hn1⟩ := hI1
  obtain ⟨o1, k1, c1, rfl⟩ := hn1.form
  have HX1 := Kept.mk (HX0.out.below hb1)
  have HI1 : Kept (IntV 1 w1 (.agg #[.bool s1, .slice o1 k1 c1]) 1) := ⟨⟨_, _, rfl, hs1, hn1⟩⟩
  clear hb1 hs1 hn1
  have HX2 : Kept (Bxs w [.cells #[.bool false, .slice none 0 0] 30] (w1.alloc (.cells #[.bool s1, .slice o1 k1 c1] 30))) := ⟨HX1.out.below ((Below.refl _ _).alloc (Nat.le_refl _) _)⟩
  have HG2 : Kept ((w1.alloc (.cells #[.bool s1, .slice o1 k1 c1] 30)).heap[w1.heap.size]? = some (.cells #[.bool s1, .slice o1 k1 c1] 30 (0, 0))) := ⟨heap_alloc_new w1 _⟩
  have HI2 := Kept.mk ((HI1.out.below ((Below.refl _ _).alloc (Nat.le_refl _) (.cells #[.bool s1, .slice o1 k1 c1] 30))).mono (show 1 ≤ 625 by decide))
  have hgl := HX1.out.l1
  have hq2 := belowCell HX2.out.1 HQ.out
  go_wp2_with fail
  refine (bitsLen n _ hn).mono ?_
  rintro e w2 ⟨l, rfl, rfl, hl, hl14⟩
  have HZ : Kept ((1 : Int) = a ^ (n / 2 ^ l)) := ⟨by rw [Nat.div_eq_of_lt hl, Int.pow_zero]⟩
  clear hl hq2
  go_wp2
  go_loopw [4] (fun j wr => ∃ (k : Nat) (jv z : Int) (s : Bool) (o : Option Addr) (kk c : Nat), k ≤ 14 ∧ Hid (jv + 1 = k) ∧ j = .int .i64 jv ∧ Kept (z = a ^ (n / 2 ^ k)) ∧ Kept (smallB z.natAbs = true) ∧ Kept (Bxs w [.cells #[.bool false, .slice none 0 0] 30] wr) ∧ Kept (wr.heap[w1.heap.size]? = some (.cells #[.bool s, .slice o kk c] 30 (0, 0))) ∧ Kept (IntV 625 wr (.agg #[.bool s, .slice o kk c]) z)) (fun j _ => (intOf j + 1).toNat)
  case atStart => exact ⟨l, (l : Int) - 1, 1, s1, o1, k1, c1, hl14, by show _ - (1 : Int) + 1 = _; omega, rfl, HZ, ⟨smallB_one⟩, HX2, HG2, HI2⟩
  case round =>
    obtain ⟨k, jv, z, s, o, kk, c, hk, hj, rfl, hz, hsz, hx, hg, hI⟩ := hrel
    by_cases h0 : 0 < k
    · obtain ⟨k, rfl⟩ : ∃ j, k = j + 1 := ⟨k - 1, by omega⟩
      obtain rfl : jv = (k : Int) := by have := hj.out; omega
      clear hj
      obtain ⟨a0, a1, f0, f1⟩ := two_cells hg.out
      have hgw : w1.heap.size < wr.heap.size := (Array.getElem?_eq_some_iff.1 hg.out).1
      go_wp2_with fail
      refine (times_any (hI.out) (hI.out) (by decide) (by decide)).mono ?_
      rintro e w3 ⟨hb3, v3, rfl, hI3⟩
      have HX3 := Kept.mk (hx.out.below hb3)
      have HG3 := Kept.mk ((hb3.block _ hgw).trans hg.out)
      have HI3 := Kept.mk hI3
      have s3 := hb3.size
      clear hb3 hI3 a0 a1 f0 f1
      go_wp2_with fail
      refine (small_any HI3.out (by decide)).mono ?_
      rintro e w4 ⟨hb4, hc4⟩
      have HX4 := Kept.mk (HX3.out.below hb4)
      have HG4 := Kept.mk ((hb4.block _ (by omega)).trans HG3.out)
      have s4 := hb4.size
      clear hb4
      rcases hc4 with ⟨hsm, v', rfl, hI4⟩ | ⟨hsm, u, pv, rfl⟩
      · have hI4 := hI4.fit hsm
        obtain ⟨s4', u4, rfl, hs4, hn4⟩ := hI4
        obtain ⟨o4, k4, c4, rfl⟩ := hn4.form
        have HI4 : Kept (IntV 625 w4 (.agg #[.bool s4', .slice o4 k4 c4]) (z * z)) := ⟨⟨_, _, rfl, hs4, hn4⟩⟩
        have HSM := Kept.mk hsm
        obtain ⟨a0, a1, f0, f1⟩ := two_cells HG4.out
        obtain ⟨hx5, hg5, hi5⟩ := box_store HX4.out HG4.out (by simp; omega) HI4.out
        have HX5 := Kept.mk hx5
        have HG5 := Kept.mk hg5
        have HI5 := Kept.mk hi5
        have hq5 := belowCell hx5.1 HQ.out
        clear hs4 hn4 hsm hx5 hg5 hi5
        by_cases hodd : n / 2 ^ k % 2 = 1
        · have hbit : (bits BinOp.and IntKind.i64 ((n : Int) / 2 ^ k) 1 == 1) = true := by rw [bit_of n k hn]; exact decide_eq_true hodd
          have HP5 := Kept.mk ((HX5.out.1.block _ hpl).trans HP.out)
          obtain ⟨p0, p1, _, _⟩ := two_cells HP5.out
          obtain ⟨q0, q1, g0, g1⟩ := two_cells HG5.out
          have HODD := Kept.mk hodd
          clear hodd
          go_wp2_with fail
          refine (times_any (HI5.out) (HA.out.below HX5.out.1) (by decide) (by omega)).mono ?_
          rintro e w6 ⟨hb6, v6, rfl, hI6⟩
          have HX6 := Kept.mk (HX5.out.below hb6)
          have s5 : w1.heap.size < ((w4.setCell ⟨w1.heap.size, 0, none⟩ (.bool s4')).setCell ⟨w1.heap.size, 1, none⟩ (.slice o4 k4 c4)).heap.size := by simp; omega
          have HG6 := Kept.mk ((hb6.block _ s5).trans HG5.out)
          have s6 := hb6.size
          have HI6 := Kept.mk hI6
          clear hb6 hI6 p0 p1 q0 q1 a0 a1 hq5 g0 g1 f0 f1
          go_wp2_with fail
          refine (small_any HI6.out (by omega)).mono ?_
          rintro e w7 ⟨hb7, hc7⟩
          have HX7 := Kept.mk (HX6.out.below hb7)
          have HG7 := Kept.mk ((hb7.block _ (by omega)).trans HG6.out)
          have s7 := hb7.size
          clear hb7
          rcases hc7 with ⟨hsm, v', rfl, hI7⟩ | ⟨hsm, u, pv, rfl⟩
          · have hI7 := hI7.fit hsm
            obtain ⟨s7', u7, rfl, hs7, hn7⟩ := hI7
            obtain ⟨o7, k7, c7, rfl⟩ := hn7.form
            have HI7 : Kept (IntV 625 w7 (.agg #[.bool s7', .slice o7 k7 c7]) (z * z * a)) := ⟨⟨_, _, rfl, hs7, hn7⟩⟩
            have HSM7 := Kept.mk hsm
            obtain ⟨a0, a1, f0, f1⟩ := two_cells HG7.out
            obtain ⟨hx8, hg8, hi8⟩ := box_store HX7.out HG7.out (by simp; omega) HI7.out
            have HX8 := Kept.mk hx8
            have HG8 := Kept.mk hg8
            have HI8 := Kept.mk hi8
            have HZ8 := Kept.mk (pw_odd hz.out HODD.out)
            clear hs7 hn7 hsm hx8 hg8 hi8
            go_wp2
            go_roundw
            case rel => exact ⟨k, (k : Int) - 1, z * z * a, s7', o7, k7, c7, by omega, by show _ - (1 : Int) + 1 = _; omega, rfl, HZ8, HSM7, HX8, HG8, HI8⟩
            case measure => simp [intOf] <;> omega
          · have hbg := Kept.mk (pw_big3 hz.out HODD.out hsm)
            clear hsm
            go_wp2
            exact ⟨rfl, HX7.out.1, .inr ⟨hbg.out, _, _, rfl⟩⟩
        · have hbit : (bits BinOp.and IntKind.i64 ((n : Int) / 2 ^ k) 1 == 1) = false := by rw [bit_of n k hn]; exact decide_eq_false hodd
          have HZ8 := Kept.mk (pw_even hz.out (by omega))
          clear hodd
          go_wp2
          go_roundw
          case rel => exact ⟨k, (k : Int) - 1, z * z, s4', o4, k4, c4, by omega, by show _ - (1 : Int) + 1 = _; omega, rfl, HZ8, HSM, HX5, HG5, HI5⟩
          case measure => simp [intOf] <;> omega
      · have hbg := Kept.mk (pw_big2 hz.out hsm)
        clear hsm
        go_wp2
        exact ⟨rfl, HX4.out.1, .inr ⟨hbg.out, _, _, rfl⟩⟩
    · obtain rfl : k = 0 := by omega
      obtain rfl : jv = -1 := by have := hj.out; omega
      have hz' : z = a ^ n := by have := hz.out; simpa using this
      have HZ := Kept.mk hz'
      obtain ⟨a0, a1, f0, f1⟩ := two_cells hg.out
      have hbx := hx.out.b0
      obtain ⟨c0, c1, g0, g1⟩ := two_cells hbx
      have hszw := hx.out.l1
      obtain ⟨sb, sv, e, hs9, hn9⟩ := hI.out
      simp only [Value.agg.injEq, Array.mk.injEq, List.cons.injEq, Value.bool.injEq, and_true] at e
      obtain ⟨rfl, rfl⟩ := e
      have HE := Kept.mk (int_end (w := w) (s := s) (ao := o) (k := kk) (c := c) hbx hx.out.1 (Nat.le_refl _) hs9 hn9)
      clear hj hz' hbx hs9 hn9
      go_wp2
      exact bodyPost_ret (v := .agg #[.bool s, .slice o kk c]) (by simp [results, Tryz.results105, go_sem, HE.out.2.1, HE.out.2.2]) rfl ⟨HE.out.1.1, .inl ⟨by rw [← HZ.out]; exact hsz.out, by rw [← HZ.out]; exact HE.out.1.2⟩⟩
set_option maxRecDepth 20000 in
set_option maxHeartbeats 2000000 in
theorem pow_any {La : Nat} {va : Value} {a : Int} {n : Nat} {w : World} (ha : IntV La w va a) (h1 : La ≤ 268435456) (hn : n ≤ 10000) :
    Calls Tryz.prog 46 #[va, .int .i64 n] w (YdRet 625 w (a ^ n)) := by
  have hmf : ∀ (fn : Fn) (first cap : Array Value) (w : World), (Instr.makeFunc fn first cap).run Tryz.prog w = .ok (.func fn first cap) w := fun _ _ _ _ => rfl
  have HA := Kept.mk ha
  obtain ⟨sa, ua, rfl, hsa, hna⟩ := ha
  obtain ⟨ao, ka, ca, rfl⟩ := hna.form
  have HX0 : Kept (Bxs w [.cells #[.bool sa, .slice ao ka ca] 30, .cells #[.int .i64 n] 3, .cells #[.bool false, .slice none 0 0] 30] (((w.alloc (.cells #[.bool sa, .slice ao ka ca] 30)).alloc (.cells #[.int .i64 n] 3)).alloc (.cells #[.bool false, .slice none 0 0] 30))) := ⟨(((Bxs.start w).alloc (by simp) _).alloc (by simp) _).alloc (by simp) _⟩
  clear hsa hna
  go_enter Tryz.func46, Tryz.ntmps46
  go_wp2_with fail
  refine (yield_any (L := 625) (z := a ^ n) _ _ _ (enter_pow _) (fun W hW => pow1_any _ _ sa ao ka ca W (HX0.out.below hW).b0 (by rw [cell_of_row W _ 0 _ _ (0, 0) (HX0.out.below hW).b1]; rfl) (HX0.out.below hW).l2 (HA.out.below (HX0.out.below hW).1) h1 hn)).mono ?_
  rintro e w1 hR
  obtain ⟨s1, o1, k1, c1, err, rfl, hb1, hY⟩ := hR.one
  have HX1 := Kept.mk (HX0.out.below hb1)
  have hbx := HX1.out.b2
  obtain ⟨c0, c1', f0, f1⟩ := two_cells hbx
  have hsz := HX1.out.l3
  have HE := Kept.mk (one_end (w := w) hbx HX1.out.1 (by omega) hY)
  clear hb1 hbx hR hY
  go_wp2
  exact bodyPost_ret (v := .tuple #[.agg #[.bool s1, .slice o1 k1 c1], .int .i64 err]) (by simp [results, Tryz.results46, go_sem, HE.out.2.1, HE.out.2.2]) rfl HE.out.1
end Go.Proofs.YtblbheilddafbaaGreatDoor

set_option linter.unusedVariables false
set_option linter.unusedSimpArgs false
namespace Go.Proofs.YtblbheilddafbaaGreatDoor
open Go Go.RowKit
theorem Mine.takes {E : TypeId} {K : IntKind} {B : Nat} {w : World} {ao : Option Addr} {cap k : Nat} {xs : List Int} (h : Mine E K B w (.slice ao xs.length cap) xs) (hk : k ≤ xs.length) : Mine E K B w (.slice ao k k) (xs.take k) := by
  rcases h with ⟨e, rfl⟩ | ⟨g, cap', cur, e, hB, hg, hn, hc, hm, ht⟩
  · simp only [Value.slice.injEq] at e
    obtain ⟨rfl, _, _⟩ := e
    simp at hk
    subst hk
    exact .inl ⟨rfl, by simp⟩
  · simp only [Value.slice.injEq] at e
    obtain ⟨rfl, _, rfl⟩ := e
    refine .inr ⟨g, k, cur, by simp [Nat.min_eq_left hk], hB, hg, by simp [Nat.min_eq_left hk], by omega, by omega, ?_⟩
    rw [List.length_take, Nat.min_eq_left hk, List.map_take, ← ht, List.take_take, Nat.min_eq_left hk]
theorem Row.mine {E : TypeId} {K : IntKind} {w : World} {g B n : Nat} {xs : List Int} (h : Row E K w g xs) (hn : n = xs.length) (hm : n ≤ maxLen) (hB : B ≤ g) : Mine E K B w (.slice (some ⟨g, 0, none⟩) n n) xs := by
  subst hn
  refine .inr ⟨g, _, _, rfl, hB, h, Nat.le_refl _, by simp, hm, ?_⟩
  simp only [List.toList_toArray]
  exact List.take_of_length_le (by simp)
set_option maxHeartbeats 400000 in
theorem cut_mine (B : Nat) (v : Value) (xs : List Int) (w : World) (hM : Mine 104 .u64 B w v xs) :
    Calls Tryz.prog 112 #[v] w (fun e w' => w = w' ∧ ∃ v', e = .returned v' ∧ Mine 104 .u64 B w v' (Dg.cut xs) ∧ ∀ k, v'.ownBlock = some k → v.ownBlock = some k) := by
  have HM := Kept.mk hM
  obtain ⟨ao, cap, rfl, hcap, hmax, hc⟩ := hM.sl
  clear hM
  have hmax' := hmax
  unfold maxLen at hmax
  go_enter Tryz.func112, Tryz.ntmps112
  go_wp2
  go_loop [3] (fun n => ∃ k : Nat, k ≤ xs.length ∧ n = .int .i64 k ∧ Hid (∀ i, k ≤ i → xs[i]?.getD 0 = 0)) (fun n => (intOf n).toNat)
  case atStart => exact ⟨xs.length, Nat.le_refl _, rfl, fun i hi => by simp [hi]⟩
  case round =>
    obtain ⟨k, hk, rfl, hz⟩ := hrel
    by_cases h0 : 0 < k
    · obtain ⟨b, o, rfl, hb, hcell⟩ := hc (k-1) (by omega)
      obtain ⟨k, rfl⟩ : ∃ j, k = j+1 := ⟨k - 1, by omega⟩
      obtain ⟨x, hx⟩ : ∃ x, x = xs[k]?.getD 0 := ⟨_, rfl⟩
      simp only [Nat.add_sub_cancel] at hcell
      rw [← hx] at hcell
      have HX := Lib.hid hx
      clear hx
      go_wp2
      · have h1 : (x == 0) = true := by assumption
        refine ⟨⟨k, by omega, rfl, fun i hi => ?_⟩, by simp [intOf]⟩
        by_cases e : i = k
        · rw [e, ← HX.out]; simpa using h1
        · exact hz.out i (by omega)
      · have h1 : (x == 0) = false := by assumption
        go_ret
        refine ⟨rfl, _, rfl, ?_⟩
        rw [Dg.cut_eq xs (k + 1) hz.out (Or.inr (by simpa [← HX.out] using h1))]
        exact ⟨HM.out.takes hk, fun k h => h⟩
    · obtain rfl : k = 0 := by omega
      go_wp2
      go_ret
      refine ⟨rfl, _, rfl, ?_⟩
      rw [Dg.cut_eq xs 0 hz.out (Or.inl rfl)]
      exact ⟨.inl ⟨rfl, by simp⟩, fun k h => by simp [Value.ownBlock] at h⟩
theorem oneWord_mine (x : Int) (w : World) (h0 : 0 ≤ x) (h1 : x < 18446744073709551616) :
    Calls Tryz.prog 90 #[.int .u64 x] w fun e w' => Below w.heap.size w w' ∧ ∃ v' xs, e = .returned v' ∧ Mine 104 .u64 w.heap.size w' v' xs ∧ Dg.Wf BW xs ∧ Dg.Nz xs ∧ Dg.val BW xs = x ∧ xs.length ≤ 1 := by
  have hS := Kept.mk ((Row.new (E := 104) (K := .u64) w [x]).mine (B := w.heap.size) (n := 1) rfl (by unfold maxLen; omega) (Nat.le_refl _))
  have hb : Below w.heap.size w (w.alloc (.cells #[.int .u64 x] 104)) := (Below.refl _ _).alloc (Nat.le_refl _) _
  have hw := Kept.mk (Dg.Wf.one h0 h1)
  go_enter Tryz.func90, Tryz.ntmps90
  go_wp2_with (go_at_call 112; refine (cut_mine w.heap.size _ _ _ hS.out).mono ?_; rintro e w' ⟨rfl, v', rfl, hn, hob⟩; have HN := Lib.hid hn; clear hob hn)
  go_ret
  exact ⟨hb, _, _, rfl, HN.out, hw.out.cut, Dg.nz_cut _, by rw [Dg.val_cut, Dg.val_one], Nat.le_trans (Dg.cut_len _) (by simp)⟩
def DwMine (L : Nat) (w : World) (m y : Int) (e : Ending) (w' : World) : Prop := ∃ v' ys r, e = .returned (.tuple #[v', .int .u64 r]) ∧ Below w.heap.size w w' ∧ Mine 104 .u64 w.heap.size w' v' ys ∧ Dg.Wf BW ys ∧ Dg.Nz ys ∧ Dg.val BW ys = m / y ∧ ys.length ≤ L ∧ r = m % y
set_option maxHeartbeats 1000000 in
theorem divideByWord_mine (va : Value) (xs : List Int) (y : Int) (w : World) (ha : Sl .u64 w va xs) (hwa : Dg.Wf BW xs) (hy : 0 < y) (hy1 : y < 18446744073709551616) (hmx : xs.length ≤ 1099511627776) :
    Calls Tryz.prog 110 #[va, .int .u64 y] w (DwMine xs.length w (Dg.val BW xs) y) := by
  obtain ⟨ao, cap, rfl, hcap, hmax, hc⟩ := ha
  unfold maxLen at hmax
  go_enter Tryz.func110, Tryz.ntmps110
  go_wp2_with (at_make; refine wpList_make_zeros _ rfl _ _ 28 rfl 104 .u64 Tryz.underlying28 info_u64 _ _ xs.length rfl rfl (by omega) (by omega) (by omega) ?_)
  intro w1 hrow hbel
  go_wp2
  go_loopw [5, 6] (fun c i wr => ∃ (k : Nat) (j r : Int) (T : List Int), k ≤ xs.length ∧ Hid (j + 1 = k) ∧ i = .int .i64 j ∧ c = .int .u64 r ∧ Hid (DwAt xs T k r y) ∧ Row 104 .u64 wr w.heap.size T ∧ Below w.heap.size w wr) (fun _ i _ => (intOf i + 1).toNat)
  case atStart => exact ⟨xs.length, _, 0, _, Nat.le_refl _, by show _ - (1 : Int) + 1 = _; omega, rfl, rfl, DwAt.start xs hy, hrow, hbel⟩
  case round =>
    obtain ⟨k, j, r, T, hk, hj, rfl, rfl, hat, hr, hbl⟩ := hrel
    clear hrow hbel
    have hr0 : 0 ≤ r := hat.out.2.2.1
    have hr1 : r < y := hat.out.2.2.2.1
    have HTL := Lib.hid hat.out.1
    by_cases h0 : 0 < k
    · obtain ⟨k, rfl⟩ : ∃ j, k = j+1 := ⟨k - 1, by omega⟩
      obtain rfl : j = (k : Int) := by have := hj.out; omega
      clear hj
      obtain ⟨b, o, rfl, hbs, hcell⟩ := hc k (by omega)
      obtain ⟨x, hx⟩ : ∃ x, x = xs[k]?.getD 0 := ⟨_, rfl⟩
      have hxb := wfD hwa k
      rw [← hx] at hcell hxb
      have HX := Lib.hid hx
      have hcl := (hbl.cell (p := ⟨b, o + k, none⟩) hbs).trans hcell
      have hcz := hr.cell (i := k) (by have := HTL.out; omega)
      have hfz := hr.free k
      have hki : k < xs.length := by omega
      clear hx hcell hc
      go_wp2_with fail
      refine (div64_any r x y _ hr0 hr1 hy1 hxb.1 hxb.2).mono ?_
      rintro e w2 ⟨q, r', rfl, hb2, hv, k0, k1, q0, q1⟩
      have hr2 := hr.below hb2
      have hbl2 := hbl.trans (hb2.mono hbl.size)
      have hcz2 := hr2.cell (i := k) (by have := HTL.out; omega)
      have hfz2 := hr2.free k
      have HV := Lib.hid hv
      clear hv hcz hfz
      go_wp2
      go_roundw
      case rel => exact ⟨k, (k : Int) - 1, r', T.set k q, by omega, by show _ - (1 : Int) + 1 = _; omega, by first | rfl | go_num, rfl, hat.out.next hki HX.out HV.out k0 k1 q0 q1, hr2.set k q, hbl2.setCell (Nat.le_refl _) _⟩
      case measure => simp [intOf] <;> omega
    · obtain rfl : k = 0 := by omega
      obtain rfl : j = -1 := by have := hj.out; omega
      obtain ⟨hdw, hdv, hdr⟩ := hat.out.done
      have hSl := Kept.mk (hr.mine (n := xs.length) HTL.out.symm (by unfold maxLen; omega) (Nat.le_refl w.heap.size))
      have HV := Lib.hid hdv
      have HR := Lib.hid hdr
      have HW := Kept.mk hdw
      clear hdv hdr hj hat hdw
      go_wp2_with (go_at_call 112; refine (cut_mine w.heap.size _ _ _ hSl.out).mono ?_; rintro e w' ⟨rfl, v', rfl, hn, hob⟩; have HN := Lib.hid hn; clear hob hn)
      go_ret2
      exact ⟨_, _, _, rfl, hbl, HN.out, HW.out.cut, Dg.nz_cut _, by rw [Dg.val_cut, HV.out], Nat.le_trans (Dg.cut_len _) (by have := HTL.out; omega), HR.out⟩
end Go.Proofs.YtblbheilddafbaaGreatDoor

set_option linter.unusedVariables false
set_option linter.unusedSimpArgs false
namespace Go.Proofs.YtblbheilddafbaaGreatDoor
open Go Go.RowKit
/-- Numbers from 1 on, multiplied. -/
structure FcAt (B : Nat) (w : World) (v : Value) (k : Nat) (xs : List Int) : Prop where
  mine : Mine 104 .u64 B w v xs
  wf : Dg.Wf BW xs
  val : Dg.val BW xs = fac k
  len : xs.length ≤ k + 1
set_option maxRecDepth 20000 in
set_option maxHeartbeats 2000000 in
theorem factorial_any (n : Nat) (w : World) (hn : n ≤ 1000) : Calls Tryz.prog 51 #[.int .i64 n] w (RetOk (n + 1) w (fac n)) := by
  have HX0 : Kept (Bxs w [.cells #[.bool false, .slice none 0 0] 30] (w.alloc (.cells #[.bool false, .slice none 0 0] 30))) := ⟨(Bxs.start w).alloc (by simp) _⟩
  have hsz0 : (w.alloc (.cells #[.bool false, .slice none 0 0] 30)).heap.size = w.heap.size + 1 := by simp
  go_enter Tryz.func51, Tryz.ntmps51
  go_wp2_with fail
  refine (oneWord_mine 1 _ (by omega) (by omega)).mono ?_
  rintro e w1 ⟨hb1, v1, xs1, rfl, hm1, hw1, hz1, hv1, hl1⟩
  rw [hsz0] at hm1
  have HX1 := Kept.mk (HX0.out.below hb1)
  have HF1 : Kept (FcAt (w.heap.size + 1) w1 v1 0 xs1) := ⟨hm1, hw1, hv1, hl1⟩
  clear hb1 hm1 hw1 hz1 hv1 hl1 hsz0
  go_wp2
  go_loopw [4, 15] (fun m i wr => ∃ (k : Nat) (xs : List Int), k ≤ n ∧ i = .int .i64 k ∧ Kept (FcAt (w.heap.size + 1) wr m k xs) ∧ Kept (Bxs w [.cells #[.bool false, .slice none 0 0] 30] wr)) (fun _ i _ => n - (intOf i).toNat)
  case atStart => exact ⟨0, xs1, Nat.zero_le _, rfl, HF1, HX1⟩
  case round =>
    obtain ⟨k, xs, hk, rfl, hf, hx⟩ := hrel
    by_cases hlt : k < n
    · go_wp2_with fail
      refine (scale_any (w.heap.size + 1) _ xs ((k : Int) + 1) 0 _ hf.out.mine hx.out.l1 hf.out.wf (by omega) (by omega) (by omega) (by omega) (by have := hf.out.len; omega)).mono ?_
      rintro e w2 ⟨v2, ys, rfl, hm2, hw2, hv2, hl2, hg2⟩
      have HX2 := Kept.mk (hx.out.grown hg2 (fun j hj => (hf.out.mine.own j hj).1))
      have HF2 : Kept (FcAt (w.heap.size + 1) w2 v2 (k + 1) ys) := ⟨hm2, hw2, by rw [hv2, hf.out.val, Int.add_zero]; rfl, by have := hf.out.len; omega⟩
      clear hm2 hw2 hv2 hl2 hg2
      go_wp2
      go_roundw
      case rel => exact ⟨k + 1, ys, by omega, by go_num, HF2, HX2⟩
      case measure => simp [intOf] <;> omega
    · obtain rfl : k = n := by omega
      have HS := Kept.mk hf.out.mine.sl
      go_wp2_with fail
      refine (cut_num HS.out hf.out.wf).mono ?_
      rintro e w2 ⟨v2, rfl, rfl, hn2, _⟩
      rw [hf.out.val] at hn2
      go_wp2_with fail
      refine (signed_any false hn2).mono ?_
      rintro e w3 ⟨hb3, v3, rfl, s3, u3, rfl, hs3, hn3⟩
      have HX3 := Kept.mk (hx.out.below hb3)
      obtain ⟨o3, k3, c3, rfl⟩ := hn3.form
      have hbx := HX3.out.b0
      obtain ⟨c0, c1, f0, f1⟩ := two_cells hbx
      have hsz := HX3.out.l1
      have HE := Kept.mk (int_end (w := w) (s := s3) (ao := o3) (k := k3) (c := c3) hbx HX3.out.1 (Nat.le_refl _) hs3 hn3)
      have HL := Kept.mk hf.out.len
      clear hb3 hs3 hn3 hbx
      go_wp2
      exact bodyPost_ret (v := .tuple #[.agg #[.bool s3, .slice o3 k3 c3], .int .i64 0]) (by simp [results, Tryz.results51, go_sem, HE.out.2.1, HE.out.2.2]) rfl ⟨HE.out.1.1, _, _, _, _, rfl, by obtain ⟨v, e, h⟩ := HE.out.1.2; cases e; exact h.mono HL.out⟩
/-- The binomials of n, one after the other. -/
structure ChAt (B n : Nat) (w : World) (v : Value) (k : Nat) (xs : List Int) : Prop where
  mine : Mine 104 .u64 B w v xs
  wf : Dg.Wf BW xs
  nz : Dg.Nz xs
  val : Dg.val BW xs = bin n k
  len : xs.length ≤ k + 1
theorem ChAt.step {n k : Nat} {m : Int} (h : m = bin n k * ((n : Int) - k)) (hk : k ≤ n) : m / ((k : Int) + 1) = bin n (k + 1) := by
  have h1 := bin_step n k
  have h2 : ((bin n k : Nat) : Int) * ((n : Int) - k) = ((bin n (k + 1) : Nat) : Int) * ((k : Int) + 1) := by
    have := congrArg (fun x : Nat => (x : Int)) h1
    simp only [Int.natCast_mul] at this
    rw [show ((n - k : Nat) : Int) = (n : Int) - k by omega] at this
    rw [← this]
    rfl
  rw [h, h2]
  exact Int.mul_ediv_cancel _ (by omega)
set_option maxRecDepth 20000 in
set_option maxHeartbeats 2000000 in
theorem choose_core (n j : Nat) (k : Int) (w : World) (hn : n ≤ 1000) (hk0 : 0 ≤ k) (hkn : k ≤ n) (hj : min k ((n : Int) - k) = j) :
    Calls Tryz.prog 50 #[.int .i64 n, .int .i64 k] w (RetOk (n + 1) w (bin n j)) := by
  have HX0 : Kept (Bxs w [.cells #[.bool false, .slice none 0 0] 30] (w.alloc (.cells #[.bool false, .slice none 0 0] 30))) := ⟨(Bxs.start w).alloc (by simp) _⟩
  have hsz0 : (w.alloc (.cells #[.bool false, .slice none 0 0] 30)).heap.size = w.heap.size + 1 := by simp
  have hjn : j ≤ n := by omega
  go_enter Tryz.func50, Tryz.ntmps50
  go_wp2_with fail
  refine (oneWord_mine 1 _ (by omega) (by omega)).mono ?_
  rintro e w1 ⟨hb1, v1, xs1, rfl, hm1, hw1, hz1, hv1, hl1⟩
  rw [hsz0] at hm1
  have HX1 := Kept.mk (HX0.out.below hb1)
  have HF1 : Kept (ChAt (w.heap.size + 1) n w1 v1 0 xs1) := ⟨hm1, hw1, hz1, by rw [hv1, bin_zero]; rfl, hl1⟩
  clear hb1 hm1 hw1 hz1 hv1 hl1 hsz0
  go_wp2
  go_loopw [6, 30] (fun m i wr => ∃ (q : Nat) (xs : List Int), q ≤ j ∧ i = .int .i64 q ∧ Kept (ChAt (w.heap.size + 1) n wr m q xs) ∧ Kept (Bxs w [.cells #[.bool false, .slice none 0 0] 30] wr)) (fun _ i _ => j - (intOf i).toNat)
  case atStart => exact ⟨0, xs1, Nat.zero_le _, rfl, HF1, HX1⟩
  case round =>
    obtain ⟨q, xs, hq, rfl, hf, hx⟩ := hrel
    by_cases hlt : q < j
    · go_wp2_with fail
      refine (scale_any (w.heap.size + 1) _ xs ((n : Int) - q) 0 _ hf.out.mine hx.out.l1 hf.out.wf (by omega) (by omega) (by omega) (by omega) (by have := hf.out.len; omega)).mono ?_
      rintro e w2 ⟨v2, ys, rfl, hm2, hw2, hv2, hl2, hg2⟩
      have HX2 := Kept.mk (hx.out.grown hg2 (fun i hi => (hf.out.mine.own i hi).1))
      have HS2 := Kept.mk hm2.sl
      have HV2 : Kept (Dg.val BW ys / ((q : Int) + 1) = bin n (q + 1)) := ⟨ChAt.step (by rw [hv2, hf.out.val, Int.add_zero]) (by omega)⟩
      have HL2 : Kept (ys.length ≤ q + 1 + 1) := ⟨by have := hf.out.len; omega⟩
      have HW2 := Kept.mk hw2
      clear hm2 hw2 hv2 hl2 hg2
      go_wp2_with fail
      refine (divideByWord_mine _ ys ((q : Int) + 1) _ HS2.out HW2.out (by omega) (by omega) (by have := HL2.out; omega)).mono ?_
      rintro e w3 ⟨v3, zs, r3, rfl, hb3, hm3, hw3, hz3, hv3, hl3, hr3⟩
      have HX3 := Kept.mk (HX2.out.below hb3)
      have HF3 : Kept (ChAt (w.heap.size + 1) n w3 v3 (q + 1) zs) := ⟨hm3.lower HX2.out.l1, hw3, hz3, by rw [hv3, HV2.out], by have := HL2.out; omega⟩
      clear hb3 hm3 hw3 hz3 hv3 hl3 hr3
      go_wp2
      go_roundw
      case rel => exact ⟨q + 1, zs, by omega, by go_num, HF3, HX3⟩
      case measure => simp [intOf] <;> omega
    · obtain rfl : q = j := by omega
      have HN : Kept (Num (n + 1) wr u6 (bin n q)) := ⟨⟨xs, hf.out.mine.sl, hf.out.wf, hf.out.nz, hf.out.val, by have := hf.out.len; omega⟩⟩
      go_wp2_with fail
      refine (signed_any false HN.out).mono ?_
      rintro e w3 ⟨hb3, v3, rfl, s3, u3, rfl, hs3, hn3⟩
      have HX3 := Kept.mk (hx.out.below hb3)
      obtain ⟨o3, k3, c3, rfl⟩ := hn3.form
      have hbx := HX3.out.b0
      obtain ⟨c0, c1, f0, f1⟩ := two_cells hbx
      have hsz := HX3.out.l1
      have HE := Kept.mk (int_end (w := w) (s := s3) (ao := o3) (k := k3) (c := c3) hbx HX3.out.1 (Nat.le_refl _) hs3 hn3)
      clear hb3 hs3 hn3 hbx
      go_wp2
      exact bodyPost_ret (v := .tuple #[.agg #[.bool s3, .slice o3 k3 c3], .int .i64 0]) (by simp [results, Tryz.results50, go_sem, HE.out.2.1, HE.out.2.2]) rfl ⟨HE.out.1.1, _, _, _, _, rfl, by obtain ⟨v, e, h⟩ := HE.out.1.2; cases e; exact h⟩
theorem bin_small {n k : Nat} (hn : n ≤ 1000) : smallB ((bin n k : Nat) : Int).natAbs = true :=
  smallB_anti (n := 2 ^ 1000) (by decide +kernel) (Nat.le_trans (bin_le n k) (Nat.pow_le_pow_right (by omega) hn))
theorem fac_small {n : Nat} (hn : n ≤ 1000) : smallB ((fac n : Nat) : Int).natAbs = true := by
  have h1 := fac_mono hn
  refine smallB_anti (n := fac 1000) (by decide +kernel) ?_
  omega
theorem choose_any (n k : Nat) (w : World) (hn : n ≤ 1000) (hk : k ≤ n) : Calls Tryz.prog 50 #[.int .i64 n, .int .i64 k] w (RetOk 625 w (bin n k)) := by
  have key : ∀ j : Nat, min (k : Int) ((n : Int) - k) = j → bin n j = bin n k → Calls Tryz.prog 50 #[.int .i64 n, .int .i64 k] w (RetOk 625 w (bin n k)) := fun j hj e =>
    (choose_core n j k w hn (by omega) (by omega) hj).mono fun e' w' ⟨hb, s, ao, q, c, he, hI⟩ => ⟨hb, s, ao, q, c, he, by rw [e] at hI; exact hI.fit (bin_small hn)⟩
  by_cases h : k ≤ n - k
  · exact key k (by omega) rfl
  · exact key (n - k) (by omega) (bin_symm hk)
theorem fact_any (n : Nat) (w : World) (hn : n ≤ 1000) : Calls Tryz.prog 51 #[.int .i64 n] w (RetOk 625 w (fac n)) :=
  (factorial_any n w hn).mono fun e' w' ⟨hb, s, ao, q, c, he, hI⟩ => ⟨hb, s, ao, q, c, he, hI.fit (fac_small hn)⟩
end Go.Proofs.YtblbheilddafbaaGreatDoor
