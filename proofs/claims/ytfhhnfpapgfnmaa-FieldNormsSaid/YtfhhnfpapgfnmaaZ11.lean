/-
  Texts of the proof, merged by program: Fq Rsd Rse Rsn Rmd Ft.
-/
import Derived.Test.YtfhhnfpapgfnmaaZ10
set_option linter.unusedVariables false
set_option linter.unusedSectionVars false
set_option linter.unusedSimpArgs false
namespace Go.Proofs.Ytfhhnfpapgfnmaa
namespace FFld
theorem ofd_split (p : Nat) (f : Nat → Nat) (j : Nat) : ∀ n, ofd p f (j + n) = ofd p f j + p ^ j * ofd p (fun i => f (i + j)) n := by
  intro n
  induction n with
  | zero => simp [ofd]
  | succ n ih =>
    rw [← Nat.add_assoc, ofd_succ, ih, ofd_succ, Nat.mul_add, Nat.add_assoc, Nat.pow_add, Nat.mul_assoc]
    congr 3
    rw [Nat.add_comm]
/-- The loop over digits ends where the second number has none: the rest of the first one is put on top. -/
theorem DlAt.top {p k j n u a : Nat} {f : Nat → Nat} (h : DlAt p f k j n u) (hp : 2 ≤ p) (ha : a < p ^ k) (hf : ∀ i, j ≤ i → f i = dig p a i) : n + a / p ^ j * u = ofd p f k := by
  have hjk := h.jk
  obtain ⟨r, rfl⟩ : ∃ r, k = j + r := ⟨k - j, by omega⟩
  rw [ofd_split, ← h.n, h.u, Nat.mul_comm]
  congr 2
  have hlt : a / p ^ j < p ^ r := by
    rw [Nat.pow_add] at ha
    exact Nat.div_lt_of_lt_mul ha
  rw [← ofd_dig (by omega) r _ hlt]
  refine ofd_congr r fun i _ => ?_
  rw [hf (i + j) (by omega)]
  unfold dig
  rw [Nat.div_div_eq_div_mul, ← Nat.pow_add, Nat.add_comm j i]
theorem pmul_fuel {p k m : Nat} (h : PK p k m) (a : Nat) : ∀ (n c : Nat), c < p ^ n → pmul p k m a (n + 1) c = pmul p k m a n c := by
  intro n
  induction n with
  | zero => intro c hc; simp at hc; subst hc; rw [pmul_zero_right h]; rfl
  | succ n ih =>
    intro c hc
    have h1 := ih (c / p) (div_lt_pow h.p0 hc)
    show padd p k (pscl p k (c % p) a) (pshf p k m (pmul p k m a (n + 1) (c / p))) = padd p k (pscl p k (c % p) a) (pshf p k m (pmul p k m a n (c / p)))
    rw [h1]
theorem pmul_step {p k m : Nat} (h : PK p k m) (a b : Nat) (hb : b < p ^ k) : pmul p k m a k b = padd p k (pscl p k (b % p) a) (pshf p k m (pmul p k m a k (b / p))) := by
  obtain ⟨n, rfl⟩ : ∃ n, k = n + 1 := ⟨k - 1, by have := h.k1; omega⟩
  have h1 := pmul_fuel h a n (b / p) (div_lt_pow h.p0 hb)
  rw [h1]
  rfl
theorem pscl_0 {p k m : Nat} (h : PK p k m) (a : Nat) : pscl p k 0 a = 0 := pscl_zero h a
/-- What x ^ k is, as the program has it. -/
theorem pshf_over {p k m : Nat} (h : PK p k m) (a : Nat) (ha : a < p ^ k) (h1 : p ^ k ≤ m) (h2 : m < 2 * p ^ k) :
    pshf p k m a = padd p k (a % p ^ (k - 1) * p) (pscl p k (a / p ^ (k - 1)) (pscl p k (p - 1) (m - p ^ k))) := by
  have hk := h.k1
  refine dig_ext h.p0 k _ _ (pshf_lt h _) (padd_lt h _ _) fun i hi => ?_
  rw [dig_pshf h _ _ hi, dig_padd h _ _ _ hi, dig_pscl h _ _ _ hi, neg_dig h]
  rw [dig_ofd k _ i (fun _ => Nat.mod_lt _ h.p0) hi]
  have hprv : dig p (a % p ^ (k - 1) * p) i = prv p a i := by
    cases i with
    | zero => rw [dig_zero, Nat.mul_mod_left]; rfl
    | succ i =>
      rw [dig_succ, Nat.mul_div_cancel _ h.p0]
      simp only [prv]
      unfold dig
      obtain ⟨r, hr⟩ : ∃ r, k - 1 = i + (r + 1) := ⟨k - 2 - i, by omega⟩
      rw [hr, Nat.pow_add, Nat.mod_mul_right_div_self, Nat.pow_succ', Nat.mod_mul_right_mod]
  have htop : dig p a (k - 1) = a / p ^ (k - 1) := by
    unfold dig
    refine Nat.mod_eq_of_lt (Nat.div_lt_of_lt_mul ?_)
    rw [← Nat.pow_succ, show (k - 1).succ = k from by omega]
    exact ha
  have hdm : dig p (m - p ^ k) i = dig p m i := by
    unfold dig
    obtain ⟨lo, hlo⟩ : ∃ lo, m = p ^ k + lo := ⟨m - p ^ k, by omega⟩
    obtain ⟨r, hr⟩ : ∃ r, k = i + (r + 1) := ⟨k - 1 - i, by omega⟩
    rw [hlo, Nat.add_sub_cancel_left, hr, Nat.pow_add, Nat.mul_add_div (Nat.pow_pos h.p0), Nat.pow_succ', Nat.mul_add_mod]
  rw [hprv, htop, hdm]
  generalize a / p ^ (k - 1) = x
  generalize p - dig p m i = d
  rw [Nat.mod_mul_mod, Nat.add_mod_mod, Nat.mul_comm]
theorem last_eq {p k : Nat} (hp : 2 ≤ p) (hk : 1 ≤ k) : p ^ k / p = p ^ (k - 1) := by
  obtain ⟨n, rfl⟩ : ∃ n, k = n + 1 := ⟨k - 1, by omega⟩
  rw [Nat.pow_succ, Nat.mul_div_cancel _ (by omega)]
  rfl
/-- For p = 2 sums are exclusive ors. -/
theorem padd_xor {k m : Nat} (h : PK 2 k m) (a b : Nat) (ha : a < 2 ^ k) (hb : b < 2 ^ k) : padd 2 k a b = a ^^^ b := by
  refine dig_ext h.p0 k _ _ (padd_lt h _ _) (Nat.xor_lt_two_pow ha hb) fun i hi => ?_
  rw [dig_padd h _ _ _ hi]
  have key : ∀ x : Nat, dig 2 x i = (x.testBit i).toNat := fun x => by
    unfold dig
    rw [Nat.testBit_eq_decide_div_mod_eq]
    have := Nat.mod_two_eq_zero_or_one (x / 2 ^ i)
    rcases this with e | e <;> rw [e] <;> rfl
  rw [key, key, key, Nat.testBit_xor]
  cases a.testBit i <;> cases b.testBit i <;> rfl
end FFld
end Go.Proofs.Ytfhhnfpapgfnmaa

set_option linter.unusedVariables false
set_option linter.unusedSimpArgs false
namespace Go.Proofs.Ytfhhnfpapgfnmaa
open Go Go.RowKit
open FFld (ints)
/-- The slow field. -/
abbrev rsv (p l o : Nat) : Value := .agg #[.int .i64 p, .int .i64 l, .int .i64 o]
abbrev rsbox (p l o : Nat) : Obj := .cells #[.int .i64 p, .int .i64 l, .int .i64 o] 120
set_option maxRecDepth 20000 in
set_option maxHeartbeats 2000000 in
theorem multiple_any (p k m l o a c : Nat) (w : World) (hpk : FFld.PK p k m) (ha : a < p ^ k) (hc : c < p) (hq : p ^ k ≤ 65536) :
    Calls Try.prog 140 #[rsv p l o, .int .i64 a, .int .i64 c] w (RB w (.int .i64 (FFld.pscl p k c a : Nat))) := by
  have hp := hpk.p2
  have hk := hpk.k1
  have hp1 : p ≤ 65536 := Nat.le_trans (by have := Nat.pow_le_pow_right (n := p) (by omega) hk; rw [Nat.pow_one] at this; exact this) hq
  have ha1 : a ≤ 65536 := by omega
  have HX0 : Kept (Bxs w [rsbox p l o] (w.alloc (rsbox p l o))) := ⟨(Bxs.start w).alloc (by simp) _⟩
  by_cases hc2 : c < 2
  · obtain ⟨v, hv⟩ : ∃ v, a * c = v := ⟨_, rfl⟩
    have hvr : FFld.pscl p k c a = v := by
      rcases (show c = 0 ∨ c = 1 by omega) with rfl | rfl
      · rw [FFld.pscl_zero hpk, ← hv, Nat.mul_zero]
      · rw [FFld.pscl_one hpk a ha, ← hv, Nat.mul_one]
    have hvl : v ≤ 131072 := by rw [← hv]; exact nmul_le (A := 65536) (B := 2) ha1 (by omega)
    have e1 : wrap64 ((a : Int) * c) = v := wmul hv (by omega)
    have HV := Kept.mk hvr
    clear hv hvr ha hq
    go_enter Try.func140, Try.ntmps140
    go_wp2
    go_ret
    exact ⟨HX0.out.1, by rw [HV.out]; simp [e1]⟩
  · have HA := Kept.mk ha
    have HQ := Kept.mk hq
    clear ha hq
    obtain ⟨f, hf⟩ : ∃ f : Nat → Nat, (fun i => (FFld.dig p a i * c) % p) = f := ⟨_, rfl⟩
    have HF := Kept.mk hf
    have HFL := Kept.mk (show ∀ i, f i < p from fun i => by rw [← hf]; exact Nat.mod_lt _ (by omega))
    have hres : FFld.pscl p k c a = FFld.ofd p f k := by rw [← hf]; rfl
    rw [hres]
    clear hf hres
    go_enter Try.func140, Try.ntmps140
    go_wp2
    go_loopw [1, 7, 8] (fun av nv uv wr => ∃ (j x n u : Nat), x ≤ 65536 ∧ av = .int .i64 x ∧ nv = .int .i64 n ∧ uv = .int .i64 u ∧ Kept (x = a / p ^ j) ∧ Kept (FFld.DlAt p f k j n u) ∧ Kept (Bxs w [rsbox p l o] wr)) (fun av _ _ _ => (intOf av).toNat)
    case atStart => exact ⟨0, a, 0, 1, ha1, rfl, rfl, rfl, ⟨by simp⟩, ⟨FFld.DlAt.start p f k⟩, HX0⟩
    case round =>
      obtain ⟨j, x, n, u, hx, rfl, rfl, rfl, hxa, hat, hbx⟩ := hrel
      by_cases hpos : 0 < x
      · have hjk : j < k := FFld.cur_pos HA.out (by rw [← hxa.out]; exact hpos) hp
        have HNX := Kept.mk (hat.out.next hjk)
        have hul : u ≤ 65536 := Nat.le_trans (hat.out.u_le hp) HQ.out
        have hupl : u * p ≤ 65536 := Nat.le_trans (hat.out.up_le hp hjk) HQ.out
        have hnl : n ≤ 65536 := by have := hat.out.n_lt hp HFL.out; have := HQ.out; omega
        have hfj : f j < p := HFL.out j
        obtain ⟨z, hz⟩ : ∃ z, f j = z := ⟨_, rfl⟩
        rw [hz] at hfj HNX
        have hzv : (x % p * c) % p = z := by rw [← hz, ← HF.out, hxa.out]; rfl
        obtain ⟨r, hr⟩ : ∃ r, x % p = r := ⟨_, rfl⟩
        obtain ⟨x', hx'⟩ : ∃ x', x / p = x' := ⟨_, rfl⟩
        have HXA : Kept (x' = a / p ^ (j + 1)) := ⟨by rw [← hx', hxa.out, FFld.cur_next]⟩
        have hdec : x' < x := by rw [← hx']; exact Nat.div_lt_self hpos hp
        have hx'l : x' ≤ 65536 := Nat.le_trans (by rw [← hx']; exact Nat.div_le_self _ _) hx
        have hrp : r < p := by rw [← hr]; exact Nat.mod_lt _ (by omega)
        obtain ⟨s, hs⟩ : ∃ s, r * c = s := ⟨_, rfl⟩
        have hsl : s ≤ 4294967296 := by rw [← hs]; exact nmul_le (A := 65536) (B := 65536) (by omega) (by omega)
        have er : (x : Int) % p = r := by rw [← hr]; rfl
        have e1 : IntKind.i64.wrap ((r : Int) * c) = (s : Int) := wimul hs (by omega)
        have ez : (s : Int) % p = z := by rw [← hzv, hr, hs]; rfl
        obtain ⟨v, hv⟩ : ∃ v, z * u = v := ⟨_, rfl⟩
        obtain ⟨u', hu'⟩ : ∃ u', u * p = u' := ⟨_, rfl⟩
        have hvl : v ≤ 4294967296 := by rw [← hv]; exact nmul_le (A := 65536) (B := 65536) (by omega) (by omega)
        have hul' : u' ≤ 65536 := by rw [← hu']; exact hupl
        have e2 : IntKind.i64.wrap ((z : Int) * u) = v := wimul hv (by omega)
        have e3 : IntKind.i64.wrap ((n : Int) + v) = (n : Int) + v := wi (by omega) (by omega)
        have e4 : wrap64 ((u : Int) * p) = u' := wmul hu' (by omega)
        rw [hv, hu'] at HNX
        have ex : (x : Int) / p = x' := by rw [← hx']; rfl
        obtain ⟨c0, c1, c2, _⟩ := three_cells hbx.out.b0
        clear hr hs hx' hz hzv hupl hv hu'
        go_wp2
        go_quiet (fail)
        go_wp2
        go_roundw
        case rel => exact ⟨j + 1, x', n + v, u', hx'l, rfl, by simp, congrArg (Value.int .i64) e4, HXA, HNX, ⟨hbx.out.below (below_drewN (Below.refl _ _) _)⟩⟩
        case measure => simp [intOf] <;> omega
      · obtain rfl : x = 0 := by omega
        have HN := Kept.mk (hat.out.done (fun i hi => by
          rw [← HF.out]
          show (FFld.dig p a i * c) % p = 0
          rw [FFld.cur_zero hxa.out.symm hp hi, Nat.zero_mul, Nat.zero_mod]))
        go_wp2
        go_ret
        exact ⟨hbx.out.1, by rw [HN.out]; rfl⟩
theorem wadd {a b : Nat} (ha : a ≤ 4294967296) (hb : b ≤ 8589934592) : wrap64 ((a : Int) + b) = ((a + b : Nat) : Int) := by rw [w64 (by omega) (by omega)]; simp
theorem wmadd {n z u v : Nat} (h : z * u = v) (hn : n ≤ 4294967296) (hv : v ≤ 8589934592) : wrap64 ((n : Int) + (z : Int) * u) = ((n + v : Nat) : Int) := by rw [← Int.natCast_mul, h]; exact wadd hn hv
theorem wmadd' {n z u v : Nat} (h : z * u = v) (hn : n ≤ 4294967296) (hv : v ≤ 8589934592) : wrap64 ((n : Int) + wrap64 ((z : Int) * u)) = ((n + v : Nat) : Int) := by rw [wmul h (Nat.le_trans hv (by decide))]; exact wadd hn hv
theorem xor_i64 (a b : Nat) (ha : a < 131072) (hb : b < 131072) : bits BinOp.xor .i64 (a : Int) (b : Int) = ((a ^^^ b : Nat) : Int) := by
  have hx : a ^^^ b < 2 ^ 17 := Nat.xor_lt_two_pow (by rw [show (2 : Nat) ^ 17 = 131072 from rfl]; exact ha) (by rw [show (2 : Nat) ^ 17 = 131072 from rfl]; exact hb)
  rw [show (2 : Nat) ^ 17 = 131072 from rfl] at hx
  have h1 : (BitVec.ofInt 64 (a : Int)).toNat = a := by
    rw [BitVec.ofInt_natCast, BitVec.toNat_ofNat]; exact Nat.mod_eq_of_lt (by omega)
  have h2 : (BitVec.ofInt 64 (b : Int)).toNat = b := by
    rw [BitVec.ofInt_natCast, BitVec.toNat_ofNat]; exact Nat.mod_eq_of_lt (by omega)
  show IntKind.i64.wrap ((BitVec.ofInt 64 (a : Int) ^^^ BitVec.ofInt 64 (b : Int)).toNat : Int) = _
  rw [BitVec.toNat_xor, h1, h2]
  exact wi (by omega) (by omega)
set_option maxRecDepth 20000 in
set_option maxHeartbeats 2000000 in
theorem rsum_any (p k m l o a b : Nat) (w : World) (hpk : FFld.PK p k m) (ha : a < p ^ k) (hb : b < p ^ k) (hq : p ^ k ≤ 65536) :
    Calls Try.prog 141 #[rsv p l o, .int .i64 a, .int .i64 b] w (RB w (.int .i64 (FFld.padd p k a b : Nat))) := by
  have hp := hpk.p2
  have hk := hpk.k1
  have hp1 : p ≤ 65536 := Nat.le_trans (by have := Nat.pow_le_pow_right (n := p) (by omega) hk; rw [Nat.pow_one] at this; exact this) hq
  have ha1 : a ≤ 65536 := by omega
  have hb1 : b ≤ 65536 := by omega
  have HX0 : Kept (Bxs w [rsbox p l o] (w.alloc (rsbox p l o))) := ⟨(Bxs.start w).alloc (by simp) _⟩
  by_cases hp2 : p = 2
  · subst hp2
    obtain ⟨c0, c1, c2, _⟩ := three_cells HX0.out.b0
    have hx : FFld.padd 2 k a b = a ^^^ b := FFld.padd_xor hpk a b ha hb
    have HXR := Kept.mk hx
    have e0 : (((2 : Nat) : Int) == 2) = true := rfl
    clear ha hb hq hx
    go_enter Try.func141, Try.ntmps141
    go_wp2
    go_ret
    refine ⟨HX0.out.1, ?_⟩
    rw [HXR.out]
    simp
    exact xor_i64 a b (by omega) (by omega)
  · have HA := Kept.mk ha
    have HB := Kept.mk hb
    have HQ := Kept.mk hq
    have e0 : ((p : Int) == 2) = false := by rw [beq_eq_false_iff_ne]; omega
    clear ha hb hq hp2
    obtain ⟨f, hf⟩ : ∃ f : Nat → Nat, (fun i => (FFld.dig p a i + FFld.dig p b i) % p) = f := ⟨_, rfl⟩
    have HF := Kept.mk hf
    have HFL := Kept.mk (show ∀ i, f i < p from fun i => by rw [← hf]; exact Nat.mod_lt _ (by omega))
    have hres : FFld.padd p k a b = FFld.ofd p f k := by rw [← hf]; rfl
    rw [hres]
    clear hf hres
    obtain ⟨c0, c1, c2, _⟩ := three_cells HX0.out.b0
    go_enter Try.func141, Try.ntmps141
    go_wp2
    go_loopw [1, 2, 7, 8] (fun av bv nv uv wr => ∃ (j x y n u : Nat), x ≤ 65536 ∧ y ≤ 65536 ∧ av = .int .i64 x ∧ bv = .int .i64 y ∧ nv = .int .i64 n ∧ uv = .int .i64 u ∧ Kept (x = a / p ^ j) ∧ Kept (y = b / p ^ j) ∧ Kept (FFld.DlAt p f k j n u) ∧ Kept (Bxs w [rsbox p l o] wr)) (fun _ bv _ _ _ => (intOf bv).toNat)
    case atStart => exact ⟨0, a, b, 0, 1, ha1, hb1, rfl, rfl, rfl, rfl, ⟨by simp⟩, ⟨by simp⟩, ⟨FFld.DlAt.start p f k⟩, HX0⟩
    case round =>
      obtain ⟨j, x, y, n, u, hx, hy, rfl, rfl, rfl, rfl, hxa, hyb, hat, hbx⟩ := hrel
      have hul : u ≤ 65536 := Nat.le_trans (hat.out.u_le hp) HQ.out
      have hnl : n ≤ 65536 := by have := hat.out.n_lt hp HFL.out; have := HQ.out; omega
      by_cases hpos : 0 < y
      · have hjk : j < k := FFld.cur_pos HB.out (by rw [← hyb.out]; exact hpos) hp
        have HNX := Kept.mk (hat.out.next hjk)
        have hupl : u * p ≤ 65536 := Nat.le_trans (hat.out.up_le hp hjk) HQ.out
        have hfj : f j < p := HFL.out j
        obtain ⟨z, hz⟩ : ∃ z, f j = z := ⟨_, rfl⟩
        rw [hz] at hfj HNX
        have hzv : (x % p + y % p) % p = z := by rw [← hz, ← HF.out, hxa.out, hyb.out]; rfl
        obtain ⟨r, hr⟩ : ∃ r, x % p = r := ⟨_, rfl⟩
        obtain ⟨s, hs⟩ : ∃ s, y % p = s := ⟨_, rfl⟩
        obtain ⟨x', hx'⟩ : ∃ x', x / p = x' := ⟨_, rfl⟩
        obtain ⟨y', hy'⟩ : ∃ y', y / p = y' := ⟨_, rfl⟩
        have HXA : Kept (x' = a / p ^ (j + 1)) := ⟨by rw [← hx', hxa.out, FFld.cur_next]⟩
        have HYB : Kept (y' = b / p ^ (j + 1)) := ⟨by rw [← hy', hyb.out, FFld.cur_next]⟩
        have hdec : y' < y := by rw [← hy']; exact Nat.div_lt_self hpos hp
        have hx'l : x' ≤ 65536 := Nat.le_trans (by rw [← hx']; exact Nat.div_le_self _ _) hx
        have hy'l : y' ≤ 65536 := Nat.le_trans (by rw [← hy']; exact Nat.div_le_self _ _) hy
        have hrp : r < p := by rw [← hr]; exact Nat.mod_lt _ (by omega)
        have hsp : s < p := by rw [← hs]; exact Nat.mod_lt _ (by omega)
        have hrs : (r + s) % p = z := by rw [← hzv, hr, hs]
        have er : (x : Int) % p = r := by rw [← hr]; rfl
        have es : (y : Int) % p = s := by rw [← hs]; rfl
        have e1 : IntKind.i64.wrap ((r : Int) + s) = (r : Int) + s := wi (by omega) (by omega)
        obtain ⟨v, hv⟩ : ∃ v, z * u = v := ⟨_, rfl⟩
        obtain ⟨u', hu'⟩ : ∃ u', u * p = u' := ⟨_, rfl⟩
        have hvl : v ≤ 4294967296 := by rw [← hv]; exact nmul_le (A := 65536) (B := 65536) (by omega) (by omega)
        have hul' : u' ≤ 65536 := by rw [← hu']; exact hupl
        have E5 : Kept (wrap64 ((n : Int) + wrap64 ((z : Int) * u)) = ((n + v : Nat) : Int)) := ⟨wmadd' hv (Nat.le_trans hnl (by decide)) (Nat.le_trans hvl (by decide))⟩
        have e4 : IntKind.i64.wrap ((u : Int) * p) = u' := wimul hu' (by omega)
        rw [hv, hu'] at HNX
        have ex : (x : Int) / p = x' := by rw [← hx']; rfl
        have ey : (y : Int) / p = y' := by rw [← hy']; rfl
        obtain ⟨c0, c1, c2, _⟩ := three_cells hbx.out.b0
        have hzg : p ≤ r + s → ((r : Int) + s) - p = z := fun hge => by
          rw [Nat.mod_eq_sub_mod hge, Nat.mod_eq_of_lt (by omega)] at hrs
          omega
        have hzl : ¬ p ≤ r + s → ((r : Int) + s) = z := fun hge => by
          rw [Nat.mod_eq_of_lt (by omega)] at hrs
          omega
        have HZG := Kept.mk hzg
        have HZL := Kept.mk hzl
        clear hr hs hx' hy' hz hzv hupl hv hu' hrs hzg hzl
        go_wp2
        go_quiet (fail)
        go_upto_if 30 with fail
        go_cut [9] (fun dv W => dv = .int .i64 z ∧ wr.drewN nq = W)
        case first =>
          by_cases hge : p ≤ r + s
          · have hzz := Kept.mk (HZG.out hge)
            go_wp2_with fail
            go_meet
            exact ⟨congrArg (Value.int .i64) hzz.out, rfl⟩
          · have hzz := Kept.mk (HZL.out hge)
            go_wp2_with fail
            go_meet
            exact ⟨congrArg (Value.int .i64) hzz.out, rfl⟩
        case rest =>
          obtain ⟨rfl, rfl⟩ := hcut
          clear hvl hrp hsp er es e1 hul hnl hfj hx hy
          go_wp2
          go_quiet (fail)
          go_wp2
          go_roundw
          case rel => exact ⟨j + 1, x', y', n + v, u', hx'l, hy'l, rfl, rfl, congrArg (Value.int .i64) E5.out, rfl, HXA, HYB, HNX, ⟨hbx.out.below (by simp only [World.drewN_drewN]; exact below_drewN (Below.refl _ _) _)⟩⟩
          case measure => simp [intOf] <;> omega
      · obtain rfl : y = 0 := by omega
        have hN := hat.out.top hp HA.out (fun i hi => by
          rw [← HF.out]
          show (FFld.dig p a i + FFld.dig p b i) % p = _
          rw [FFld.cur_zero hyb.out.symm hp hi, Nat.add_zero, FFld.dig_mod])
        rw [← hxa.out] at hN
        obtain ⟨v, hv⟩ : ∃ v, x * u = v := ⟨_, rfl⟩
        rw [hv] at hN
        have hvl : v ≤ 4294967296 := by rw [← hv]; exact nmul_le (A := 65536) (B := 65536) (by omega) (by omega)
        have e2 : wrap64 ((x : Int) * u) = v := wmul hv (by omega)
        have HN := Kept.mk hN
        clear hv hN
        go_wp2
        go_ret
        exact ⟨hbx.out.1, by rw [← HN.out]; simp [e2]⟩
end Go.Proofs.Ytfhhnfpapgfnmaa

set_option linter.unusedVariables false
set_option linter.unusedSimpArgs false
namespace Go.Proofs.Ytfhhnfpapgfnmaa
open Go Go.RowKit
open FFld (ints)
/-- What the slow field holds. -/
structure RsOk (p k m l o : Nat) : Prop where
  pk : FFld.PK p k m
  q : p ^ k ≤ 65536
  m0 : p ^ k ≤ m
  m1 : m < 2 * p ^ k
  l : l = p ^ (k - 1)
  o : o = FFld.pscl p k (p - 1) (m - p ^ k)
set_option maxRecDepth 20000 in
set_option maxHeartbeats 2000000 in
theorem shifted_any (p k m l o a : Nat) (w : World) (h : RsOk p k m l o) (ha : a < p ^ k) :
    Calls Try.prog 142 #[rsv p l o, .int .i64 a] w (RB w (.int .i64 (FFld.pshf p k m a : Nat))) := by
  have hp := h.pk.p2
  have hk := h.pk.k1
  have hl0 : 0 < l := by rw [h.l]; exact Nat.pow_pos (by omega)
  have hll : l ≤ 65536 := by rw [h.l]; exact Nat.le_trans (Nat.pow_le_pow_right (by omega) (by omega)) h.q
  have hlp : l * p = p ^ k := by rw [h.l, ← Nat.pow_succ]; congr 1; omega
  have hp1 : p ≤ 65536 := Nat.le_trans (by have := Nat.pow_le_pow_right (n := p) (by omega) hk; rw [Nat.pow_one] at this; exact this) h.q
  have hop : o < p ^ k := by rw [h.o]; exact FFld.pscl_lt h.pk _ _
  obtain ⟨r, hr⟩ : ∃ r, a % l = r := ⟨_, rfl⟩
  obtain ⟨t, ht⟩ : ∃ t, a / l = t := ⟨_, rfl⟩
  obtain ⟨s, hs⟩ : ∃ s, r * p = s := ⟨_, rfl⟩
  have hrl : r < l := by rw [← hr]; exact Nat.mod_lt _ hl0
  have htp : t < p := by rw [← ht]; exact Nat.div_lt_of_lt_mul (by rw [hlp]; exact ha)
  have hsq : s < p ^ k := by rw [← hs, ← hlp]; exact Nat.mul_lt_mul_of_pos_right hrl (by omega)
  have hres : FFld.pshf p k m a = FFld.padd p k s (FFld.pscl p k t o) := by rw [FFld.pshf_over h.pk a ha h.m0 h.m1, ← h.l, ← h.o, hr, ht, hs]
  rw [hres]
  have er : (a : Int) % l = r := by rw [← hr]; rfl
  have et : (a : Int) / l = t := by rw [← ht]; rfl
  have er' : (a : Int).tmod l = r := by rw [Int.tmod_eq_emod_of_nonneg (by omega)]; exact er
  have et' : (a : Int).tdiv l = t := by rw [Int.tdiv_eq_ediv_of_nonneg (by omega)]; exact et
  have es : IntKind.i64.wrap ((r : Int) * p) = s := wimul hs (by have := h.q; omega)
  have ewt : IntKind.i64.wrap (t : Int) = t := wi (by omega) (by omega)
  have hln : ¬ l = 0 := by omega
  have hM := Kept.mk (fun W => multiple_any p k m l o o t W h.pk hop htp h.q)
  have hS := Kept.mk (fun W => rsum_any p k m l o s (FFld.pscl p k t o) W h.pk hsq (FFld.pscl_lt h.pk _ _) h.q)
  have HX0 : Kept (Bxs w [rsbox p l o] (w.alloc (rsbox p l o))) := ⟨(Bxs.start w).alloc (by simp) _⟩
  obtain ⟨c0, c1, c2, _⟩ := three_cells HX0.out.b0
  have ha1 : a ≤ 65536 := by have := h.q; omega
  clear hr ht hs hrl htp hsq hres hop hlp h ha
  go_enter Try.func142, Try.ntmps142
  go_wp2
  go_region_held3 (fun w' => w'.cell? ⟨w.heap.size, 0, none⟩ = some (.int .i64 p) ∧ w'.cell? ⟨w.heap.size, 1, none⟩ = some (.int .i64 l) ∧ w'.cell? ⟨w.heap.size, 2, none⟩ = some (.int .i64 o))
    (first | exact ⟨c0, c1, c2⟩ | exact ⟨k0, k1, k2⟩ | exact ⟨l0, l1, l2⟩ | go_keep)
    ((first
      | (go_at_call 140; (with_reducible refine (hM.out _).mono ?_); rintro e w2 ⟨hb2, rfl⟩; have hx2 : Bxs w [rsbox p l o] w2 := Bxs.below (by repeat (first | (with_reducible exact HX0.out) | (with_reducible refine Bxs.drew ?_))) hb2; obtain ⟨k0, k1, k2, _⟩ := three_cells hx2.b0; clear hb2)
      | (go_at_call 141; (with_reducible refine (hS.out _).mono ?_); rintro e w3 ⟨hb3, rfl⟩; have hx3 : Bxs w [rsbox p l o] w3 := Bxs.below (by repeat (first | (with_reducible exact hx2) | (with_reducible refine Bxs.drew ?_))) hb3; obtain ⟨l0, l1, l2, _⟩ := three_cells hx3.b0; clear hb3)))
  go_wp2
  go_ret
  exact ⟨hx3.1, rfl⟩
set_option maxRecDepth 20000 in
set_option maxHeartbeats 4000000 in
theorem rproduct_any (p k m l o : Nat) (h : RsOk p k m l o) : ∀ (a b : Nat) (w : World), a < p ^ k → b < p ^ k →
    Calls Try.prog 128 #[rsv p l o, .int .i64 a, .int .i64 b] w (RB w (.int .i64 (FFld.pmul p k m a k b : Nat))) := by
  intro a b
  induction b using Nat.strongRecOn with
  | ind b ih =>
    intro w ha hb
    have hp := h.pk.p2
    have HX0 : Kept (Bxs w [rsbox p l o] (w.alloc (rsbox p l o))) := ⟨(Bxs.start w).alloc (by simp) _⟩
    by_cases hb0 : b = 0
    · subst hb0
      have hz := Kept.mk (FFld.pmul_zero_right h.pk a k)
      have e0 : (((0 : Nat) : Int) == 0) = true := rfl
      clear ih ha hb h
      go_enter Try.func128, Try.ntmps128
      go_wp2
      go_ret
      exact ⟨HX0.out.1, by rw [hz.out]; rfl⟩
    · have e0 : ((b : Int) == 0) = false := by rw [beq_eq_false_iff_ne]; omega
      have hp1 : p ≤ 65536 := Nat.le_trans (by have := Nat.pow_le_pow_right (n := p) (by omega) h.pk.k1; rw [Nat.pow_one] at this; exact this) h.q
      obtain ⟨r, hr⟩ : ∃ r, b % p = r := ⟨_, rfl⟩
      obtain ⟨t, ht⟩ : ∃ t, b / p = t := ⟨_, rfl⟩
      have htb : t < b := by rw [← ht]; exact Nat.div_lt_self (by omega) hp
      have hrp : r < p := by rw [← hr]; exact Nat.mod_lt _ (by omega)
      have hres : FFld.pmul p k m a k b = FFld.padd p k (FFld.pscl p k r a) (FFld.pshf p k m (FFld.pmul p k m a k t)) := by rw [FFld.pmul_step h.pk a b hb, hr, ht]
      rw [hres]
      have er : (b : Int) % p = r := by rw [← hr]; rfl
      have et : (b : Int) / p = t := by rw [← ht]; rfl
      have er' : (b : Int).tmod p = r := by rw [Int.tmod_eq_emod_of_nonneg (by omega)]; exact er
      have et' : (b : Int).tdiv p = t := by rw [Int.tdiv_eq_ediv_of_nonneg (by omega)]; exact et
      have hb1 : b ≤ 65536 := by have := h.q; omega
      have ewt : IntKind.i64.wrap (t : Int) = t := wi (by omega) (by omega)
      have hpn : ¬ p = 0 := by omega
      have hM := Kept.mk (fun W => multiple_any p k m l o a r W h.pk ha hrp h.q)
      have hP := Kept.mk (fun W => ih t htb W ha (by omega))
      have hH := Kept.mk (fun W => shifted_any p k m l o (FFld.pmul p k m a k t) W h (FFld.pmul_lt h.pk _ _ _))
      have hS := Kept.mk (fun W => rsum_any p k m l o (FFld.pscl p k r a) (FFld.pshf p k m (FFld.pmul p k m a k t)) W h.pk (FFld.pscl_lt h.pk _ _) (FFld.pshf_lt h.pk _) h.q)
      obtain ⟨c0, c1, c2, _⟩ := three_cells HX0.out.b0
      obtain ⟨u, hu⟩ : ∃ u, FFld.pmul p k m a k t = u := ⟨_, rfl⟩
      rw [hu] at hP hH hS ⊢
      clear hr ht htb hrp hres h ha hb ih hu hb0
      go_enter Try.func128, Try.ntmps128
      go_wp2
      go_region_held3 (fun w' => w'.cell? ⟨w.heap.size, 0, none⟩ = some (.int .i64 p) ∧ w'.cell? ⟨w.heap.size, 1, none⟩ = some (.int .i64 l) ∧ w'.cell? ⟨w.heap.size, 2, none⟩ = some (.int .i64 o))
        (first | exact ⟨c0, c1, c2⟩ | exact ⟨k0, k1, k2⟩ | exact ⟨l0, l1, l2⟩ | exact ⟨n0, n1, n2⟩ | exact ⟨m0, m1, m2⟩ | go_keep)
        ((first
          | (go_at_call 140; (with_reducible refine (hM.out _).mono ?_); rintro e w2 ⟨hb2, rfl⟩; have hx2 : Bxs w [rsbox p l o] w2 := Bxs.below (by repeat (first | (with_reducible exact HX0.out) | (with_reducible assumption) | (with_reducible refine Bxs.drew ?_))) hb2; obtain ⟨k0, k1, k2, _⟩ := three_cells hx2.b0; clear hb2)
          | (go_at_call 128; (with_reducible refine (hP.out _).mono ?_); rintro e w3 ⟨hb3, rfl⟩; have hx3 : Bxs w [rsbox p l o] w3 := Bxs.below (by repeat (first | (with_reducible exact HX0.out) | (with_reducible assumption) | (with_reducible refine Bxs.drew ?_))) hb3; obtain ⟨l0, l1, l2, _⟩ := three_cells hx3.b0; clear hb3)
          | (go_at_call 142; (with_reducible refine (hH.out _).mono ?_); rintro e w4 ⟨hb4, rfl⟩; have hx4 : Bxs w [rsbox p l o] w4 := Bxs.below (by repeat (first | (with_reducible exact HX0.out) | (with_reducible assumption) | (with_reducible refine Bxs.drew ?_))) hb4; obtain ⟨n0, n1, n2, _⟩ := three_cells hx4.b0; clear hb4)
          | (go_at_call 141; (with_reducible refine (hS.out _).mono ?_); rintro e w5 ⟨hb5, rfl⟩; have hx5 : Bxs w [rsbox p l o] w5 := Bxs.below (by repeat (first | (with_reducible exact HX0.out) | (with_reducible assumption) | (with_reducible refine Bxs.drew ?_))) hb5; obtain ⟨m0, m1, m2, _⟩ := three_cells hx5.b0; clear hb5)))
      all_goals
        go_wp2
        go_ret
        exact ⟨hx5.1, rfl⟩
end Go.Proofs.Ytfhhnfpapgfnmaa

set_option linter.unusedVariables false
set_option linter.unusedSimpArgs false
namespace Go.Proofs.Ytfhhnfpapgfnmaa
open Go Go.RowKit
open FFld (ints)
theorem three_set' {w : World} {g : Nat} {a b c : Value} {T : TypeId} (h : w.heap[g]? = some (.cells #[a, b, c] T (0, 0))) (a' b' c' : Value) :
    (((w.setCell ⟨g, 0, none⟩ a').setCell ⟨g, 1, none⟩ b').setCell ⟨g, 2, none⟩ c').heap[g]? = some (.cells #[a', b', c'] T (0, 0)) := by
  have h1 := heap_setCell_same w g 0 _ T a' h
  have h2 := heap_setCell_same _ g 1 _ T b' h1
  have h3 := heap_setCell_same _ g 2 _ T c' h2
  simpa using h3
theorem three_end {w W : World} {g : Nat} {a b c : Value} {T : TypeId} (h : W.heap[g]? = some (.cells #[a, b, c] T (0, 0))) (hb : Below w.heap.size w W) (hg : w.heap.size ≤ g) (a' b' c' : Value) :
    Below w.heap.size w (((W.setCell ⟨g, 0, none⟩ a').setCell ⟨g, 1, none⟩ b').setCell ⟨g, 2, none⟩ c') ∧
    (((W.setCell ⟨g, 0, none⟩ a').setCell ⟨g, 1, none⟩ b').setCell ⟨g, 2, none⟩ c').cell? ⟨g, 0, none⟩ = some a' ∧
    (((W.setCell ⟨g, 0, none⟩ a').setCell ⟨g, 1, none⟩ b').setCell ⟨g, 2, none⟩ c').cell? ⟨g, 1, none⟩ = some b' ∧
    (((W.setCell ⟨g, 0, none⟩ a').setCell ⟨g, 1, none⟩ b').setCell ⟨g, 2, none⟩ c').cell? ⟨g, 2, none⟩ = some c' := by
  obtain ⟨c0, c1, c2, _⟩ := three_cells (three_set' h a' b' c')
  exact ⟨((hb.setCell (p := ⟨g, 0, none⟩) hg _).setCell (p := ⟨g, 1, none⟩) hg _).setCell (p := ⟨g, 2, none⟩) hg _, c0, c1, c2⟩
/-- Block g holds three numbers. -/
theorem three_one {w : World} {g : Nat} {a b c : Value} {T : TypeId} (h : w.heap[g]? = some (.cells #[a, b, c] T (0, 0))) (c' : Value) :
    (w.setCell ⟨g, 2, none⟩ c').heap[g]? = some (.cells #[a, b, c'] T (0, 0)) := by
  have h3 := heap_setCell_same w g 2 _ T c' h
  simpa using h3
set_option maxRecDepth 20000 in
set_option maxHeartbeats 2000000 in
theorem newResidues_any (p k m q : Nat) (w : World) (hpk : FFld.PK p k m) (hq0 : q = p ^ k) (hq : p ^ k ≤ 65536) (m0 : p ^ k ≤ m) (m1 : m < 2 * p ^ k) :
    Calls Try.prog 127 #[.int .i64 p, .int .i64 q, .int .i64 m] w (fun e w' => Below w.heap.size w w' ∧ ∃ l o, e = .returned (rsv p l o) ∧ RsOk p k m l o) := by
  have hp := hpk.p2
  have hk := hpk.k1
  obtain ⟨l, hl⟩ : ∃ l, q / p = l := ⟨_, rfl⟩
  obtain ⟨d, hd⟩ : ∃ d, m - q = d := ⟨_, rfl⟩
  obtain ⟨c, hc⟩ : ∃ c, p - 1 = c := ⟨_, rfl⟩
  obtain ⟨o, ho⟩ : ∃ o, FFld.pscl p k c d = o := ⟨_, rfl⟩
  have HR : Kept (RsOk p k m l o) := ⟨⟨hpk, hq, m0, m1, by rw [← hl, hq0]; exact FFld.last_eq hp hk, by rw [← ho, ← hd, ← hc, hq0]⟩⟩
  have el : (q : Int) / p = l := by rw [← hl]; rfl
  have hll : l ≤ 65536 := by rw [← hl]; exact Nat.le_trans (Nat.div_le_self _ _) (by omega)
  have ed : (m : Int) - q = d := by omega
  have ec : (p : Int) - 1 = c := by omega
  have hp1 : p ≤ 65536 := Nat.le_trans (by have := Nat.pow_le_pow_right (n := p) (by omega) hk; rw [Nat.pow_one] at this; exact this) hq
  have hM := Kept.mk (fun W => multiple_any p k m l 0 d c W hpk (by omega) (by omega) hq)
  rw [ho] at hM
  have hql : q ≤ 65536 := by omega
  have hml : m ≤ 131072 := by omega
  clear hl hd hc ho hq hq0 m0 m1
  have HX0 : Kept (Bxs w [rsbox 0 0 0, rsbox p l 0] ((w.alloc (rsbox 0 0 0)).alloc (rsbox p l 0))) := ⟨((Bxs.start w).alloc (by simp) _).alloc (by simp) _⟩
  obtain ⟨a0, a1, a2, _⟩ := three_cells HX0.out.b0
  obtain ⟨b0, b1, b2, _, _, b5⟩ := three_cells HX0.out.b1
  go_enter Try.func127, Try.ntmps127
  go_wp2_with fail
  refine (hM.out _).mono ?_
  rintro e w2 ⟨hb2, rfl⟩
  have HX2 := Kept.mk (HX0.out.below hb2)
  obtain ⟨c0, c1, c2, f0, f1, f2⟩ := three_cells HX2.out.b0
  obtain ⟨d0, d1, d2, _, _, d5⟩ := three_cells HX2.out.b1
  have hne : (w2.setCell ⟨w.heap.size + 1, 2, none⟩ (.int .i64 o)).heap[w.heap.size]? = some (.cells #[.int .i64 ((0 : Nat) : Int), .int .i64 ((0 : Nat) : Int), .int .i64 ((0 : Nat) : Int)] 120 (0, 0)) :=
    (heap_setCell_other _ _ _ _ (by simp)).trans HX2.out.b0
  have hbW : Below w.heap.size w (w2.setCell ⟨w.heap.size + 1, 2, none⟩ (.int .i64 o)) := HX2.out.1.setCell (p := ⟨w.heap.size + 1, 2, none⟩) (by simp) _
  obtain ⟨hb, e0, e1, e2⟩ := three_end hne hbW (Nat.le_refl _) (.int .i64 p) (.int .i64 l) (.int .i64 o)
  have HB := Kept.mk hb
  clear hb2 a0 a1 a2 b0 b1 b2 b5 hb hne hbW
  go_wp2
  exact bodyPost_ret (v := rsv p l o) (by simp [results, Try.results127, go_sem, e0, e1, e2]) rfl ⟨HB.out, _, _, rfl, HR.out⟩
end Go.Proofs.Ytfhhnfpapgfnmaa

set_option linter.unusedVariables false
set_option linter.unusedSimpArgs false
namespace Go.Proofs.Ytfhhnfpapgfnmaa
open Go Go.RowKit
open FFld (ints)
/-- The arithmetic of a field of a prime order. -/
abbrev rmv (p g : Nat) : Value := .agg #[.int .i64 p, .int .i64 g]
abbrev rmbox (p g : Nat) : Obj := .cells #[.int .i64 p, .int .i64 g] 118
set_option maxRecDepth 20000 in
set_option maxHeartbeats 2000000 in
theorem fproduct_any (p g a b : Nat) (w : World) (hpk : FFld.PK p 1 p) (hp1 : p ≤ 65536) (ha : a < p ^ 1) (hb : b < p ^ 1) :
    Calls Try.prog 125 #[rmv p g, .int .i64 a, .int .i64 b] w (RB w (.int .i64 (FFld.pmul p 1 p a 1 b : Nat))) := by
  rw [Nat.pow_one] at ha hb
  have hp := hpk.p2
  obtain ⟨v, hv⟩ : ∃ v, a * b = v := ⟨_, rfl⟩
  obtain ⟨z, hz⟩ : ∃ z, v % p = z := ⟨_, rfl⟩
  have hres : FFld.pmul p 1 p a 1 b = z := by rw [FFld.pmul_k1 hpk a b ha hb, hv, hz]
  rw [hres]
  have hvl : v ≤ 4294967296 := by rw [← hv]; exact nmul_le (A := 65536) (B := 65536) (by omega) (by omega)
  have e1 : wrap64 ((a : Int) * b) = v := wmul hv (by omega)
  have ez : (v : Int) % p = z := by rw [← hz]; rfl
  have HX0 : Kept (Bxs w [rmbox p g] (w.alloc (rmbox p g))) := ⟨(Bxs.start w).alloc (by simp) _⟩
  obtain ⟨c0, c1, _, _⟩ := two_cells HX0.out.b0
  clear hv hz hres
  go_enter Try.func125, Try.ntmps125
  go_wp2
  go_ret
  exact ⟨HX0.out.1, by simp [e1, ez]⟩
set_option maxRecDepth 20000 in
set_option maxHeartbeats 2000000 in
theorem fsum_any (p g a b : Nat) (w : World) (hpk : FFld.PK p 1 p) (hp1 : p ≤ 65536) (ha : a < p ^ 1) (hb : b < p ^ 1) :
    Calls Try.prog 163 #[rmv p g, .int .i64 a, .int .i64 b] w (RB w (.int .i64 (FFld.padd p 1 a b : Nat))) := by
  rw [Nat.pow_one] at ha hb
  have hp := hpk.p2
  obtain ⟨z, hz⟩ : ∃ z, (a + b) % p = z := ⟨_, rfl⟩
  have hres : FFld.padd p 1 a b = z := by rw [FFld.padd_k1 hpk a b ha hb, hz]
  rw [hres]
  have ez : ((a : Int) + b) % p = z := by rw [← hz]; rfl
  have HX0 : Kept (Bxs w [rmbox p g] (w.alloc (rmbox p g))) := ⟨(Bxs.start w).alloc (by simp) _⟩
  obtain ⟨c0, c1, _, _⟩ := two_cells HX0.out.b0
  clear hz hres
  go_enter Try.func163, Try.ntmps163
  go_wp2
  go_ret
  exact ⟨HX0.out.1, by simp [ez]⟩
set_option maxRecDepth 20000 in
set_option maxHeartbeats 2000000 in
theorem fpower_any (p g a n : Nat) (w : World) (hpk : FFld.PK p 1 p) (hp1 : p ≤ 65536) (ha : a < p ^ 1) (hn : n ≤ 70000) :
    Calls Try.prog 162 #[rmv p g, .int .i64 a, .int .i64 n] w (RB w (.int .i64 (FFld.ppow hpk a n : Nat))) := by
  have HX0 : Kept (Bxs w [rmbox p g] (w.alloc (rmbox p g))) := ⟨(Bxs.start w).alloc (by simp) _⟩
  have hP := Kept.mk (fun W => power_rem p 1 p hpk (rmv p g) a n W ha hn (fun W x y hx hy => fproduct_any p g x y W hpk hp1 hx hy))
  obtain ⟨c0, c1, _, _⟩ := two_cells HX0.out.b0
  clear ha hn
  go_enter Try.func162, Try.ntmps162
  go_wp2_with fail
  refine (hP.out _).mono ?_
  rintro e w2 ⟨hb2, rfl⟩
  have HX2 := Kept.mk (HX0.out.below hb2)
  clear hb2
  go_wp2
  go_ret
  exact ⟨HX2.out.1, rfl⟩
end Go.Proofs.Ytfhhnfpapgfnmaa

set_option linter.unusedVariables false
set_option linter.unusedSectionVars false
set_option linter.unusedSimpArgs false
namespace Go.Proofs.Ytfhhnfpapgfnmaa
namespace FFld
section
variable {p k m : Nat} (h : PK p k m)
include h
theorem ppow_zero (a : Nat) (ha : a < p ^ k) : ppow h a 0 = 1 := by rw [ppow_of h a 0 ha]; rfl
theorem ppow_one (a : Nat) (ha : a < p ^ k) : ppow h a 1 = a := by
  rw [ppow_of h a 1 ha]
  simp only [Rng.pow]
  rw [(rng h).one_mul]
theorem ppow_succ (a n : Nat) (ha : a < p ^ k) : ppow h a (n + 1) = pmul p k m (ppow h a n) k a := by
  rw [ppow_of h a _ ha, ppow_of h a _ ha]
  rfl
theorem ppow_add (a i j : Nat) (ha : a < p ^ k) : pmul p k m (ppow h a i) k (ppow h a j) = ppow h a (i + j) := by
  rw [ppow_of h a _ ha, ppow_of h a _ ha, ppow_of h a _ ha, (rng h).pow_add]
  rfl
theorem ppow_mul (a i n : Nat) (ha : a < p ^ k) : ppow h (ppow h a i) n = ppow h a (i * n) := by
  rw [ppow_of h a (i * n) ha, (rng h).pow_mul, ppow_of h (ppow h a i) n (ppow_lt h a i)]
  congr 2
  exact Subtype.ext (ppow_of h a i ha)
end
theorem FD.Ok.g_ne {D : FD} (h : D.Ok) : (⟨D.g, h.gq⟩ : El (D.p ^ D.k)) ≠ (FD.dom h.nzd).zero := fun e => by
  have : D.g = 0 := congrArg Subtype.val e
  have := h.g1
  omega
theorem FD.Ok.cycle {D : FD} (h : D.Ok) : ppow h.pre.pk D.g (D.p ^ D.k - 1) = 1 := by
  rw [ppow_of _ _ _ h.gq, ← dom_pow h.nzd, (h.ord _).2 (Nat.dvd_refl _)]
  rfl
theorem FD.Ok.pow_mod {D : FD} (h : D.Ok) (n : Nat) : ppow h.pre.pk D.g (n % (D.p ^ D.k - 1)) = ppow h.pre.pk D.g n := by
  have hc := h.cycle
  rw [ppow_of _ _ _ h.gq] at hc
  conv => rhs; rw [ppow_of _ _ _ h.gq, ← Nat.mod_add_div n (D.p ^ D.k - 1), (rng h.pre.pk).pow_add, (rng h.pre.pk).pow_mul, (Subtype.ext hc : (rng h.pre.pk).pow ⟨D.g, h.gq⟩ (D.p ^ D.k - 1) = (rng h.pre.pk).one), (rng h.pre.pk).one_pow, (rng h.pre.pk).mul_one]
  rw [ppow_of _ _ _ h.gq]
theorem FD.Ok.log {D : FD} (h : D.Ok) (a : Nat) (ha : a < D.p ^ D.k) (h0 : a ≠ 0) : ∃ n, n < D.p ^ D.k - 1 ∧ ppow h.pre.pk D.g n = a := by
  have hall := nzl_all h.nzd
  have hlen := nzl_len (D.p ^ D.k)
  obtain ⟨n, hn, e⟩ := (FD.dom h.nzd).exists_log hall h.g_ne (by rw [hlen]; exact h.ord) (a := ⟨a, ha⟩) (fun e => h0 (congrArg Subtype.val e))
  rw [hlen] at hn
  refine ⟨n, hn, ?_⟩
  rw [ppow_of _ _ _ h.gq, ← dom_pow h.nzd, e]
theorem FD.Ok.pow_ne {D : FD} (h : D.Ok) (n : Nat) : ppow h.pre.pk D.g n ≠ 0 := by
  rw [ppow_of _ _ _ h.gq, ← dom_pow h.nzd]
  intro e
  exact (FD.dom h.nzd).pow_ne h.g_ne n (Subtype.ext e)
theorem FD.Ok.pow_inj {D : FD} (h : D.Ok) {i j : Nat} (hi : i < D.p ^ D.k - 1) (hj : j < D.p ^ D.k - 1) (e : ppow h.pre.pk D.g i = ppow h.pre.pk D.g j) : i = j := by
  rw [ppow_of _ _ _ h.gq, ppow_of _ _ _ h.gq, ← dom_pow h.nzd, ← dom_pow h.nzd] at e
  exact (FD.dom h.nzd).pow_inj h.g_ne h.ord hi hj (Subtype.ext e)
/-- The tables of powers and logarithms. -/
structure TabOk (D : FD) (h : D.Ok) (P L : List Nat) : Prop where
  pl : P.length = D.p ^ D.k - 1
  pw : ∀ i, i < D.p ^ D.k - 1 → P[i]?.getD 0 = ppow h.pre.pk D.g i
  ll : L.length = D.p ^ D.k
  lg : ∀ a, a < D.p ^ D.k → a ≠ 0 → L[a]?.getD 0 < D.p ^ D.k - 1 ∧ ppow h.pre.pk D.g (L[a]?.getD 0) = a
theorem TabOk.product {D : FD} {h : D.Ok} {P L : List Nat} (t : TabOk D h P L) (a b : Nat) (ha : a < D.p ^ D.k) (hb : b < D.p ^ D.k) (a0 : a ≠ 0) (b0 : b ≠ 0) : ppow h.pre.pk D.g (L[a]?.getD 0 + L[b]?.getD 0) = pmul D.p D.k D.m a D.k b := by
  rw [← ppow_add h.pre.pk _ _ _ h.gq, (t.lg a ha a0).2, (t.lg b hb b0).2]
theorem TabOk.power {D : FD} {h : D.Ok} {P L : List Nat} (t : TabOk D h P L) (a n : Nat) (ha : a < D.p ^ D.k) (a0 : a ≠ 0) : ppow h.pre.pk D.g (L[a]?.getD 0 * n) = ppow h.pre.pk a n := by
  rw [← ppow_mul h.pre.pk _ _ _ h.gq, (t.lg a ha a0).2]
/-- 1 is added to the first digit alone. -/
theorem padd_one {p k m : Nat} (h : PK p k m) (t : Nat) (ht : t < p ^ k) : padd p k t 1 = if t % p = p - 1 then t + 1 - p else t + 1 := by
  have hp := h.p2
  have hk := h.k1
  have hdiv := Nat.div_add_mod t p
  have hml := Nat.mod_lt t h.p0
  have hlt : (if t % p = p - 1 then t + 1 - p else t + 1) < p ^ k := by
    split
    · omega
    · rcases Nat.lt_or_ge (t + 1) (p ^ k) with hl | hl
      · exact hl
      · exfalso
        have e : t + 1 = p ^ k := by omega
        obtain ⟨n, rfl⟩ : ∃ n, k = n + 1 := ⟨k - 1, by omega⟩
        have hm : (t + 1) % p = 0 := by rw [e, Nat.pow_succ, Nat.mul_mod_left]
        rename_i hne
        have : (t + 1) % p = t % p + 1 := by
          conv => lhs; rw [← hdiv, Nat.add_assoc, Nat.mul_add_mod]
          exact Nat.mod_eq_of_lt (by omega)
        omega
  refine dig_ext h.p0 k _ _ (padd_lt h _ _) hlt fun i hi => ?_
  rw [dig_padd h _ _ _ hi]
  cases i with
  | zero =>
    rw [dig_zero, dig_zero, dig_zero, Nat.mod_eq_of_lt (show 1 < p by omega)]
    split
    · rename_i e
      rw [e, show p - 1 + 1 = p from by omega, Nat.mod_self]
      have e1 : t + 1 - p = p * (t / p) := by omega
      rw [e1, Nat.mul_mod_right]
    · rename_i e
      rw [Nat.mod_eq_of_lt (show t % p + 1 < p by omega)]
      conv => rhs; rw [← hdiv, Nat.add_assoc, Nat.mul_add_mod]
      exact (Nat.mod_eq_of_lt (by omega)).symm
  | succ i =>
    rw [dig_succ p 1, Nat.div_eq_of_lt (show 1 < p by omega), dig_of_zero, Nat.add_zero, dig_mod, dig_succ, dig_succ]
    congr 1
    split
    · have e1 : t + 1 - p = p * (t / p) := by omega
      rw [e1, Nat.mul_div_cancel_left _ h.p0]
    · rename_i e
      conv => rhs; rw [← hdiv, Nat.add_assoc, Nat.mul_add_div h.p0, Nat.div_eq_of_lt (show t % p + 1 < p by omega), Nat.add_zero]
theorem padd_comm' (p k a b : Nat) : padd p k a b = padd p k b a := ofd_congr k fun i _ => by rw [Nat.add_comm]
/-- a + b is a times 1 + b / a. -/
theorem TabOk.sum {D : FD} {h : D.Ok} {P L : List Nat} (t : TabOk D h P L) (a b : Nat) (ha : a < D.p ^ D.k) (hb : b < D.p ^ D.k) (a0 : a ≠ 0) (b0 : b ≠ 0) :
    ∃ r, ppow h.pre.pk D.g (L[b]?.getD 0 + (D.p ^ D.k - 1) - L[a]?.getD 0) = r ∧ r < D.p ^ D.k ∧ r ≠ 0 ∧ pmul D.p D.k D.m a D.k (padd D.p D.k r 1) = padd D.p D.k a b := by
  have hpk := h.pre.pk
  obtain ⟨ha1, ha2⟩ := t.lg a ha a0
  obtain ⟨hb1, hb2⟩ := t.lg b hb b0
  refine ⟨_, rfl, ppow_lt _ _ _, h.pow_ne _, ?_⟩
  generalize L[a]?.getD 0 = la at *
  generalize L[b]?.getD 0 = lb at *
  have hr : pmul D.p D.k D.m a D.k (ppow hpk D.g (lb + (D.p ^ D.k - 1) - la)) = b := by
    rw [show pmul D.p D.k D.m a D.k (ppow hpk D.g (lb + (D.p ^ D.k - 1) - la)) = pmul D.p D.k D.m (ppow hpk D.g la) D.k (ppow hpk D.g (lb + (D.p ^ D.k - 1) - la)) from by rw [ha2]]
    rw [ppow_add hpk _ _ _ h.gq, ← h.pow_mod, show la + (lb + (D.p ^ D.k - 1) - la) = lb + (D.p ^ D.k - 1) from by omega, Nat.add_mod_right, h.pow_mod, hb2]
  rw [pmul_comm hpk a _ ha (padd_lt hpk _ _), pmul_add hpk, pmul_comm hpk _ a (ppow_lt hpk _ _) ha, hr, pmul_one hpk _ (Nat.le_refl _) a ha, padd_comm']
end FFld
end Go.Proofs.Ytfhhnfpapgfnmaa
