/-
  Texts of the proof, merged by program: Ram Rpm Ztr.
-/
import Derived.Test.YtblbheilddafbaaGreatDoorZ21
set_option linter.unusedVariables false
set_option linter.unusedSimpArgs false
/-! The arithmetic of the reference's loops over limbs. No program. -/
namespace Go.Proofs.YtblbheilddafbaaGreatDoor
open Go Go.RowKit
theorem Dg.nz_of_ge {B : Int} (hB : 0 < B) {xs : List Int} (h : Dg.Wf B xs) (hv : xs ≠ [] → B ^ (xs.length - 1) ≤ Dg.val B xs) : Dg.Nz xs := by
  intro hne h0
  have h1 := hv hne
  have hl : 0 < xs.length := List.length_pos_iff.2 hne
  have e := Dg.val_take_succD B xs (xs.length - 1)
  rw [show xs.length - 1 + 1 = xs.length by omega, List.take_of_length_le (Nat.le_refl _)] at e
  have e2 : xs[xs.length - 1]?.getD 0 = 0 := by
    rw [List.getLast_eq_getElem] at h0
    rw [List.getElem?_eq_getElem (by omega)]
    exact h0
  rw [e2, Int.mul_zero, Int.add_zero] at e
  have h2 := Dg.val_lt hB (h.take (xs.length - 1))
  have h3 : (xs.take (xs.length - 1)).length = xs.length - 1 := by simp
  rw [h3] at h2
  omega
theorem Dg.getD_out {xs : List Int} {k : Nat} (h : xs.length ≤ k) : xs[k]?.getD 0 = 0 := by rw [List.getElem?_eq_none h]; rfl
/-- How far the reference's sum has come. -/
structure RaAt (xs ys zs : List Int) (k : Nat) (c : Int) : Prop where
  len : zs.length = k
  wf : Dg.Wf BN zs
  c0 : 0 ≤ c
  c1 : c ≤ 1
  eq : Dg.val BN zs + c * BN ^ k = Dg.val BN (xs.take k) + Dg.val BN (ys.take k)
  top : xs.length < k → ys.length < k → c = 0 ∧ BN ^ (k - 1) ≤ Dg.val BN zs
  kl : k ≤ max xs.length ys.length + 1
theorem RaAt.start (xs ys : List Int) : RaAt xs ys [] 0 0 := ⟨rfl, Dg.Wf.nil _, by omega, by omega, by simp [Dg.val], fun h => by omega, by omega⟩
theorem RaAt.next {xs ys zs : List Int} {k : Nat} {c x y : Int} (h : RaAt xs ys zs k c) (hx : x = xs[k]?.getD 0) (hy : y = ys[k]?.getD 0) (hxb : 0 ≤ x ∧ x < BN) (hyb : 0 ≤ y ∧ y < BN)
    (hk : k < xs.length ∨ k < ys.length ∨ 0 < c) : RaAt xs ys (zs ++ [(c + x + y) % 1000000000]) (k + 1) ((c + x + y) / 1000000000) := by
  obtain ⟨hl, hw, c0, c1, hv, ht, hkl⟩ := h
  have hx1 : x < 1000000000 := hxb.2
  have hy1 : y < 1000000000 := hyb.2
  have hx0 := hxb.1
  have hy0 := hyb.1
  refine ⟨by simp [hl], hw.append (Dg.Wf.one (by omega) (by show _ < (1000000000 : Int); omega)), by omega, by omega, ?_, ?_, ?_⟩
  · rw [Dg.val_append, Dg.val_one, hl, Dg.val_take_succD, Dg.val_take_succD, ← hx, ← hy, Int.pow_succ]
    exact Dg.step_sum hv (by unfold BN; omega)
  · intro h1 h2
    have ex : x = 0 := by rw [hx]; exact Dg.getD_out (by omega)
    have ey : y = 0 := by rw [hy]; exact Dg.getD_out (by omega)
    have hc : c = 1 := by omega
    subst ex ey hc
    refine ⟨rfl, ?_⟩
    have hn := Dg.val_nonneg (show (0 : Int) < BN by decide) hw
    have hp := Dg.pow_pos (show (0 : Int) < BN by decide) k
    rw [Dg.val_append, Dg.val_one, hl]
    show BN ^ (k + 1 - 1) ≤ _
    rw [show k + 1 - 1 = k by omega, show (1 + 0 + 0 : Int) % 1000000000 = 1 from rfl, Int.mul_one]
    omega
  · rcases hk with h | h | h
    · omega
    · omega
    · by_cases e : xs.length < k ∧ ys.length < k
      · have := (ht e.1 e.2).1; omega
      · omega
theorem RaAt.done {xs ys zs : List Int} {k : Nat} (h : RaAt xs ys zs k 0) (hx : xs.length ≤ k) (hy : ys.length ≤ k) (wx : Dg.Wf BN xs) (wy : Dg.Wf BN ys) (nx : Dg.Nz xs) (ny : Dg.Nz ys) :
    Dg.Nz zs ∧ Dg.val BN zs = Dg.val BN xs + Dg.val BN ys ∧ zs.length ≤ max xs.length ys.length + 1 := by
  obtain ⟨hl, hw, c0, c1, hv, ht, hkl⟩ := h
  rw [List.take_of_length_le hx, List.take_of_length_le hy, Int.zero_mul, Int.add_zero] at hv
  refine ⟨Dg.nz_of_ge (by decide) hw fun hne => ?_, hv, by omega⟩
  rw [hl]
  by_cases e : xs.length < k ∧ ys.length < k
  · exact (ht e.1 e.2).2
  · have h1 := Dg.val_nonneg (show (0 : Int) < BN by decide) wx
    have h2 := Dg.val_nonneg (show (0 : Int) < BN by decide) wy
    have hk : 0 < k := by have := List.length_pos_iff.2 hne; omega
    by_cases e1 : xs.length = k
    · have := Dg.val_ge (show (0 : Int) < BN by decide) wx nx (fun e => by rw [e] at e1; simp at e1; omega)
      rw [e1] at this
      omega
    · have e2 : ys.length = k := by omega
      have := Dg.val_ge (show (0 : Int) < BN by decide) wy ny (fun e => by rw [e] at e2; simp at e2; omega)
      rw [e2] at this
      omega
/-- How far the reference's difference has come. -/
structure RsAt (xs ys zs : List Int) (k : Nat) (c : Int) : Prop where
  len : zs.length = k
  wf : Dg.Wf BN zs
  c0 : 0 ≤ c
  c1 : c ≤ 1
  eq : Dg.val BN zs - c * BN ^ k = Dg.val BN (xs.take k) - Dg.val BN (ys.take k)
theorem RsAt.start (xs ys : List Int) : RsAt xs ys [] 0 0 := ⟨rfl, Dg.Wf.nil _, by omega, by omega, by simp [Dg.val]⟩
theorem RsAt.next {xs ys zs : List Int} {k : Nat} {c x y s d : Int} (h : RsAt xs ys zs k c) (hx : x = xs[k]?.getD 0) (hy : y = ys[k]?.getD 0)
    (s0 : 0 ≤ s) (s1 : s < 1000000000) (d0 : 0 ≤ d) (d1 : d ≤ 1) (he : x - y - c = s - 1000000000 * d) : RsAt xs ys (zs ++ [s]) (k + 1) d := by
  obtain ⟨hl, hw, c0, c1, hv⟩ := h
  refine ⟨by simp [hl], hw.append (Dg.Wf.one s0 s1), d0, d1, ?_⟩
  rw [Dg.val_append, Dg.val_one, hl, Dg.val_take_succD, Dg.val_take_succD, ← hx, ← hy, Int.pow_succ]
  exact Dg.step_dif hv he
theorem RsAt.done {xs ys zs : List Int} {c : Int} (h : RsAt xs ys zs xs.length c) (hy : ys.length ≤ xs.length) (hle : Dg.val BN ys ≤ Dg.val BN xs) :
    Dg.Wf BN zs ∧ Dg.val BN zs = Dg.val BN xs - Dg.val BN ys := by
  obtain ⟨hl, hw, c0, c1, hv⟩ := h
  refine ⟨hw, ?_⟩
  rw [List.take_of_length_le (Nat.le_refl _), List.take_of_length_le hy] at hv
  have hlt := Dg.val_lt (show (0 : Int) < BN by decide) hw
  rw [hl] at hlt
  have : c = 0 := by
    rcases (show c = 0 ∨ c = 1 by omega) with h | h
    · exact h
    · subst h; omega
  subst this
  omega
theorem Dg.val_setD {B : Int} : ∀ {xs : List Int} {i : Nat} (x : Int), i < xs.length → Dg.val B (xs.set i x) = Dg.val B xs + B ^ i * (x - xs[i]?.getD 0)
  | [], i, x, h => by simp at h
  | y :: xs, 0, x, h => by
    simp only [List.set_cons_zero, Dg.val_cons, Int.pow_zero, List.getElem?_cons_zero, Option.getD_some]
    omega
  | y :: xs, i + 1, x, h => by
    have ih := Dg.val_setD (B := B) (xs := xs) (i := i) x (by simpa using h)
    simp only [List.set_cons_succ, Dg.val_cons, List.getElem?_cons_succ]
    rw [ih, Int.mul_add, Int.pow_succ, ← Int.mul_assoc, Int.mul_comm B (B ^ i)]
    omega
/-- How far the reference's product has come: i rows are in T. -/
structure RmAt (xs ys T : List Int) (i : Nat) : Prop where
  len : T.length = xs.length + ys.length
  wf : Dg.Wf BN T
  eq : Dg.val BN T = Dg.val BN (xs.take i) * Dg.val BN ys
  zero : ∀ j, i + ys.length ≤ j → T[j]?.getD 0 = 0
/-- .. and in row i the place k with a carry. -/
structure RmIn (xs ys T : List Int) (i k : Nat) (x c : Int) : Prop where
  len : T.length = xs.length + ys.length
  wf : Dg.Wf BN T
  c0 : 0 ≤ c
  c1 : c < 1000000000
  eq : Dg.val BN T + c * BN ^ (i + k) = Dg.val BN (xs.take i) * Dg.val BN ys + BN ^ i * (x * Dg.val BN (ys.take k))
  zero : ∀ j, i + ys.length ≤ j → i + k ≤ j → T[j]?.getD 0 = 0
  top : ys.length < k → c = 0 ∧ k = ys.length + 1
theorem RmAt.start (xs ys : List Int) : RmAt xs ys (List.replicate (xs.length + ys.length) 0) 0 :=
  ⟨by simp, Dg.Wf.zeros (by decide) _, by simp [Dg.val_zeros, Dg.val], fun j _ => by simp [List.getElem?_replicate]; split <;> rfl⟩
theorem RmAt.row {xs ys T : List Int} {i : Nat} (h : RmAt xs ys T i) (x : Int) : RmIn xs ys T i 0 x 0 :=
  ⟨h.len, h.wf, by omega, by omega, by rw [h.eq]; simp [Dg.val], fun j h1 h2 => h.zero j h1, fun h => by omega⟩
theorem RmIn.next {xs ys T : List Int} {i k : Nat} {x y t c : Int} (h : RmIn xs ys T i k x c) (hi : i < xs.length) (hy : y = ys[k]?.getD 0) (ht : t = T[i + k]?.getD 0)
    (hx0 : 0 ≤ x) (hx1 : x < 1000000000) (wy : Dg.Wf BN ys) (hk : k < ys.length ∨ 0 < c) :
    i + k < T.length ∧ 0 ≤ x * y ∧ x * y ≤ 999999998000000001 ∧ 0 ≤ t ∧ t < 1000000000 ∧ RmIn xs ys (T.set (i + k) ((t + c + x * y) % 1000000000)) i (k + 1) x ((t + c + x * y) / 1000000000) := by
  obtain ⟨hl, hw, c0, c1, he, hz, htop⟩ := h
  have hyb := Dg.Wf.getD (show (0 : Int) < BN by decide) wy k
  have htb := Dg.Wf.getD (show (0 : Int) < BN by decide) hw (i + k)
  rw [← hy] at hyb
  rw [← ht] at htb
  obtain ⟨y0, y1⟩ := hyb
  obtain ⟨t0, t1⟩ := htb
  have hkk : k ≤ ys.length := by
    apply Classical.byContradiction
    intro hc
    have := (htop (by omega)).1
    omega
  have hm0 : 0 ≤ x * y := Int.mul_nonneg hx0 y0
  have hm1 : x * y ≤ (BN - 1) * (BN - 1) := Dg.mul_bound hx0 hx1 y0 y1
  have hm2 : (BN - 1) * (BN - 1) = 999999998000000001 := rfl
  rw [hm2] at hm1
  have t1' : t < 1000000000 := t1
  refine ⟨by omega, hm0, hm1, t0, t1', by simpa using hl, hw.set _ (by omega) (by show _ < (1000000000 : Int); omega), by omega, by omega, ?_, ?_, ?_⟩
  · rw [Dg.val_setD _ (by omega), ← ht, Dg.val_take_succD, ← hy, ← Nat.add_assoc, Int.pow_succ]
    have e1 : (BN : Int) ^ (i + k) = BN ^ i * BN ^ k := Int.pow_add _ _ _
    have e2 : BN ^ i * (x * (Dg.val BN (ys.take k) + BN ^ k * y)) = BN ^ i * (x * Dg.val BN (ys.take k)) + BN ^ (i + k) * (x * y) := by
      rw [e1, Int.mul_add, Int.mul_add]
      simp only [Int.mul_comm, Int.mul_left_comm, Int.mul_assoc]
    rw [e2, ← Int.add_assoc, ← he]
    have hd : (t + c + x * y) = (t + c + x * y) % 1000000000 + BN * ((t + c + x * y) / 1000000000) := by unfold BN; omega
    generalize (t + c + x * y) % 1000000000 = s at *
    generalize (t + c + x * y) / 1000000000 = q at *
    generalize (BN : Int) ^ (i + k) = P at *
    have e3 : P * (t + c + x * y) = P * (s + BN * q) := by rw [hd]
    generalize x * y = m at *
    rw [Int.mul_sub]
    simp only [Int.mul_add] at e3
    have e4 : q * (P * BN) = P * (BN * q) := by simp only [Int.mul_comm, Int.mul_left_comm, Int.mul_assoc]
    rw [e4, Int.mul_comm c P]
    omega
  · intro j h1 h2
    rw [List.getElem?_set_ne (by omega)]
    exact hz j h1 (by omega)
  · intro h1
    have ek : k = ys.length := by omega
    have ey : y = 0 := by rw [hy]; exact Dg.getD_out (by omega)
    have et : t = 0 := by rw [ht]; exact hz _ (by omega) (by omega)
    subst ey et
    refine ⟨by omega, by omega⟩
theorem RmIn.done {xs ys T : List Int} {i k : Nat} {x : Int} (h : RmIn xs ys T i k x 0) (hk : ys.length ≤ k) (hi : i < xs.length) (hx : x = xs[i]?.getD 0) : RmAt xs ys T (i + 1) := by
  obtain ⟨hl, hw, _, _, he, hz, ht⟩ := h
  refine ⟨hl, hw, ?_, fun j hj => ?_⟩
  · rw [Int.zero_mul, Int.add_zero, List.take_of_length_le hk] at he
    rw [he, Dg.val_take_succD, ← hx, Int.add_mul, Int.mul_assoc]
  · by_cases e : i + k ≤ j
    · exact hz j (by omega) e
    · by_cases e2 : ys.length < k
      · have := (ht e2).2; omega
      · exact hz j (by omega) (by omega)
theorem RmAt.done {xs ys T : List Int} (h : RmAt xs ys T xs.length) : Dg.val BN T = Dg.val BN xs * Dg.val BN ys := by
  have := h.eq
  rw [List.take_of_length_le (Nat.le_refl _)] at this
  exact this
end Go.Proofs.YtblbheilddafbaaGreatDoor

set_option linter.unusedVariables false
set_option linter.unusedSimpArgs false
namespace Go.Proofs.YtblbheilddafbaaGreatDoor
open Go Go.RowKit
theorem valD_at {l : List UInt8} {k : Nat} {c : UInt8} (hk : k < l.length) (hc : l[k]? = some c) : Dg.valD (l.drop k) = (c.toNat - 48) * 10 ^ (l.length - (k + 1)) + Dg.valD (l.drop (k + 1)) := by
  have e : l.drop k = [c] ++ l.drop (k + 1) := by
    rw [List.drop_eq_getElem_cons hk]
    rw [List.getElem?_eq_getElem hk] at hc
    cases hc
    rfl
  rw [e, Dg.valD_append]
  congr 1
  · congr 1
    · simp [Dg.valD]
    · simp
/-- How far the reference's reading of digits has come: the bytes from k on are read, D and the limb hold them. -/
structure RpAt (l : List UInt8) (k : Nat) (D : List Int) (u p : Int) (j : Nat) : Prop where
  kl : k ≤ l.length
  dig : Dg.AllDig (l.drop k)
  wf : Dg.Wf BN D
  j9 : j < 9
  pj : p = 10 ^ j
  u0 : 0 ≤ u
  u1 : u < p
  val : Dg.val BN D + BN ^ D.length * u = Dg.valD (l.drop k)
  pow : BN ^ D.length * p = 10 ^ (l.length - k)
  len : 9 * D.length + j = l.length - k
theorem RpAt.start (l : List UInt8) : RpAt l l.length [] 0 1 0 :=
  ⟨Nat.le_refl _, by simp [Dg.AllDig], Dg.Wf.nil _, by omega, rfl, by omega, by omega, by simp [Dg.val, Dg.valD], by simp, by simp⟩
theorem RpAt.p1 {l : List UInt8} {k : Nat} {D : List Int} {u p : Int} {j : Nat} (h : RpAt l k D u p j) : 1 ≤ p ∧ p ≤ 100000000 := by
  obtain ⟨_, _, _, h9, rfl, _⟩ := h
  have h1 : (10 : Int) ^ j ≤ 10 ^ 8 := Dg.pow_mono (by omega) (by omega)
  have h2 : (0 : Int) < 10 ^ j := Dg.pow_pos (by omega) j
  have h3 : (10 : Int) ^ 8 = 100000000 := rfl
  omega
theorem RpAt.step {l : List UInt8} {k : Nat} {D : List Int} {u p : Int} {j : Nat} {c : UInt8} (h : RpAt l (k + 1) D u p j) (hc : l[k]? = some c) (h0 : 48 ≤ c.toNat) (h1 : c.toNat ≤ 57) :
    0 ≤ u + p * ((c.toNat : Int) - 48) ∧ u + p * ((c.toNat : Int) - 48) < 10 * p ∧
    Dg.val BN D + BN ^ D.length * (u + p * ((c.toNat : Int) - 48)) = Dg.valD (l.drop k) ∧ BN ^ D.length * (10 * p) = 10 ^ (l.length - k) ∧ Dg.AllDig (l.drop k) := by
  have hp := h.p1
  have hu0 := h.u0
  have hu1 := h.u1
  have hkl := h.kl
  have hm1 : 0 ≤ p * ((c.toNat : Int) - 48) := Int.mul_nonneg (by omega) (by omega)
  have hm2 : p * ((c.toNat : Int) - 48) ≤ p * 9 := Int.mul_le_mul_of_nonneg_left (by omega) (by omega)
  have e1 : l.length - k = l.length - (k + 1) + 1 := by omega
  refine ⟨by omega, by omega, ?_, ?_, ?_⟩
  · rw [valD_at (by omega) hc, Int.mul_add, ← Int.add_assoc, h.val, ← Int.mul_assoc, h.pow]
    have : ((c.toNat - 48 : Nat) : Int) = (c.toNat : Int) - 48 := by omega
    simp only [Int.natCast_add, Int.natCast_mul, Int.natCast_pow, this]
    rw [Int.mul_comm, Int.add_comm]
    rfl
  · rw [e1, Int.pow_succ, ← h.pow, Int.mul_comm 10 p, ← Int.mul_assoc]
  · intro x hx
    rw [List.drop_eq_getElem_cons (show k < l.length by omega)] at hx
    rw [List.getElem?_eq_getElem (show k < l.length by omega)] at hc
    have hc' := Option.some.inj hc
    rcases List.mem_cons.1 hx with hx | hx
    · rw [hx, hc']
      exact ⟨h0, h1⟩
    · exact h.dig x hx
theorem RpAt.stay {l : List UInt8} {k : Nat} {D : List Int} {u p : Int} {j : Nat} {c : UInt8} (h : RpAt l (k + 1) D u p j) (hc : l[k]? = some c) (h0 : 48 ≤ c.toNat) (h1 : c.toNat ≤ 57) (hn : 10 * p ≠ 1000000000) :
    RpAt l k D (u + p * ((c.toNat : Int) - 48)) (10 * p) (j + 1) := by
  obtain ⟨a0, a1, a2, a3, a4⟩ := h.step hc h0 h1
  have hkl := h.kl
  have hl := h.len
  refine ⟨by omega, a4, h.wf, ?_, ?_, a0, a1, a2, a3, by omega⟩
  · apply Classical.byContradiction
    intro hc
    have := h.j9
    obtain rfl : j = 8 := by omega
    exact hn (by rw [h.pj]; rfl)
  · rw [h.pj, Int.pow_succ, Int.mul_comm]
theorem RpAt.push {l : List UInt8} {k : Nat} {D : List Int} {u p : Int} {j : Nat} {c : UInt8} (h : RpAt l (k + 1) D u p j) (hc : l[k]? = some c) (h0 : 48 ≤ c.toNat) (h1 : c.toNat ≤ 57) (hn : 10 * p = 1000000000) :
    RpAt l k (D ++ [u + p * ((c.toNat : Int) - 48)]) 0 1 0 := by
  obtain ⟨a0, a1, a2, a3, a4⟩ := h.step hc h0 h1
  have hkl := h.kl
  have hl := h.len
  have hj8 : j = 8 := by
    apply Classical.byContradiction
    intro hc'
    have h9 := h.j9
    have hm : (10 : Int) ^ j ≤ 10 ^ 7 := Dg.pow_mono (by omega) (by omega)
    have h7 : (10 : Int) ^ 7 = 10000000 := rfl
    have := h.pj
    omega
  refine ⟨by omega, a4, h.wf.append (Dg.Wf.one a0 (by show _ < (1000000000 : Int); omega)), by omega, rfl, by omega, by omega, ?_, ?_, by simp; omega⟩
  · rw [Dg.val_append, Dg.val_one, Int.mul_zero, Int.add_zero]
    exact a2
  · rw [List.length_append, List.length_singleton, Int.pow_succ, Int.mul_one, ← a3, hn]
theorem RpAt.done0 {l : List UInt8} {D : List Int} {p : Int} {j : Nat} (h : RpAt l 0 D 0 p j) : Dg.val BN D = Dg.valD l := by
  have := h.val
  rw [Int.mul_zero, Int.add_zero] at this
  simpa using this
theorem RpAt.done1 {l : List UInt8} {D : List Int} {u p : Int} {j : Nat} (h : RpAt l 0 D u p j) : Dg.Wf BN (D ++ [u]) ∧ Dg.val BN (D ++ [u]) = Dg.valD l := by
  have h1 := h.val
  have h2 := h.p1
  have h3 := h.u1
  refine ⟨h.wf.append (Dg.Wf.one h.u0 (by show _ < (1000000000 : Int); omega)), ?_⟩
  rw [Dg.val_append, Dg.val_one]
  simpa using h1
end Go.Proofs.YtblbheilddafbaaGreatDoor

set_option linter.unusedVariables false
set_option linter.unusedSimpArgs false
namespace Go.Proofs.YtblbheilddafbaaGreatDoor
open Go Go.RowKit
theorem Sl.cut_cap {K : IntKind} {w : World} {ao : Option Addr} {xs : List Int} {k cap : Nat} (hk : k ≤ xs.length) (hc : xs.length ≤ cap) (hm : cap ≤ maxLen)
    (hx : ∀ i, i < xs.length → ∃ b o, ao = some ⟨b, o, none⟩ ∧ b < w.heap.size ∧ w.cell? ⟨b, o + i, none⟩ = some (.int K (xs[i]?.getD 0))) : Sl K w (.slice ao k cap) (xs.take k) := by
  refine ⟨ao, cap, by simp [Nat.min_eq_left hk], by simp [Nat.min_eq_left hk]; omega, hm, fun i hi => ?_⟩
  have hi' : i < k := by simpa [Nat.min_eq_left hk] using hi
  obtain ⟨b, o, e, hl, hcell⟩ := hx i (by omega)
  exact ⟨b, o, e, hl, by rw [hcell, List.getElem?_take, if_pos hi']⟩
def sliceLen : Value → Nat | .slice _ k _ => k | _ => 0
set_option maxHeartbeats 400000 in
theorem trim_any (v : Value) (xs : List Int) (w : World) (h : Sl .i64 w v xs) :
    Calls Tryz.prog 79 #[v] w (RetSame .i64 w v (Dg.cut xs)) := by
  obtain ⟨ao, cap, rfl, hcap, hmax, hc⟩ := h
  have hmax' := hmax
  unfold maxLen at hmax
  go_enter Tryz.func79, Tryz.ntmps79
  go_wp2
  go_loop [0] (fun n => ∃ k : Nat, k ≤ xs.length ∧ n = .slice ao k cap ∧ Hid (∀ i, k ≤ i → xs[i]?.getD 0 = 0)) (fun n => sliceLen n)
  case atStart => exact ⟨xs.length, Nat.le_refl _, rfl, fun i hi => by simp [hi]⟩
  case round =>
    obtain ⟨k, hk, rfl, hz⟩ := hrel
    by_cases h0 : 0 < k
    · obtain ⟨b, o, rfl, hb, hcell⟩ := hc (k-1) (by omega)
      obtain ⟨k, rfl⟩ : ∃ j, k = j+1 := ⟨k - 1, by omega⟩
      obtain ⟨x, hx⟩ : ∃ x, x = xs[k]?.getD 0 := ⟨_, rfl⟩
      simp only [Nat.add_sub_cancel] at hcell
      rw [← hx] at hcell
      have HX := Lib.hid hx
      clear hx
      go_wp2
      · have h1 : (x == 0) = true := by assumption
        refine ⟨⟨k, by omega, rfl, fun i hi => ?_⟩, by simp [sliceLen]⟩
        by_cases e : i = k
        · rw [e, ← HX.out]; simpa using h1
        · exact hz.out i (by omega)
      · have h1 : (x == 0) = false := by assumption
        go_ret
        refine ⟨rfl, _, rfl, ?_⟩
        rw [Dg.cut_eq xs (k + 1) hz.out (Or.inr (by simpa [← HX.out] using h1))]
        exact ⟨Sl.cut_cap hk hcap hmax' hc, fun k h => h⟩
    · obtain rfl : k = 0 := by omega
      go_wp2
      go_ret
      refine ⟨rfl, _, rfl, ?_⟩
      rw [Dg.cut_eq xs 0 hz.out (Or.inl rfl)]
      refine ⟨Sl.cut_cap hk hcap hmax' hc, fun k h => ?_⟩
      have h' : (Value.slice ao 0 cap).ownBlock = some k := h
      cases ao <;> exact h'
theorem trim_num {v : Value} {xs : List Int} {w : World} (h : Sl .i64 w v xs) (hw : Dg.Wf BN xs) :
    Calls Tryz.prog 79 #[v] w fun e w' => ∃ v', e = .returned v' ∧ w = w' ∧ NumR xs.length w v' (Dg.val BN xs) ∧ ∀ k, v'.ownBlock = some k → v.ownBlock = some k :=
  (trim_any v xs w h).mono fun e w' ⟨hw', v', he, hs, ho⟩ => ⟨v', he, hw', ⟨Dg.cut xs, hs, hw.cut, Dg.nz_cut xs, Dg.val_cut BN xs, Dg.cut_len xs⟩, ho⟩
/-- The call returns the limbs of n, at most L of them. -/
def RetR (L : Nat) (w : World) (n : Int) (e : Ending) (w' : World) : Prop := Below w.heap.size w w' ∧ ∃ v', e = .returned v' ∧ NumR L w' v' n
end Go.Proofs.YtblbheilddafbaaGreatDoor
