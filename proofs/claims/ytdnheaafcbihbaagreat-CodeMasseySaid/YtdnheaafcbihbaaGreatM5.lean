/-
  Texts of the proof, merged by program: Rsd Rse Rsn Rmd Ta.
-/
import Derived.Test.YtdnheaafcbihbaaGreatM4
import Derived.Test.YtdnheaafcbihbaaGreatM3
set_option linter.unusedVariables false
set_option linter.unusedSimpArgs false
namespace Go.Proofs.YtdnheaafcbihbaaGreat
open Go Go.RowKit
open FFld (ints)
/-- The slow field. -/
abbrev rsv (p l o : Nat) : Value := .agg #[.int .i64 p, .int .i64 l, .int .i64 o]
abbrev rsbox (p l o : Nat) : Obj := .cells #[.int .i64 p, .int .i64 l, .int .i64 o] 217
set_option maxRecDepth 20000 in
set_option maxHeartbeats 2000000 in
theorem multiple_any (p k m l o a c : Nat) (w : World) (hpk : FFld.PK p k m) (ha : a < p ^ k) (hc : c < p) (hq : p ^ k ≤ 65536) :
    Calls Tryz.prog 247 #[rsv p l o, .int .i64 a, .int .i64 c] w (RB w (.int .i64 (FFld.pscl p k c a : Nat))) := by
  have hp := hpk.p2
  have hk := hpk.k1
  have hp1 : p ≤ 65536 := Nat.le_trans (by have := Nat.pow_le_pow_right (n := p) (by omega) hk; rw [Nat.pow_one] at this; exact this) hq
  have ha1 : a ≤ 65536 := by omega
  have HX0 : Kept (Bxs w [rsbox p l o] (w.alloc (rsbox p l o))) := ⟨(Bxs.start w).alloc (by simp) _⟩
  by_cases hc2 : c < 2
  · obtain ⟨v, hv⟩ : ∃ v, a * c = v := ⟨_, rfl⟩
    have hvr : FFld.pscl p k c a = v := by
      rcases (show c = 0 ∨ c = 1 by omega) with rfl | rfl
      · rw [FFld.pscl_zero hpk, ← hv, Nat.mul_zero]
      · rw [FFld.pscl_one hpk a ha, ← hv, Nat.mul_one]
    have hvl : v ≤ 131072 := by rw [← hv]; exact nmul_le (A := 65536) (B := 2) ha1 (by omega)
    have e1 : wrap64 ((a : Int) * c) = v := wmul hv (by omega)
    have HV := Kept.mk hvr
    clear hv hvr ha hq
    go_enter Tryz.func247, Tryz.ntmps247
    go_wp2
    go_ret
    exact ⟨HX0.out.1, by rw [HV.out]; simp [e1]⟩
  · have HA := Kept.mk ha
    have HQ := Kept.mk hq
    clear ha hq
    obtain ⟨f, hf⟩ : ∃ f : Nat → Nat, (fun i => (FFld.dig p a i * c) % p) = f := ⟨_, rfl⟩
    have HF := Kept.mk hf
    have HFL := Kept.mk (show ∀ i, f i < p from fun i => by rw [← hf]; exact Nat.mod_lt _ (by omega))
    have hres : FFld.pscl p k c a = FFld.ofd p f k := by rw [← hf]; rfl
    rw [hres]
    clear hf hres
    go_enter Tryz.func247, Tryz.ntmps247
    go_wp2
    go_loopw [1, 7, 8] (fun av nv uv wr => ∃ (j x n u : Nat), x ≤ 65536 ∧ av = .int .i64 x ∧ nv = .int .i64 n ∧ uv = .int .i64 u ∧ Kept (x = a / p ^ j) ∧ Kept (FFld.DlAt p f k j n u) ∧ Kept (Bxs w [rsbox p l o] wr)) (fun av _ _ _ => (intOf av).toNat)
    case atStart => exact ⟨0, a, 0, 1, ha1, rfl, rfl, rfl, ⟨by simp⟩, ⟨FFld.DlAt.start p f k⟩, HX0⟩
    case round =>
      obtain ⟨j, x, n, u, hx, rfl, rfl, rfl, hxa, hat, hbx⟩ := hrel
      by_cases hpos : 0 < x
      · have hjk : j < k := FFld.cur_pos HA.out (by rw [← hxa.out]; exact hpos) hp
        have HNX := Kept.mk (hat.out.next hjk)
        have hul : u ≤ 65536 := Nat.le_trans (hat.out.u_le hp) HQ.out
        have hupl : u * p ≤ 65536 := Nat.le_trans (hat.out.up_le hp hjk) HQ.out
        have hnl : n ≤ 65536 := by have := hat.out.n_lt hp HFL.out; have := HQ.out; omega
        have hfj : f j < p := HFL.out j
        obtain ⟨z, hz⟩ : ∃ z, f j = z := ⟨_, rfl⟩
        rw [hz] at hfj HNX
        have hzv : (x % p * c) % p = z := by rw [← hz, ← HF.out, hxa.out]; rfl
        obtain ⟨r, hr⟩ : ∃ r, x % p = r := ⟨_, rfl⟩
        obtain ⟨x', hx'⟩ : ∃ x', x / p = x' := ⟨_, rfl⟩
        have HXA : Kept (x' = a / p ^ (j + 1)) := ⟨by rw [← hx', hxa.out, FFld.cur_next]⟩
        have hdec : x' < x := by rw [← hx']; exact Nat.div_lt_self hpos hp
        have hx'l : x' ≤ 65536 := Nat.le_trans (by rw [← hx']; exact Nat.div_le_self _ _) hx
        have hrp : r < p := by rw [← hr]; exact Nat.mod_lt _ (by omega)
        obtain ⟨s, hs⟩ : ∃ s, r * c = s := ⟨_, rfl⟩
        have hsl : s ≤ 4294967296 := by rw [← hs]; exact nmul_le (A := 65536) (B := 65536) (by omega) (by omega)
        have er : (x : Int) % p = r := by rw [← hr]; rfl
        have e1 : IntKind.i64.wrap ((r : Int) * c) = (s : Int) := wimul hs (by omega)
        have ez : (s : Int) % p = z := by rw [← hzv, hr, hs]; rfl
        obtain ⟨v, hv⟩ : ∃ v, z * u = v := ⟨_, rfl⟩
        obtain ⟨u', hu'⟩ : ∃ u', u * p = u' := ⟨_, rfl⟩
        have hvl : v ≤ 4294967296 := by rw [← hv]; exact nmul_le (A := 65536) (B := 65536) (by omega) (by omega)
        have hul' : u' ≤ 65536 := by rw [← hu']; exact hupl
        have e2 : IntKind.i64.wrap ((z : Int) * u) = v := wimul hv (by omega)
        have e3 : IntKind.i64.wrap ((n : Int) + v) = (n : Int) + v := wi (by omega) (by omega)
        have e4 : wrap64 ((u : Int) * p) = u' := wmul hu' (by omega)
        rw [hv, hu'] at HNX
        have ex : (x : Int) / p = x' := by rw [← hx']; rfl
        obtain ⟨c0, c1, c2, _⟩ := three_cells hbx.out.b0
        clear hr hs hx' hz hzv hupl hv hu'
        go_wp2
        go_quiet (fail)
        go_wp2
        go_roundw
        case rel => exact ⟨j + 1, x', n + v, u', hx'l, rfl, by simp, congrArg (Value.int .i64) e4, HXA, HNX, ⟨hbx.out.below (below_drewN (Below.refl _ _) _)⟩⟩
        case measure => simp [intOf] <;> omega
      · obtain rfl : x = 0 := by omega
        have HN := Kept.mk (hat.out.done (fun i hi => by
          rw [← HF.out]
          show (FFld.dig p a i * c) % p = 0
          rw [FFld.cur_zero hxa.out.symm hp hi, Nat.zero_mul, Nat.zero_mod]))
        go_wp2
        go_ret
        exact ⟨hbx.out.1, by rw [HN.out]; rfl⟩
theorem wadd {a b : Nat} (ha : a ≤ 4294967296) (hb : b ≤ 8589934592) : wrap64 ((a : Int) + b) = ((a + b : Nat) : Int) := by rw [w64 (by omega) (by omega)]; simp
theorem wmadd' {n z u v : Nat} (h : z * u = v) (hn : n ≤ 4294967296) (hv : v ≤ 8589934592) : wrap64 ((n : Int) + wrap64 ((z : Int) * u)) = ((n + v : Nat) : Int) := by rw [wmul h (Nat.le_trans hv (by decide))]; exact wadd hn hv
theorem xor_i64 (a b : Nat) (ha : a < 131072) (hb : b < 131072) : bits BinOp.xor .i64 (a : Int) (b : Int) = ((a ^^^ b : Nat) : Int) := by
  have hx : a ^^^ b < 2 ^ 17 := Nat.xor_lt_two_pow (by rw [show (2 : Nat) ^ 17 = 131072 from rfl]; exact ha) (by rw [show (2 : Nat) ^ 17 = 131072 from rfl]; exact hb)
  rw [show (2 : Nat) ^ 17 = 131072 from rfl] at hx
  have h1 : (BitVec.ofInt 64 (a : Int)).toNat = a := by
    rw [BitVec.ofInt_natCast, BitVec.toNat_ofNat]; exact Nat.mod_eq_of_lt (by omega)
  have h2 : (BitVec.ofInt 64 (b : Int)).toNat = b := by
    rw [BitVec.ofInt_natCast, BitVec.toNat_ofNat]; exact Nat.mod_eq_of_lt (by omega)
  show IntKind.i64.wrap ((BitVec.ofInt 64 (a : Int) ^^^ BitVec.ofInt 64 (b : Int)).toNat : Int) = _
  rw [BitVec.toNat_xor, h1, h2]
  exact wi (by omega) (by omega)
set_option maxRecDepth 20000 in
set_option maxHeartbeats 2000000 in
theorem rsum_any (p k m l o a b : Nat) (w : World) (hpk : FFld.PK p k m) (ha : a < p ^ k) (hb : b < p ^ k) (hq : p ^ k ≤ 65536) :
    Calls Tryz.prog 248 #[rsv p l o, .int .i64 a, .int .i64 b] w (RB w (.int .i64 (FFld.padd p k a b : Nat))) := by
  have hp := hpk.p2
  have hk := hpk.k1
  have hp1 : p ≤ 65536 := Nat.le_trans (by have := Nat.pow_le_pow_right (n := p) (by omega) hk; rw [Nat.pow_one] at this; exact this) hq
  have ha1 : a ≤ 65536 := by omega
  have hb1 : b ≤ 65536 := by omega
  have HX0 : Kept (Bxs w [rsbox p l o] (w.alloc (rsbox p l o))) := ⟨(Bxs.start w).alloc (by simp) _⟩
  by_cases hp2 : p = 2
  · subst hp2
    obtain ⟨c0, c1, c2, _⟩ := three_cells HX0.out.b0
    have hx : FFld.padd 2 k a b = a ^^^ b := FFld.padd_xor hpk a b ha hb
    have HXR := Kept.mk hx
    have e0 : (((2 : Nat) : Int) == 2) = true := rfl
    clear ha hb hq hx
    go_enter Tryz.func248, Tryz.ntmps248
    go_wp2
    go_ret
    refine ⟨HX0.out.1, ?_⟩
    rw [HXR.out]
    simp
    exact xor_i64 a b (by omega) (by omega)
  · have HA := Kept.mk ha
    have HB := Kept.mk hb
    have HQ := Kept.mk hq
    have e0 : ((p : Int) == 2) = false := by rw [beq_eq_false_iff_ne]; omega
    clear ha hb hq hp2
    obtain ⟨f, hf⟩ : ∃ f : Nat → Nat, (fun i => (FFld.dig p a i + FFld.dig p b i) % p) = f := ⟨_, rfl⟩
    have HF := Kept.mk hf
    have HFL := Kept.mk (show ∀ i, f i < p from fun i => by rw [← hf]; exact Nat.mod_lt _ (by omega))
    have hres : FFld.padd p k a b = FFld.ofd p f k := by rw [← hf]; rfl
    rw [hres]
    clear hf hres
    obtain ⟨c0, c1, c2, _⟩ := three_cells HX0.out.b0
    go_enter Tryz.func248, Tryz.ntmps248
    go_wp2
    go_loopw [1, 2, 7, 8] (fun av bv nv uv wr => ∃ (j x y n u : Nat), x ≤ 65536 ∧ y ≤ 65536 ∧ av = .int .i64 x ∧ bv = .int .i64 y ∧ nv = .int .i64 n ∧ uv = .int .i64 u ∧ Kept (x = a / p ^ j) ∧ Kept (y = b / p ^ j) ∧ Kept (FFld.DlAt p f k j n u) ∧ Kept (Bxs w [rsbox p l o] wr)) (fun _ bv _ _ _ => (intOf bv).toNat)
    case atStart => exact ⟨0, a, b, 0, 1, ha1, hb1, rfl, rfl, rfl, rfl, ⟨by simp⟩, ⟨by simp⟩, ⟨FFld.DlAt.start p f k⟩, HX0⟩
    case round =>
      obtain ⟨j, x, y, n, u, hx, hy, rfl, rfl, rfl, rfl, hxa, hyb, hat, hbx⟩ := hrel
      have hul : u ≤ 65536 := Nat.le_trans (hat.out.u_le hp) HQ.out
      have hnl : n ≤ 65536 := by have := hat.out.n_lt hp HFL.out; have := HQ.out; omega
      by_cases hpos : 0 < y
      · have hjk : j < k := FFld.cur_pos HB.out (by rw [← hyb.out]; exact hpos) hp
        have HNX := Kept.mk (hat.out.next hjk)
        have hupl : u * p ≤ 65536 := Nat.le_trans (hat.out.up_le hp hjk) HQ.out
        have hfj : f j < p := HFL.out j
        obtain ⟨z, hz⟩ : ∃ z, f j = z := ⟨_, rfl⟩
        rw [hz] at hfj HNX
        have hzv : (x % p + y % p) % p = z := by rw [← hz, ← HF.out, hxa.out, hyb.out]; rfl
        obtain ⟨r, hr⟩ : ∃ r, x % p = r := ⟨_, rfl⟩
        obtain ⟨s, hs⟩ : ∃ s, y % p = s := ⟨_, rfl⟩
        obtain ⟨x', hx'⟩ : ∃ x', x / p = x' := ⟨_, rfl⟩
        obtain ⟨y', hy'⟩ : ∃ y', y / p = y' := ⟨_, rfl⟩
        have HXA : Kept (x' = a / p ^ (j + 1)) := ⟨by rw [← hx', hxa.out, FFld.cur_next]⟩
        have HYB : Kept (y' = b / p ^ (j + 1)) := ⟨by rw [← hy', hyb.out, FFld.cur_next]⟩
        have hdec : y' < y := by rw [← hy']; exact Nat.div_lt_self hpos hp
        have hx'l : x' ≤ 65536 := Nat.le_trans (by rw [← hx']; exact Nat.div_le_self _ _) hx
        have hy'l : y' ≤ 65536 := Nat.le_trans (by rw [← hy']; exact Nat.div_le_self _ _) hy
        have hrp : r < p := by rw [← hr]; exact Nat.mod_lt _ (by omega)
        have hsp : s < p := by rw [← hs]; exact Nat.mod_lt _ (by omega)
        have hrs : (r + s) % p = z := by rw [← hzv, hr, hs]
        have er : (x : Int) % p = r := by rw [← hr]; rfl
        have es : (y : Int) % p = s := by rw [← hs]; rfl
        have e1 : IntKind.i64.wrap ((r : Int) + s) = (r : Int) + s := wi (by omega) (by omega)
        obtain ⟨v, hv⟩ : ∃ v, z * u = v := ⟨_, rfl⟩
        obtain ⟨u', hu'⟩ : ∃ u', u * p = u' := ⟨_, rfl⟩
        have hvl : v ≤ 4294967296 := by rw [← hv]; exact nmul_le (A := 65536) (B := 65536) (by omega) (by omega)
        have hul' : u' ≤ 65536 := by rw [← hu']; exact hupl
        have E5 : Kept (wrap64 ((n : Int) + wrap64 ((z : Int) * u)) = ((n + v : Nat) : Int)) := ⟨wmadd' hv (Nat.le_trans hnl (by decide)) (Nat.le_trans hvl (by decide))⟩
        have e4 : IntKind.i64.wrap ((u : Int) * p) = u' := wimul hu' (by omega)
        rw [hv, hu'] at HNX
        have ex : (x : Int) / p = x' := by rw [← hx']; rfl
        have ey : (y : Int) / p = y' := by rw [← hy']; rfl
        obtain ⟨c0, c1, c2, _⟩ := three_cells hbx.out.b0
        have hzg : p ≤ r + s → ((r : Int) + s) - p = z := fun hge => by
          rw [Nat.mod_eq_sub_mod hge, Nat.mod_eq_of_lt (by omega)] at hrs
          omega
        have hzl : ¬ p ≤ r + s → ((r : Int) + s) = z := fun hge => by
          rw [Nat.mod_eq_of_lt (by omega)] at hrs
          omega
        have HZG := Kept.mk hzg
        have HZL := Kept.mk hzl
        clear hr hs hx' hy' hz hzv hupl hv hu' hrs hzg hzl
        go_wp2
        go_quiet (fail)
        go_upto_if 30 with fail
        go_cut [9] (fun dv W => dv = .int .i64 z ∧ wr.drewN nq = W)
        case first =>
          by_cases hge : p ≤ r + s
          · have hzz := Kept.mk (HZG.out hge)
            go_wp2_with fail
            go_meet
            exact ⟨congrArg (Value.int .i64) hzz.out, rfl⟩
          · have hzz := Kept.mk (HZL.out hge)
            go_wp2_with fail
            go_meet
            exact ⟨congrArg (Value.int .i64) hzz.out, rfl⟩
        case rest =>
          obtain ⟨rfl, rfl⟩ := hcut
          clear hvl hrp hsp er es e1 hul hnl hfj hx hy
          go_wp2
          go_quiet (fail)
          go_wp2
          go_roundw
          case rel => exact ⟨j + 1, x', y', n + v, u', hx'l, hy'l, rfl, rfl, congrArg (Value.int .i64) E5.out, rfl, HXA, HYB, HNX, ⟨hbx.out.below (by simp only [World.drewN_drewN]; exact below_drewN (Below.refl _ _) _)⟩⟩
          case measure => simp [intOf] <;> omega
      · obtain rfl : y = 0 := by omega
        have hN := hat.out.top hp HA.out (fun i hi => by
          rw [← HF.out]
          show (FFld.dig p a i + FFld.dig p b i) % p = _
          rw [FFld.cur_zero hyb.out.symm hp hi, Nat.add_zero, FFld.dig_mod])
        rw [← hxa.out] at hN
        obtain ⟨v, hv⟩ : ∃ v, x * u = v := ⟨_, rfl⟩
        rw [hv] at hN
        have hvl : v ≤ 4294967296 := by rw [← hv]; exact nmul_le (A := 65536) (B := 65536) (by omega) (by omega)
        have e2 : wrap64 ((x : Int) * u) = v := wmul hv (by omega)
        have HN := Kept.mk hN
        clear hv hN
        go_wp2
        go_ret
        exact ⟨hbx.out.1, by rw [← HN.out]; simp [e2]⟩
end Go.Proofs.YtdnheaafcbihbaaGreat

set_option linter.unusedVariables false
set_option linter.unusedSimpArgs false
namespace Go.Proofs.YtdnheaafcbihbaaGreat
open Go Go.RowKit
open FFld (ints)
/-- What the slow field holds. -/
structure RsOk (p k m l o : Nat) : Prop where
  pk : FFld.PK p k m
  q : p ^ k ≤ 65536
  m0 : p ^ k ≤ m
  m1 : m < 2 * p ^ k
  l : l = p ^ (k - 1)
  o : o = FFld.pscl p k (p - 1) (m - p ^ k)
set_option maxRecDepth 20000 in
set_option maxHeartbeats 2000000 in
theorem shifted_any (p k m l o a : Nat) (w : World) (h : RsOk p k m l o) (ha : a < p ^ k) :
    Calls Tryz.prog 249 #[rsv p l o, .int .i64 a] w (RB w (.int .i64 (FFld.pshf p k m a : Nat))) := by
  have hp := h.pk.p2
  have hk := h.pk.k1
  have hl0 : 0 < l := by rw [h.l]; exact Nat.pow_pos (by omega)
  have hll : l ≤ 65536 := by rw [h.l]; exact Nat.le_trans (Nat.pow_le_pow_right (by omega) (by omega)) h.q
  have hlp : l * p = p ^ k := by rw [h.l, ← Nat.pow_succ]; congr 1; omega
  have hp1 : p ≤ 65536 := Nat.le_trans (by have := Nat.pow_le_pow_right (n := p) (by omega) hk; rw [Nat.pow_one] at this; exact this) h.q
  have hop : o < p ^ k := by rw [h.o]; exact FFld.pscl_lt h.pk _ _
  obtain ⟨r, hr⟩ : ∃ r, a % l = r := ⟨_, rfl⟩
  obtain ⟨t, ht⟩ : ∃ t, a / l = t := ⟨_, rfl⟩
  obtain ⟨s, hs⟩ : ∃ s, r * p = s := ⟨_, rfl⟩
  have hrl : r < l := by rw [← hr]; exact Nat.mod_lt _ hl0
  have htp : t < p := by rw [← ht]; exact Nat.div_lt_of_lt_mul (by rw [hlp]; exact ha)
  have hsq : s < p ^ k := by rw [← hs, ← hlp]; exact Nat.mul_lt_mul_of_pos_right hrl (by omega)
  have hres : FFld.pshf p k m a = FFld.padd p k s (FFld.pscl p k t o) := by rw [FFld.pshf_over h.pk a ha h.m0 h.m1, ← h.l, ← h.o, hr, ht, hs]
  rw [hres]
  have er : (a : Int) % l = r := by rw [← hr]; rfl
  have et : (a : Int) / l = t := by rw [← ht]; rfl
  have er' : (a : Int).tmod l = r := by rw [Int.tmod_eq_emod_of_nonneg (by omega)]; exact er
  have et' : (a : Int).tdiv l = t := by rw [Int.tdiv_eq_ediv_of_nonneg (by omega)]; exact et
  have es : IntKind.i64.wrap ((r : Int) * p) = s := wimul hs (by have := h.q; omega)
  have ewt : IntKind.i64.wrap (t : Int) = t := wi (by omega) (by omega)
  have hln : ¬ l = 0 := by omega
  have hM := Kept.mk (fun W => multiple_any p k m l o o t W h.pk hop htp h.q)
  have hS := Kept.mk (fun W => rsum_any p k m l o s (FFld.pscl p k t o) W h.pk hsq (FFld.pscl_lt h.pk _ _) h.q)
  have HX0 : Kept (Bxs w [rsbox p l o] (w.alloc (rsbox p l o))) := ⟨(Bxs.start w).alloc (by simp) _⟩
  obtain ⟨c0, c1, c2, _⟩ := three_cells HX0.out.b0
  have ha1 : a ≤ 65536 := by have := h.q; omega
  clear hr ht hs hrl htp hsq hres hop hlp h ha
  go_enter Tryz.func249, Tryz.ntmps249
  go_wp2
  go_region_held3 (fun w' => w'.cell? ⟨w.heap.size, 0, none⟩ = some (.int .i64 p) ∧ w'.cell? ⟨w.heap.size, 1, none⟩ = some (.int .i64 l) ∧ w'.cell? ⟨w.heap.size, 2, none⟩ = some (.int .i64 o))
    (first | exact ⟨c0, c1, c2⟩ | exact ⟨k0, k1, k2⟩ | exact ⟨l0, l1, l2⟩ | go_keep)
    ((first
      | (go_at_call 247; (with_reducible refine (hM.out _).mono ?_); rintro e w2 ⟨hb2, rfl⟩; have hx2 : Bxs w [rsbox p l o] w2 := Bxs.below (by repeat (first | (with_reducible exact HX0.out) | (with_reducible refine Bxs.drew ?_))) hb2; obtain ⟨k0, k1, k2, _⟩ := three_cells hx2.b0; clear hb2)
      | (go_at_call 248; (with_reducible refine (hS.out _).mono ?_); rintro e w3 ⟨hb3, rfl⟩; have hx3 : Bxs w [rsbox p l o] w3 := Bxs.below (by repeat (first | (with_reducible exact hx2) | (with_reducible refine Bxs.drew ?_))) hb3; obtain ⟨l0, l1, l2, _⟩ := three_cells hx3.b0; clear hb3)))
  go_wp2
  go_ret
  exact ⟨hx3.1, rfl⟩
set_option maxRecDepth 20000 in
set_option maxHeartbeats 4000000 in
theorem rproduct_any (p k m l o : Nat) (h : RsOk p k m l o) : ∀ (a b : Nat) (w : World), a < p ^ k → b < p ^ k →
    Calls Tryz.prog 208 #[rsv p l o, .int .i64 a, .int .i64 b] w (RB w (.int .i64 (FFld.pmul p k m a k b : Nat))) := by
  intro a b
  induction b using Nat.strongRecOn with
  | ind b ih =>
    intro w ha hb
    have hp := h.pk.p2
    have HX0 : Kept (Bxs w [rsbox p l o] (w.alloc (rsbox p l o))) := ⟨(Bxs.start w).alloc (by simp) _⟩
    by_cases hb0 : b = 0
    · subst hb0
      have hz := Kept.mk (FFld.pmul_zero_right h.pk a k)
      have e0 : (((0 : Nat) : Int) == 0) = true := rfl
      clear ih ha hb h
      go_enter Tryz.func208, Tryz.ntmps208
      go_wp2
      go_ret
      exact ⟨HX0.out.1, by rw [hz.out]; rfl⟩
    · have e0 : ((b : Int) == 0) = false := by rw [beq_eq_false_iff_ne]; omega
      have hp1 : p ≤ 65536 := Nat.le_trans (by have := Nat.pow_le_pow_right (n := p) (by omega) h.pk.k1; rw [Nat.pow_one] at this; exact this) h.q
      obtain ⟨r, hr⟩ : ∃ r, b % p = r := ⟨_, rfl⟩
      obtain ⟨t, ht⟩ : ∃ t, b / p = t := ⟨_, rfl⟩
      have htb : t < b := by rw [← ht]; exact Nat.div_lt_self (by omega) hp
      have hrp : r < p := by rw [← hr]; exact Nat.mod_lt _ (by omega)
      have hres : FFld.pmul p k m a k b = FFld.padd p k (FFld.pscl p k r a) (FFld.pshf p k m (FFld.pmul p k m a k t)) := by rw [FFld.pmul_step h.pk a b hb, hr, ht]
      rw [hres]
      have er : (b : Int) % p = r := by rw [← hr]; rfl
      have et : (b : Int) / p = t := by rw [← ht]; rfl
      have er' : (b : Int).tmod p = r := by rw [Int.tmod_eq_emod_of_nonneg (by omega)]; exact er
      have et' : (b : Int).tdiv p = t := by rw [Int.tdiv_eq_ediv_of_nonneg (by omega)]; exact et
      have hb1 : b ≤ 65536 := by have := h.q; omega
      have ewt : IntKind.i64.wrap (t : Int) = t := wi (by omega) (by omega)
      have hpn : ¬ p = 0 := by omega
      have hM := Kept.mk (fun W => multiple_any p k m l o a r W h.pk ha hrp h.q)
      have hP := Kept.mk (fun W => ih t htb W ha (by omega))
      have hH := Kept.mk (fun W => shifted_any p k m l o (FFld.pmul p k m a k t) W h (FFld.pmul_lt h.pk _ _ _))
      have hS := Kept.mk (fun W => rsum_any p k m l o (FFld.pscl p k r a) (FFld.pshf p k m (FFld.pmul p k m a k t)) W h.pk (FFld.pscl_lt h.pk _ _) (FFld.pshf_lt h.pk _) h.q)
      obtain ⟨c0, c1, c2, _⟩ := three_cells HX0.out.b0
      obtain ⟨u, hu⟩ : ∃ u, FFld.pmul p k m a k t = u := ⟨_, rfl⟩
      rw [hu] at hP hH hS ⊢
      clear hr ht htb hrp hres h ha hb ih hu hb0
      go_enter Tryz.func208, Tryz.ntmps208
      go_wp2
      go_region_held3 (fun w' => w'.cell? ⟨w.heap.size, 0, none⟩ = some (.int .i64 p) ∧ w'.cell? ⟨w.heap.size, 1, none⟩ = some (.int .i64 l) ∧ w'.cell? ⟨w.heap.size, 2, none⟩ = some (.int .i64 o))
        (first | exact ⟨c0, c1, c2⟩ | exact ⟨k0, k1, k2⟩ | exact ⟨l0, l1, l2⟩ | exact ⟨n0, n1, n2⟩ | exact ⟨m0, m1, m2⟩ | go_keep)
        ((first
          | (go_at_call 247; (with_reducible refine (hM.out _).mono ?_); rintro e w2 ⟨hb2, rfl⟩; have hx2 : Bxs w [rsbox p l o] w2 := Bxs.below (by repeat (first | (with_reducible exact HX0.out) | (with_reducible assumption) | (with_reducible refine Bxs.drew ?_))) hb2; obtain ⟨k0, k1, k2, _⟩ := three_cells hx2.b0; clear hb2)
          | (go_at_call 208; (with_reducible refine (hP.out _).mono ?_); rintro e w3 ⟨hb3, rfl⟩; have hx3 : Bxs w [rsbox p l o] w3 := Bxs.below (by repeat (first | (with_reducible exact HX0.out) | (with_reducible assumption) | (with_reducible refine Bxs.drew ?_))) hb3; obtain ⟨l0, l1, l2, _⟩ := three_cells hx3.b0; clear hb3)
          | (go_at_call 249; (with_reducible refine (hH.out _).mono ?_); rintro e w4 ⟨hb4, rfl⟩; have hx4 : Bxs w [rsbox p l o] w4 := Bxs.below (by repeat (first | (with_reducible exact HX0.out) | (with_reducible assumption) | (with_reducible refine Bxs.drew ?_))) hb4; obtain ⟨n0, n1, n2, _⟩ := three_cells hx4.b0; clear hb4)
          | (go_at_call 248; (with_reducible refine (hS.out _).mono ?_); rintro e w5 ⟨hb5, rfl⟩; have hx5 : Bxs w [rsbox p l o] w5 := Bxs.below (by repeat (first | (with_reducible exact HX0.out) | (with_reducible assumption) | (with_reducible refine Bxs.drew ?_))) hb5; obtain ⟨m0, m1, m2, _⟩ := three_cells hx5.b0; clear hb5)))
      all_goals
        go_wp2
        go_ret
        exact ⟨hx5.1, rfl⟩
end Go.Proofs.YtdnheaafcbihbaaGreat

set_option linter.unusedVariables false
set_option linter.unusedSimpArgs false
namespace Go.Proofs.YtdnheaafcbihbaaGreat
open Go Go.RowKit
open FFld (ints)
theorem three_set' {w : World} {g : Nat} {a b c : Value} {T : TypeId} (h : w.heap[g]? = some (.cells #[a, b, c] T (0, 0))) (a' b' c' : Value) :
    (((w.setCell ⟨g, 0, none⟩ a').setCell ⟨g, 1, none⟩ b').setCell ⟨g, 2, none⟩ c').heap[g]? = some (.cells #[a', b', c'] T (0, 0)) := by
  have h1 := heap_setCell_same w g 0 _ T a' h
  have h2 := heap_setCell_same _ g 1 _ T b' h1
  have h3 := heap_setCell_same _ g 2 _ T c' h2
  simpa using h3
theorem three_end {w W : World} {g : Nat} {a b c : Value} {T : TypeId} (h : W.heap[g]? = some (.cells #[a, b, c] T (0, 0))) (hb : Below w.heap.size w W) (hg : w.heap.size ≤ g) (a' b' c' : Value) :
    Below w.heap.size w (((W.setCell ⟨g, 0, none⟩ a').setCell ⟨g, 1, none⟩ b').setCell ⟨g, 2, none⟩ c') ∧
    (((W.setCell ⟨g, 0, none⟩ a').setCell ⟨g, 1, none⟩ b').setCell ⟨g, 2, none⟩ c').cell? ⟨g, 0, none⟩ = some a' ∧
    (((W.setCell ⟨g, 0, none⟩ a').setCell ⟨g, 1, none⟩ b').setCell ⟨g, 2, none⟩ c').cell? ⟨g, 1, none⟩ = some b' ∧
    (((W.setCell ⟨g, 0, none⟩ a').setCell ⟨g, 1, none⟩ b').setCell ⟨g, 2, none⟩ c').cell? ⟨g, 2, none⟩ = some c' := by
  obtain ⟨c0, c1, c2, _⟩ := three_cells (three_set' h a' b' c')
  exact ⟨((hb.setCell (p := ⟨g, 0, none⟩) hg _).setCell (p := ⟨g, 1, none⟩) hg _).setCell (p := ⟨g, 2, none⟩) hg _, c0, c1, c2⟩
set_option maxRecDepth 20000 in
set_option maxHeartbeats 2000000 in
theorem newResidues_any (p k m q : Nat) (w : World) (hpk : FFld.PK p k m) (hq0 : q = p ^ k) (hq : p ^ k ≤ 65536) (m0 : p ^ k ≤ m) (m1 : m < 2 * p ^ k) :
    Calls Tryz.prog 207 #[.int .i64 p, .int .i64 q, .int .i64 m] w (fun e w' => Below w.heap.size w w' ∧ ∃ l o, e = .returned (rsv p l o) ∧ RsOk p k m l o) := by
  have hp := hpk.p2
  have hk := hpk.k1
  obtain ⟨l, hl⟩ : ∃ l, q / p = l := ⟨_, rfl⟩
  obtain ⟨d, hd⟩ : ∃ d, m - q = d := ⟨_, rfl⟩
  obtain ⟨c, hc⟩ : ∃ c, p - 1 = c := ⟨_, rfl⟩
  obtain ⟨o, ho⟩ : ∃ o, FFld.pscl p k c d = o := ⟨_, rfl⟩
  have HR : Kept (RsOk p k m l o) := ⟨⟨hpk, hq, m0, m1, by rw [← hl, hq0]; exact FFld.last_eq hp hk, by rw [← ho, ← hd, ← hc, hq0]⟩⟩
  have el : (q : Int) / p = l := by rw [← hl]; rfl
  have hll : l ≤ 65536 := by rw [← hl]; exact Nat.le_trans (Nat.div_le_self _ _) (by omega)
  have ed : (m : Int) - q = d := by omega
  have ec : (p : Int) - 1 = c := by omega
  have hp1 : p ≤ 65536 := Nat.le_trans (by have := Nat.pow_le_pow_right (n := p) (by omega) hk; rw [Nat.pow_one] at this; exact this) hq
  have hM := Kept.mk (fun W => multiple_any p k m l 0 d c W hpk (by omega) (by omega) hq)
  rw [ho] at hM
  have hql : q ≤ 65536 := by omega
  have hml : m ≤ 131072 := by omega
  clear hl hd hc ho hq hq0 m0 m1
  have HX0 : Kept (Bxs w [rsbox 0 0 0, rsbox p l 0] ((w.alloc (rsbox 0 0 0)).alloc (rsbox p l 0))) := ⟨((Bxs.start w).alloc (by simp) _).alloc (by simp) _⟩
  obtain ⟨a0, a1, a2, _⟩ := three_cells HX0.out.b0
  obtain ⟨b0, b1, b2, _, _, b5⟩ := three_cells HX0.out.b1
  go_enter Tryz.func207, Tryz.ntmps207
  go_wp2_with fail
  refine (hM.out _).mono ?_
  rintro e w2 ⟨hb2, rfl⟩
  have HX2 := Kept.mk (HX0.out.below hb2)
  obtain ⟨c0, c1, c2, f0, f1, f2⟩ := three_cells HX2.out.b0
  obtain ⟨d0, d1, d2, _, _, d5⟩ := three_cells HX2.out.b1
  have hne : (w2.setCell ⟨w.heap.size + 1, 2, none⟩ (.int .i64 o)).heap[w.heap.size]? = some (.cells #[.int .i64 ((0 : Nat) : Int), .int .i64 ((0 : Nat) : Int), .int .i64 ((0 : Nat) : Int)] 217 (0, 0)) :=
    (heap_setCell_other _ _ _ _ (by simp)).trans HX2.out.b0
  have hbW : Below w.heap.size w (w2.setCell ⟨w.heap.size + 1, 2, none⟩ (.int .i64 o)) := HX2.out.1.setCell (p := ⟨w.heap.size + 1, 2, none⟩) (by simp) _
  obtain ⟨hb, e0, e1, e2⟩ := three_end hne hbW (Nat.le_refl _) (.int .i64 p) (.int .i64 l) (.int .i64 o)
  have HB := Kept.mk hb
  clear hb2 a0 a1 a2 b0 b1 b2 b5 hb hne hbW
  go_wp2
  exact bodyPost_ret (v := rsv p l o) (by simp [results, Tryz.results207, go_sem, e0, e1, e2]) rfl ⟨HB.out, _, _, rfl, HR.out⟩
end Go.Proofs.YtdnheaafcbihbaaGreat

set_option linter.unusedVariables false
set_option linter.unusedSimpArgs false
namespace Go.Proofs.YtdnheaafcbihbaaGreat
open Go Go.RowKit
open FFld (ints)
/-- The arithmetic of a field of a prime order. -/
abbrev rmv (p g : Nat) : Value := .agg #[.int .i64 p, .int .i64 g]
abbrev rmbox (p g : Nat) : Obj := .cells #[.int .i64 p, .int .i64 g] 215
set_option maxRecDepth 20000 in
set_option maxHeartbeats 2000000 in
theorem fproduct_any (p g a b : Nat) (w : World) (hpk : FFld.PK p 1 p) (hp1 : p ≤ 65536) (ha : a < p ^ 1) (hb : b < p ^ 1) :
    Calls Tryz.prog 205 #[rmv p g, .int .i64 a, .int .i64 b] w (RB w (.int .i64 (FFld.pmul p 1 p a 1 b : Nat))) := by
  rw [Nat.pow_one] at ha hb
  have hp := hpk.p2
  obtain ⟨v, hv⟩ : ∃ v, a * b = v := ⟨_, rfl⟩
  obtain ⟨z, hz⟩ : ∃ z, v % p = z := ⟨_, rfl⟩
  have hres : FFld.pmul p 1 p a 1 b = z := by rw [FFld.pmul_k1 hpk a b ha hb, hv, hz]
  rw [hres]
  have hvl : v ≤ 4294967296 := by rw [← hv]; exact nmul_le (A := 65536) (B := 65536) (by omega) (by omega)
  have e1 : wrap64 ((a : Int) * b) = v := wmul hv (by omega)
  have ez : (v : Int) % p = z := by rw [← hz]; rfl
  have HX0 : Kept (Bxs w [rmbox p g] (w.alloc (rmbox p g))) := ⟨(Bxs.start w).alloc (by simp) _⟩
  obtain ⟨c0, c1, _, _⟩ := two_cells HX0.out.b0
  clear hv hz hres
  go_enter Tryz.func205, Tryz.ntmps205
  go_wp2
  go_ret
  exact ⟨HX0.out.1, by simp [e1, ez]⟩
set_option maxRecDepth 20000 in
set_option maxHeartbeats 2000000 in
theorem fsum_any (p g a b : Nat) (w : World) (hpk : FFld.PK p 1 p) (hp1 : p ≤ 65536) (ha : a < p ^ 1) (hb : b < p ^ 1) :
    Calls Tryz.prog 280 #[rmv p g, .int .i64 a, .int .i64 b] w (RB w (.int .i64 (FFld.padd p 1 a b : Nat))) := by
  rw [Nat.pow_one] at ha hb
  have hp := hpk.p2
  obtain ⟨z, hz⟩ : ∃ z, (a + b) % p = z := ⟨_, rfl⟩
  have hres : FFld.padd p 1 a b = z := by rw [FFld.padd_k1 hpk a b ha hb, hz]
  rw [hres]
  have ez : ((a : Int) + b) % p = z := by rw [← hz]; rfl
  have HX0 : Kept (Bxs w [rmbox p g] (w.alloc (rmbox p g))) := ⟨(Bxs.start w).alloc (by simp) _⟩
  obtain ⟨c0, c1, _, _⟩ := two_cells HX0.out.b0
  clear hz hres
  go_enter Tryz.func280, Tryz.ntmps280
  go_wp2
  go_ret
  exact ⟨HX0.out.1, by simp [ez]⟩
set_option maxRecDepth 20000 in
set_option maxHeartbeats 2000000 in
theorem fpower_any (p g a n : Nat) (w : World) (hpk : FFld.PK p 1 p) (hp1 : p ≤ 65536) (ha : a < p ^ 1) (hn : n ≤ 70000) :
    Calls Tryz.prog 279 #[rmv p g, .int .i64 a, .int .i64 n] w (RB w (.int .i64 (FFld.ppow hpk a n : Nat))) := by
  have HX0 : Kept (Bxs w [rmbox p g] (w.alloc (rmbox p g))) := ⟨(Bxs.start w).alloc (by simp) _⟩
  have hP := Kept.mk (fun W => power_rem p 1 p hpk (rmv p g) a n W ha hn (fun W x y hx hy => fproduct_any p g x y W hpk hp1 hx hy))
  obtain ⟨c0, c1, _, _⟩ := two_cells HX0.out.b0
  clear ha hn
  go_enter Tryz.func279, Tryz.ntmps279
  go_wp2_with fail
  refine (hP.out _).mono ?_
  rintro e w2 ⟨hb2, rfl⟩
  have HX2 := Kept.mk (HX0.out.below hb2)
  clear hb2
  go_wp2
  go_ret
  exact ⟨HX2.out.1, rfl⟩
end Go.Proofs.YtdnheaafcbihbaaGreat

set_option linter.unusedVariables false
set_option linter.unusedSimpArgs false
namespace Go.Proofs.YtdnheaafcbihbaaGreat
open Go Go.RowKit
open FFld (ints)
/-- The cells of a slice of small numbers, in every later world. -/
def Cu (B : Nat) (ao : Option Addr) (l : List Nat) (w : World) : Prop := ∀ w', Below B w w' → ∀ i, i < l.length → ∃ b o, ao = some ⟨b, o, none⟩ ∧ w'.cell? ⟨b, o + i, none⟩ = some (.int .u16 ((l[i]?.getD 0 : Nat) : Int))
/-- The tables' value. -/
abbrev tbv (p : Nat) (pa : Option Addr) (q1 pc : Nat) (la : Option Addr) (q lc : Nat) : Value := .agg #[.int .i64 p, .slice pa q1 pc, .slice la q lc]
abbrev tbbox (p : Nat) (pa : Option Addr) (q1 pc : Nat) (la : Option Addr) (q lc : Nat) : Obj := .cells #[.int .i64 p, .slice pa q1 pc, .slice la q lc] 221
/-- Tables of a field in memory. -/
structure TbW (D : FFld.FD) (h : D.Ok) (B : Nat) (pa : Option Addr) (q1 : Nat) (la : Option Addr) (q : Nat) (P L : List Nat) (w : World) : Prop where
  cp : Cu B pa P w
  cl : Cu B la L w
  ok : FFld.TabOk D h P L
  q1 : D.p ^ D.k - 1 = q1
  q : D.p ^ D.k = q
set_option maxRecDepth 20000 in
set_option maxHeartbeats 2000000 in
theorem generated_any {D : FFld.FD} {h : D.Ok} {pa la : Option Addr} {q1 q : Nat} {P L : List Nat} (pc lc n : Nat) (w : World) (ht : TbW D h w.heap.size pa q1 la q P L w) (hn : n ≤ 1099511627776) :
    Calls Tryz.prog 281 #[tbv D.p pa q1 pc la q lc, .int .i64 n] w (RB w (.int .i64 (FFld.ppow h.pre.pk D.g n : Nat))) := by
  have h1 := h.pre.pk.one_lt
  have hq1 := ht.q1
  have hq6 : q1 ≤ 65535 := by have := h.pre.small; unfold FFld.FD.q at this; omega
  have hq0 : 0 < q1 := by omega
  obtain ⟨r, hr⟩ : ∃ r, n % q1 = r := ⟨_, rfl⟩
  have hrl : r < q1 := by rw [← hr]; exact Nat.mod_lt _ hq0
  have hpl : P.length = q1 := by rw [ht.ok.pl, hq1]
  obtain ⟨v, hv⟩ : ∃ v, P[r]?.getD 0 = v := ⟨_, rfl⟩
  have hres : FFld.ppow h.pre.pk D.g n = v := by rw [← hv, ht.ok.pw r (by omega), ← hr, ← hq1, h.pow_mod]
  have hv6 : v ≤ 65535 := by
    have := FFld.ppow_lt h.pre.pk D.g n
    have h3 := h.pre.small
    unfold FFld.FD.q at h3
    omega
  rw [hres]
  have HX0 : Kept (Bxs w [tbbox D.p pa q1 pc la q lc] (w.alloc (tbbox D.p pa q1 pc la q lc))) := ⟨(Bxs.start w).alloc (by simp) _⟩
  obtain ⟨c0, c1, c2, _⟩ := three_cells HX0.out.b0
  obtain ⟨b, o, rfl, hcell⟩ := ht.cp _ HX0.out.1 r (by omega)
  rw [hv] at hcell
  have er : (n : Int) % q1 = r := by rw [← hr]; rfl
  clear hr hpl hv hres h1 hq1 ht h
  go_enter Tryz.func281, Tryz.ntmps281
  go_wp2
  go_quiet (fail)
  go_wp2
  go_ret
  refine ⟨below_drewN HX0.out.1 _, ?_⟩
  simp
theorem TbW.below {D : FFld.FD} {h : D.Ok} {pa la : Option Addr} {q1 q : Nat} {P L : List Nat} {w w' : World} (ht : TbW D h w.heap.size pa q1 la q P L w) (hb : Below w.heap.size w w') : TbW D h w'.heap.size pa q1 la q P L w' :=
  ⟨fun W hW i hi => ht.cp W (hb.trans (hW.mono hb.size)) i hi, fun W hW i hi => ht.cl W (hb.trans (hW.mono hb.size)) i hi, ht.ok, ht.q1, ht.q⟩
set_option maxRecDepth 20000 in
set_option maxHeartbeats 2000000 in
theorem tproduct_any {D : FFld.FD} {h : D.Ok} {pa la : Option Addr} {q1 q : Nat} {P L : List Nat} (pc lc a b_ : Nat) (w : World) (ht : TbW D h w.heap.size pa q1 la q P L w) (ha : a < D.p ^ D.k) (hb : b_ < D.p ^ D.k) :
    Calls Tryz.prog 284 #[tbv D.p pa q1 pc la q lc, .int .i64 a, .int .i64 b_] w (RB w (.int .i64 (FFld.pmul D.p D.k D.m a D.k b_ : Nat))) := by
  have h1 := h.pre.pk.one_lt
  have hq1 := ht.q1
  have hqq := ht.q
  have hq6 : q ≤ 65536 := by have := h.pre.small; unfold FFld.FD.q at this; omega
  have hq2 : 2 ≤ q := by omega
  have hll : L.length = q := by rw [ht.ok.ll, hqq]
  have HX0 : Kept (Bxs w [tbbox D.p pa q1 pc la q lc] (w.alloc (tbbox D.p pa q1 pc la q lc))) := ⟨(Bxs.start w).alloc (by simp) _⟩
  obtain ⟨c0, c1, c2, _⟩ := three_cells HX0.out.b0
  by_cases a0 : a = 0
  · subst a0
    have hz := Kept.mk (show FFld.pmul D.p D.k D.m 0 D.k b_ = 0 from by rw [FFld.pmul_comm h.pre.pk 0 b_ ha hb, FFld.pmul_zero_right h.pre.pk])
    have e0 : (((0 : Nat) : Int) == 0) = true := rfl
    clear ht ha hb hll h1 hq1 hqq
    go_enter Tryz.func284, Tryz.ntmps284
    go_wp2
    go_ret
    exact ⟨HX0.out.1, by rw [hz.out]; rfl⟩
  by_cases b0 : b_ = 0
  · subst b0
    have hz := Kept.mk (FFld.pmul_zero_right h.pre.pk (m := D.m) a D.k)
    have e0 : (((0 : Nat) : Int) == 0) = true := rfl
    have e1 : ((a : Int) == 0) = false := by rw [beq_eq_false_iff_ne]; omega
    clear ht ha hb hll h1 hq1 hqq a0
    go_enter Tryz.func284, Tryz.ntmps284
    go_wp2
    go_ret
    exact ⟨HX0.out.1, by rw [hz.out]; rfl⟩
  have e1 : ((a : Int) == 0) = false := by rw [beq_eq_false_iff_ne]; omega
  have e2 : ((b_ : Int) == 0) = false := by rw [beq_eq_false_iff_ne]; omega
  obtain ⟨x, hx⟩ : ∃ l, L[a]?.getD 0 = l := ⟨_, rfl⟩
  obtain ⟨y, hy⟩ : ∃ l, L[b_]?.getD 0 = l := ⟨_, rfl⟩
  have hx6 : x ≤ 65535 := by have := (ht.ok.lg a ha a0).1; omega
  have hy6 : y ≤ 65535 := by have := (ht.ok.lg b_ hb b0).1; omega
  obtain ⟨n, hn⟩ : ∃ n, x + y = n := ⟨_, rfl⟩
  have ewx : IntKind.i64.wrap (x : Int) = x := wi (by omega) (by omega)
  have ewy : IntKind.i64.wrap (y : Int) = y := wi (by omega) (by omega)
  have exy : IntKind.i64.wrap ((x : Int) + y) = n := by rw [← hn]; simp; exact wi (by omega) (by omega)
  have hres : FFld.pmul D.p D.k D.m a D.k b_ = FFld.ppow h.pre.pk D.g n := by rw [← ht.ok.product a b_ ha hb a0 b0, hx, hy, hn]
  rw [hres]
  have hG := Kept.mk (fun W (hW : Below w.heap.size w W) => generated_any pc lc n W (ht.below hW) (by omega))
  obtain ⟨b, o, rfl, hcella⟩ := ht.cl _ HX0.out.1 a (by omega)
  obtain ⟨b', o', e', hcellb⟩ := ht.cl _ HX0.out.1 b_ (by omega)
  simp only [Option.some.injEq, Addr.mk.injEq, and_true] at e'
  obtain ⟨rfl, rfl⟩ := e'
  rw [hx] at hcella
  rw [hy] at hcellb
  have HCA := Kept.mk (fun W (hW : Below w.heap.size w W) => show W.cell? ⟨b, o + a, none⟩ = some (.int .u16 x) from by
    obtain ⟨b', o', e', hc⟩ := ht.cl W hW a (by omega)
    simp only [Option.some.injEq, Addr.mk.injEq, and_true] at e'
    obtain ⟨rfl, rfl⟩ := e'
    rw [hx] at hc
    exact hc)
  have HCB := Kept.mk (fun W (hW : Below w.heap.size w W) => show W.cell? ⟨b, o + b_, none⟩ = some (.int .u16 y) from by
    obtain ⟨b', o', e', hc⟩ := ht.cl W hW b_ (by omega)
    simp only [Option.some.injEq, Addr.mk.injEq, and_true] at e'
    obtain ⟨rfl, rfl⟩ := e'
    rw [hy] at hc
    exact hc)
  have haq : a < q := by omega
  have hbq : b_ < q := by omega
  clear hx hy hn hres ht ha hb hll h1 hq1 hqq a0 b0
  go_enter Tryz.func284, Tryz.ntmps284
  go_wp2
  go_region_held3 (fun w' => w'.cell? ⟨w.heap.size, 0, none⟩ = some (.int .i64 D.p) ∧ w'.cell? ⟨w.heap.size, 1, none⟩ = some (.slice pa q1 pc) ∧ w'.cell? ⟨w.heap.size, 2, none⟩ = some (.slice (some ⟨b, o, none⟩) q lc) ∧ w'.cell? ⟨b, o + a, none⟩ = some (.int .u16 x) ∧ w'.cell? ⟨b, o + b_, none⟩ = some (.int .u16 y))
    (first | exact ⟨c0, c1, c2, hcella, hcellb⟩ | exact ⟨k0, k1, k2, g0, g1⟩ | go_keep)
    ((first
      | (go_at_call 281; (with_reducible refine (hG.out _ ?_).mono ?_); (exact (by first | exact HX0.out.1 | exact HX0.out.1.drew)); rintro e w2 ⟨hb2, rfl⟩; have hx2 : Bxs w [tbbox D.p pa q1 pc (some ⟨b, o, none⟩) q lc] w2 := Bxs.below (by repeat (first | (with_reducible exact HX0.out) | (with_reducible refine Bxs.drew ?_))) hb2; obtain ⟨k0, k1, k2, _⟩ := three_cells hx2.b0; have g0 := HCA.out _ hx2.1; have g1 := HCB.out _ hx2.1; clear hb2)))
  go_wp2
  go_ret
  exact ⟨hx2.1, rfl⟩
set_option maxRecDepth 20000 in
set_option maxHeartbeats 2000000 in
theorem tpower_any {D : FFld.FD} {h : D.Ok} {pa la : Option Addr} {q1 q : Nat} {P L : List Nat} (pc lc a e_ : Nat) (w : World) (ht : TbW D h w.heap.size pa q1 la q P L w) (ha : a < D.p ^ D.k) (hne : a ≠ 0 ∨ 0 < e_) (hel : e_ ≤ 70000) :
    Calls Tryz.prog 283 #[tbv D.p pa q1 pc la q lc, .int .i64 a, .int .i64 e_] w (RB w (.int .i64 (FFld.ppow h.pre.pk a e_ : Nat))) := by
  have h1 := h.pre.pk.one_lt
  have hq1 := ht.q1
  have hqq := ht.q
  have hq6 : q ≤ 65536 := by have := h.pre.small; unfold FFld.FD.q at this; omega
  have hq2 : 2 ≤ q := by omega
  have hll : L.length = q := by rw [ht.ok.ll, hqq]
  have HX0 : Kept (Bxs w [tbbox D.p pa q1 pc la q lc] (w.alloc (tbbox D.p pa q1 pc la q lc))) := ⟨(Bxs.start w).alloc (by simp) _⟩
  obtain ⟨c0, c1, c2, _⟩ := three_cells HX0.out.b0
  by_cases a0 : a = 0
  · subst a0
    have hz : Kept (FFld.ppow h.pre.pk 0 e_ = 0) := ⟨by
      obtain ⟨n, rfl⟩ : ∃ n, e_ = n + 1 := ⟨e_ - 1, by omega⟩
      rw [FFld.ppow_succ h.pre.pk 0 n ha, FFld.pmul_zero_right h.pre.pk]⟩
    have e0 : (((0 : Nat) : Int) == 0) = true := rfl
    clear ht ha hll h1 hq1 hqq
    go_enter Tryz.func283, Tryz.ntmps283
    go_wp2
    go_ret
    exact ⟨HX0.out.1, by rw [hz.out]; rfl⟩
  have e1 : ((a : Int) == 0) = false := by rw [beq_eq_false_iff_ne]; omega
  obtain ⟨x, hx⟩ : ∃ l, L[a]?.getD 0 = l := ⟨_, rfl⟩
  have hx6 : x ≤ 65535 := by have := (ht.ok.lg a ha a0).1; omega
  obtain ⟨n, hn⟩ : ∃ n, x * e_ = n := ⟨_, rfl⟩
  have hnl : n ≤ 4587520000 := by rw [← hn]; exact nmul_le (A := 65536) (B := 70000) (by omega) hel
  have ewx : IntKind.i64.wrap (x : Int) = x := wi (by omega) (by omega)
  have exy : IntKind.i64.wrap ((x : Int) * e_) = n := wimul hn (by omega)
  have hres : FFld.ppow h.pre.pk a e_ = FFld.ppow h.pre.pk D.g n := by rw [← ht.ok.power a e_ ha a0, hx, hn]
  rw [hres]
  have hG := Kept.mk (fun W (hW : Below w.heap.size w W) => generated_any pc lc n W (ht.below hW) (by omega))
  obtain ⟨b, o, rfl, hcella⟩ := ht.cl _ HX0.out.1 a (by omega)
  rw [hx] at hcella
  have HCA := Kept.mk (fun W (hW : Below w.heap.size w W) => show W.cell? ⟨b, o + a, none⟩ = some (.int .u16 x) from by
    obtain ⟨b', o', e', hc⟩ := ht.cl W hW a (by omega)
    simp only [Option.some.injEq, Addr.mk.injEq, and_true] at e'
    obtain ⟨rfl, rfl⟩ := e'
    rw [hx] at hc
    exact hc)
  have haq : a < q := by omega
  clear hx hn hres ht ha hll h1 hq1 hqq a0 hne
  go_enter Tryz.func283, Tryz.ntmps283
  go_wp2
  go_region_held3 (fun w' => w'.cell? ⟨w.heap.size, 0, none⟩ = some (.int .i64 D.p) ∧ w'.cell? ⟨w.heap.size, 1, none⟩ = some (.slice pa q1 pc) ∧ w'.cell? ⟨w.heap.size, 2, none⟩ = some (.slice (some ⟨b, o, none⟩) q lc) ∧ w'.cell? ⟨b, o + a, none⟩ = some (.int .u16 x))
    (first | exact ⟨c0, c1, c2, hcella⟩ | exact ⟨k0, k1, k2, g0⟩ | go_keep)
    ((first
      | (go_at_call 281; (with_reducible refine (hG.out _ ?_).mono ?_); (exact (by first | exact HX0.out.1 | exact HX0.out.1.drew)); rintro e w2 ⟨hb2, rfl⟩; have hx2 : Bxs w [tbbox D.p pa q1 pc (some ⟨b, o, none⟩) q lc] w2 := Bxs.below (by repeat (first | (with_reducible exact HX0.out) | (with_reducible refine Bxs.drew ?_))) hb2; obtain ⟨k0, k1, k2, _⟩ := three_cells hx2.b0; have g0 := HCA.out _ hx2.1; clear hb2)))
  go_wp2
  go_ret
  exact ⟨hx2.1, rfl⟩
set_option maxRecDepth 20000 in
set_option maxHeartbeats 4000000 in
theorem tsum_any {D : FFld.FD} {h : D.Ok} {pa la : Option Addr} {q1 q : Nat} {P L : List Nat} (pc lc a b_ : Nat) (w : World) (ht : TbW D h w.heap.size pa q1 la q P L w) (ha : a < D.p ^ D.k) (hb : b_ < D.p ^ D.k) :
    Calls Tryz.prog 285 #[tbv D.p pa q1 pc la q lc, .int .i64 a, .int .i64 b_] w (RB w (.int .i64 (FFld.padd D.p D.k a b_ : Nat))) := by
  have h1 := h.pre.pk.one_lt
  have hq1 := ht.q1
  have hqq := ht.q
  have hq6 : q ≤ 65536 := by have := h.pre.small; unfold FFld.FD.q at this; omega
  have hq2 : 2 ≤ q := by omega
  have hll : L.length = q := by rw [ht.ok.ll, hqq]
  have haq : a < q := by omega
  have hbq : b_ < q := by omega
  have hp2 := h.pre.prime.1
  have hpq : D.p ≤ q := by
    rw [← hqq]
    have := Nat.pow_le_pow_right (n := D.p) (by omega) h.pre.k1
    rw [Nat.pow_one] at this
    exact this
  obtain ⟨V, hV⟩ : ∃ V, FFld.padd D.p D.k a b_ = V := ⟨_, rfl⟩
  rw [hV]
  have hTP := Kept.mk (fun W (hW : Below w.heap.size w W) (y : Nat) (hy : y < D.p ^ D.k) => tproduct_any pc lc a y W (ht.below hW) ha hy)
  have hTG := Kept.mk (fun W (hW : Below w.heap.size w W) (n : Nat) (hn : n ≤ 1099511627776) => generated_any pc lc n W (ht.below hW) hn)
  have HX0 : Kept (Bxs w [tbbox D.p pa q1 pc la q lc] (w.alloc (tbbox D.p pa q1 pc la q lc))) := ⟨(Bxs.start w).alloc (by simp) _⟩
  obtain ⟨c0, c1, c2, _⟩ := three_cells HX0.out.b0
  by_cases hp : D.p = 2
  · have hx : V = a ^^^ b_ := by
      rw [← hV, hp]
      exact FFld.padd_xor (m := D.m) ⟨by omega, h.pre.k1⟩ a b_ (by rw [← hp]; exact ha) (by rw [← hp]; exact hb)
    have HXR := Kept.mk hx
    have e0 : ((D.p : Int) == 2) = true := by rw [hp]; rfl
    clear ha hb hx hV hTP hTG ht h1 hq1 hqq hll hp2
    go_enter Tryz.func285, Tryz.ntmps285
    go_wp2
    go_ret
    refine ⟨(Below.refl _ _).alloc (Nat.le_refl _) _, ?_⟩
    rw [HXR.out]
    simp
    exact xor_i64 a b_ (by omega) (by omega)
  have ep : ((D.p : Int) == 2) = false := by rw [beq_eq_false_iff_ne]; omega
  by_cases a0 : a = 0
  · subst a0
    have hz := Kept.mk (show V = b_ from by rw [← hV, FFld.padd_comm', FFld.padd_zero h.pre.pk _ hb])
    have e0 : (((0 : Nat) : Int) == 0) = true := rfl
    clear ha hb hV hTP hTG ht h1 hq1 hqq hll hp2 hp
    go_enter Tryz.func285, Tryz.ntmps285
    go_wp2
    go_ret
    exact ⟨HX0.out.1, by rw [hz.out]; rfl⟩
  have e1 : ((a : Int) == 0) = false := by rw [beq_eq_false_iff_ne]; omega
  by_cases b0 : b_ = 0
  · subst b0
    have hz := Kept.mk (show V = a from by rw [← hV, FFld.padd_zero h.pre.pk _ ha])
    have e0 : (((0 : Nat) : Int) == 0) = true := rfl
    clear ha hb hV hTP hTG ht h1 hq1 hqq hll hp2 a0 hp
    go_enter Tryz.func285, Tryz.ntmps285
    go_wp2
    go_ret
    exact ⟨HX0.out.1, by rw [hz.out]; rfl⟩
  have e2 : ((b_ : Int) == 0) = false := by rw [beq_eq_false_iff_ne]; omega
  obtain ⟨r, hr1, hr2, hr3, hr4⟩ := ht.ok.sum a b_ ha hb a0 b0
  have hx6 := (ht.ok.lg a ha a0).1
  have hy6 := (ht.ok.lg b_ hb b0).1
  obtain ⟨x, hx⟩ : ∃ l, L[a]?.getD 0 = l := ⟨_, rfl⟩
  obtain ⟨y, hy⟩ : ∃ l, L[b_]?.getD 0 = l := ⟨_, rfl⟩
  rw [hx] at hx6 hr1
  rw [hy, hq1] at hr1
  rw [hq1] at hx6 hy6
  rw [hy] at hy6
  obtain ⟨n, hn⟩ : ∃ n, y + q1 - x = n := ⟨_, rfl⟩
  rw [hn] at hr1
  have ewx : IntKind.i64.wrap (x : Int) = x := wi (by omega) (by omega)
  have ewy : IntKind.i64.wrap (y : Int) = y := wi (by omega) (by omega)
  have eyx : IntKind.i64.wrap ((y : Int) - x) = (y : Int) - x := by rw [IntKind.wrap_i64]; omega
  have eyq : IntKind.i64.wrap ((y : Int) - x + q1) = n := by rw [show (y : Int) - x + q1 = n from by omega]; exact wi (by omega) (by omega)
  have hG := Kept.mk (fun W (hW : Below w.heap.size w W) => hTG.out W hW n (by omega))
  rw [hr1] at hG
  have hrq : r < q := by omega
  obtain ⟨s, hs⟩ : ∃ s, r % D.p = s := ⟨_, rfl⟩
  have er : (r : Int) % D.p = s := by rw [← hs]; rfl
  have hpo := FFld.padd_one h.pre.pk r hr2
  rw [hs] at hpo
  rw [hV] at hr4
  obtain ⟨b, o, rfl, hcella⟩ := ht.cl _ HX0.out.1 a (by omega)
  obtain ⟨b', o', e', hcellb⟩ := ht.cl _ HX0.out.1 b_ (by omega)
  simp only [Option.some.injEq, Addr.mk.injEq, and_true] at e'
  obtain ⟨rfl, rfl⟩ := e'
  rw [hx] at hcella
  rw [hy] at hcellb
  have HCA := Kept.mk (fun W (hW : Below w.heap.size w W) => show W.cell? ⟨b, o + a, none⟩ = some (.int .u16 x) from by
    obtain ⟨b', o', e', hc⟩ := ht.cl W hW a (by omega)
    simp only [Option.some.injEq, Addr.mk.injEq, and_true] at e'
    obtain ⟨rfl, rfl⟩ := e'
    rw [hx] at hc
    exact hc)
  have HCB := Kept.mk (fun W (hW : Below w.heap.size w W) => show W.cell? ⟨b, o + b_, none⟩ = some (.int .u16 y) from by
    obtain ⟨b', o', e', hc⟩ := ht.cl W hW b_ (by omega)
    simp only [Option.some.injEq, Addr.mk.injEq, and_true] at e'
    obtain ⟨rfl, rfl⟩ := e'
    rw [hy] at hc
    exact hc)
  have hsp : s < D.p := by rw [← hs]; exact Nat.mod_lt _ (by omega)
  have hrs : s ≤ r := by rw [← hs]; exact Nat.mod_le _ _
  obtain ⟨u, hu⟩ : ∃ u, FFld.padd D.p D.k r 1 = u := ⟨_, rfl⟩
  have huq : u < D.p ^ D.k := by rw [← hu]; exact FFld.padd_lt h.pre.pk _ _
  rw [hu] at hr4 hpo
  have hP := Kept.mk (fun W (hW : Below w.heap.size w W) => hTP.out W hW u huq)
  have hul : u < q := by omega
  have ep1 : IntKind.i64.wrap ((D.p : Int) - 1) = (D.p : Int) - 1 := by rw [IntKind.wrap_i64]; omega
  have ews : IntKind.i64.wrap (s : Int) = s := wi (by omega) (by omega)
  rw [hr4] at hP
  by_cases hsl : s = D.p - 1
  · rw [if_pos hsl] at hpo
    have eu : (r : Int) - D.p + 1 = u := by omega
    have es : ((s : Int) == (D.p : Int) - 1) = true := by rw [beq_iff_eq]; omega
    clear hx hy hn ht ha hb hll h1 hq1 hqq a0 b0 hTP hTG hV hr1 hr2 hr3 hr4 hs hpo hu huq hp2 hp hsl
    go_enter Tryz.func285, Tryz.ntmps285
    go_wp2
    go_region_held3 (fun w' => w'.cell? ⟨w.heap.size, 0, none⟩ = some (.int .i64 D.p) ∧ w'.cell? ⟨w.heap.size, 1, none⟩ = some (.slice pa q1 pc) ∧ w'.cell? ⟨w.heap.size, 2, none⟩ = some (.slice (some ⟨b, o, none⟩) q lc) ∧ w'.cell? ⟨b, o + a, none⟩ = some (.int .u16 x) ∧ w'.cell? ⟨b, o + b_, none⟩ = some (.int .u16 y))
      (first | exact ⟨c0, c1, c2, hcella, hcellb⟩ | exact ⟨k0, k1, k2, g0, g1⟩ | go_keep)
      ((first
        | (go_at_call 281; (with_reducible refine (hG.out _ ?_).mono ?_); (exact (by first | exact HX0.out.1 | exact HX0.out.1.drew)); rintro e w2 ⟨hb2, rfl⟩; have hx2 : Bxs w [tbbox D.p pa q1 pc (some ⟨b, o, none⟩) q lc] w2 := Bxs.below (by repeat (first | (with_reducible exact HX0.out) | (with_reducible refine Bxs.drew ?_))) hb2; obtain ⟨k0, k1, k2, _⟩ := three_cells hx2.b0; have g0 := HCA.out _ hx2.1; have g1 := HCB.out _ hx2.1; clear hb2)))
    have HX2 := Kept.mk hx2
    go_wp2
    go_quiet (fail)
    go_wp2_with fail
    refine (hP.out _ (below_drewN HX2.out.1 _)).mono ?_
    rintro e w3 ⟨hb3, rfl⟩
    have HX3 : Kept (Bxs w [tbbox D.p pa q1 pc (some ⟨b, o, none⟩) q lc] w3) := ⟨(HX2.out.below (below_drewN (Below.refl _ _) _)).below hb3⟩
    clear hb3
    go_wp2
    go_ret
    exact ⟨HX3.out.1, rfl⟩
  · rw [if_neg hsl] at hpo
    have eu : (r : Int) + 1 = u := by omega
    have es : ((s : Int) == (D.p : Int) - 1) = false := by rw [beq_eq_false_iff_ne]; omega
    clear hx hy hn ht ha hb hll h1 hq1 hqq a0 b0 hTP hTG hV hr1 hr2 hr3 hr4 hs hpo hu huq hp2 hp hsl
    go_enter Tryz.func285, Tryz.ntmps285
    go_wp2
    go_region_held3 (fun w' => w'.cell? ⟨w.heap.size, 0, none⟩ = some (.int .i64 D.p) ∧ w'.cell? ⟨w.heap.size, 1, none⟩ = some (.slice pa q1 pc) ∧ w'.cell? ⟨w.heap.size, 2, none⟩ = some (.slice (some ⟨b, o, none⟩) q lc) ∧ w'.cell? ⟨b, o + a, none⟩ = some (.int .u16 x) ∧ w'.cell? ⟨b, o + b_, none⟩ = some (.int .u16 y))
      (first | exact ⟨c0, c1, c2, hcella, hcellb⟩ | exact ⟨k0, k1, k2, g0, g1⟩ | go_keep)
      ((first
        | (go_at_call 281; (with_reducible refine (hG.out _ ?_).mono ?_); (exact (by first | exact HX0.out.1 | exact HX0.out.1.drew)); rintro e w2 ⟨hb2, rfl⟩; have hx2 : Bxs w [tbbox D.p pa q1 pc (some ⟨b, o, none⟩) q lc] w2 := Bxs.below (by repeat (first | (with_reducible exact HX0.out) | (with_reducible refine Bxs.drew ?_))) hb2; obtain ⟨k0, k1, k2, _⟩ := three_cells hx2.b0; have g0 := HCA.out _ hx2.1; have g1 := HCB.out _ hx2.1; clear hb2)))
    have HX2 := Kept.mk hx2
    go_wp2
    go_quiet (fail)
    go_wp2_with fail
    refine (hP.out _ (below_drewN HX2.out.1 _)).mono ?_
    rintro e w3 ⟨hb3, rfl⟩
    have HX3 : Kept (Bxs w [tbbox D.p pa q1 pc (some ⟨b, o, none⟩) q lc] w3) := ⟨(HX2.out.below (below_drewN (Below.refl _ _) _)).below hb3⟩
    clear hb3
    go_wp2
    go_ret
    exact ⟨HX3.out.1, rfl⟩
end Go.Proofs.YtdnheaafcbihbaaGreat
