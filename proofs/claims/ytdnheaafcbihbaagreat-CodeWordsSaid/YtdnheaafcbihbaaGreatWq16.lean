/-
  Texts of the proof, merged by program: Rea Shp Tam Rne Soa Lca Fmx Dna Sva Svb Plp Cbd Cck Lla Rta Lin.
-/
import Derived.Test.YtdnheaafcbihbaaGreatWq15
set_option linter.unusedSimpArgs false
set_option linter.unusedVariables false
set_option maxHeartbeats 16000000
namespace Go.Proofs.YtdnheaafcbihbaaGreat
namespace FFld
theorem take_off {D : FD} (h : PK D.p D.k D.m) {t y : Nat} (ht : t < D.p ^ D.k) (hy : y < D.p ^ D.k) : pscl D.p D.k (D.p - 1) (pmul D.p D.k D.m t D.k y) = pmul D.p D.k D.m y D.k (negF D t) := by
 unfold negF
 rw [pmul_comm h _ _ hy (pscl_lt h _ _), pmul_scl h]
end FFld
open Go Go.RowKit Go.Deep
open FFld (ints)
def DisR (L : List (Value × List Int)) : Prop := ∀ (i j g : Nat), L[i]?.bind (fun r => r.1.ownBlock) = some g -> L[j]?.bind (fun r => r.1.ownBlock) = some g -> i = j
structure Mat (B : Nat) (w : World) (G n wd : Nat) (H C : Nat -> Nat) (A : List (List Nat)) : Prop where
 len : A.length = n
 hdr : ∃ cur, w.heap[G]? = some (.cells cur 22 (0, 0)) /\ ∀ i, i < n -> cur[i]? = some (.slice (some ⟨H i, 0, none⟩) wd (C i))
 row : ∀ i, i < n -> Wv w (H i) (FFld.rowAt A i)
 wid : ∀ i, i < n -> (FFld.rowAt A i).length = wd
 cap : ∀ i, i < n -> wd <= C i /\ C i <= maxLen
 low : ∀ i, i < n -> B <= H i /\ H i ≠ G
 dis : ∀ i j, i < n -> j < n -> H i = H j -> i = j
 gB : B <= G
section
variable {B : Nat} {w w' : World} {G n wd : Nat} {H C : Nat -> Nat} {A : List (List Nat)}
def swapN (i j k : Nat) : Nat := if k = j then i else if k = i then j else k
end
def hdB (v : Value) : Nat := v.ownBlock.getD 0
def hdC : Value -> Nat | .slice _ _ c => c | _ => 0
def valAt (L : List (Value × List Int)) (i : Nat) : Value := (L[i]?.getD (.slice none 0 0, [])).1
end Go.Proofs.YtdnheaafcbihbaaGreat
namespace Go.Proofs.YtdnheaafcbihbaaGreat
open Go Go.RowKit Go.Deep
open FFld (ints)
def tamE (D : FFld.FD) (r : List Int) (c : Nat) : Nat := if c < r.length then redN D (r[c]?.getD 0) else 0
def tamR (D : FFld.FD) (r : List Int) (wd : Nat) : List Nat := (List.range wd).map (tamE D r)
def tamM (D : FFld.FD) (rows : List (List Int)) (most : Nat) : List (List Nat) := (rows.take most).map fun r => tamR D r (min (rlen rows 0) most)
end Go.Proofs.YtdnheaafcbihbaaGreat
namespace Go.Proofs.YtdnheaafcbihbaaGreat
open Go Go.RowKit
open FFld (ints)
theorem four_set {w : World} {g : Nat} {a b c d : Value} {T : TypeId} (h : w.heap[g]? = some (.cells #[a, b, c, d] T (0, 0))) (a' b' c' d' : Value) :
 ((((w.setCell ⟨g, 0, none⟩ a').setCell ⟨g, 1, none⟩ b').setCell ⟨g, 2, none⟩ c').setCell ⟨g, 3, none⟩ d').heap[g]? = some (.cells #[a', b', c', d'] T (0, 0)) := by
 have h1 := heap_setCell_same w g 0 _ T a' h
 have h2 := heap_setCell_same _ g 1 _ T b' h1
 have h3 := heap_setCell_same _ g 2 _ T c' h2
 have h4 := heap_setCell_same _ g 3 _ T d' h3
 simpa using h4
theorem four_frz {w : World} {g : Nat} {a b c d : Value} {T : TypeId} (h : w.heap[g]? = some (.cells #[a, b, c, d] T (0, 0))) :
 w.frozen? ⟨g, 0, none⟩ = false /\ w.frozen? ⟨g, 1, none⟩ = false /\ w.frozen? ⟨g, 2, none⟩ = false /\ w.frozen? ⟨g, 3, none⟩ = false :=
 ⟨frozen_of_row w g 0 _ T h, frozen_of_row w g 1 _ T h, frozen_of_row w g 2 _ T h, frozen_of_row w g 3 _ T h⟩
theorem four_end {w W : World} {g : Nat} {a b c d : Value} {T : TypeId} (h : W.heap[g]? = some (.cells #[a, b, c, d] T (0, 0))) (hb : Below w.heap.size w W) (hg : w.heap.size <= g) (a' b' c' d' : Value) :
 Below w.heap.size w ((((W.setCell ⟨g, 0, none⟩ a').setCell ⟨g, 1, none⟩ b').setCell ⟨g, 2, none⟩ c').setCell ⟨g, 3, none⟩ d') /\
 ((((W.setCell ⟨g, 0, none⟩ a').setCell ⟨g, 1, none⟩ b').setCell ⟨g, 2, none⟩ c').setCell ⟨g, 3, none⟩ d').cell? ⟨g, 0, none⟩ = some a' /\
 ((((W.setCell ⟨g, 0, none⟩ a').setCell ⟨g, 1, none⟩ b').setCell ⟨g, 2, none⟩ c').setCell ⟨g, 3, none⟩ d').cell? ⟨g, 1, none⟩ = some b' /\
 ((((W.setCell ⟨g, 0, none⟩ a').setCell ⟨g, 1, none⟩ b').setCell ⟨g, 2, none⟩ c').setCell ⟨g, 3, none⟩ d').cell? ⟨g, 2, none⟩ = some c' /\
 ((((W.setCell ⟨g, 0, none⟩ a').setCell ⟨g, 1, none⟩ b').setCell ⟨g, 2, none⟩ c').setCell ⟨g, 3, none⟩ d').cell? ⟨g, 3, none⟩ = some d' :=
 ⟨(((hb.setCell (p := ⟨g, 0, none⟩) hg _).setCell (p := ⟨g, 1, none⟩) hg _).setCell (p := ⟨g, 2, none⟩) hg _).setCell (p := ⟨g, 3, none⟩) hg _, four_cells (four_set h a' b' c' d')⟩
abbrev rzero : Value := .agg #[.int .i64 0, .int .i64 0, .int .i64 0, .int .i64 0]
abbrev rzbox : Obj := .cells #[.int .i64 0, .int .i64 0, .int .i64 0, .int .i64 0] 47
def RnRet (q : Int) (w : World) (e : Ending) (w' : World) : Prop := Below w.heap.size w w' /\ ((∃ D : FFld.FD, D.Ok /\ q = D.q /\ e = .returned (.tuple #[rfv D.q D.p D.k D.m, .bool true])) \/ (¬ FFld.Fit q /\ e = .returned (.tuple #[rzero, .bool false])))
set_option maxRecDepth 20000 in
theorem rnew_any (q : Int) (w : World) (hr0 : -9223372036854775808 <= q) (hr1 : q <= 9223372036854775807) :
 Calls Tryz.prog 31 #[.int .i64 q] w (RnRet q w) := by
 have HX0 : Kept (Bxs w [rzbox] (w.alloc rzbox)) := ⟨(Bxs.start w).alloc (by simp) _⟩
 by_cases hin : 2 <= q /\ q <= 65536
 ·obtain ⟨n0, rfl⟩ : ∃ n0 : Nat, q = n0 := ⟨q.toNat, by omega⟩
  have h2 : 2 <= n0 := by omega
  have h6 : n0 <= 65536 := by omega
  clear hin hr0 hr1
  go_enter Tryz.func31, Tryz.ntmps31
  go_wp2
  go_loopw [4] (fun pv wr => ∃ (p : Nat), 2 <= p /\ p <= n0 /\ pv = .int .i64 p /\ Kept (∀ i, 2 <= i -> i < p -> ¬ i ∣ n0) /\ w.alloc rzbox = wr) (fun pv _ => n0 - (intOf pv).toNat)
  case atStart => exact ⟨2, Nat.le_refl _, h2, rfl, ⟨fun i h1 h2 => by omega⟩, rfl⟩
  case round =>
   obtain ⟨p, hp2, hpn, rfl, hno, rfl⟩ := hrel
   obtain ⟨s, hs⟩ : ∃ s, n0 % p = s := ⟨_, rfl⟩
   have es : (n0 : Int) % p = s := by rw [<- hs]; rfl
   by_cases hs0 : s = 0
   ·subst hs0
    have hd : p ∣ n0 := Nat.dvd_of_mod_eq_zero hs
    have hpr := FFld.prime_least hp2 hd hno.out
    have HPR := Kept.mk hpr
    have HD := Kept.mk hd
    have ez : (((0 : Nat) : Int) != 0) = false := rfl
    clear hs hd hpr hno
    go_wp2
    go_loopw [5, 6] (fun kv nv wr => ∃ (k n : Nat), 1 <= n /\ n <= 65536 /\ k <= 16 /\ kv = .int .i64 k /\ nv = .int .i64 n /\ Kept (n * p ^ k = n0) /\ w.alloc rzbox = wr) (fun _ nv _ => (intOf nv).toNat)
    case atStart => exact ⟨0, n0, by omega, h6, by omega, rfl, rfl, ⟨by simp⟩, rfl⟩
    case round =>
     obtain ⟨k, n, hn1, hn6, hk16, rfl, rfl, hnk, rfl⟩ := hrel
     by_cases h1 : 1 < n
     ·obtain ⟨s, hs⟩ : ∃ s, n % p = s := ⟨_, rfl⟩
      obtain ⟨n', hn'⟩ : ∃ n', n / p = n' := ⟨_, rfl⟩
      have es : (n : Int) % p = s := by rw [<- hs]; rfl
      have en : (n : Int) / p = n' := by rw [<- hn']; rfl
      by_cases hs0 : s = 0
      ·subst hs0
       have ez : (((0 : Nat) : Int) != 0) = false := rfl
       have hnn : n = p * n' := by rw [<- hn']; exact (Nat.mul_div_cancel' (Nat.dvd_of_mod_eq_zero hs)).symm
       have hlt : n' < n := by rw [<- hn']; exact Nat.div_lt_self (by omega) hp2
       have hn'1 : 1 <= n' := by
        rcases Nat.eq_zero_or_pos n' with h | h
        ·subst h; omega
        ·exact h
       have HNK : Kept (n' * p ^ (k + 1) = n0) := ⟨by rw [<- hnk.out, hnn, Nat.pow_succ, Nat.mul_comm p n', Nat.mul_assoc, Nat.mul_comm p]⟩
       have hk15 : k + 1 <= 16 := by
        have h3 : p ^ (k + 1) <= n0 := by rw [<- HNK.out]; exact Nat.le_mul_of_pos_left _ hn'1
        rcases Nat.lt_or_ge 16 (k + 1) with h | h
        ·have h4 : 2 ^ 17 <= p ^ (k + 1) := Nat.le_trans (Nat.pow_le_pow_right (by omega) h) (Nat.pow_le_pow_left hp2 _)
         rw [show (2 : Nat) ^ 17 = 131072 from rfl] at h4
         generalize p ^ (k + 1) = z at *
         omega
        ·exact h
       clear hs hn' hnn hnk
       go_wp2
       go_roundw
       case rel => exact ⟨k + 1, n', hn'1, by omega, hk15, by go_num, rfl, HNK, trivial⟩
       case measure => simp [intOf] <;> omega
      ·have ez : ((s : Int) != 0) = true := by rw [bne_iff_ne]; omega
       have hnf : Kept (¬ FFld.Fit (n0 : Int)) := ⟨FFld.Fit.no (by rw [hnk.out]) HPR.out (by rw [hnk.out]; exact HD.out) h1 (fun h => hs0 (by rw [<- hs]; exact Nat.mod_eq_zero_of_dvd h))⟩
       obtain ⟨f0, f1, f2, f3⟩ := four_frz HX0.out.b0
       obtain ⟨c0, c1, c2, c3⟩ := four_cells HX0.out.b0
       clear hs hn' hnk hs0
       go_wp2
       exact bodyPost_ret (v := .tuple #[rzero, .bool false]) (by simp [results, Tryz.results31, go_sem, c0, c1, c2, c3]) rfl ⟨HX0.out.1, .inr ⟨hnf.out, rfl⟩⟩
     ·obtain rfl : n = 1 := by omega
      have hqk : p ^ k = n0 := by have := hnk.out; rw [Nat.one_mul] at this; exact this
      have hk1 : 1 <= k := by
       rcases Nat.eq_zero_or_pos k with h | h
       ·subst h; rw [Nat.pow_zero] at hqk; omega
       ·exact h
      obtain ⟨m, g, hD⟩ := FFld.FD.exists p k HPR.out hk1 (by rw [hqk]; exact h6)
      have hq : (⟨p, k, m, g⟩ : FFld.FD).q = n0 := hqk
      have HQK := Kept.mk hqk
      have HDD := Kept.mk hD
      have HQQ := Kept.mk hq
      obtain ⟨f0, f1, f2, f3⟩ := four_frz HX0.out.b0
      clear hnk hqk hq
      by_cases hk1' : k = 1
      ·subst hk1'
       have hm : m = p := hD.pre.mod1 rfl
       have ek : (((1 : Nat) : Int) == 1) = true := rfl
       have HB : Kept (Bxs w [rbox n0 p 1 p] (w.alloc (rbox n0 p 1 p))) := ⟨(Bxs.start w).alloc (by simp) _⟩
       obtain ⟨e0, e1, e2, e3⟩ := four_cells HB.out.b0
       have HM := Kept.mk hm
       clear hD hm
       go_wp2
       exact bodyPost_ret (v := .tuple #[rfv n0 p 1 p, .bool true]) (by simp [results, Tryz.results31, go_sem, e0, e1, e2, e3]) rfl ⟨HB.out.1, .inl ⟨_, HDD.out, by rw [HQQ.out], by rw [HQQ.out]; show _ = Ending.returned (.tuple #[rfv n0 p 1 m, .bool true]); rw [HM.out]⟩⟩
      ·have hk2 : 2 <= k := by omega
       have ek : ((k : Int) == 1) = false := by rw [beq_eq_false_iff_ne]; omega
       have hpq : p ^ k <= 65536 := by have := HQK.out; omega
       have hqm : n0 <= m := by have := (hD.pre.mod2 hk2).1; rw [HQQ.out] at this; exact this
       have hm2 : m < 131072 := by have := (hD.pre.mod2 hk2).2.1; rw [HQQ.out] at this; have e : m < 2 * n0 := this; omega
       have hp256 : p <= 256 := by
        rcases Nat.lt_or_ge 256 p with h | h
        ·have h3 : p ^ 2 <= p ^ k := Nat.pow_le_pow_right (by omega) hk2
         have h4 := nmul_le (A := p) (B := p) (a := 257) (b := 257) h h
         rw [Nat.pow_two] at h3
         omega
        ·exact h
       have hpk1 : p ^ (k + 1) <= 1099511627776 := by
        rw [Nat.pow_succ]
        exact Nat.le_trans (nmul_le (A := 65536) (B := 256) hpq hp256) (by omega)
       have hmk1 : 131072 <= p ^ (k + 1) \/ 2 * n0 <= p ^ (k + 1) := .inr (by rw [Nat.pow_succ', HQK.out]; exact Nat.mul_le_mul_right _ hp2)
       have hRest := Kept.mk (fun W (c x d : Nat) (hd : 1 <= d) (hd2 : 2 * d <= k) (hc : c <= m) (h1 : p ^ d <= x) (h2 : x < 2 * p ^ d) => rrest_any c x p d (k + 1) W hp2 (by omega) hd (by
        have := (hD.pre.mod2 hk2).2.1
        rw [HQQ.out] at this
        have e : m < 2 * n0 := this
        have e2 : 2 * n0 <= p ^ (k + 1) := by rw [Nat.pow_succ', HQK.out]; exact Nat.mul_le_mul_right _ hp2
        omega) h1 h2 hpk1 (by
        have := Nat.pow_le_pow_right (n := p) (by omega) (show d <= k by omega)
        omega))
       have HIS := Kept.mk (fun (c : Nat) (h1 : n0 <= c) (hc : c <= m) (hi : FFld.Irr p k c) => FFld.FD.Ok.mod_is hD hk2 (c := c) (by rw [HQQ.out]; exact h1) hc hi)
       have HNOT := Kept.mk (fun (c : Nat) (hc : c <= m) (hi : ¬ FFld.Irr p k c) => FFld.FD.Ok.mod_not hD hk2 (c := c) hc hi)
       have hk17 : k <= 17 := by omega
       have hpd := Kept.mk (fun (d : Nat) (hd : 2 * d <= k) => show p ^ d <= 256 from by
        rcases Nat.lt_or_ge 256 (p ^ d) with h | h
        ·have h3 : p ^ (2 * d) <= p ^ k := Nat.pow_le_pow_right (by omega) hd
         have h4 := nmul_le (A := p ^ d) (B := p ^ d) (a := 257) (b := 257) h h
         rw [Nat.two_mul, Nat.pow_add] at h3
         generalize p ^ d * p ^ d = z at *
         omega
        ·exact h)
       have hk16' := hk16
       clear hD hmk1 hpk1 hpq
       go_wp2
       go_loopw [7] (fun mv wr => ∃ (c : Nat), n0 <= c /\ c <= m /\ mv = .int .i64 c /\ Kept (Bxs w [rzbox] wr)) (fun mv _ => m - (intOf mv).toNat)
       case atStart => exact ⟨n0, Nat.le_refl _, hqm, rfl, HX0⟩
       case round =>
        obtain ⟨c, hc0, hcm, rfl, hbx⟩ := hrel
        go_wp2
        go_loopw [8, 9, 10] (fun ov fv dv wr => ∃ (ok : Bool) (f d : Nat), ov = .bool ok /\ fv = .int .i64 f /\ dv = .int .i64 d /\ 1 <= d /\ d <= 17 /\ f <= 65536 /\ Kept (ok = true -> f = p ^ d) /\ Kept (FFld.DvAt_ p k c d f ok) /\ Kept (Bxs w [rzbox] wr)) (fun _ _ dv _ => 18 - (intOf dv).toNat)
        case atStart => exact ⟨true, p, 1, rfl, rfl, rfl, Nat.le_refl _, by omega, by omega, ⟨fun _ => (Nat.pow_one p).symm⟩, ⟨by have := FFld.DvAt_.start p k c; rw [Nat.pow_one] at this; exact this⟩, hbx⟩
        case round =>
         obtain ⟨ok, f, d, rfl, rfl, rfl, hd1, hd17, hf6, hfp, hat, hbx⟩ := hrel
         cases ok with
         | false =>
           have hN := HNOT.out c hcm hat.out
           by_cases hlt : 2 * d <= k
           ·go_wp2
            go_roundw
            case rel => exact ⟨c + 1, by omega, hN, by go_num, hbx⟩
            case measure => simp [intOf] <;> omega
           ·go_wp2
            go_roundw
            case rel => exact ⟨c + 1, by omega, hN, by go_num, hbx⟩
            case measure => simp [intOf] <;> omega
         | true =>
           have hfe := hfp.out rfl
           by_cases hlt : 2 * d <= k
           ·have hf256 : f <= 256 := by rw [hfe]; exact hpd.out d hlt
            have HFE := Kept.mk hfe
            obtain ⟨f', hf'⟩ : ∃ f', f * p = f' := ⟨_, rfl⟩
            have hf'e : f' = p ^ (d + 1) := by rw [<- hf', hfe, Nat.pow_succ]
            have hf'6 : f' <= 65536 := by
             rw [hf'e]
             exact Nat.le_trans (Nat.pow_le_pow_right (by omega) (show d + 1 <= k by omega)) (by rw [HQK.out]; exact h6)
            have ef : wrap64 ((f : Int) * p) = f' := wmul hf' (by omega)
            have HF' := Kept.mk hf'e
            clear hfe hf' hf'e
            go_wp2
            go_loopw [8, 11] (fun ov xv wr => ∃ (ok : Bool) (x : Nat), ov = .bool ok /\ xv = .int .i64 x /\ f <= x /\ x <= 600 /\ Kept (ok = true -> x <= 2 * f) /\ Kept (FFld.DvAt_ p k c d x ok) /\ Kept (Bxs w [rzbox] wr)) (fun _ xv _ => 601 - (intOf xv).toNat)
            case atStart => exact ⟨true, f, rfl, rfl, Nat.le_refl _, by omega, ⟨fun _ => by omega⟩, hat, hbx⟩
            case round =>
             obtain ⟨ok, x, rfl, rfl, hfx, hx6, hx2, hat, hbx⟩ := hrel
             cases ok with
             | false =>
               by_cases hxl : x < 2 * f
               ·go_wp2
                go_roundw
                case rel => exact ⟨false, f', d + 1, rfl, congrArg (Value.int .i64) ef, by go_num, by omega, by omega, hf'6, ⟨fun h => by cases h⟩, hat, hbx⟩
                case measure => simp [intOf] <;> omega
               ·go_wp2
                go_roundw
                case rel => exact ⟨false, f', d + 1, rfl, congrArg (Value.int .i64) ef, by go_num, by omega, by omega, hf'6, ⟨fun h => by cases h⟩, hat, hbx⟩
                case measure => simp [intOf] <;> omega
             | true =>
               have hx2' := hx2.out rfl
               by_cases hxl : x < 2 * f
               ·obtain ⟨v, hv⟩ : ∃ v, FFld.pmul p d x 1 (k + 1) c = v := ⟨_, rfl⟩
                have hC := Kept.mk (fun W => hRest.out W c x d hd1 hlt hcm (by rw [<- HFE.out]; exact hfx) (by rw [<- HFE.out]; exact hxl))
                rw [hv] at hC
                by_cases hv0 : v = 0
                ·subst hv0
                 have HD2 := Kept.mk (FFld.DvAt_.fail hd1 hlt (by rw [<- HFE.out]; exact hfx) (by rw [<- HFE.out]; exact hxl) hv (x + 1))
                 have ev : (((0 : Nat) : Int) != 0) = false := rfl
                 clear hv
                 go_wp2_with fail
                 refine (hC.out _).mono ?_
                 rintro e w3 ⟨hb3, rfl⟩
                 have HX3 := Kept.mk (hbx.out.below hb3)
                 clear hb3
                 go_wp2
                 go_roundw
                 case rel => exact ⟨false, x + 1, rfl, by go_num, by omega, by omega, ⟨fun h => by cases h⟩, HD2, HX3⟩
                 case measure => simp [intOf] <;> omega
                ·have HD2 := Kept.mk (hat.out.next (by rw [hv]; exact hv0))
                 have ev : ((v : Int) != 0) = true := by rw [bne_iff_ne]; omega
                 clear hv hv0
                 go_wp2_with fail
                 refine (hC.out _).mono ?_
                 rintro e w3 ⟨hb3, rfl⟩
                 have HX3 := Kept.mk (hbx.out.below hb3)
                 clear hb3
                 go_wp2
                 go_roundw
                 case rel => exact ⟨true, x + 1, rfl, by go_num, by omega, by omega, ⟨fun _ => by omega⟩, HD2, HX3⟩
                 case measure => simp [intOf] <;> omega
               ·obtain rfl : x = 2 * f := by omega
                have HD2 : Kept (FFld.DvAt_ p k c (d + 1) (p ^ (d + 1)) true) := ⟨by have := hat.out; rw [HFE.out] at this; exact this.row⟩
                rw [<- HF'.out] at HD2
                go_wp2
                go_roundw
                case rel => exact ⟨true, f', d + 1, rfl, congrArg (Value.int .i64) ef, by go_num, by omega, by omega, hf'6, ⟨fun _ => HF'.out⟩, HD2, hbx⟩
                case measure => simp [intOf] <;> omega
           ·have hI := HIS.out c hc0 hcm (hat.out.done (by omega))
            obtain ⟨f0, f1, f2, f3⟩ := four_frz hbx.out.b0
            obtain ⟨c0, c1, c2, c3⟩ := four_cells hbx.out.b0
            obtain ⟨hb, e0, e1, e2, e3⟩ := four_end hbx.out.b0 hbx.out.1 (Nat.le_refl _) (.int .i64 n0) (.int .i64 p) (.int .i64 k) (.int .i64 c)
            have HB := Kept.mk hb
            have HI := Kept.mk hI
            clear hb hI hfe
            go_wp2
            exact bodyPost_ret (v := .tuple #[rfv n0 p k c, .bool true]) (by simp [results, Tryz.results31, go_sem, e0, e1, e2, e3]) rfl ⟨HB.out, .inl ⟨_, HDD.out, by rw [HQQ.out], by rw [HQQ.out]; show _ = Ending.returned (.tuple #[rfv n0 p k m, .bool true]); rw [HI.out]⟩⟩
   ·have hlt : p + 1 <= n0 := by
     rcases Nat.lt_or_ge p n0 with h | h
     ·exact h
     ·have : p = n0 := by omega
      subst this
      rw [Nat.mod_self] at hs
      omega
    have HNO := Kept.mk (show ∀ i, 2 <= i -> i < p + 1 -> ¬ i ∣ n0 from fun i h1 h2 hdv => by
     by_cases e : i = p
     ·subst e; rw [Nat.mod_eq_zero_of_dvd hdv] at hs; omega
     ·exact hno.out i h1 (by omega) hdv)
    have ez : ((s : Int) != 0) = true := by rw [bne_iff_ne]; omega
    clear hs hs0
    go_wp2
    go_roundw
    case rel => exact ⟨p + 1, by omega, hlt, by go_num, HNO, trivial⟩
    case measure => simp [intOf] <;> omega
 ·have hnf : Kept (¬ FFld.Fit q) := ⟨fun h => hin h.range⟩
  obtain ⟨f0, f1, f2, f3⟩ := four_frz HX0.out.b0
  obtain ⟨c0, c1, c2, c3⟩ := four_cells HX0.out.b0
  have htest : q < 2 \/ (¬ q < 2 /\ 65536 < q) := by omega
  clear hin
  go_enter Tryz.func31, Tryz.ntmps31
  rcases htest with h | ⟨h, h'⟩
  all_goals
   go_wp2
   exact bodyPost_ret (v := .tuple #[rzero, .bool false]) (by simp [results, Tryz.results31, go_sem, c0, c1, c2, c3]) rfl ⟨HX0.out.1, .inr ⟨hnf.out, rfl⟩⟩
end Go.Proofs.YtdnheaafcbihbaaGreat
namespace Go.Proofs.YtdnheaafcbihbaaGreat
open Go Go.RowKit Go.Deep
open FFld (ints)
def SoRet (most : Int) (w : World) (e : Ending) (w' : World) : Prop := Below w.heap.size w w' /\ ∃ (D : FFld.FD) (b : Nat), D.Ok /\ ((D.q : Int) <= most \/ D.q <= 27) /\ w.heap.size <= b /\ FldB D w' b /\ e = .returned (.tuple #[.pointer (some ⟨b, 0, none⟩), rfv D.q D.p D.k D.m])
def smL : List Nat := [2, 3, 4, 5, 7, 8, 9, 11, 13, 16, 25, 27]
theorem Row.grown {E : TypeId} {K : IntKind} {w w' : World} {g k : Nat} {xs : List Int} (h : Row E K w g xs) (hg : w.grownBy w' (some k)) (hne : g ≠ k) : Row E K w' g xs := (hg.block _ h.lt (by simpa using hne)).trans h
theorem md_ok {D : FFld.FD} (h : D.Ok) : MdOk D.p D.k D.m := ⟨h.pre.mod1, fun hk => ⟨(h.pre.mod2 hk).1, (h.pre.mod2 hk).2.1⟩⟩
theorem els_nat {D : FFld.FD} {xs : List Int} (h : elsB D xs = true) : xs = ints (xs.map Int.toNat) /\ ∀ a ∈ xs.map Int.toNat, a < D.p ^ D.k := by
 have h' : ∀ x ∈ xs, 0 <= x /\ x < (D.q : Int) := fun x hx => by
  have := List.all_eq_true.1 h x hx
  simpa using this
 have hq : D.q = D.p ^ D.k := rfl
 constructor
 ·unfold ints
  rw [List.map_map]
  conv => lhs; rw [<- List.map_id xs]
  refine List.map_congr_left fun x hx => ?_
  have := h' x hx
  simp only [Function.comp, id]
  omega
 ·intro a ha
  obtain ⟨x, hx, rfl⟩ := List.mem_map.1 ha
  have := h' x hx
  rw [<- hq]
  omega
end Go.Proofs.YtdnheaafcbihbaaGreat
namespace Go.Proofs.YtdnheaafcbihbaaGreat
open Go Go.RowKit Go.Deep
open FFld (ints)
namespace FFld
theorem addmF_at {D : FD} (xs : List Nat) (s : Nat) (q : List Nat) (c : Nat) : ∀ (j i : Nat), i < j -> s + j <= xs.length -> (addmF D xs s q c j)[s + i]?.getD 0 = padd D.p D.k (xs[s + i]?.getD 0) (pmul D.p D.k D.m (q[i]?.getD 0) D.k c)
 | 0, i, h, _ => by omega
 | j + 1, i, h, hl => by
   simp only [addmF]
   by_cases e : i = j
   ·subst e
    rw [List.getElem?_set_self (by rw [addmF_len]; omega), addmF_old D xs s q c i (s + i) (.inr (Nat.le_refl _))]
    rfl
   ·rw [List.getElem?_set_ne (by omega)]
    exact addmF_at xs s q c j i (by omega) (by omega)
end FFld
def totF (D : FFld.FD) (rows : List (List Nat)) (ul : List Nat) (wd : Nat) : Nat -> List Nat
 | 0 => List.replicate wd 0
 | i + 1 => FFld.addm D (totF D rows ul wd i) 0 (FFld.rowAt rows i) (ul[i]?.getD 0)
def colS (D : FFld.FD) (rows : List (List Nat)) (ul : List Nat) (c : Nat) : Nat -> Nat
 | 0 => 0
 | i + 1 => FFld.padd D.p D.k (colS D rows ul c i) (FFld.pmul D.p D.k D.m (ul[i]?.getD 0) D.k (FFld.cellAt rows i c))
def dnB (D : FFld.FD) (rows : List (List Nat)) (ul bl : List Nat) (wd n : Nat) : Bool := decide ((∀ c, c < wd -> colS D rows ul c n = 0) /\ sopF D ul bl n ≠ 0)
end Go.Proofs.YtdnheaafcbihbaaGreat
namespace Go.Proofs.YtdnheaafcbihbaaGreat
namespace FFld
section
variable {D : FD} (hk : PK D.p D.k D.m)
include hk
theorem mul_swap {a b c : Nat} (ha : a < D.p ^ D.k) (hb : b < D.p ^ D.k) (hc : c < D.p ^ D.k) : pmul D.p D.k D.m (pmul D.p D.k D.m a D.k c) D.k b = pmul D.p D.k D.m (pmul D.p D.k D.m a D.k b) D.k c := by
 rw [pmul_assoc hk _ _ _ ha hc hb, pmul_comm hk _ _ hc hb, <- pmul_assoc hk _ _ _ ha hb hc]
def Trk (D : FD) (N n c : Nat) (bl : List Nat) (A R : List (List Nat)) : Prop := ∀ i, i < N -> cellAt A i c = sopF D (rowAt R i) bl n
end
section
variable {D : FD} {N n W c : Nat} {bl : List Nat} {A R : List (List Nat)}
end
end FFld
end Go.Proofs.YtdnheaafcbihbaaGreat
namespace Go.Proofs.YtdnheaafcbihbaaGreat
namespace FFld
theorem ext_getD {l m : List Nat} (h : l.length = m.length) (he : ∀ i, i < l.length -> l[i]?.getD 0 = m[i]?.getD 0) : l = m := by
 apply List.ext_getElem h
 intro i h1 h2
 have := he i h1
 rw [List.getElem?_eq_getElem h1, List.getElem?_eq_getElem h2] at this
 exact this
theorem take_getD {l : List Nat} {wd i : Nat} (hi : i < wd) : (l.take wd)[i]?.getD 0 = l[i]?.getD 0 := by rw [List.getElem?_take, if_pos hi]
structure Tru (wd : Nat) (s s' : ESt) : Prop where
 cols : s'.cols = s.cols
 rcd : s'.R = s.R
 len : s'.A.length = s.A.length
 row : ∀ i, rowAt s.A i = (rowAt s'.A i).take wd
structure Ecf (N c : Nat) (s : ESt) : Prop where
 low : ∀ i, i < s.cols.length -> s.cols[i]?.getD 0 < c /\ cellAt s.A i (s.cols[i]?.getD 0) = 1 /\ ∀ c', c' < s.cols[i]?.getD 0 -> cellAt s.A i c' = 0
 zero : ∀ i, s.cols.length <= i -> i < N -> ∀ c', c' < c -> cellAt s.A i c' = 0
end FFld
end Go.Proofs.YtdnheaafcbihbaaGreat
namespace Go.Proofs.YtdnheaafcbihbaaGreat
namespace FFld
def trmN (l : List Nat) : Nat -> Nat
 | 0 => 0
 | n + 1 => if l[n]?.getD 0 = 0 then trmN l n else n + 1
def trm (l : List Nat) : List Nat := l.take (trmN l l.length)
theorem trmN_le (l : List Nat) : ∀ n, trmN l n <= n
 | 0 => Nat.le_refl _
 | n + 1 => by
   simp only [trmN]
   split
   ·have := trmN_le l n
    omega
   ·omega
theorem trmN_is {l : List Nat} {n : Nat} (hz : ∀ i, n <= i -> l[i]?.getD 0 = 0) (ht : n = 0 \/ l[n - 1]?.getD 0 ≠ 0) : ∀ d, trmN l (n + d) = n
 | 0 => by
   rcases ht with rfl | ht
   ·rfl
   ·cases n with
    | zero => rfl
    | succ m =>
      simp only [Nat.add_zero, trmN]
      rw [if_neg (by simpa using ht)]
 | d + 1 => by
   rw [<- Nat.add_assoc]
   simp only [trmN]
   rw [if_pos (hz _ (by omega))]
   exact trmN_is hz ht d
theorem trm_is {l : List Nat} {n : Nat} (hn : n <= l.length) (hz : ∀ i, n <= i -> l[i]?.getD 0 = 0) (ht : n = 0 \/ l[n - 1]?.getD 0 ≠ 0) : trm l = l.take n := by
 unfold trm
 obtain ⟨d, hd⟩ : ∃ d, l.length = n + d := ⟨l.length - n, by omega⟩
 rw [hd, trmN_is hz ht d]
theorem trmN_top (l : List Nat) : ∀ n, trmN l n = 0 \/ l[trmN l n - 1]?.getD 0 ≠ 0
 | 0 => .inl rfl
 | n + 1 => by
   simp only [trmN]
   split
   ·exact trmN_top l n
   ·rename_i h
    exact .inr (by simpa using h)
theorem trmN_zero (l : List Nat) : ∀ n i, trmN l n <= i -> i < n -> l[i]?.getD 0 = 0
 | 0, i, _, h => by omega
 | n + 1, i, h1, h2 => by
   simp only [trmN] at h1
   split at h1
   ·rename_i e
    by_cases e2 : i = n
    ·rw [e2]; exact e
    ·exact trmN_zero l n i h1 (by omega)
   ·omega
def Tz (l : List Nat) : Prop := l.length = 0 \/ l[l.length - 1]?.getD 0 ≠ 0
theorem trm_len (l : List Nat) : (trm l).length = trmN l l.length := by
 unfold trm
 rw [List.length_take]
 have := trmN_le l l.length
 omega
theorem trm_tz (l : List Nat) : Tz (trm l) := by
 unfold Tz
 rw [trm_len]
 rcases trmN_top l l.length with h | h
 ·exact .inl h
 ·by_cases h0 : trmN l l.length = 0
  ·exact .inl h0
  ·right
   unfold trm
   rw [take_getD (by omega)]
   exact h
theorem trm_self {l : List Nat} (h : Tz l) : trm l = l := by
 rw [trm_is (n := l.length) (Nat.le_refl _) (fun i hi => by rw [List.getElem?_eq_none hi]; rfl) h, List.take_of_length_le (Nat.le_refl _)]
theorem trm_lt {q : Nat} {l : List Nat} (h : ∀ a ∈ l, a < q) : ∀ a ∈ trm l, a < q := fun a ha => h a (List.mem_of_mem_take ha)
def quoF (D : FD) (ql : List Nat) (inv : Nat) (pl : List Nat) : List Nat := if pl.length < ql.length then [] else (List.range (pl.length + 1 - ql.length)).map fun i => divQ D ql inv (pl.length + 1 - ql.length) pl (pl.length + 1 - ql.length - 1 - i)
def rstF (D : FD) (ql : List Nat) (inv : Nat) (pl : List Nat) : List Nat := if pl.length < ql.length then pl else trm (divF D ql inv (pl.length + 1 - ql.length) pl (pl.length + 1 - ql.length))
theorem quoF_len (D : FD) (ql : List Nat) (inv : Nat) (pl : List Nat) : (quoF D ql inv pl).length <= pl.length + 1 - ql.length := by
 unfold quoF
 split
 ·exact Nat.zero_le _
 ·simp
theorem rstF_lt {D : FD} (hk : PK D.p D.k D.m) (ql : List Nat) (inv : Nat) {pl : List Nat} (hp : ∀ a ∈ pl, a < D.p ^ D.k) : ∀ a ∈ rstF D ql inv pl, a < D.p ^ D.k := by
 unfold rstF
 split
 ·exact hp
 ·exact trm_lt (divF_lt hk _ _ _ _ hp)
theorem rstF_tz (D : FD) (ql : List Nat) (inv : Nat) {pl : List Nat} (hp : Tz pl) : Tz (rstF D ql inv pl) := by
 unfold rstF
 split
 ·exact hp
 ·exact trm_tz _
theorem addm_at (D : FD) (xs : List Nat) (s : Nat) (q : List Nat) (c : Nat) {i : Nat} (hi : i < q.length) (hl : s + q.length <= xs.length) : (addm D xs s q c)[s + i]?.getD 0 = padd D.p D.k (xs[s + i]?.getD 0) (pmul D.p D.k D.m (q[i]?.getD 0) D.k c) := by
 unfold addm
 exact addmF_at (D := D) xs s q c q.length i hi hl
section
variable {D : FD} (hD : D.Ok) {ql pl : List Nat} {inv n : Nat}
include hD
theorem div_top (hq : ∀ a ∈ ql, a < D.p ^ D.k) (hp : ∀ a ∈ pl, a < D.p ^ D.k) (hn : n + ql.length = pl.length + 1) (h1 : 1 <= ql.length) (h0 : ql[ql.length - 1]?.getD 0 ≠ 0) (hi : inv = ppow hD.pre.pk (ql[ql.length - 1]?.getD 0) (D.q - 2)) {t : Nat} (ht : t < n)
 (hz : ∀ j, n - 1 - t + ql.length <= j -> (divF D ql inv n pl t)[j]?.getD 0 = 0) : ∀ j, n - 1 - t + (ql.length - 1) <= j -> (divF D ql inv n pl (t + 1))[j]?.getD 0 = 0 := fun j hj => by
 have hk := hD.pre.pk
 have hx := divF_lt hk ql inv n t hp
 have hl := divF_len D ql inv n pl t
 have hiq : inv < D.p ^ D.k := by rw [hi]; exact ppow_lt hk _ _
 show (addm D (divF D ql inv n pl t) (n - 1 - t) ql (pscl D.p D.k (D.p - 1) (divQ D ql inv n pl t)))[j]?.getD 0 = 0
 by_cases e : j = n - 1 - t + (ql.length - 1)
 ·subst e
  rw [addm_at D _ _ _ _ (by omega) (by omega)]
  have htop : (divF D ql inv n pl t)[n - 1 - t + (ql.length - 1)]?.getD 0 < D.p ^ D.k := getD_lt (Nat.pow_pos hk.p0) hx _
  have hqt : ql[ql.length - 1]?.getD 0 < D.p ^ D.k := getD_lt (Nat.pow_pos hk.p0) hq _
  unfold divQ
  generalize (divF D ql inv n pl t)[n - 1 - t + (ql.length - 1)]?.getD 0 = x at *
  generalize ql[ql.length - 1]?.getD 0 = y at *
  have e1 : pmul D.p D.k D.m y D.k (pscl D.p D.k (D.p - 1) (pmul D.p D.k D.m x D.k inv)) = pscl D.p D.k (D.p - 1) (pmul D.p D.k D.m (pmul D.p D.k D.m x D.k y) D.k inv) := by
   have := take_off hk (t := pmul D.p D.k D.m x D.k inv) (y := y) (pmul_lt hk _ _ _) hqt
   unfold negF at this
   rw [<- this, mul_swap hk htop hqt hiq]
  rw [e1, hi, hD.div_mul htop hqt h0]
  exact padd_neg hk x
 ·have := addmF_old D (divF D ql inv n pl t) (n - 1 - t) ql (pscl D.p D.k (D.p - 1) (divQ D ql inv n pl t)) ql.length j (.inr (by omega))
  unfold addm
  rw [this]
  exact hz j (by omega)
end
end FFld
end Go.Proofs.YtdnheaafcbihbaaGreat
namespace Go.Proofs.YtdnheaafcbihbaaGreat
open Go Go.RowKit Go.Deep
open FFld (ints)
def belB (L : Int) (xs : List Int) : Bool := xs.all fun a => decide (0 <= a /\ a < L)
set_option maxRecDepth 20000 in
theorem careBelow_any (L : Int) (v : Value) (xs : List Int) (w : World) (h : Sl .i64 w v xs) :
 Calls Tryz.prog 85 #[.int .i64 L, v] w (fun e w' => w = w' /\ e = .returned (.bool (belB L xs))) := by
 obtain ⟨ao, cap, rfl, hcap, hmax, hc⟩ := h
 obtain ⟨n, hN⟩ : ∃ n, xs.length = n := ⟨_, rfl⟩
 have HC := Kept.mk hc
 rw [hN] at hcap ⊢
 have HN := Kept.mk hN
 unfold maxLen at hmax
 clear hc hN
 go_enter Tryz.func85, Tryz.ntmps85
 go_wp2
 go_loopw [9] (fun iv wr => ∃ (i : Nat), i <= n /\ iv = .int .i64 i /\ Kept (belB L (xs.take i) = true) /\ w = wr) (fun iv _ => n - (intOf iv).toNat)
 case atStart => exact ⟨0, Nat.zero_le _, rfl, ⟨rfl⟩, rfl⟩
 case round =>
  obtain ⟨i, hin, rfl, hat, rfl⟩ := hrel
  by_cases hlt : i < n
  ·obtain ⟨g, o, rfl, hg, hcell⟩ := HC.out i (by rw [HN.out]; exact hlt)
   obtain ⟨a, ha⟩ : ∃ a, xs[i]?.getD 0 = a := ⟨_, rfl⟩
   rw [ha] at hcell
   have hT : xs.take (i + 1) = xs.take i ++ [a] := by
    rw [List.take_add_one]
    congr 1
    rw [<- ha, List.getElem?_eq_getElem (by rw [HN.out]; exact hlt)]
    rfl
   have HT : Kept (belB L (xs.take (i + 1)) = decide (0 <= a /\ a < L)) := ⟨by
    have := hat.out
    unfold belB at this ⊢
    rw [hT, List.all_append, this]
    simp only [List.all_cons, List.all_nil, Bool.and_true, Bool.true_and]⟩
   have HE : Kept (¬ (0 <= a /\ a < L) -> belB L xs = false) := ⟨fun hno => by
    have h1 := HT.out
    rw [decide_eq_false hno] at h1
    unfold belB at h1 ⊢
    rw [<- List.take_append_drop (i + 1) xs, List.all_append, h1]
    rfl⟩
   clear ha hT
   by_cases h1 : a < 0
   ·have HE' : Kept (belB L xs = false) := ⟨HE.out (by omega)⟩
    have d1 : decide (a < 0) = true := decide_eq_true h1
    go_wp2
    go_ret
    exact ⟨rfl, by rw [HE'.out]; rfl⟩
   ·by_cases h2 : L <= a
    ·have HE' : Kept (belB L xs = false) := ⟨HE.out (by omega)⟩
     have d1 : decide (a < 0) = false := decide_eq_false h1
     have d2 : decide (L <= a) = true := decide_eq_true h2
     go_wp2
     go_ret
     exact ⟨rfl, by rw [HE'.out]; rfl⟩
    ·have HT' : Kept (belB L (xs.take (i + 1)) = true) := ⟨by rw [HT.out]; exact decide_eq_true (by omega)⟩
     have d1 : decide (a < 0) = false := decide_eq_false h1
     have d2 : decide (L <= a) = false := decide_eq_false h2
     go_wp2
     go_roundw
     case rel => exact ⟨i + 1, by omega, by go_num, HT', trivial⟩
     case measure => simp [intOf] <;> omega
  ·obtain rfl : i = n := by omega
   have HE : Kept (belB L xs = true) := ⟨by have := hat.out; rw [<- HN.out, List.take_length] at this; exact this⟩
   go_wp2
   go_ret
   exact ⟨rfl, by rw [HE.out]; rfl⟩
def difAt (xs : List Int) (i j : Nat) : Bool := (List.range j).all fun b => decide (xs[i]?.getD 0 ≠ xs[b]?.getD 0)
def difB (xs : List Int) (n : Nat) : Bool := (List.range n).all fun a => difAt xs a a
theorem difAt_succ (xs : List Int) (i j : Nat) : difAt xs i (j + 1) = (difAt xs i j && decide (xs[i]?.getD 0 ≠ xs[j]?.getD 0)) := by
 unfold difAt
 rw [List.range_succ, List.all_append]
 simp
theorem difB_succ (xs : List Int) (n : Nat) : difB xs (n + 1) = (difB xs n && difAt xs n n) := by
 unfold difB
 rw [List.range_succ, List.all_append]
 simp
theorem difB_no {xs : List Int} {i j n : Nat} (hj : j < i) (hi : i < n) (h : xs[i]?.getD 0 = xs[j]?.getD 0) : difB xs n = false := by
 unfold difB
 rw [List.all_eq_false]
 refine ⟨i, List.mem_range.2 hi, ?_⟩
 unfold difAt
 rw [Bool.not_eq_true, List.all_eq_false]
 exact ⟨j, List.mem_range.2 hj, by simp [h]⟩
set_option maxRecDepth 20000 in
theorem careDifferent_any (v : Value) (xs : List Int) (w : World) (h : Sl .i64 w v xs) :
 Calls Tryz.prog 86 #[v] w (fun e w' => w = w' /\ e = .returned (.bool (difB xs xs.length))) := by
 obtain ⟨ao, cap, rfl, hcap, hmax, hc⟩ := h
 obtain ⟨n, hN⟩ : ∃ n, xs.length = n := ⟨_, rfl⟩
 have HC := Kept.mk hc
 rw [hN] at hcap HC ⊢
 clear hN
 unfold maxLen at hmax
 clear hc
 go_enter Tryz.func86, Tryz.ntmps86
 go_wp2
 go_loopw [9] (fun iv wr => ∃ (i : Nat), i <= n /\ iv = .int .i64 i /\ Kept (difB xs i = true) /\ w = wr) (fun iv _ => n - (intOf iv).toNat)
 case atStart => exact ⟨0, Nat.zero_le _, rfl, ⟨rfl⟩, rfl⟩
 case round =>
  obtain ⟨i, hin, rfl, hat, rfl⟩ := hrel
  by_cases hlt : i < n
  ·obtain ⟨g, o, rfl, hg, hcell⟩ := HC.out i hlt
   obtain ⟨a, ha⟩ : ∃ a, xs[i]?.getD 0 = a := ⟨_, rfl⟩
   rw [ha] at hcell
   have HA := Kept.mk ha
   have hic : i <= cap := by omega
   clear ha
   go_wp2
   go_loopw [18] (fun jv wr => ∃ (j : Nat), j <= i /\ jv = .int .i64 j /\ Kept (difAt xs i j = true) /\ w = wr) (fun jv _ => i - (intOf jv).toNat)
   case atStart => exact ⟨0, Nat.zero_le _, rfl, ⟨rfl⟩, rfl⟩
   case round =>
    obtain ⟨j, hji, rfl, hdj, rfl⟩ := hrel
    by_cases hj : j < i
    ·obtain ⟨g', o', e', hg', hcell'⟩ := HC.out j (by omega)
     obtain ⟨rfl, rfl⟩ : g = g' /\ o = o' := by simpa using e'
     clear e'
     obtain ⟨c, hcc⟩ : ∃ c, xs[j]?.getD 0 = c := ⟨_, rfl⟩
     rw [hcc] at hcell'
     by_cases hac : a = c
     ·have HE : Kept (difB xs n = false) := ⟨difB_no hj hlt (by rw [HA.out, hcc]; exact hac)⟩
      have e0 : (a == c) = true := beq_iff_eq.2 hac
      clear hcc
      go_wp2
      go_ret
      exact ⟨rfl, by rw [HE.out]; rfl⟩
     ·have HT : Kept (difAt xs i (j + 1) = true) := ⟨by rw [difAt_succ, hdj.out, HA.out, hcc]; simpa using hac⟩
      have e0 : (a == c) = false := beq_eq_false_iff_ne.2 hac
      clear hcc
      go_wp2
      go_roundw
      case rel => exact ⟨j + 1, by omega, by go_num, HT, trivial⟩
      case measure => simp [intOf] <;> omega
    ·obtain rfl : j = i := by omega
     have HT : Kept (difB xs (j + 1) = true) := ⟨by rw [difB_succ, hat.out, hdj.out]; rfl⟩
     go_wp2
     go_roundw
     case rel => exact ⟨j + 1, by omega, by go_num, HT, trivial⟩
     case measure => simp [intOf] <;> omega
  ·obtain rfl : i = n := by omega
   go_wp2
   go_ret
   exact ⟨rfl, by rw [hat.out]; rfl⟩
set_option maxRecDepth 20000 in
theorem ctrimmed_any (l : List Nat) (ao : Option Addr) (cap : Nat) (w : World) (h : Sl .i64 w (.slice ao l.length cap) (ints l)) :
 Calls Tryz.prog 160 #[.slice ao l.length cap] w (fun e w' => w = w' /\ e = .returned (.slice ao (FFld.trm l).length cap)) := by
 have key : ∀ n, n <= l.length -> (∀ i, n <= i -> l[i]?.getD 0 = 0) -> (n = 0 \/ l[n - 1]?.getD 0 ≠ 0) -> (FFld.trm l).length = n := fun n h1 h2 h3 => by
  have := FFld.trmN_is h2 h3 (l.length - n)
  rw [show n + (l.length - n) = l.length by omega] at this
  rw [FFld.trm_len, this]
 have KEY := Kept.mk key
 clear key
 obtain ⟨ao', cap', e, hcap, hmax, hc⟩ := h
 simp only [Value.slice.injEq] at e
 obtain ⟨rfl, e2, rfl⟩ := e
 clear e2
 rw [FFld.ints_len] at hcap hc
 unfold maxLen at hmax
 have HC := Kept.mk hc
 clear hc
 go_enter Tryz.func160, Tryz.ntmps160
 go_wp2
 go_loopw [3] (fun nv wr => ∃ k : Nat, k <= l.length /\ nv = .int .i64 k /\ Kept (∀ i, k <= i -> l[i]?.getD 0 = 0) /\ w = wr) (fun nv _ => (intOf nv).toNat)
 case atStart => exact ⟨l.length, Nat.le_refl _, rfl, ⟨fun i hi => by simp [hi]⟩, rfl⟩
 case round =>
  obtain ⟨k, hk, rfl, hz, rfl⟩ := hrel
  by_cases h0 : 0 < k
  ·obtain ⟨b, o, rfl, hb, hcell⟩ := HC.out (k - 1) (by omega)
   obtain ⟨k, rfl⟩ : ∃ j, k = j + 1 := ⟨k - 1, by omega⟩
   rw [FFld.ints_get] at hcell
   simp only [Nat.add_sub_cancel] at hcell
   obtain ⟨x, hx⟩ : ∃ x, l[k]?.getD 0 = x := ⟨_, rfl⟩
   rw [hx] at hcell
   by_cases hx0 : x = 0
   ·subst hx0
    have HX := Kept.mk hx
    have e0 : (((0 : Nat) : Int) == 0) = true := rfl
    clear hx
    go_wp2
    go_roundw
    case rel => exact ⟨k, by omega, by go_num, ⟨fun i hi => by
     by_cases e : i = k
     ·rw [e]; exact HX.out
     ·exact hz.out i (by omega)⟩, trivial⟩
    case measure => simp [intOf] <;> omega
   ·have e0 : ((x : Int) == 0) = false := by rw [beq_eq_false_iff_ne]; omega
    have HX : Kept ((FFld.trm l).length = k + 1) := ⟨KEY.out (k + 1) hk hz.out (.inr (by simpa [hx] using hx0))⟩
    clear hx hx0
    go_wp2
    go_ret
    exact ⟨rfl, by rw [HX.out]; rfl⟩
  ·obtain rfl : k = 0 := by omega
   have HX : Kept ((FFld.trm l).length = 0) := ⟨KEY.out 0 hk hz.out (.inl rfl)⟩
   go_wp2
   go_ret
   exact ⟨rfl, by rw [HX.out]; rfl⟩
def disF (xs ys : List Int) : Nat -> Nat
 | 0 => 0
 | n + 1 => if xs[n]?.getD 0 = ys[n]?.getD 0 then disF xs ys n else disF xs ys n + 1
theorem disF_le (xs ys : List Int) : ∀ n, disF xs ys n <= n
 | 0 => Nat.le_refl _
 | n + 1 => by
   have := disF_le xs ys n
   unfold disF
   split <;> omega
set_option maxRecDepth 20000 in
theorem cdistance_any (v v' : Value) (xs ys : List Int) (w : World) (h : Sl .i64 w v xs) (h' : Sl .i64 w v' ys) (hl : xs.length = ys.length) :
 Calls Tryz.prog 96 #[v, v'] w (fun e w' => w = w' /\ e = .returned (.int .i64 (disF xs ys xs.length : Nat))) := by
 obtain ⟨ao, cap, rfl, hcap, hmax, hc⟩ := h
 obtain ⟨bo, cap2, rfl, hcap2, hmax2, hc2⟩ := h'
 obtain ⟨n, hN⟩ : ∃ n, xs.length = n := ⟨_, rfl⟩
 have HC := Kept.mk hc
 have HC2 := Kept.mk hc2
 rw [<- hl] at hcap2 HC2 ⊢
 rw [hN] at hcap hcap2 HC HC2 ⊢
 clear hN hl
 unfold maxLen at hmax hmax2
 clear hc hc2
 go_enter Tryz.func96, Tryz.ntmps96
 go_wp2
 go_loopw [5, 10] (fun cv iv wr => ∃ (i c : Nat), i <= n /\ c <= i /\ iv = .int .i64 i /\ cv = .int .i64 c /\ Kept (disF xs ys i = c) /\ w = wr) (fun _ iv _ => n - (intOf iv).toNat)
 case atStart => exact ⟨0, 0, Nat.zero_le _, Nat.le_refl _, rfl, rfl, ⟨rfl⟩, rfl⟩
 case round =>
  obtain ⟨i, c, hin, hci, rfl, rfl, hat, rfl⟩ := hrel
  by_cases hlt : i < n
  ·obtain ⟨g, o, rfl, hg, hcell⟩ := HC.out i hlt
   obtain ⟨g2, o2, rfl, hg2, hcell2⟩ := HC2.out i hlt
   obtain ⟨a, ha⟩ : ∃ a, xs[i]?.getD 0 = a := ⟨_, rfl⟩
   obtain ⟨b, hb⟩ : ∃ b, ys[i]?.getD 0 = b := ⟨_, rfl⟩
   rw [ha] at hcell
   rw [hb] at hcell2
   have HD : Kept (disF xs ys (i + 1) = if a = b then c else c + 1) := ⟨by
    show (if xs[i]?.getD 0 = ys[i]?.getD 0 then disF xs ys i else disF xs ys i + 1) = _
    rw [ha, hb, hat.out]⟩
   clear ha hb
   by_cases hab : a = b
   ·have HD' : Kept (disF xs ys (i + 1) = c) := ⟨by rw [HD.out, if_pos hab]⟩
    have e0 : (a != b) = false := by rw [hab]; simp
    clear hat
    go_wp2
    go_roundw
    case rel => exact ⟨i + 1, c, by omega, by omega, by go_num, rfl, HD', trivial⟩
    case measure => simp [intOf] <;> omega
   ·have HD' : Kept (disF xs ys (i + 1) = c + 1) := ⟨by rw [HD.out, if_neg hab]⟩
    have e0 : (a != b) = true := bne_iff_ne.2 hab
    clear hat
    go_wp2
    go_roundw
    case rel => exact ⟨i + 1, c + 1, by omega, by omega, by go_num, by go_num, HD', trivial⟩
    case measure => simp [intOf] <;> omega
  ·obtain rfl : i = n := by omega
   go_wp2
   go_ret
   exact ⟨rfl, by rw [hat.out]; rfl⟩
def OrdRet (o : Int) (w : World) (e : Ending) (w' : World) : Prop := Below w.heap.size w w' /\ ((FFld.Fit o /\ e = .returned (.int .i64 0)) \/ (¬ FFld.Fit o /\ e = .returned (.int .i64 20)))
set_option maxRecDepth 20000 in
theorem ccheckOrder_any (o : Int) (w : World) (o0 : -9223372036854775808 <= o) (o1 : o <= 9223372036854775807) :
 Calls Tryz.prog 84 #[.int .i64 o] w (OrdRet o w) := by
 have HF := Kept.mk (firrs_any o 1 w o0 o1 (by omega) (by omega))
 go_enter Tryz.func84, Tryz.ntmps84
 go_wp2_with fail
 refine HF.out.mono ?_
 rintro e w1 ⟨hb1, ⟨hnf, rfl⟩ | ⟨hf, hdr, rfl⟩ | ⟨hf, q, n, hq, hq6, hn, hn1, hn4, s1, a1, k1, c1, rfl, hI1⟩⟩
 ·have HN := Kept.mk hnf
  have HB := Kept.mk (bstep hb1 ((Below.refl w1.heap.size w1).alloc (Nat.le_refl _) (.cells #[.bool false, .slice none 0 0] 98)))
  clear hb1 hnf
  go_wp2
  go_ret
  exact ⟨HB.out, .inr ⟨HN.out, rfl⟩⟩
 ·omega
 ·have HN := Kept.mk hf
  have HB := Kept.mk (bstep hb1 ((Below.refl w1.heap.size w1).alloc (Nat.le_refl _) (.cells #[.bool s1, .slice a1 k1 c1] 98)))
  clear hb1 hf hI1 hq hn
  go_wp2
  go_ret
  exact ⟨HB.out, .inl ⟨HN.out, rfl⟩⟩
open Classical in
noncomputable def chkE (o : Int) (xs : List Int) (k : Int) : Nat := if FFld.Fit o then (if 64 < xs.length then 2 else if k < 1 \/ (xs.length : Int) < k \/ belB o xs = false \/ difB xs xs.length = false then 1 else 0) else 20
abbrev cdbox (o : Int) (ao : Option Addr) (n cap : Nat) (k : Int) : Obj := .cells #[.int .i64 o, .slice ao n cap, .int .i64 k] 27
abbrev cdv (o : Int) (ao : Option Addr) (n cap : Nat) (k : Int) : Value := .agg #[.int .i64 o, .slice ao n cap, .int .i64 k]
set_option maxRecDepth 20000 in
theorem ccheck_any (o k : Int) (ao : Option Addr) (cap : Nat) (xs : List Int) (w : World) (h : Sl .i64 w (.slice ao xs.length cap) xs) (o0 : -9223372036854775808 <= o) (o1 : o <= 9223372036854775807) (k0 : -9223372036854775808 <= k) (k1 : k <= 9223372036854775807) :
 Calls Tryz.prog 21 #[cdv o ao xs.length cap k] w (RB w (.int .i64 (chkE o xs k : Nat))) := by
 have HX0 : Kept (Bxs w [cdbox o ao xs.length cap k] (w.alloc (cdbox o ao xs.length cap k))) := ⟨(Bxs.start w).alloc (by simp) _⟩
 have HO := Kept.mk (fun W => ccheckOrder_any o W o0 o1)
 have HS := Kept.mk h
 have hm : xs.length <= 9223372036854775807 := by
  obtain ⟨_, _, e, h1, h2, _⟩ := h
  unfold maxLen at h2
  omega
 have HC0 : Kept (¬ FFld.Fit o -> chkE o xs k = 20) := ⟨fun hn => by unfold chkE; rw [if_neg hn]⟩
 have HC1 : Kept (FFld.Fit o -> 64 < xs.length -> chkE o xs k = 2) := ⟨fun hn h1 => by unfold chkE; rw [if_pos hn, if_pos h1]⟩
 have HC2 : Kept (FFld.Fit o -> ¬ 64 < xs.length -> (k < 1 \/ (xs.length : Int) < k \/ belB o xs = false \/ difB xs xs.length = false) -> chkE o xs k = 1) := ⟨fun hn h1 h2 => by unfold chkE; rw [if_pos hn, if_neg h1, if_pos h2]⟩
 have HC3 : Kept (FFld.Fit o -> ¬ 64 < xs.length -> ¬ (k < 1 \/ (xs.length : Int) < k \/ belB o xs = false \/ difB xs xs.length = false) -> chkE o xs k = 0) := ⟨fun hn h1 h2 => by unfold chkE; rw [if_pos hn, if_neg h1, if_neg h2]⟩
 obtain ⟨r, hr⟩ : ∃ r, chkE o xs k = r := ⟨_, rfl⟩
 rw [hr] at HC0 HC1 HC2 HC3 ⊢
 obtain ⟨n, hn⟩ : ∃ n, xs.length = n := ⟨_, rfl⟩
 have HN := Kept.mk hn
 rw [hn] at HX0 HS HC1 HC2 HC3 hm ⊢
 clear h hr hn
 go_enter Tryz.func21, Tryz.ntmps21
 obtain ⟨c0, c1, c2, _⟩ := three_cells HX0.out.b0
 go_wp2_with fail
 refine (HO.out _).mono ?_
 rintro e w1 ⟨hb1, ⟨hf, rfl⟩ | ⟨hf, rfl⟩⟩
 ·have HX1 := Kept.mk (HX0.out.below hb1)
  replace HC1 := Kept.mk (HC1.out hf)
  replace HC2 := Kept.mk (HC2.out hf)
  replace HC3 := Kept.mk (HC3.out hf)
  have HS1 := Kept.mk (HS.out.below HX1.out.1)
  clear hb1 hf c0 c1 c2 HC0 HO
  obtain ⟨c0, c1, c2, _⟩ := three_cells HX1.out.b0
  by_cases h64 : 64 < n
  ·have d1 : decide ((64 : Int) < n) = true := decide_eq_true (by omega)
   obtain rfl := HC1.out h64
   go_wp2
   go_ret
   exact ⟨HX1.out.1, rfl⟩
  ·have d1 : decide ((64 : Int) < n) = false := decide_eq_false (by omega)
   by_cases hk1 : k < 1
   ·have d2 : decide (k < 1) = true := decide_eq_true hk1
    obtain rfl := HC2.out h64 (.inl hk1)
    go_wp2
    go_ret
    exact ⟨HX1.out.1, rfl⟩
   ·have d2 : decide (k < 1) = false := decide_eq_false hk1
    by_cases hk2 : (n : Int) < k
    ·have d3 : decide ((n : Int) < k) = true := decide_eq_true hk2
     obtain rfl := HC2.out h64 (.inr (.inl hk2))
     go_wp2
     go_ret
     exact ⟨HX1.out.1, rfl⟩
    ·have d3 : decide ((n : Int) < k) = false := decide_eq_false hk2
     have HA := Kept.mk (careBelow_any o _ xs w1 HS1.out)
     have HD := Kept.mk (careDifferent_any _ xs w1 HS1.out)
     rw [HN.out] at HD
     obtain ⟨t, ht⟩ : ∃ t, belB o xs = t := ⟨_, rfl⟩
     obtain ⟨u, hu⟩ : ∃ u, difB xs n = u := ⟨_, rfl⟩
     rw [ht] at HA HC2 HC3
     rw [hu] at HD HC2 HC3
     clear ht hu
     go_wp2_with fail
     refine HA.out.mono ?_
     rintro e w2 ⟨rfl, rfl⟩
     cases t with
     | false =>
       obtain rfl := HC2.out h64 (.inr (.inr (.inl rfl)))
       go_wp2
       go_ret
       exact ⟨HX1.out.1, rfl⟩
     | true =>
       go_wp2_with fail
       refine HD.out.mono ?_
       rintro e w2 ⟨rfl, rfl⟩
       cases u with
       | false =>
         obtain rfl := HC2.out h64 (.inr (.inr (.inr rfl)))
         go_wp2
         go_ret
         exact ⟨HX1.out.1, rfl⟩
       | true =>
         obtain rfl := HC3.out h64 (by rintro (h | h | h | h) <;> first | omega | cases h)
         go_wp2
         go_ret
         exact ⟨HX1.out.1, rfl⟩
 ·have HX1 := Kept.mk (HX0.out.below hb1)
  obtain rfl := HC0.out hf
  clear hb1 hf c0 c1 c2
  obtain ⟨c0, c1, c2, _⟩ := three_cells HX1.out.b0
  go_wp2
  go_ret
  exact ⟨HX1.out.1, rfl⟩
end Go.Proofs.YtdnheaafcbihbaaGreat
namespace Go.Proofs.YtdnheaafcbihbaaGreat
open Go Go.RowKit Go.Deep
open FFld (ints)
namespace FFld
end FFld
section
variable {D : FFld.FD} {b : Nat} {W : World}
end
end Go.Proofs.YtdnheaafcbihbaaGreat
namespace Go.Proofs.YtdnheaafcbihbaaGreat
open Go Go.RowKit
namespace FFld
theorem Dom.neg_mul {α : Type} (F : Dom α) (b c : α) : F.mul (F.neg b) c = F.neg (F.mul b c) := by
 refine F.neg_unique ?_
 rw [<- F.add_mul, F.add_neg, F.zero_mul]
def RootIs (D : FD) (a r : Nat) : Prop := r < D.p ^ D.k /\ pmul D.p D.k D.m r D.k r = a /\ ∀ x, x < D.p ^ D.k -> pmul D.p D.k D.m x D.k x = a -> r <= x
end FFld
end Go.Proofs.YtdnheaafcbihbaaGreat
namespace Go.Proofs.YtdnheaafcbihbaaGreat
namespace FFld
namespace Dom
variable {α : Type} (F : Dom α)
def sm (F : Dom α) (f : Nat -> α) : Nat -> α
 | 0 => F.zero
 | n + 1 => F.add (sm F f n) (f n)
theorem sm_congr {f g : Nat -> α} : ∀ (n : Nat), (∀ i, i < n -> f i = g i) -> F.sm f n = F.sm g n
 | 0, _ => rfl
 | n + 1, h => by
   simp only [sm]
   rw [sm_congr n fun i hi => h i (by omega), h n (Nat.lt_succ_self n)]
theorem sm_add (f g : Nat -> α) : ∀ (n : Nat), F.sm (fun i => F.add (f i) (g i)) n = F.add (F.sm f n) (F.sm g n)
 | 0 => (F.add_zero _).symm
 | n + 1 => by
   simp only [sm]
   rw [sm_add f g n, F.add4]
theorem sm_mul (a : α) (f : Nat -> α) : ∀ (n : Nat), F.sm (fun i => F.mul a (f i)) n = F.mul a (F.sm f n)
 | 0 => (F.mul_zero a).symm
 | n + 1 => by
   simp only [sm]
   rw [sm_mul a f n, F.mul_add]
theorem sm_zero {f : Nat -> α} : ∀ (n : Nat), (∀ i, i < n -> f i = F.zero) -> F.sm f n = F.zero
 | 0, _ => rfl
 | n + 1, h => by
   simp only [sm]
   rw [sm_zero n fun i hi => h i (by omega), h n (Nat.lt_succ_self n), F.add_zero]
theorem sm_comm (f : Nat -> Nat -> α) (m : Nat) : ∀ (n : Nat), F.sm (fun i => F.sm (fun j => f i j) m) n = F.sm (fun j => F.sm (fun i => f i j) n) m
 | 0 => by
   simp only [sm]
   exact (F.sm_zero m fun _ _ => rfl).symm
 | n + 1 => by
   simp only [sm]
   rw [sm_comm f m n, F.sm_add]
theorem sm_one {f : Nat -> α} {j : Nat} : ∀ (n : Nat), j < n -> (∀ i, i < n -> i ≠ j -> f i = F.zero) -> F.sm f n = f j
 | 0, h, _ => by omega
 | n + 1, h, hz => by
   simp only [sm]
   by_cases e : j = n
   ·subst e
    rw [F.sm_zero _ fun i hi => hz i (by omega) (by omega), F.zero_add]
   ·rw [sm_one n (by omega) fun i hi => hz i (by omega), hz n (Nat.lt_succ_self n) (fun e2 => e e2.symm), F.add_zero]
def skp (j i : Nat) : Nat := if i < j then i else i + 1
inductive Spn (F : Dom α) (W : Nat) (P : (Nat -> α) -> Prop) : (Nat -> α) -> Prop where
 | mem (v : Nat -> α) : P v -> Spn F W P v
 | zero (v : Nat -> α) : (∀ c, c < W -> v c = F.zero) -> Spn F W P v
 | add (u v w : Nat -> α) : Spn F W P u -> Spn F W P v -> (∀ c, c < W -> w c = F.add (u c) (v c)) -> Spn F W P w
 | mul (a : α) (u w : Nat -> α) : Spn F W P u -> (∀ c, c < W -> w c = F.mul a (u c)) -> Spn F W P w
end Dom
end FFld
end Go.Proofs.YtdnheaafcbihbaaGreat
