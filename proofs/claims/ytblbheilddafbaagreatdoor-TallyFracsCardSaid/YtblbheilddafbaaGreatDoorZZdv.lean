/-
  Texts of the proof, merged by program: Rtm Rsl Rdm Zsf Rdn Rgn Zqg Zdv.
-/
import Derived.Test.YtblbheilddafbaaGreatDoorZZcm
import Derived.Deep.Upon
import Derived.Deep.LoopGhost
import Derived.Test.YtblbheilddafbaaGreatDoorZ11
import Derived.Test.YtblbheilddafbaaGreatDoorZ14
set_option linter.unusedVariables false
set_option linter.unusedSimpArgs false
namespace Go.Proofs.YtblbheilddafbaaGreatDoor
open Go Go.RowKit
/-- How far the reference's product with one factor has come. -/
structure RtAt (xs zs : List Int) (f : Int) (k : Nat) (c : Int) : Prop where
  len : zs.length = k
  wf : Dg.Wf BN zs
  c0 : 0 ≤ c
  c1 : c ≤ f
  eq : Dg.val BN zs + c * BN ^ k = Dg.val BN (xs.take k) * f
  kl : k ≤ xs.length + 2
  top1 : xs.length < k → c ≤ 1
  top2 : xs.length + 1 < k → c = 0
theorem RtAt.start (xs : List Int) {f : Int} (hf : 0 ≤ f) : RtAt xs [] f 0 0 := ⟨rfl, Dg.Wf.nil _, by omega, hf, by simp [Dg.val], by omega, fun h => by omega, fun h => by omega⟩
theorem RtAt.next {xs zs : List Int} {f c x m : Int} {k : Nat} (h : RtAt xs zs f k c) (hx : x = xs[k]?.getD 0) (hm : m = x * f) (hxb : 0 ≤ x ∧ x < BN) (hf : f ≤ 1000000000) (hk : k < xs.length ∨ 0 < c) :
    0 ≤ m ∧ m ≤ 999999999 * f ∧ RtAt xs (zs ++ [(c + m) % 1000000000]) f (k + 1) ((c + m) / 1000000000) := by
  obtain ⟨hl, hw, c0, c1, hv, hkl, t1, t2⟩ := h
  have hx1 : x < 1000000000 := hxb.2
  have m0 : 0 ≤ m := by rw [hm]; exact Int.mul_nonneg hxb.1 (by omega)
  have m1 : m ≤ 999999999 * f := by rw [hm]; exact Int.mul_le_mul_of_nonneg_right (by omega) (by omega)
  refine ⟨m0, m1, by simp [hl], hw.append (Dg.Wf.one (by omega) (by show _ < (1000000000 : Int); omega)), by omega, by omega, ?_, ?_, ?_, ?_⟩
  · rw [Dg.val_append, Dg.val_one, hl, Dg.val_take_succD, ← hx, Int.pow_succ, Int.add_mul, ← hv]
    have hd : c + m = (c + m) % 1000000000 + BN * ((c + m) / 1000000000) := by unfold BN; omega
    generalize (c + m) % 1000000000 = s at *
    generalize (c + m) / 1000000000 = q at *
    have e1 : BN ^ k * x * f = BN ^ k * m := by rw [hm, Int.mul_assoc]
    have e2 : BN ^ k * (c + m) = BN ^ k * (s + BN * q) := by rw [hd]
    rw [e1]
    simp only [Int.mul_add] at e2
    have e3 : q * (BN ^ k * BN) = BN ^ k * (BN * q) := by simp only [Int.mul_comm, Int.mul_left_comm, Int.mul_assoc]
    rw [e3, Int.mul_comm c]
    omega
  · rcases hk with h | h
    · omega
    · by_cases e : xs.length + 1 < k
      · have := t2 e; omega
      · omega
  · intro h1
    have ex : x = 0 := by rw [hx]; exact Dg.getD_out (by omega)
    have em : m = 0 := by rw [hm, ex, Int.zero_mul]
    subst em
    omega
  · intro h1
    have ex : x = 0 := by rw [hx]; exact Dg.getD_out (by omega)
    have em : m = 0 := by rw [hm, ex, Int.zero_mul]
    have := t1 (by omega)
    subst em
    omega
theorem RtAt.done {xs zs : List Int} {f : Int} {k : Nat} (h : RtAt xs zs f k 0) (hk : xs.length ≤ k) : Dg.val BN zs = Dg.val BN xs * f := by
  have := h.eq
  rw [List.take_of_length_le hk, Int.zero_mul, Int.add_zero] at this
  exact this
set_option maxRecDepth 20000 in
set_option maxHeartbeats 2000000 in
theorem rtimes_any (va : Value) (xs : List Int) (f : Int) (w : World) (ha : Sl .i64 w va xs) (wx : Dg.Wf BN xs) (f0 : 0 ≤ f) (f1 : f ≤ 1000000000) (hxl : xs.length ≤ 17000000000000) :
    Calls Tryz.prog 144 #[va, .int .i64 f] w (RetR (xs.length + 2) w (Dg.val BN xs * f)) := by
  obtain ⟨ao, cap, rfl, hcap, hmax, hc⟩ := ha
  unfold maxLen at hmax
  have HC := Kept.mk hc
  have WX := Kept.mk wx
  clear hc wx
  go_enter Tryz.func144, Tryz.ntmps144
  go_wp2
  go_loopw [5, 6, 7] (fun o c i wr => ∃ (k : Nat) (cv : Int) (zs : List Int), k ≤ xs.length + 2 ∧ i = .int .i64 k ∧ c = .int .i64 cv ∧ 0 ≤ cv ∧ cv ≤ 1000000000 ∧ Kept (RtAt xs zs f k cv) ∧ Kept (Mine 3 .i64 w.heap.size wr o zs) ∧ Kept (Below w.heap.size w wr)) (fun _ _ i _ => xs.length + 3 - (intOf i).toNat)
  case atStart => exact ⟨0, 0, [], Nat.zero_le _, rfl, rfl, by omega, by omega, ⟨RtAt.start xs f0⟩, ⟨Mine.nil _ _ _ _⟩, ⟨Below.refl _ _⟩⟩
  case round =>
    obtain ⟨k, cv, zs, hk, rfl, rfl, hc0, hc1, hat, hm, hbl⟩ := hrel
    by_cases hcond : k < xs.length ∨ 0 < cv
    · obtain ⟨x, hx⟩ : ∃ x, x = xs[k]?.getD 0 := ⟨_, rfl⟩
      obtain ⟨m, hmm⟩ : ∃ m, x * f = m := ⟨_, rfl⟩
      have hxb := Dg.Wf.getD (show (0 : Int) < BN by decide) WX.out k
      rw [← hx] at hxb
      have hx0 : 0 ≤ x := hxb.1
      have hx1 : x < 1000000000 := hxb.2
      obtain ⟨m0, m1, hnx⟩ := hat.out.next hx hmm.symm hxb f1 hcond
      have HNX := Kept.mk hnx
      have hkl := hnx.kl
      have hlen := hat.out.len
      obtain ⟨d, hd⟩ : ∃ d, (cv + m) % 1000000000 = d := ⟨_, rfl⟩
      obtain ⟨q, hq⟩ : ∃ q, (cv + m) / 1000000000 = q := ⟨_, rfl⟩
      have HD := Kept.mk hd
      have HQ := Kept.mk hq
      have hq0 : 0 ≤ q := by omega
      have hq1 : q ≤ 1000000000 := by omega
      have HMa := Lib.hid (hm.out.alloc (.cells #[.int .i64 d] 3))
      have HNW := Lib.hid (new_one (K := .i64) (x := d) (w := wr.alloc (.cells #[.int .i64 d] 3)) (b := wr.heap.size) (o := 0) (by exact (Row.new (E := 3) (K := .i64) wr [d]).cell (i := 0) (by simp)))
      have HBB := Lib.hid (show w.heap.size ≤ (wr.alloc (.cells #[.int .i64 d] 3)).heap.size by have := hbl.out.size; simp; omega)
      have H1 := Lib.hid (show (zs.length + [d].length) * 8 ≤ 140737488355328 by simp; omega)
      have H2 := Lib.hid (show zs.length + [d].length ≤ maxLen by unfold maxLen; simp; omega)
      have hOwn := Kept.mk hm.out.own
      by_cases hkx : k < xs.length
      · obtain ⟨b, o, rfl, hbs, hcell⟩ := HC.out k hkx
        rw [← hx] at hcell
        have hcl := (hbl.out.cell (p := ⟨b, o + k, none⟩) hbs).trans hcell
        have hmod : (cv + m) % 1000000000 = d := hd
        have HQU := Kept.mk hq
        clear hlen hd hq hcond hxb hx hcell hnx
        go_wp2_with (at_builtin; refine wpList_append_mine _ rfl _ _ 23 rfl 3 .i64 8 Tryz.underlying23 info_i64 w.heap.size _ zs rfl HMa.out HBB.out ⟨wr.heap.size, 0, none⟩ 1 1 [d] rfl rfl HNW.out H1.out H2.out ?_)
        intro v' w5 hm5 hg5 hn5
        have HM5 := Kept.mk hm5
        have HB5 := Kept.mk (hbl.out.grown (growTrans (World.grownBy_alloc wr (.cells #[.int .i64 d] 3) _) hg5) hbl.out.size (fun j hj => (hOwn.out j hj).1))
        clear hm5 hg5 hn5
        go_wp2
        go_roundw
        case rel => exact ⟨k + 1, q, zs ++ [d], by omega, by go_num, congrArg (Value.int .i64) HQU.out, hq0, hq1, ⟨by have := HNX.out; rw [HD.out, HQ.out] at this; exact this⟩, HM5, HB5⟩
        case measure => simp [intOf]; omega
      · have hcv : 0 < cv := by omega
        have ex : x = 0 := by rw [hx]; exact Dg.getD_out (by omega)
        have em : m = 0 := by rw [← hmm, ex, Int.zero_mul]
        subst em
        have hmod : cv % 1000000000 = d := by rw [← hd]; congr 1; omega
        have hquo : cv / 1000000000 = q := by rw [← hq]; congr 1; omega
        have HQU := Kept.mk hquo
        clear hlen hd hq hquo hcond hxb hx hnx hmm ex
        go_wp2_with (at_builtin; refine wpList_append_mine _ rfl _ _ 23 rfl 3 .i64 8 Tryz.underlying23 info_i64 w.heap.size _ zs rfl HMa.out HBB.out ⟨wr.heap.size, 0, none⟩ 1 1 [d] rfl rfl HNW.out H1.out H2.out ?_)
        intro v' w5 hm5 hg5 hn5
        have HM5 := Kept.mk hm5
        have HB5 := Kept.mk (hbl.out.grown (growTrans (World.grownBy_alloc wr (.cells #[.int .i64 d] 3) _) hg5) hbl.out.size (fun j hj => (hOwn.out j hj).1))
        clear hm5 hg5 hn5
        go_wp2
        go_roundw
        case rel => exact ⟨k + 1, q, zs ++ [d], by omega, by go_num, congrArg (Value.int .i64) HQU.out, hq0, hq1, ⟨by have := HNX.out; rw [HD.out, HQ.out] at this; exact this⟩, HM5, HB5⟩
        case measure => simp [intOf]; omega
    · have hcv : cv = 0 := by omega
      subst hcv
      have hd := hat.out.done (by omega)
      have hlen := hat.out.len
      have c1 : ¬ k < xs.length := by omega
      have HS := Kept.mk hm.out.sl
      have HW := Kept.mk hat.out.wf
      have HDN := Kept.mk hd
      have HLL : Kept (zs.length ≤ xs.length + 2) := ⟨by omega⟩
      clear hd hlen
      go_wp2_with fail
      refine (trim_num HS.out HW.out).mono ?_
      rintro e w2 ⟨v2, rfl, rfl, hn2, _⟩
      rw [HDN.out] at hn2
      have HN2 := Kept.mk (hn2.mono HLL.out)
      clear hn2
      go_wp2
      go_ret
      exact ⟨hbl.out, _, rfl, HN2.out⟩
theorem rtimes_num {L : Nat} {va : Value} {m f : Int} {w : World} (ha : NumR L w va m) (f0 : 0 ≤ f) (f1 : f ≤ 1000000000) (hL : L ≤ 17000000000000) :
    Calls Tryz.prog 144 #[va, .int .i64 f] w (RetR (L + 2) w (m * f)) := by
  obtain ⟨xs, a1, a2, a3, rfl, a5⟩ := ha
  exact (rtimes_any va xs f w a1 a2 f0 f1 (by omega)).mono fun e w' ⟨hb, v', he, hn⟩ => ⟨hb, v', he, hn.mono (by omega)⟩
end Go.Proofs.YtblbheilddafbaaGreatDoor

set_option linter.unusedVariables false
set_option linter.unusedSimpArgs false
namespace Go.Proofs.YtblbheilddafbaaGreatDoor
open Go Go.RowKit
def RwAt (xs T : List Int) (k : Nat) (r y : Int) : Prop := T.length = xs.length ∧ Dg.Wf BN T ∧ 0 ≤ r ∧ r < y ∧ Dg.val BN (T.drop k) * y + r = Dg.val BN (xs.drop k)
theorem RwAt.start (xs : List Int) {y : Int} (hy : 0 < y) : RwAt xs (List.replicate xs.length 0) xs.length 0 y :=
  ⟨by simp, Dg.Wf.zeros (by decide) _, by omega, hy, by simp [Dg.val]⟩
theorem RwAt.next {xs T : List Int} {k : Nat} {r y x q r' : Int} (h : RwAt xs T (k + 1) r y) (hk : k < xs.length) (hx : x = xs[k]?.getD 0)
    (he : r * 1000000000 + x = q * y + r') (r0 : 0 ≤ r') (r1 : r' < y) (q0 : 0 ≤ q) (q1 : q < 1000000000) : RwAt xs (T.set k q) k r' y := by
  obtain ⟨hl, hw, _, _, hv⟩ := h
  refine ⟨by simpa using hl, hw.set k q0 q1, r0, r1, ?_⟩
  have e1 : (T.set k q).drop k = q :: T.drop (k + 1) := by
    rw [List.drop_eq_getElem_cons (by simp; omega)]
    simp [List.drop_set]
  have e2 : xs.drop k = x :: xs.drop (k + 1) := by
    rw [List.drop_eq_getElem_cons hk, hx]
    simp [hk]
  rw [e1, e2, Dg.val_cons, Dg.val_cons, ← hv]
  generalize Dg.val BN (T.drop (k + 1)) = t
  unfold BN
  rw [Int.add_mul, Int.mul_add, Int.mul_assoc]
  omega
theorem RwAt.done {xs T : List Int} {r y : Int} (h : RwAt xs T 0 r y) : Dg.Wf BN T ∧ Dg.val BN T = Dg.val BN xs / y ∧ r = Dg.val BN xs % y := by
  obtain ⟨hl, hw, r0, r1, hv⟩ := h
  simp only [List.drop_zero] at hv
  refine ⟨hw, ?_, ?_⟩
  · rw [← hv, Int.add_comm, Int.add_mul_ediv_right _ _ (by omega), Int.ediv_eq_zero_of_lt r0 r1]; omega
  · rw [← hv, Int.add_comm, Int.add_mul_emod_self_right, Int.emod_eq_of_lt r0 r1]
set_option maxRecDepth 20000 in
set_option maxHeartbeats 1000000 in
theorem rdivsmall_any (va : Value) (xs : List Int) (y : Int) (w : World) (ha : Sl .i64 w va xs) (hwa : Dg.Wf BN xs) (hy : 0 < y) (hy1 : y ≤ 1000000000) (hmx : xs.length ≤ 17000000000000) :
    Calls Tryz.prog 145 #[va, .int .i64 y] w fun e w' => ∃ v' r, e = .returned (.tuple #[v', .int .i64 r]) ∧ Below w.heap.size w w' ∧ NumR xs.length w' v' (Dg.val BN xs / y) ∧ r = Dg.val BN xs % y := by
  obtain ⟨ao, cap, rfl, hcap, hmax, hc⟩ := ha
  unfold maxLen at hmax
  have HC := Kept.mk hc
  have WX := Kept.mk hwa
  clear hc hwa
  go_enter Tryz.func145, Tryz.ntmps145
  go_wp2_with (at_make; refine wpList_make_zeros _ rfl _ _ 23 rfl 3 .i64 Tryz.underlying23 info_i64 _ _ xs.length rfl rfl (by omega) (by omega) (by omega) ?_)
  intro w1 hrow hbel
  have HR1 := Kept.mk hrow
  have HB1 := Kept.mk hbel
  clear hrow hbel
  go_wp2
  go_loopw [7, 8] (fun c i wr => ∃ (k : Nat) (j r : Int) (T : List Int), k ≤ xs.length ∧ Hid (j + 1 = k) ∧ i = .int .i64 j ∧ c = .int .i64 r ∧ 0 ≤ r ∧ r < y ∧ Kept (RwAt xs T k r y) ∧ Kept (Row 3 .i64 wr w.heap.size T) ∧ Kept (Below w.heap.size w wr)) (fun _ i _ => (intOf i + 1).toNat)
  case atStart => exact ⟨xs.length, _, 0, _, Nat.le_refl _, by show _ - (1 : Int) + 1 = _; omega, rfl, rfl, by omega, hy, ⟨RwAt.start xs hy⟩, HR1, HB1⟩
  case round =>
    obtain ⟨k, j, r, T, hk, hj, rfl, rfl, hr0, hr1, hat, hr, hbl⟩ := hrel
    have HTL := Kept.mk hat.out.1
    by_cases h0 : 0 < k
    · obtain ⟨k, rfl⟩ : ∃ j, k = j+1 := ⟨k - 1, by omega⟩
      obtain rfl : j = (k : Int) := by have := hj.out; omega
      clear hj
      obtain ⟨b, o, rfl, hbs, hcell⟩ := HC.out k (by omega)
      obtain ⟨x, hx⟩ : ∃ x, x = xs[k]?.getD 0 := ⟨_, rfl⟩
      have hxb := Dg.Wf.getD (show (0 : Int) < BN by decide) WX.out k
      rw [← hx] at hcell hxb
      have hx0 : 0 ≤ x := hxb.1
      have hx1 : x < 1000000000 := hxb.2
      have hcl := (hbl.out.cell (p := ⟨b, o + k, none⟩) hbs).trans hcell
      have hcz := hr.out.cell (i := k) (by have := HTL.out; omega)
      have hfz := hr.out.free k
      have hki : k < xs.length := by omega
      obtain ⟨v, hv⟩ : ∃ v, r * 1000000000 + x = v := ⟨_, rfl⟩
      have hv0 : 0 ≤ v := by omega
      have hv1 : v < 1000000000000000000 := by omega
      have hq0 : 0 ≤ v / y := Int.ediv_nonneg hv0 (by omega)
      have hq1 : v / y < 1000000000 := Int.ediv_lt_of_lt_mul hy (by have := Int.mul_le_mul_of_nonneg_right (show r + 1 ≤ y by omega) (show (0 : Int) ≤ 1000000000 by omega); rw [Int.mul_comm]; omega)
      have hm0 := Int.emod_nonneg v (show y ≠ 0 by omega)
      have hm1 := Int.emod_lt_of_pos v hy
      have hdm : r * 1000000000 + x = v / y * y + v % y := by rw [hv, Int.mul_comm]; exact (Int.mul_ediv_add_emod v y).symm
      have HNX := Kept.mk (hat.out.next hki hx hdm hm0 hm1 hq0 hq1)
      clear hx hcell hxb hdm
      go_wp2
      go_roundw
      case rel => exact ⟨k, (k : Int) - 1, v % y, T.set k (v / y), by omega, by show _ - (1 : Int) + 1 = _; omega, by first | rfl | go_num, rfl, hm0, hm1, HNX, ⟨hr.out.set k _⟩, ⟨hbl.out.setCell (Nat.le_refl _) _⟩⟩
      case measure => simp [intOf] <;> omega
    · obtain rfl : k = 0 := by omega
      obtain rfl : j = -1 := by have := hj.out; omega
      obtain ⟨hdw, hdv, hdr⟩ := hat.out.done
      have HS := Kept.mk (hr.out.slAll (n := xs.length) (cap := xs.length) HTL.out.symm (Nat.le_refl _) (by unfold maxLen; omega))
      have HV := Kept.mk hdv
      have HRR := Kept.mk hdr
      have HW := Kept.mk hdw
      clear hdv hdr hj hdw
      go_wp2_with fail
      refine (trim_num HS.out HW.out).mono ?_
      rintro e w2 ⟨v2, rfl, rfl, hn2, _⟩
      rw [HV.out, HTL.out] at hn2
      have HN2 := Kept.mk hn2
      clear hn2
      go_wp2
      go_ret2
      exact ⟨_, _, rfl, hbl.out, HN2.out, HRR.out⟩
end Go.Proofs.YtblbheilddafbaaGreatDoor

set_option linter.unusedVariables false
set_option linter.unusedSimpArgs false
/-! The arithmetic of the reference's long division. No program. -/
namespace Go.Proofs.YtblbheilddafbaaGreatDoor
open Go Go.RowKit
/-- A guessed limb of the quotient is not too great. -/
theorem dn_guess {r y c nn ytop g : Int} (hc : 0 < c) (hr : nn * c ≤ r) (hy : y < (ytop + 1) * c) (hy0 : 0 ≤ y) (ht : 0 ≤ ytop) (hn : 0 ≤ nn) (hry : y ≤ r) (hg : g = max 1 (min 999999999 (nn / (ytop + 1)))) :
    1 ≤ g ∧ g ≤ 999999999 ∧ g * y ≤ r := by
  obtain ⟨q, hq⟩ : ∃ q, q = nn / (ytop + 1) := ⟨_, rfl⟩
  rw [← hq] at hg
  have hq0 : 0 ≤ q := by rw [hq]; exact Int.ediv_nonneg hn (by omega)
  have hq1 : q * (ytop + 1) ≤ nn := by rw [hq]; exact Int.ediv_mul_le _ (by omega)
  refine ⟨by omega, by omega, ?_⟩
  by_cases h1 : g = 1
  · rw [h1, Int.one_mul]; exact hry
  · have hgq : g ≤ q := by omega
    have a1 : g * y ≤ q * y := Int.mul_le_mul_of_nonneg_right hgq hy0
    have a2 : q * y ≤ q * ((ytop + 1) * c) := Int.mul_le_mul_of_nonneg_left (by omega) hq0
    have a3 : q * ((ytop + 1) * c) ≤ nn * c := by rw [← Int.mul_assoc]; exact Int.mul_le_mul_of_nonneg_right hq1 (by omega)
    omega
/-- The limbs of r from place k on, as one number. -/
theorem dn_top {rs : List Int} (hw : Dg.Wf BN rs) (k : Nat) : Dg.val BN (rs.drop k) * BN ^ k ≤ Dg.val BN rs ∧ Dg.val BN rs < (Dg.val BN (rs.drop k) + 1) * BN ^ k := by
  by_cases hk : k ≤ rs.length
  · have e := Dg.val_split BN rs k hk
    have h1 := Dg.val_nonneg (show (0 : Int) < BN by decide) (hw.take k)
    have h2 := Dg.val_lt (show (0 : Int) < BN by decide) (hw.take k)
    rw [show (rs.take k).length = k by simp; omega] at h2
    rw [Int.add_mul, Int.one_mul, Int.mul_comm (Dg.val BN (rs.drop k))]
    omega
  · rw [List.drop_of_length_le (by omega)]
    have h2 := Dg.val_lt (show (0 : Int) < BN by decide) hw
    have h3 := Dg.pow_mono (show (0 : Int) < BN by decide) (show rs.length ≤ k by omega)
    have h1 := Dg.val_nonneg (show (0 : Int) < BN by decide) hw
    simp only [Dg.val_nil, Int.zero_mul, Int.zero_add, Int.one_mul]
    omega
/-- How far the long division has come: the limbs of x from k on are divided. -/
structure DnAt (xs qs : List Int) (y r : Int) (k : Nat) : Prop where
  len : qs.length = xs.length
  wf : Dg.Wf BN qs
  r0 : 0 ≤ r
  r1 : r < y
  eq : Dg.val BN (qs.drop k) * y + r = Dg.val BN (xs.drop k)
  zero : ∀ i, i < k → qs[i]?.getD 0 = 0
/-- .. and within the round of limb k. -/
structure DnIn (xs qs : List Int) (y r : Int) (k : Nat) : Prop where
  kl : k < xs.length
  len : qs.length = xs.length
  wf : Dg.Wf BN qs
  y0 : 0 < y
  r0 : 0 ≤ r
  eq : Dg.val BN (qs.drop k) * y + r = Dg.val BN (xs.drop k)
  top : qs[k]?.getD 0 * y + r < 1000000000 * y
  zero : ∀ i, i < k → qs[i]?.getD 0 = 0
theorem DnAt.start (xs : List Int) {y : Int} (hy : 0 < y) : DnAt xs (List.replicate xs.length 0) y 0 xs.length :=
  ⟨by simp, Dg.Wf.zeros (by decide) _, by omega, hy, by simp [Dg.val], fun i hi => by simp [List.getElem?_replicate]; split <;> rfl⟩
theorem drop_cons_at {xs : List Int} {k : Nat} (hk : k < xs.length) : xs.drop k = xs[k]?.getD 0 :: xs.drop (k + 1) := by
  rw [List.drop_eq_getElem_cons hk]
  simp [hk]
theorem DnAt.enter {xs qs : List Int} {y r x : Int} {k : Nat} (h : DnAt xs qs y r (k + 1)) (hk : k < xs.length) (hx : x = xs[k]?.getD 0) (hxb : 0 ≤ x ∧ x < BN) : DnIn xs qs y (x + 1000000000 * r) k := by
  obtain ⟨hl, hw, r0, r1, he, hz⟩ := h
  have hx1 : x < 1000000000 := hxb.2
  have hx0 := hxb.1
  have hq : qs[k]?.getD 0 = 0 := hz k (by omega)
  refine ⟨hk, hl, hw, by omega, by omega, ?_, ?_, fun i hi => hz i (by omega)⟩
  · rw [drop_cons_at (show k < qs.length by omega), drop_cons_at hk, hq, ← hx, Dg.val_cons, Dg.val_cons, ← he]
    unfold BN
    rw [Int.zero_add, Int.mul_add, Int.mul_assoc]
    omega
  · rw [hq, Int.zero_mul, Int.zero_add]
    omega
theorem DnIn.next {xs qs : List Int} {y r g c : Int} {k : Nat} (h : DnIn xs qs y r k) (hc : c = qs[k]?.getD 0) (hg0 : 1 ≤ g) (hg : g * y ≤ r) :
    0 ≤ c + g ∧ c + g < 1000000000 ∧ DnIn xs (qs.set k (c + g)) y (r - y * g) k := by
  obtain ⟨hk, hl, hw, y0, r0, he, ht, hz⟩ := h
  have hcb := Dg.Wf.getD (show (0 : Int) < BN by decide) hw k
  rw [← hc] at hcb ht
  have hc0 := hcb.1
  have hlt : c + g < 1000000000 := by
    apply Classical.byContradiction
    intro hn
    have := Int.mul_le_mul_of_nonneg_right (show 1000000000 ≤ c + g by omega) (Int.le_of_lt y0)
    rw [Int.add_mul] at this
    omega
  have hyg : y * g = g * y := Int.mul_comm _ _
  refine ⟨by omega, hlt, hk, by simpa using hl, hw.set k (by omega) hlt, y0, by omega, ?_, ?_, fun i hi => by rw [List.getElem?_set_ne (by omega)]; exact hz i hi⟩
  · have e1 : (qs.set k (c + g)).drop k = (c + g) :: qs.drop (k + 1) := by
      rw [List.drop_eq_getElem_cons (by simp; omega)]
      simp [List.drop_set]
    rw [e1, Dg.val_cons, ← he, drop_cons_at (show k < qs.length by omega), ← hc, Dg.val_cons, hyg]
    simp only [Int.add_mul]
    omega
  · have : (qs.set k (c + g))[k]?.getD 0 = c + g := by rw [List.getElem?_set_self (by omega)]; rfl
    rw [this, Int.add_mul, hyg]
    omega
theorem DnIn.leave {xs qs : List Int} {y r : Int} {k : Nat} (h : DnIn xs qs y r k) (hr : r < y) : DnAt xs qs y r k := ⟨h.len, h.wf, h.r0, hr, h.eq, h.zero⟩
theorem DnAt.done {xs qs : List Int} {y r : Int} (h : DnAt xs qs y r 0) : Dg.val BN qs = Dg.val BN xs / y ∧ r = Dg.val BN xs % y := by
  obtain ⟨hl, hw, r0, r1, he, hz⟩ := h
  simp only [List.drop_zero] at he
  refine ⟨?_, ?_⟩
  · rw [← he, Int.add_comm, Int.add_mul_ediv_right _ _ (by omega), Int.ediv_eq_zero_of_lt r0 r1]; omega
  · rw [← he, Int.add_comm, Int.add_mul_emod_self_right, Int.emod_eq_of_lt r0 r1]
/-- Both scaled by d: the quotient is the same, and the rest is d times the rest. -/
theorem dn_scaled {m n d : Int} (hd : 0 < d) (hn : 0 < n) : m * d / (n * d) = m / n ∧ m * d % (n * d) / d = m % n := by
  refine ⟨Int.mul_ediv_mul_of_pos_left _ _ hd, ?_⟩
  have h0 := Int.emod_nonneg m (show n ≠ 0 by omega)
  have h1 := Int.emod_lt_of_pos m hn
  have e : m * d = m % n * d + n * d * (m / n) := by
    have := Int.emod_add_mul_ediv m n
    have h2 : m * d = (m % n + n * (m / n)) * d := by rw [this]
    rw [h2, Int.add_mul]
    congr 1
    simp only [Int.mul_comm, Int.mul_left_comm, Int.mul_assoc]
  rw [e, Int.add_mul_emod_self_left, Int.emod_eq_of_lt (Int.mul_nonneg h0 (by omega)) (Int.mul_lt_mul_of_pos_right h1 hd)]
  exact Int.mul_ediv_cancel _ (by omega)
end Go.Proofs.YtblbheilddafbaaGreatDoor

set_option linter.unusedVariables false
set_option linter.unusedSimpArgs false
namespace Go.Proofs.YtblbheilddafbaaGreatDoor
open Go Go.RowKit
/-- The call returns the limbs of n, at most L of them, in a block of its own. -/
def RetRF (L : Nat) (w : World) (n : Int) (e : Ending) (w' : World) : Prop := Below w.heap.size w w' ∧ ∃ v', e = .returned v' ∧ NumR L w' v' n ∧ Frm w.heap.size v'
set_option maxRecDepth 20000 in
set_option maxHeartbeats 2000000 in
theorem subN_frm (va vb : Value) (xs ys : List Int) (w : World) (ha : Sl .i64 w va xs) (hb : Sl .i64 w vb ys) (wx : Dg.Wf BN xs) (wy : Dg.Wf BN ys) (hle : ys.length ≤ xs.length) (hv : Dg.val BN ys ≤ Dg.val BN xs) (hxl : xs.length ≤ 17000000000000) :
    Calls Tryz.prog 99 #[va, vb] w (RetRF xs.length w (Dg.val BN xs - Dg.val BN ys)) := by
  obtain ⟨ao, cap, rfl, hcap, hmax, hc⟩ := ha
  obtain ⟨bo, bcap, rfl, hbcap, hbmax, hbc⟩ := hb
  unfold maxLen at hmax hbmax
  have HC := Kept.mk hc
  have HBC := Kept.mk hbc
  have WX := Kept.mk wx
  have WY := Kept.mk wy
  have HV := Kept.mk hv
  clear hc hbc wx wy hv
  go_enter Tryz.func99, Tryz.ntmps99
  go_wp2
  go_loopw [5, 6, 7] (fun o c i wr => ∃ (k : Nat) (cv : Int) (zs : List Int), k ≤ xs.length ∧ i = .int .i64 k ∧ c = .int .i64 cv ∧ 0 ≤ cv ∧ cv ≤ 1 ∧ Kept (RsAt xs ys zs k cv) ∧ Kept (Mine 3 .i64 w.heap.size wr o zs) ∧ Kept (Below w.heap.size w wr)) (fun _ _ i _ => xs.length - (intOf i).toNat)
  case atStart => exact ⟨0, 0, [], Nat.zero_le _, rfl, rfl, by omega, by omega, ⟨RsAt.start xs ys⟩, ⟨Mine.nil _ _ _ _⟩, ⟨Below.refl _ _⟩⟩
  case round =>
    obtain ⟨k, cv, zs, hk, rfl, rfl, hc0, hc1, hat, hm, hbl⟩ := hrel
    by_cases hkx : k < xs.length
    · obtain ⟨x, hx⟩ : ∃ x, x = xs[k]?.getD 0 := ⟨_, rfl⟩
      obtain ⟨y, hy⟩ : ∃ y, y = ys[k]?.getD 0 := ⟨_, rfl⟩
      have hxb := Dg.Wf.getD (show (0 : Int) < BN by decide) WX.out k
      have hyb := Dg.Wf.getD (show (0 : Int) < BN by decide) WY.out k
      rw [← hx] at hxb
      rw [← hy] at hyb
      have hx0 : 0 ≤ x := hxb.1
      have hx1 : x < 1000000000 := hxb.2
      have hy0 : 0 ≤ y := hyb.1
      have hy1 : y < 1000000000 := hyb.2
      have hlen := hat.out.len
      obtain ⟨d, q, hd, hd0, hd1, hq0, hq1⟩ : ∃ d q : Int, x - y - cv = d - 1000000000 * q ∧ 0 ≤ d ∧ d < 1000000000 ∧ 0 ≤ q ∧ q ≤ 1 := by
        by_cases h : x - y - cv < 0
        · exact ⟨x - y - cv + 1000000000, 1, by omega, by omega, by omega, by omega, by omega⟩
        · exact ⟨x - y - cv, 0, by omega, by omega, by omega, by omega, by omega⟩
      have HNX := Kept.mk (hat.out.next hx hy hd0 hd1 hq0 hq1 hd)
      have HMa := Lib.hid (hm.out.alloc (.cells #[.int .i64 d] 3))
      have HNW := Lib.hid (new_one (K := .i64) (x := d) (w := wr.alloc (.cells #[.int .i64 d] 3)) (b := wr.heap.size) (o := 0) (by exact (Row.new (E := 3) (K := .i64) wr [d]).cell (i := 0) (by simp)))
      have HBB := Lib.hid (show w.heap.size ≤ (wr.alloc (.cells #[.int .i64 d] 3)).heap.size by have := hbl.out.size; simp; omega)
      have H1 := Lib.hid (show (zs.length + [d].length) * 8 ≤ 140737488355328 by simp; omega)
      have H2 := Lib.hid (show zs.length + [d].length ≤ maxLen by unfold maxLen; simp; omega)
      have hOwn := Kept.mk hm.out.own
      obtain ⟨b, o, rfl, hbs, hcell⟩ := HC.out k hkx
      rw [← hx] at hcell
      have hcl := (hbl.out.cell (p := ⟨b, o + k, none⟩) hbs).trans hcell
      by_cases hky : k < ys.length
      · obtain ⟨b', o', rfl, hbs', hcell'⟩ := HBC.out k hky
        rw [← hy] at hcell'
        have hcl' := (hbl.out.cell (p := ⟨b', o' + k, none⟩) hbs').trans hcell'
        by_cases hneg : x - cv - y < 0
        · obtain rfl : q = 1 := by omega
          obtain rfl : d = x - cv - y + 1000000000 := by omega
          clear hlen hd hx hy hcell hcell' hxb hyb
          go_wp2_with (at_builtin; refine wpList_append_mine _ rfl _ _ 23 rfl 3 .i64 8 Tryz.underlying23 info_i64 w.heap.size _ zs rfl HMa.out HBB.out ⟨wr.heap.size, 0, none⟩ 1 1 [x - cv - y + 1000000000] rfl rfl HNW.out H1.out H2.out ?_)
          intro v' w5 hm5 hg5 hn5
          have HM5 := Kept.mk hm5
          have HB5 := Kept.mk (hbl.out.grown (growTrans (World.grownBy_alloc wr (.cells #[.int .i64 (x - cv - y + 1000000000)] 3) _) hg5) hbl.out.size (fun j hj => (hOwn.out j hj).1))
          clear hm5 hg5 hn5
          go_wp2
          go_roundw
          case rel => exact ⟨k + 1, 1, _, by omega, by go_num, rfl, hq0, hq1, HNX, HM5, HB5⟩
          case measure => simp [intOf]; omega
        · obtain rfl : q = 0 := by omega
          obtain rfl : d = x - cv - y := by omega
          clear hlen hd hx hy hcell hcell' hxb hyb
          go_wp2_with (at_builtin; refine wpList_append_mine _ rfl _ _ 23 rfl 3 .i64 8 Tryz.underlying23 info_i64 w.heap.size _ zs rfl HMa.out HBB.out ⟨wr.heap.size, 0, none⟩ 1 1 [x - cv - y] rfl rfl HNW.out H1.out H2.out ?_)
          intro v' w5 hm5 hg5 hn5
          have HM5 := Kept.mk hm5
          have HB5 := Kept.mk (hbl.out.grown (growTrans (World.grownBy_alloc wr (.cells #[.int .i64 (x - cv - y)] 3) _) hg5) hbl.out.size (fun j hj => (hOwn.out j hj).1))
          clear hm5 hg5 hn5
          go_wp2
          go_roundw
          case rel => exact ⟨k + 1, 0, _, by omega, by go_num, rfl, hq0, hq1, HNX, HM5, HB5⟩
          case measure => simp [intOf]; omega
      · have ey : y = 0 := by rw [hy]; exact Dg.getD_out (by omega)
        subst ey
        by_cases hneg : x - cv < 0
        · obtain rfl : q = 1 := by omega
          obtain rfl : d = x - cv + 1000000000 := by omega
          clear hlen hd hx hy hcell hxb hyb
          go_wp2_with (at_builtin; refine wpList_append_mine _ rfl _ _ 23 rfl 3 .i64 8 Tryz.underlying23 info_i64 w.heap.size _ zs rfl HMa.out HBB.out ⟨wr.heap.size, 0, none⟩ 1 1 [x - cv + 1000000000] rfl rfl HNW.out H1.out H2.out ?_)
          intro v' w5 hm5 hg5 hn5
          have HM5 := Kept.mk hm5
          have HB5 := Kept.mk (hbl.out.grown (growTrans (World.grownBy_alloc wr (.cells #[.int .i64 (x - cv + 1000000000)] 3) _) hg5) hbl.out.size (fun j hj => (hOwn.out j hj).1))
          clear hm5 hg5 hn5
          go_wp2
          go_roundw
          case rel => exact ⟨k + 1, 1, _, by omega, by go_num, rfl, hq0, hq1, HNX, HM5, HB5⟩
          case measure => simp [intOf]; omega
        · obtain rfl : q = 0 := by omega
          obtain rfl : d = x - cv := by omega
          clear hlen hd hx hy hcell hxb hyb
          go_wp2_with (at_builtin; refine wpList_append_mine _ rfl _ _ 23 rfl 3 .i64 8 Tryz.underlying23 info_i64 w.heap.size _ zs rfl HMa.out HBB.out ⟨wr.heap.size, 0, none⟩ 1 1 [x - cv] rfl rfl HNW.out H1.out H2.out ?_)
          intro v' w5 hm5 hg5 hn5
          have HM5 := Kept.mk hm5
          have HB5 := Kept.mk (hbl.out.grown (growTrans (World.grownBy_alloc wr (.cells #[.int .i64 (x - cv)] 3) _) hg5) hbl.out.size (fun j hj => (hOwn.out j hj).1))
          clear hm5 hg5 hn5
          go_wp2
          go_roundw
          case rel => exact ⟨k + 1, 0, _, by omega, by go_num, rfl, hq0, hq1, HNX, HM5, HB5⟩
          case measure => simp [intOf]; omega
    · obtain rfl : k = xs.length := by omega
      have hd := hat.out.done hle HV.out
      have HS := Kept.mk hm.out.sl
      have hown : Kept (Frm w.heap.size _) := Kept.mk (fun k hk => (hm.out.own k hk).1)
      have HL := Kept.mk hat.out.len
      have HD := Kept.mk hd.2
      have HW := Kept.mk hd.1
      clear hd
      go_wp2_with fail
      refine (trim_num HS.out HW.out).mono ?_
      rintro e w2 ⟨v2, rfl, rfl, hn2, ho2⟩
      rw [HD.out, HL.out] at hn2
      have HN2 := Kept.mk hn2
      have HF2 := Kept.mk (Frm.of hown.out ho2)
      clear hn2 ho2
      go_wp2
      go_ret
      exact ⟨hbl.out, _, rfl, HN2.out, HF2.out⟩
theorem subN_own {La Lb : Nat} {va vb : Value} {m n : Int} {w : World} (ha : NumR La w va m) (hb : NumR Lb w vb n) (h1 : La ≤ 17000000000000) (hle : n ≤ m) :
    Calls Tryz.prog 99 #[va, vb] w (RetRF La w (m - n)) := by
  obtain ⟨xs, a1, a2, a3, rfl, a5⟩ := ha
  obtain ⟨ys, b1, b2, b3, rfl, b5⟩ := hb
  have hl : ys.length ≤ xs.length := by
    apply Classical.byContradiction
    intro hc
    have := Dg.val_lt_of_len (show (1 : Int) < BN by decide) a2 b2 b3 (by omega)
    omega
  exact (subN_frm va vb xs ys w a1 b1 a2 b2 hl hle (by omega)).mono fun e w' ⟨hb, v', he, hn, hf⟩ => ⟨hb, v', he, hn.mono (by omega), hf⟩
/-- append of a slice, of whatever block, to one of the call's own. -/
theorem run_append_sl {P : Program} (w : World) (t ty E : TypeId) (K : IntKind) (bytes : Nat) (ht : P.underlying t = some (.slice E))
    (hinfo : (P.info? E).map (fun i => (i.zero, i.size, i.bytes)) = some (some (.int K 0), 1, bytes)) (B : Nat) (v : Value) (xs : List Int) (hM : Mine E K B w v xs) (hB : B ≤ w.heap.size)
    (u : Value) (ys : List Int) (hu : Sl K w u ys) (hb : (xs.length + ys.length) * bytes ≤ 140737488355328) (hm : xs.length + ys.length ≤ maxLen) :
    ∃ v' w', (Builtin.append_ #[t, t] ty #[v, u]).run P w = .ok v' w' ∧ Mine E K B w' v' (xs ++ ys) ∧ w.grownBy w' v.ownBlock := by
  obtain ⟨ao, cap, rfl, hcap, hmax, hx⟩ := hu
  cases ao with
  | some a =>
    obtain ⟨v', w', h1, h2, h3, _⟩ := run_append_mine (P := P) w t ty E K bytes ht hinfo B v xs hM hB a cap ys (fun j q hj => by
      have hjl : j < ys.length := by
        apply Classical.byContradiction
        intro hc
        simp [hc] at hj
      obtain ⟨b, o, e, _, hcell⟩ := hx j hjl
      obtain rfl := Option.some.inj e
      have e : (⟨b, o, none⟩ : Addr).add j = ⟨b, o + j, none⟩ := by
        unfold Addr.add
        split <;> simp_all
      rw [e, hcell]
      simp [hjl] at hj ⊢
      exact hj) hb hm
    exact ⟨v', w', h1, h2, h3⟩
  | none =>
    have he : ys = [] := by
      cases ys with
      | nil => rfl
      | cons y t =>
        obtain ⟨b, o, e, _⟩ := hx 0 (by simp)
        cases e
    subst he
    obtain ⟨i, hi, hz, hs, hby⟩ := info_parts hinfo
    obtain ⟨ao, c, rfl, hc, _⟩ := hM.sl
    refine ⟨_, w, run_append_nothing w t t ty E i ht hi ao xs.length c hc (.slice none 0 cap) (Src.ofNil w ht cap), ?_, ⟨rfl, rfl, rfl, Nat.le_refl _, fun _ _ _ => rfl⟩⟩
    rw [List.append_nil]
    exact hM
theorem wpList_append_sl {P : Program} (w : World) {ops : Array Oper} {rest : List Oper} {o : Oper} {a : Act} {Q : Exit → Act → World → Prop} (hgd : o.guard = none) (s x : Operand) (t : TypeId)
    (ho : o.op = .call { callee := .builtin .append, args := #[s, x], argTypes := #[t, t] }) (E : TypeId) (K : IntKind) (bytes : Nat) (ht : P.underlying t = some (.slice E))
    (hinfo : (P.info? E).map (fun i => (i.zero, i.size, i.bytes)) = some (some (.int K 0), 1, bytes)) (B : Nat) (v : Value) (xs : List Int) (hs : a.eval s = v) (hM : Mine E K B w v xs) (hB : B ≤ w.heap.size)
    (u : Value) (ys : List Int) (hx : a.eval x = u) (hu : Sl K w u ys)
    (hb : (xs.length + ys.length) * bytes ≤ 140737488355328) (hm : xs.length + ys.length ≤ maxLen)
    (h : ∀ v' w', Mine E K B w' v' (xs ++ ys) → w.grownBy w' v.ownBlock → wpList P ops Q rest (a.put o.dst v') w') : wpList P ops Q (o :: rest) a w := by
  refine wpList_plain hgd fun K' hK => ?_
  obtain ⟨v', w', hrun, r1, r2⟩ := run_append_sl (P := P) w t o.type E K bytes ht hinfo B v xs hM hB u ys hu hb hm
  unfold Oper.wp
  simp [execOp, ho, resolve, invoke, builtin, hs, hx, hrun, Result.andThen]
  exact hK _ _ (h v' w' r1 r2)
/-- A row that is kept where another block is written. -/
theorem NumR.other {L : Nat} {w : World} {v : Value} {n : Int} {g : Nat} (h : NumR L w v n) (hf : Frm (g + 1) v) (i : Nat) (u : Value) : NumR L (w.setCell ⟨g, i, none⟩ u) v n := by
  obtain ⟨xs, ⟨ao, cap, rfl, hc, hm, hx⟩, h2⟩ := h
  refine ⟨xs, ⟨ao, cap, rfl, hc, hm, fun j hj => ?_⟩, h2⟩
  obtain ⟨b, o, rfl, hl, hcell⟩ := hx j hj
  have hne : g + 1 ≤ b := hf b rfl
  refine ⟨b, o, rfl, by simpa using hl, ?_⟩
  rw [← hcell]
  exact World.cell?_setCell_far w ⟨g, i, none⟩ ⟨b, o + j, none⟩ u (by simp; omega)
theorem NumR.up {La Lb : Nat} {w : World} {v : Value} {n : Int} (h : NumR La w v n) (hn : n < BN ^ Lb) : NumR Lb w v n := by
  obtain ⟨xs, a1, a2, a3, rfl, a5⟩ := h
  exact ⟨xs, a1, a2, a3, rfl, Dg.len_le_of_val_lt (by decide) a2 a3 hn⟩
theorem NumR.lt {L : Nat} {w : World} {v : Value} {n : Int} (h : NumR L w v n) : 0 ≤ n ∧ n < BN ^ L := by
  obtain ⟨xs, a1, a2, a3, rfl, a5⟩ := h
  exact ⟨Dg.val_nonneg (by decide) a2, Int.lt_of_lt_of_le (Dg.val_lt (by decide) a2) (Dg.pow_mono (by decide) a5)⟩
end Go.Proofs.YtblbheilddafbaaGreatDoor

set_option linter.unusedVariables false
set_option linter.unusedSimpArgs false
namespace Go.Proofs.YtblbheilddafbaaGreatDoor
open Go Go.RowKit
theorem sg_nonneg3 {a b : Int} (h : b ≤ a) : 0 ≤ Dg.sg a b := by
  unfold Dg.sg
  rw [if_neg (by omega)]
  split <;> omega
theorem NumR.zero (L : Nat) (w : World) : NumR L w (.slice none 0 0) 0 := ⟨[], Sl.nil _ _, Dg.Wf.nil _, Dg.Nz.nil, rfl, Nat.zero_le _⟩
/-- The highest limb of a number that is not 0. -/
theorem top_pos {ys : List Int} (hw : Dg.Wf BN ys) (hz : Dg.Nz ys) (h0 : 0 < ys.length) : 0 < ys[ys.length - 1]?.getD 0 ∧ ys[ys.length - 1]?.getD 0 < 1000000000 := by
  have hb := Dg.Wf.getD (show (0 : Int) < BN by decide) hw (ys.length - 1)
  have h1 := hz (List.length_pos_iff.1 h0)
  rw [List.getLast_eq_getElem] at h1
  have h4 : ys.length - 1 < ys.length := by omega
  have e : ys[ys.length - 1]?.getD 0 = ys[ys.length - 1] := by simp [h4]
  have h2 : ys[ys.length - 1]?.getD 0 < 1000000000 := hb.2
  have h3 := hb.1
  omega
theorem drop_at2 {xs : List Int} {k : Nat} {x : Int} (hk : k < xs.length) (hx : x = xs[k]?.getD 0) : Dg.val BN (xs.drop k) = x + 1000000000 * Dg.val BN (xs.drop (k + 1)) := by
  have e : xs.drop k = x :: xs.drop (k + 1) := by
    rw [List.drop_eq_getElem_cons hk, hx]
    simp [hk]
  rw [e, Dg.val_cons]
theorem drop_last {ys : List Int} (h0 : 0 < ys.length) : Dg.val BN (ys.drop (ys.length - 1)) = ys[ys.length - 1]?.getD 0 := by
  rw [drop_at2 (show ys.length - 1 < ys.length by omega) rfl, show ys.length - 1 + 1 = ys.length by omega, List.drop_length]
  show _ + 1000000000 * 0 = _
  omega
theorem scale_bounds {x D : Int} (hx0 : 0 < x) (hx1 : x < 1000000000) (hD : 1000000000 / (x + 1) = D) : 1 ≤ D ∧ D ≤ 1000000000 := by
  rw [← hD]
  have h1 := Int.ediv_mul_le 1000000000 (show x + 1 ≠ 0 by omega)
  refine ⟨(Int.le_ediv_iff_mul_le (by omega)).2 (by omega), Int.ediv_le_self _ (by omega)⟩
set_option maxRecDepth 20000 in
set_option maxHeartbeats 8000000 in
theorem rdivn_num {La Lb : Nat} {va vb : Value} {m n : Int} {w : World} (ha : NumR La w va m) (hb : NumR Lb w vb n) (hn : 0 < n) (h1 : La ≤ 16000000000000) (h2 : Lb ≤ 16000000000000) :
    Calls Tryz.prog 104 #[va, vb] w fun e w' => ∃ q r, e = .returned (.tuple #[q, r]) ∧ Below w.heap.size w w' ∧ NumR La w' q (m / n) ∧ NumR Lb w' r (m % n) := by
  have HA := Kept.mk ha
  have HB := Kept.mk hb
  have hm0 := ha.lt.1
  obtain ⟨ao, ka, ca, rfl, _, _⟩ := ha.form
  obtain ⟨ys0, b1, b2, b3, b4, b5⟩ := hb
  have hp0 : 0 < ys0.length := List.length_pos_iff.2 (fun e => by rw [e] at b4; simp [Dg.val] at b4; omega)
  obtain ⟨x0, hx0⟩ : ∃ x0, x0 = ys0[ys0.length - 1]?.getD 0 := ⟨_, rfl⟩
  have htp := top_pos b2 b3 hp0
  rw [← hx0] at htp
  obtain ⟨ht0, ht1⟩ := htp
  obtain ⟨bo, bcap, rfl, hbc, hbm, hbx⟩ := b1
  unfold maxLen at hbm
  obtain ⟨bb, bof, rfl, hbs, hcell⟩ := hbx (ys0.length - 1) (by omega)
  rw [← hx0] at hcell
  obtain ⟨D, hD⟩ : ∃ D, (1000000000 : Int) / (x0 + 1) = D := ⟨_, rfl⟩
  obtain ⟨hD0, hD1⟩ := scale_bounds ht0 ht1 hD
  have HD := Kept.mk hD
  have hLb : ys0.length ≤ Lb := b5
  clear hD b2 b3 b4 b5 hbx ha hx0
  go_enter Tryz.func104, Tryz.ntmps104
  go_wp2_with fail
  rw [HD.out]
  refine (rtimes_num HA.out (by omega) hD1 (by omega)).mono ?_
  rintro e w1 ⟨hb1, v1, rfl, hX1⟩
  have HB1 := Kept.mk hb1
  have HX1 := Kept.mk hX1
  clear hb1 hX1
  go_wp2_with fail
  refine (rtimes_num (HB.out.below HB1.out) (by omega) hD1 (by omega)).mono ?_
  rintro e w2 ⟨hb2, v2, rfl, hY2⟩
  have HB2 := Kept.mk (HB1.out.trans (hb2.mono HB1.out.size))
  have hX2 := HX1.out.below hb2
  obtain ⟨NY, hNY⟩ : ∃ NY, n * D = NY := ⟨_, rfl⟩
  have hNYp : 0 < NY := by rw [← hNY]; exact Int.mul_pos hn (by omega)
  rw [hNY] at hY2
  have HYN := Kept.mk hY2
  obtain ⟨X, x1, x2, x3, x4, x5⟩ := hX2
  obtain ⟨Y, y1, y2, y3, y4, y5⟩ := hY2
  have hYp : 0 < Y.length := List.length_pos_iff.2 (fun e => by rw [e] at y4; simp [Dg.val] at y4; omega)
  obtain ⟨yt, hyt⟩ : ∃ yt, yt = Y[Y.length - 1]?.getD 0 := ⟨_, rfl⟩
  have htp := top_pos y2 y3 hYp
  have hdl := drop_last hYp
  rw [← hyt] at htp hdl
  obtain ⟨hyt0, hyt1⟩ := htp
  obtain ⟨xo, xc, rfl, hxc, hxm, hxx⟩ := x1
  obtain ⟨yo, yc, rfl, hyc, hym, hyx⟩ := y1
  unfold maxLen at hxm hym
  obtain ⟨yb, yof, rfl, hys, hycell⟩ := hyx (Y.length - 1) (by omega)
  rw [← hyt] at hycell
  have HYT : Kept (NY < (yt + 1) * BN ^ (Y.length - 1)) := ⟨by have h := (dn_top y2 (Y.length - 1)).2; rw [hdl, y4] at h; exact h⟩
  have HYL : Kept (NY < BN ^ Y.length) := ⟨by rw [← y4]; exact Dg.val_lt (by decide) y2⟩
  have HYG : Kept (BN ^ (Y.length - 1) ≤ NY) := ⟨by rw [← y4]; exact Dg.val_ge (by decide) y2 y3 (List.length_pos_iff.1 hYp)⟩
  have HYN' : Kept (NumR Y.length w2 (.slice (some ⟨yb, yof, none⟩) Y.length yc) NY) := ⟨HYN.out.up HYL.out⟩
  have HXX := Kept.mk hxx
  have HXW := Kept.mk x2
  have HXV := Kept.mk x4
  have HNY := Kept.mk hNY
  clear hb2 hyx y2 y3 y4 hyt hdl hxx x2 x3 x4 hNY HYN HX1 hcell
  go_wp2_with (at_make; refine wpList_make_zeros _ rfl _ _ 23 rfl 3 .i64 Tryz.underlying23 info_i64 _ _ X.length rfl rfl (by omega) (by omega) (by omega) ?_)
  intro w3 hrow hbel
  have HR3 := Kept.mk hrow
  have HB3 := Kept.mk hbel
  clear hrow hbel
  go_wp2
  go_loopw [11, 12] (fun rv iv wr => ∃ (k : Nat) (j R : Int) (Q : List Int), k ≤ X.length ∧ Hid (j + 1 = k) ∧ iv = .int .i64 j ∧ Kept (DnAt X Q NY R k) ∧ Kept (Row 3 .i64 wr w2.heap.size Q) ∧ Kept (NumR (Y.length + 1) wr rv R) ∧ Kept (Frm (w2.heap.size + 1) rv) ∧ Kept (Below w2.heap.size w2 wr)) (fun _ iv _ => (intOf iv + 1).toNat)
  case atStart => exact ⟨X.length, _, 0, _, Nat.le_refl _, by show _ - (1 : Int) + 1 = _; omega, rfl, ⟨DnAt.start X hNYp⟩, HR3, ⟨NumR.zero _ _⟩, ⟨Frm.nil _⟩, HB3⟩
  case round =>
    obtain ⟨k, j, R, Q, hk, hj, rfl, hat, hr, hnr, hfr, hbl⟩ := hrel
    by_cases h0 : 0 < k
    · obtain ⟨k, rfl⟩ : ∃ j, k = j+1 := ⟨k - 1, by omega⟩
      obtain rfl : j = (k : Int) := by have := hj.out; omega
      clear hj
      obtain ⟨b, o, rfl, hbs', hcell⟩ := HXX.out k (by omega)
      obtain ⟨x, hx⟩ : ∃ x, x = X[k]?.getD 0 := ⟨_, rfl⟩
      have hxb := Dg.Wf.getD (show (0 : Int) < BN by decide) HXW.out k
      rw [← hx] at hcell hxb
      have hxv0 : 0 ≤ x := hxb.1
      have hxv1 : x < 1000000000 := hxb.2
      have hcl := (hbl.out.cell (p := ⟨b, o + k, none⟩) hbs').trans hcell
      have hki : k < X.length := by omega
      have HIN := Kept.mk (hat.out.enter hki hx hxb)
      have hR0 := hat.out.r0
      have hR1 := hat.out.r1
      have hgl : w2.heap.size < wr.heap.size := hr.out.lt
      obtain ⟨rs, s1, s2, s3, s4, s5⟩ := hnr.out
      have HUP := Lib.hid (show Mine 3 .i64 wr.heap.size (wr.alloc (.cells #[.int .i64 x] 3)) (.slice (some ⟨wr.heap.size, 0, none⟩) 1 1) [x] from .inr ⟨wr.heap.size, 1, #[.int .i64 x], rfl, Nat.le_refl _, heap_alloc_new _ _, by simp, by simp, by unfold maxLen; omega, by simp⟩)
      have HRS := Lib.hid (s1.below (show Below wr.heap.size wr (wr.alloc (.cells #[.int .i64 x] 3)) from (Below.refl _ _).alloc (Nat.le_refl _) _))
      have HBB := Lib.hid (show wr.heap.size ≤ (wr.alloc (.cells #[.int .i64 x] 3)).heap.size by simp)
      have H1 := Lib.hid (show ([x].length + rs.length) * 8 ≤ 140737488355328 by simp; omega)
      have H2 := Lib.hid (show [x].length + rs.length ≤ maxLen by unfold maxLen; simp; omega)
      have HWF : Kept (Dg.Wf BN ([x] ++ rs)) := ⟨(Dg.Wf.one hxb.1 hxb.2).append s2⟩
      have HVV : Kept (Dg.val BN (x :: rs) = x + 1000000000 * R) := ⟨by rw [← s4]; rfl⟩
      have HLT : Kept (x + 1000000000 * R < BN ^ (Y.length + 1)) := ⟨by
        have h := HYL.out
        rw [Int.pow_succ]
        have h2 : (R + 1) * BN ≤ BN ^ Y.length * BN := Int.mul_le_mul_of_nonneg_right (by omega) (by decide)
        rw [Int.add_mul, Int.one_mul] at h2
        have e : R * BN = 1000000000 * R := Int.mul_comm _ _
        have e2 : (BN : Int) = 1000000000 := rfl
        omega⟩
      clear hcell hx hxb s1 s2 s3 s4 s5
      go_wp2_with (at_builtin; refine wpList_append_sl _ rfl _ _ 23 rfl 3 .i64 8 Tryz.underlying23 info_i64 wr.heap.size _ [x] rfl HUP.out HBB.out _ rs rfl HRS.out H1.out H2.out ?_)
      intro v5 w5 hm5 hg5
      have hg6 := growTrans (World.grownBy_alloc wr (.cells #[.int .i64 x] 3) _) hg5
      have HR5 : Kept (Row 3 .i64 w5 w2.heap.size Q) := ⟨hr.out.keep (hg6.block _ hgl (by simp [Value.ownBlock]; omega))⟩
      have HB5 := Kept.mk (hbl.out.grown hg6 hbl.out.size (fun j hj => by simp [Value.ownBlock] at hj; omega))
      have HF5 : Kept (Frm (w2.heap.size + 1) v5) := ⟨fun j hj => by have := (hm5.own j hj).1; omega⟩
      have HS5 := Kept.mk hm5.sl
      clear hm5 hg5 hg6
      go_wp2_with fail
      refine (trim_num HS5.out HWF.out).mono ?_
      rintro e w6 ⟨v6, rfl, rfl, hn6, ho6⟩
      rw [HVV.out] at hn6
      have HN6 := Kept.mk (hn6.up HLT.out)
      have HF6 := Kept.mk (HF5.out.of ho6)
      clear hn6 ho6 HVV HLT HWF HS5 HF5 HUP HRS HBB H1 H2 hgl
      go_wp2
      go_loopg [11] (x + 1000000000 * R).toNat (fun kk rv wi => ∃ (R : Int) (Q : List Int), R.toNat ≤ kk ∧ Kept (DnIn X Q NY R k) ∧ Kept (Row 3 .i64 wi w2.heap.size Q) ∧ Kept (NumR (Y.length + 1) wi rv R) ∧ Kept (Frm (w2.heap.size + 1) rv) ∧ Kept (Below w2.heap.size w2 wi))
      case atStart => exact ⟨_, Q, Nat.le_refl _, HIN, HR5, HN6, HF6, HB5⟩
      case round =>
        obtain ⟨R', Q', hRk, hin, hri, hnri, hfri, hbi⟩ := hrel
        by_cases hge : NY ≤ R'
        · obtain ⟨σ, hσ⟩ : ∃ σ, Dg.sg R' NY = σ := ⟨_, rfl⟩
          have hσ0 : 0 ≤ σ := by rw [← hσ]; exact sg_nonneg3 hge
          have HSG := Kept.mk hσ
          clear hσ
          go_wp2_with fail
          refine (cmpN_num hnri.out (HYN'.out.below hbi.out)).mono ?_
          rintro e w7 ⟨hb7, he7⟩
          rw [HSG.out] at he7
          subst he7
          have HR7 := Kept.mk (hri.out.below hb7)
          have HN7 := Kept.mk (hnri.out.below hb7)
          have HB7 := Kept.mk (hbi.out.trans (hb7.mono hbi.out.size))
          clear hb7
          obtain ⟨rs, s1, s2, s3, s4, s5⟩ := HN7.out
          have hlr : Y.length ≤ rs.length := by
            apply Classical.byContradiction
            intro hc
            have h1 := Dg.val_lt (show (0 : Int) < BN by decide) s2
            have h2 := Dg.pow_mono (show (0 : Int) < BN by decide) (show rs.length ≤ Y.length - 1 by omega)
            have h3 := HYG.out
            omega
          obtain ⟨ro, rc, rfl, hrc, hrm, hrx⟩ := s1
          have HRX := Kept.mk hrx
          have HSW := Kept.mk s2
          have HSV := Kept.mk s4
          unfold maxLen at hrm
          clear hrx s2 s3 s4
          go_wp2
          go_loop [14, 15] (fun nv kv => ∃ (kk : Nat) (j y : Int), kk ≤ rs.length ∧ Y.length ≤ kk + 1 ∧ Hid (j + 1 = kk) ∧ kv = .int .i64 j ∧ nv = .int .i64 y ∧ Kept (y = Dg.val BN (rs.drop kk)) ∧ 0 ≤ y ∧ y < 1000000000000000000) (fun _ kv => (intOf kv + 1).toNat)
          case atStart => exact ⟨rs.length, _, 0, Nat.le_refl _, by omega, by show _ - (1 : Int) + 1 = _; omega, rfl, rfl, ⟨by rw [List.drop_length]; rfl⟩, by omega, by omega⟩
          case round =>
            obtain ⟨kk, j, y, hk1, hk2, hj, rfl, rfl, hy, hy0, hy1⟩ := hrel
            by_cases hc : Y.length ≤ kk
            · obtain ⟨q, rfl⟩ : ∃ q, kk = q + 1 := ⟨kk - 1, by omega⟩
              obtain rfl : j = (q : Int) := by have := hj.out; omega
              clear hj
              obtain ⟨rb, rof, rfl, hrs, hrcell⟩ := HRX.out q (by omega)
              obtain ⟨u, hu⟩ : ∃ u, u = rs[q]?.getD 0 := ⟨_, rfl⟩
              have hub := Dg.Wf.getD (show (0 : Int) < BN by decide) HSW.out q
              rw [← hu] at hrcell hub
              have hu0 : 0 ≤ u := hub.1
              have hu1 : u < 1000000000 := hub.2
              have hlt : y < 1000000000 := by
                have h1 := Dg.val_lt (show (0 : Int) < BN by decide) (HSW.out.drop (q + 1))
                have h2 := Dg.pow_mono (show (0 : Int) < BN by decide) (show (rs.drop (q + 1)).length ≤ 1 by simp; omega)
                rw [← hy.out] at h1
                have h3 : (BN : Int) ^ 1 = 1000000000 := by decide
                omega
              have HY2 : Kept (y * 1000000000 + u = Dg.val BN (rs.drop q)) := ⟨by rw [drop_at2 (by omega) hu, hy.out]; omega⟩
              have hql : q < rs.length := by omega
              clear hu hub hy
              go_wp2
              refine ⟨⟨q, (q : Int) - 1, y * 1000000000 + u, by omega, by omega, by show _ - (1 : Int) + 1 = _; omega, rfl, rfl, HY2, by omega, by omega⟩, by simp [intOf] <;> omega⟩
            · have hjj : j = (Y.length : Int) - 2 := by have := hj.out; omega
              subst hjj
              clear hj
              have hkk : kk = Y.length - 1 := by omega
              subst hkk
              obtain ⟨G, hG⟩ : ∃ G, max 1 (min 999999999 (y / (yt + 1))) = G := ⟨_, rfl⟩
              have hgs := dn_guess (c := BN ^ (Y.length - 1)) (r := R') (y := NY) (nn := y) (ytop := yt) (Dg.pow_pos (by decide) _) (by have h := (dn_top HSW.out (Y.length - 1)).1; rw [← hy.out, HSV.out] at h; exact h) HYT.out (by omega) (by omega) hy0 hge hG.symm
              obtain ⟨hg0, hg1, hg2⟩ := hgs
              obtain ⟨c, hcq⟩ : ∃ c, c = Q'[k]?.getD 0 := ⟨_, rfl⟩
              obtain ⟨hcg0, hcg1, hnx⟩ := hin.out.next hcq hg0 hg2
              have hcb := Dg.Wf.getD (show (0 : Int) < BN by decide) hin.out.wf k
              rw [← hcq] at hcb
              have hc0 : 0 ≤ c := hcb.1
              have hc1 : c < 1000000000 := hcb.2
              have HNX := Kept.mk hnx
              have HG := Kept.mk hG
              have HCQ := Kept.mk hcq
              have HG2 : Kept (NY * G ≤ R') := ⟨by rw [Int.mul_comm]; exact hg2⟩
              have hmeas : Hid ((R' - NY * G).toNat < R'.toNat) := by
                show _ < _
                have h1 := HNX.out.r0
                have h2 : 1 * NY ≤ G * NY := Int.mul_le_mul_of_nonneg_right hg0 (by omega)
                have h3 : NY * G = G * NY := Int.mul_comm _ _
                omega
              clear hnx hcq hcb hG hg2 hin hy
              go_wp2_with fail
              rw [HG.out]
              refine (rtimes_num (HYN'.out.below HB7.out) (by omega) (by omega) (by omega)).mono ?_
              rintro e w8 ⟨hb8, v8, rfl, hn8⟩
              have HR8 := Kept.mk (HR7.out.below hb8)
              have HN8 := Kept.mk (HN7.out.below hb8)
              have HB8 := Kept.mk (HB7.out.trans (hb8.mono HB7.out.size))
              have HT8 := Kept.mk hn8
              clear hb8 hn8
              go_wp2_with fail
              refine (subN_own HN8.out HT8.out (by omega) HG2.out).mono ?_
              rintro e w9 ⟨hb9, v9, rfl, hn9, hf9⟩
              have HR9 := Kept.mk (HR8.out.below hb9)
              have HN9 := Kept.mk hn9
              have HF9 := Kept.mk (hf9.mono (show w2.heap.size + 1 ≤ w8.heap.size from HR8.out.lt))
              have HB9 := Kept.mk (HB8.out.trans (hb9.mono HB8.out.size))
              have hcz := HR9.out.cell (i := k) (by have := HNX.out.len; simp at this; omega)
              rw [← HCQ.out] at hcz
              have hfz := HR9.out.free k
              clear hb9 hn9 hf9
              go_wp2
              go_roundg (R' - NY * G).toNat
              case rel => exact ⟨R' - NY * G, Q'.set k (c + G), Nat.le_refl _, HNX, ⟨HR9.out.set k (c + G)⟩, ⟨HN9.out.other HF9.out k _⟩, HF9, ⟨HB9.out.setCell (Nat.le_refl _) _⟩⟩
              case measure => have := hmeas.out; omega
        · have hlt : R' < NY := by omega
          have HSG := Kept.mk (Dg.sg_lt hlt)
          have HDN := Kept.mk (hin.out.leave hlt)
          clear hin hge
          go_wp2_with fail
          refine (cmpN_num hnri.out (HYN'.out.below hbi.out)).mono ?_
          rintro e w7 ⟨hb7, he7⟩
          rw [HSG.out] at he7
          subst he7
          have HR7 := Kept.mk (hri.out.below hb7)
          have HN7 := Kept.mk (hnri.out.below hb7)
          have HB7 := Kept.mk (hbi.out.trans (hb7.mono hbi.out.size))
          clear hb7 hri hnri hbi
          go_wp2
          go_roundw
          case rel => exact ⟨k, (k : Int) - 1, R', Q', by omega, by show _ - (1 : Int) + 1 = _; omega, rfl, HDN, HR7, HN7, hfri, HB7⟩
          case measure => simp [intOf] <;> omega
    · obtain rfl : k = 0 := by omega
      obtain rfl : j = -1 := by have := hj.out; omega
      obtain ⟨hdv, hdr⟩ := hat.out.done
      obtain ⟨hsc1, hsc2⟩ := dn_scaled (m := m) (n := n) (d := D) (by omega) hn
      obtain ⟨rs, s1, s2, s3, s4, s5⟩ := hnr.out
      have hsl := rdivsmall_any _ rs D wr s1 s2 (by omega) hD1 (by omega)
      rw [s4, hdr, HXV.out, ← HNY.out, hsc2] at hsl
      rw [HXV.out, ← HNY.out, hsc1] at hdv
      have HSL := Kept.mk hsl
      have HQV := Kept.mk hdv
      have HQW := Kept.mk hat.out.wf
      have HQL := Kept.mk hat.out.len
      have hma := HA.out.lt
      have hnb := HB.out.lt
      have HM1 : Kept (m / n < BN ^ La) := ⟨Int.lt_of_le_of_lt (Int.ediv_le_self _ hm0) hma.2⟩
      have HM2 : Kept (m % n < BN ^ Lb) := ⟨Int.lt_trans (Int.emod_lt_of_pos _ hn) hnb.2⟩
      clear hdv hdr hsc1 hsc2 s1 s2 s3 s4 s5 hsl hj hat hma hnb
      go_wp2_with fail
      refine HSL.out.mono ?_
      rintro e w8 ⟨v8, r8, rfl, hb8, hn8, hr8⟩
      have HS8 := Kept.mk ((hr.out.below hb8).slAll (n := X.length) (cap := X.length) HQL.out.symm (Nat.le_refl _) (by unfold maxLen; omega))
      have HN8 := Kept.mk (hn8.up HM2.out)
      have HB8 := Kept.mk (HB2.out.trans ((hbl.out.trans (hb8.mono hbl.out.size)).mono HB2.out.size))
      clear hb8 hn8 hr8
      go_wp2_with fail
      refine (trim_num HS8.out HQW.out).mono ?_
      rintro e w9 ⟨v9, rfl, rfl, hn9, _⟩
      rw [HQV.out] at hn9
      have HN9 := Kept.mk (hn9.up HM1.out)
      clear hn9
      go_wp2
      go_ret2
      exact ⟨_, _, rfl, HB8.out, HN9.out, HN8.out⟩
end Go.Proofs.YtblbheilddafbaaGreatDoor

set_option linter.unusedVariables false
set_option linter.unusedSimpArgs false
namespace Go.Proofs.YtblbheilddafbaaGreatDoor
open Go Go.RowKit
set_option maxRecDepth 20000 in
set_option maxHeartbeats 1000000 in
theorem rgcdn_num {L : Nat} {va vb : Value} {m n : Int} {w : World} (ha : NumR L w va m) (hb : NumR L w vb n) (hL : L ≤ 16000000000000) :
    Calls Tryz.prog 93 #[va, vb] w (RetR L w (Int.gcd m n)) := by
  obtain ⟨G, hG⟩ : ∃ G : Int, G = (Int.gcd m n : Int) := ⟨_, rfl⟩
  rw [← hG]
  have HA := Kept.mk ha
  have HB := Kept.mk hb
  have HG := Kept.mk hG.symm
  obtain ⟨ao, ka, ca, rfl, _, _⟩ := ha.form
  obtain ⟨bo, kb, cb, rfl, _, _⟩ := hb.form
  clear ha hb hG
  go_enter Tryz.func93, Tryz.ntmps93
  go_wp2
  go_loopg [0, 1] n.toNat (fun k s0 s1 wr => ∃ a b : Int, b.toNat ≤ k ∧ Kept (NumR L wr s0 a) ∧ Kept (NumR L wr s1 b) ∧ Kept ((Int.gcd a b : Int) = G) ∧ Kept (Below w.heap.size w wr))
  case atStart => exact ⟨m, n, Nat.le_refl _, HA, HB, HG, ⟨Below.refl _ _⟩⟩
  case round =>
    obtain ⟨a, b, hab, hna, hnb, hgc, hbl⟩ := hrel
    obtain ⟨a0, ka0, ca0, rfl, _, hp0⟩ := hna.out.form
    obtain ⟨b0, kb0, cb0, rfl, hk0, hq0⟩ := hnb.out.form
    by_cases h0 : b = 0
    · obtain rfl : kb0 = 0 := hk0.2 h0
      have hGa : Kept (G = a) := ⟨by
        rw [← hgc.out, h0, Int.gcd_zero_right]
        omega⟩
      clear hk0
      go_wp2
      go_ret
      exact ⟨hbl.out, _, rfl, by rw [hGa.out]; exact hna.out⟩
    · have hkp : 0 < kb0 := Nat.pos_of_ne_zero (fun e => h0 (hk0.1 e))
      have hbp : 0 < b := by omega
      clear hk0
      go_wp2_with fail
      refine (rdivn_num hna.out hnb.out hbp hL hL).mono ?_
      rintro e w2 ⟨q, r, rfl, hb2, hq, hr⟩
      have HN := Kept.mk (hnb.out.below hb2)
      have HR := Kept.mk hr
      have HBL := Kept.mk (hbl.out.trans (hb2.mono hbl.out.size))
      have hr0 := Int.emod_nonneg a (show b ≠ 0 by omega)
      have hr1 := Int.emod_lt_of_pos a hbp
      have HGG : Kept ((Int.gcd b (a % b) : Int) = G) := ⟨by rw [gcd_step]; exact hgc.out⟩
      clear hb2 hq hr
      go_wp2
      go_roundg (a % b).toNat
      case rel => exact ⟨b, a % b, Nat.le_refl _, HN, HR, HGG, HBL⟩
      case measure => omega
end Go.Proofs.YtblbheilddafbaaGreatDoor

set_option linter.unusedVariables false
set_option linter.unusedSimpArgs false
namespace Go.Proofs.YtblbheilddafbaaGreatDoor
open Go Go.RowKit
theorem quo_sgn {z y : Int} (hy : y ≠ 0) : sgn (decide (z * y < 0) != decide (y < 0)) z.natAbs = z := by
  have hyy : y < 0 ∨ 0 < y := by omega
  rcases Int.lt_trichotomy z 0 with hz | hz | hz
  · rcases hyy with h | h
    · have h1 : ¬ z * y < 0 := by have := Int.mul_pos_of_neg_of_neg hz h; omega
      simp [sgn, h, h1]; omega
    · have h1 : z * y < 0 := Int.mul_neg_of_neg_of_pos hz h
      have h2 : ¬ y < 0 := by omega
      simp [sgn, h1, h2]; omega
  · subst hz
    unfold sgn
    split <;> simp
  · rcases hyy with h | h
    · have h1 : z * y < 0 := Int.mul_neg_of_pos_of_neg hz h
      simp [sgn, h, h1]; omega
    · have h1 : ¬ z * y < 0 := by have := Int.mul_pos hz h; omega
      have h2 : ¬ y < 0 := by omega
      simp [sgn, h1, h2]; omega
theorem quo_abs {z y : Int} (hy : y ≠ 0) : ((z * y).natAbs : Int) / (y.natAbs : Int) = (z.natAbs : Int) := by
  rw [Int.natAbs_mul, Int.natCast_mul]
  exact Int.mul_ediv_cancel _ (by omega)
/-- What the reference's Div returns. -/
def RdRet (L L' : Nat) (w : World) (z y : Int) (e : Ending) (w' : World) : Prop := Below w.heap.size w w' ∧ ∃ q r, e = .returned (.tuple #[q, r]) ∧ ZV L w' q (z / y) ∧ ZV L' w' r (z % y)
/-- The end of a call that stores two of the reference's integers into its results' boxes g and h. -/
theorem rint_end2 {L L' : Nat} {z z' : Int} {w W : World} {g h : Nat} {s x s' x' : Bool} {ao bo ao' bo' : Option Addr} {k c k2 c2 k' c' k2' c2' : Nat} {T : TypeId}
    (hg : W.heap[g]? = some (.cells #[.bool x, .slice bo k2 c2] T (0, 0))) (hh : W.heap[h]? = some (.cells #[.bool x', .slice bo' k2' c2'] T (0, 0))) (hne : g ≠ h)
    (hb : Below w.heap.size w W) (hgw : w.heap.size ≤ g) (hhw : w.heap.size ≤ h) (hs : s = decide (z < 0)) (hn : NumR L W (.slice ao k c) z.natAbs) (hs' : s' = decide (z' < 0)) (hn' : NumR L' W (.slice ao' k' c') z'.natAbs) (W' : World)
    (hW : W' = (((W.setCell ⟨g, 0, none⟩ (.bool s)).setCell ⟨g, 1, none⟩ (.slice ao k c)).setCell ⟨h, 0, none⟩ (.bool s')).setCell ⟨h, 1, none⟩ (.slice ao' k' c')) :
    Below w.heap.size w W' ∧ ZV L W' (.agg #[.bool s, .slice ao k c]) z ∧ ZV L' W' (.agg #[.bool s', .slice ao' k' c']) z' ∧
      W'.cell? ⟨g, 0, none⟩ = some (.bool s) ∧ W'.cell? ⟨g, 1, none⟩ = some (.slice ao k c) ∧ W'.cell? ⟨h, 0, none⟩ = some (.bool s') ∧ W'.cell? ⟨h, 1, none⟩ = some (.slice ao' k' c') := by
  subst hW
  have q1 := two_set hg (.bool s) (.slice ao k c)
  have hh1 : ((W.setCell ⟨g, 0, none⟩ (.bool s)).setCell ⟨g, 1, none⟩ (.slice ao k c)).heap[h]? = some (.cells #[.bool x', .slice bo' k2' c2'] T (0, 0)) := by
    rw [heap_setCell_other _ _ _ _ (by simpa using hne.symm), heap_setCell_other _ _ _ _ (by simpa using hne.symm)]; exact hh
  have q2 := two_set hh1 (.bool s') (.slice ao' k' c')
  have q1' : ((((W.setCell ⟨g, 0, none⟩ (.bool s)).setCell ⟨g, 1, none⟩ (.slice ao k c)).setCell ⟨h, 0, none⟩ (.bool s')).setCell ⟨h, 1, none⟩ (.slice ao' k' c')).heap[g]? = some (.cells #[.bool s, .slice ao k c] T (0, 0)) := by
    rw [heap_setCell_other _ _ _ _ (by simpa using hne), heap_setCell_other _ _ _ _ (by simpa using hne)]; exact q1
  obtain ⟨a1, a2, _, _⟩ := two_cells q1'
  obtain ⟨b1, b2, _, _⟩ := two_cells q2
  exact ⟨(((hb.setCell (p := ⟨g, 0, none⟩) hgw _).setCell (p := ⟨g, 1, none⟩) hgw _).setCell (p := ⟨h, 0, none⟩) hhw _).setCell (p := ⟨h, 1, none⟩) hhw _, ⟨_, _, rfl, hs, (hn.box hg _ _).box hh1 _ _⟩, ⟨_, _, rfl, hs', (hn'.box hg _ _).box hh1 _ _⟩, a1, a2, b1, b2⟩
set_option maxRecDepth 20000 in
set_option maxHeartbeats 2000000 in
theorem rquo_any {La Lb : Nat} {va vb : Value} {z y : Int} {w : World} (ha : ZV La w va (z * y)) (hb : ZV Lb w vb y) (hy : y ≠ 0) (h1 : La ≤ 100000000) (h2 : Lb ≤ 100000000) :
    Calls Tryz.prog 113 #[va, vb] w (RetZ La w z) := by
  obtain ⟨sa, ua, rfl, hsa, hna⟩ := ha
  obtain ⟨sb, ub, rfl, hsb, hnb⟩ := hb
  obtain ⟨ao, ka, ca, rfl, _, _⟩ := hna.form
  obtain ⟨bo, kb, cb, rfl, _, _⟩ := hnb.form
  have HX0 : Kept (Bxs w [.cells #[.bool sa, .slice ao ka ca] 25, .cells #[.bool sb, .slice bo kb cb] 25, .cells #[.bool false, .slice none 0 0] 25] (((w.alloc (.cells #[.bool sa, .slice ao ka ca] 25)).alloc (.cells #[.bool sb, .slice bo kb cb] 25)).alloc (.cells #[.bool false, .slice none 0 0] 25))) := ⟨(((Bxs.start w).alloc (by simp) _).alloc (by simp) _).alloc (by simp) _⟩
  have HNA := Kept.mk (hna.below HX0.out.1)
  have HNB := Kept.mk (hnb.below HX0.out.1)
  have HSA := Kept.mk hsa
  have HSB := Kept.mk hsb
  have hd := rdivn_num HNA.out HNB.out (by omega) (Nat.le_trans h1 (by decide)) (Nat.le_trans h2 (by decide))
  rw [quo_abs hy] at hd
  have HD := Kept.mk hd
  have hsg := quo_sgn (z := z) hy
  rw [← hsa, ← hsb] at hsg
  have HSG := Kept.mk hsg
  clear hna hnb hsa hsb hd hsg hy
  obtain ⟨i0, j0, -, -⟩ := two_cells HX0.out.b0
  obtain ⟨i1, j1, -, -⟩ := two_cells HX0.out.b1
  go_enter Tryz.func113, Tryz.ntmps113
  go_wp2_with fail
  refine HD.out.mono ?_
  rintro e w1 ⟨q, r, rfl, hb1, hq1, hr1⟩
  obtain ⟨qo, kq, cq, rfl, _, _⟩ := hq1.form
  obtain ⟨ro, kr, cr, rfl, _, _⟩ := hr1.form
  have HX1 := Kept.mk (HX0.out.below hb1)
  have HQ1 := Kept.mk hq1
  clear hb1 hq1 hr1 i0 i1 j0 j1
  obtain ⟨i0, j0, -, -⟩ := two_cells HX1.out.b0
  obtain ⟨i1, j1, -, -⟩ := two_cells HX1.out.b1
  go_wp2_with fail
  refine (rint_any (sa != sb) HQ1.out).mono ?_
  rintro e w2 ⟨hb2, v2, rfl, s2, u2, rfl, hs2, hn2⟩
  rw [HSG.out] at hs2 hn2
  obtain ⟨o2, k2, c2, rfl, _, _⟩ := hn2.form
  have HX2 := Kept.mk (HX1.out.below hb2)
  have hbx := HX2.out.b2
  obtain ⟨c0, c1, f0, f1⟩ := two_cells hbx
  have hsz := HX2.out.l3
  have HE := Kept.mk (rint_end (L := La) (w := w) (z := z) (s := s2) (ao := o2) (k := k2) (c := c2) hbx HX2.out.1 (by omega) hs2 hn2)
  clear hb2 hs2 hn2 hbx i0 i1 j0 j1
  go_wp2
  exact bodyPost_ret (v := .agg #[.bool s2, .slice o2 k2 c2]) (by simp [results, Tryz.results113, go_sem, HE.out.2.1, HE.out.2.2]) rfl HE.out.1
set_option maxRecDepth 20000 in
set_option maxHeartbeats 2000000 in
theorem rgcdz_any {La Lb : Nat} {va vb : Value} {y z : Int} {w : World} (ha : ZV La w va y) (hb : ZV Lb w vb z) (h1 : La ≤ 16000000000000) (h2 : Lb ≤ 16000000000000) :
    Calls Tryz.prog 37 #[va, vb] w (RetZ (max La Lb) w (Int.gcd y z)) := by
  obtain ⟨sa, ua, rfl, hsa, hna⟩ := ha
  obtain ⟨sb, ub, rfl, hsb, hnb⟩ := hb
  obtain ⟨ao, ka, ca, rfl, _, _⟩ := hna.form
  obtain ⟨bo, kb, cb, rfl, _, _⟩ := hnb.form
  have HX0 : Kept (Bxs w [.cells #[.bool sa, .slice ao ka ca] 25, .cells #[.bool sb, .slice bo kb cb] 25, .cells #[.bool false, .slice none 0 0] 25] (((w.alloc (.cells #[.bool sa, .slice ao ka ca] 25)).alloc (.cells #[.bool sb, .slice bo kb cb] 25)).alloc (.cells #[.bool false, .slice none 0 0] 25))) := ⟨(((Bxs.start w).alloc (by simp) _).alloc (by simp) _).alloc (by simp) _⟩
  have HNA := Kept.mk (hna.below HX0.out.1)
  have HNB := Kept.mk (hnb.below HX0.out.1)
  have HSA := Kept.mk hsa
  have HSB := Kept.mk hsb
  have hd := rgcdn_num (HNA.out.mono (Nat.le_max_left La Lb)) (HNB.out.mono (Nat.le_max_right La Lb)) (by omega)
  rw [show Int.gcd (y.natAbs : Int) (z.natAbs : Int) = Int.gcd y z by simp [Int.gcd]] at hd
  obtain ⟨LL, hLL⟩ : ∃ LL, LL = max La Lb := ⟨_, rfl⟩
  obtain ⟨G, hG⟩ : ∃ G : Nat, G = Int.gcd y z := ⟨_, rfl⟩
  rw [← hLL, ← hG] at hd ⊢
  have HD := Kept.mk hd
  clear hna hnb hsa hsb hd hLL hG
  obtain ⟨i0, j0, -, -⟩ := two_cells HX0.out.b0
  obtain ⟨i1, j1, -, -⟩ := two_cells HX0.out.b1
  go_enter Tryz.func37, Tryz.ntmps37
  go_wp2_with fail
  refine HD.out.mono ?_
  rintro e w1 ⟨hb1, v1, rfl, hn1⟩
  obtain ⟨o1, k1, c1, rfl, _, _⟩ := hn1.form
  have HX1 := Kept.mk (HX0.out.below hb1)
  have HQ1 := Kept.mk hn1
  clear hb1 hn1 i0 i1 j0 j1
  go_wp2_with fail
  refine (rint_any false HQ1.out).mono ?_
  rintro e w2 ⟨hb2, v2, rfl, s2, u2, rfl, hs2, hn2⟩
  have hsg : sgn false (G : Int) = (G : Int) := rfl
  rw [hsg] at hs2 hn2
  obtain ⟨o2, k2, c2, rfl, _, _⟩ := hn2.form
  have HX2 := Kept.mk (HX1.out.below hb2)
  have hbx := HX2.out.b2
  obtain ⟨c0, c1', f0, f1⟩ := two_cells hbx
  have hsz := HX2.out.l3
  have HE := Kept.mk (rint_end (L := LL) (w := w) (z := (G : Int)) (s := s2) (ao := o2) (k := k2) (c := c2) hbx HX2.out.1 (by omega) hs2 hn2)
  clear hb2 hs2 hn2 hbx hsg
  go_wp2
  exact bodyPost_ret (v := .agg #[.bool s2, .slice o2 k2 c2]) (by simp [results, Tryz.results37, go_sem, HE.out.2.1, HE.out.2.2]) rfl HE.out.1
set_option maxRecDepth 20000 in
set_option maxHeartbeats 2000000 in
theorem igcd_any {La Lb : Nat} {va vb : Value} {y z : Int} {w : World} (ha : IntV La w va y) (hb : IntV Lb w vb z) (h1 : La ≤ 100000000) (h2 : Lb ≤ 100000000) :
    Calls Tryz.prog 36 #[va, vb] w (RetInt (max La Lb) w (Int.gcd y z)) := by
  obtain ⟨sa, ua, rfl, hsa, hna⟩ := ha
  obtain ⟨sb, ub, rfl, hsb, hnb⟩ := hb
  obtain ⟨ao, ka, ca, rfl⟩ := hna.form
  obtain ⟨bo, kb, cb, rfl⟩ := hnb.form
  have HX0 : Kept (Bxs w [.cells #[.bool sa, .slice ao ka ca] 30, .cells #[.bool sb, .slice bo kb cb] 30, .cells #[.bool false, .slice none 0 0] 30] (((w.alloc (.cells #[.bool sa, .slice ao ka ca] 30)).alloc (.cells #[.bool sb, .slice bo kb cb] 30)).alloc (.cells #[.bool false, .slice none 0 0] 30))) := ⟨(((Bxs.start w).alloc (by simp) _).alloc (by simp) _).alloc (by simp) _⟩
  have HNA := Kept.mk (hna.below HX0.out.1)
  have HNB := Kept.mk (hnb.below HX0.out.1)
  have HSA := Kept.mk hsa
  have HSB := Kept.mk hsb
  have hd := gcd_num HNA.out HNB.out (by omega) (by omega)
  rw [show Int.gcd (y.natAbs : Int) (z.natAbs : Int) = Int.gcd y z by simp [Int.gcd]] at hd
  obtain ⟨LL, hLL⟩ : ∃ LL, LL = max La Lb := ⟨_, rfl⟩
  obtain ⟨G, hG⟩ : ∃ G : Nat, G = Int.gcd y z := ⟨_, rfl⟩
  rw [← hLL, ← hG] at hd ⊢
  have HD := Kept.mk hd
  clear hna hnb hsa hsb hd hLL hG
  obtain ⟨i0, j0, -, -⟩ := two_cells HX0.out.b0
  obtain ⟨i1, j1, -, -⟩ := two_cells HX0.out.b1
  go_enter Tryz.func36, Tryz.ntmps36
  go_wp2_with fail
  refine HD.out.mono ?_
  rintro e w1 ⟨hb1, v1, rfl, hn1, _⟩
  obtain ⟨o1, k1, c1, rfl⟩ := hn1.form
  have HX1 := Kept.mk (HX0.out.below hb1)
  have HQ1 := Kept.mk hn1
  clear hb1 hn1 i0 i1 j0 j1
  go_wp2_with fail
  refine (signed_any false HQ1.out).mono ?_
  rintro e w2 ⟨hb2, v2, rfl, s2, u2, rfl, hs2, hn2⟩
  have hsg : sgn false (G : Int) = (G : Int) := rfl
  rw [hsg] at hs2 hn2
  obtain ⟨o2, k2, c2, rfl⟩ := hn2.form
  have HX2 := Kept.mk (HX1.out.below hb2)
  have hbx := HX2.out.b2
  obtain ⟨c0, c1', f0, f1⟩ := two_cells hbx
  have hsz := HX2.out.l3
  have HE := Kept.mk (int_end (L := LL) (w := w) (z := (G : Int)) (s := s2) (ao := o2) (k := k2) (c := c2) hbx HX2.out.1 (by omega) hs2 hn2)
  clear hb2 hs2 hn2 hbx hsg
  go_wp2
  exact bodyPost_ret (v := .agg #[.bool s2, .slice o2 k2 c2]) (by simp [results, Tryz.results36, go_sem, HE.out.2.1, HE.out.2.2]) rfl HE.out.1
end Go.Proofs.YtblbheilddafbaaGreatDoor

set_option linter.unusedVariables false
set_option linter.unusedSimpArgs false
namespace Go.Proofs.YtblbheilddafbaaGreatDoor
open Go Go.RowKit
theorem cell2 {W : World} {g b o : Nat} {u v : Value} (h : ¬ b = g) : ((W.setCell ⟨g, 0, none⟩ u).setCell ⟨g, 1, none⟩ v).cell? ⟨b, o, none⟩ = W.cell? ⟨b, o, none⟩ :=
  (World.cell?_setCell_far _ ⟨g, 1, none⟩ ⟨b, o, none⟩ v (fun e => h e.symm)).trans (World.cell?_setCell_far _ ⟨g, 0, none⟩ ⟨b, o, none⟩ u (fun e => h e.symm))
theorem one_numR (w : World) : NumR 1 (w.alloc (.cells #[.int .i64 1] 3)) (.slice (some ⟨w.heap.size, 0, none⟩) 1 1) 1 :=
  ⟨[1], (Row.new (E := 3) (K := .i64) w [1]).slAll (n := 1) (cap := 1) rfl (Nat.le_refl _) (by unfold maxLen; omega), Dg.Wf.one (by omega) (by decide), fun _ => by simp, by rw [Dg.val_one], Nat.le_refl _⟩
set_option maxRecDepth 20000 in
set_option maxHeartbeats 4000000 in
theorem rdivz_up {La Lb : Nat} {va vb : Value} {z y : Int} {w : World} (ha : ZV La w va z) (hb : ZV Lb w vb y) (hy : y ≠ 0) (hz : 0 ≤ z) (h1 : La ≤ 100000000) (h2 : Lb ≤ 100000000) :
    Calls Tryz.prog 45 #[va, vb] w (RdRet (La + 2) Lb w z y) := by
  obtain ⟨sa, ua, rfl, hsa, hna⟩ := ha
  obtain ⟨sb, ub, rfl, hsb, hnb⟩ := hb
  obtain ⟨ao, ka, ca, rfl, _, _⟩ := hna.form
  obtain ⟨bo, kb, cb, rfl, _, _⟩ := hnb.form
  have HX0 : Kept (Bxs w [.cells #[.bool sa, .slice ao ka ca] 25, .cells #[.bool sb, .slice bo kb cb] 25, .cells #[.bool false, .slice none 0 0] 25, .cells #[.bool false, .slice none 0 0] 25] ((((w.alloc (.cells #[.bool sa, .slice ao ka ca] 25)).alloc (.cells #[.bool sb, .slice bo kb cb] 25)).alloc (.cells #[.bool false, .slice none 0 0] 25)).alloc (.cells #[.bool false, .slice none 0 0] 25))) := ⟨((((Bxs.start w).alloc (by simp) _).alloc (by simp) _).alloc (by simp) _).alloc (by simp) _⟩
  have HNA := Kept.mk (hna.below HX0.out.1)
  have HNB := Kept.mk (hnb.below HX0.out.1)
  have HSA := Kept.mk hsa
  have HSB := Kept.mk hsb
  have HDV := Kept.mk (rdivn_num HNA.out HNB.out (by omega) (Nat.le_trans h1 (by decide)) (Nat.le_trans h2 (by decide)))
  have hd := div_pos hz hy
  have e : sa = false := by rw [hsa]; simp; omega
  subst e
  rw [← hsa, ← hsb, show (false != sb) = sb by cases sb <;> rfl] at hd
  have HD := Kept.mk hd
  have HY := Kept.mk hy
  have hnot : ∀ (x : Bool) (w : World), (Op.unary .not (.bool x)).run Tryz.prog w = .ok (.bool (!x)) w := fun _ _ => rfl
  clear hna hnb hsa hsb hy hd
  obtain ⟨i0, j0, -, -⟩ := two_cells HX0.out.b0
  obtain ⟨i1, j1, -, -⟩ := two_cells HX0.out.b1
  go_enter Tryz.func45, Tryz.ntmps45
  go_wp2_with fail
  refine HDV.out.mono ?_
  rintro e w1 ⟨q, r, rfl, hb1, hq1, hr1⟩
  obtain ⟨qo, kq, cq, rfl, _, _⟩ := hq1.form
  obtain ⟨ro, kr, cr, rfl, hkr, _⟩ := hr1.form
  have HX1 := Kept.mk (HX0.out.below hb1)
  have HQ1 := Kept.mk hq1
  have HR1 := Kept.mk hr1
  have HNB1 := Kept.mk (HNB.out.below hb1)
  clear hb1 hq1 hr1 hkr i0 i1 j0 j1
  obtain ⟨i0, j0, -, -⟩ := two_cells HX1.out.b0
  obtain ⟨i1, j1, -, -⟩ := two_cells HX1.out.b1
  go_wp2_with fail
  refine (rint_any (sb) HQ1.out).mono ?_
  rintro e w5 ⟨hb5, v5, rfl, s5, u5, rfl, hs5, hn5⟩
  obtain ⟨ao5, k5, c5, rfl, _, _⟩ := hn5.form
  have HX5 := Kept.mk (HX1.out.below hb5)
  have HR5 := Kept.mk (HR1.out.below hb5)
  have HS5 := Kept.mk hs5
  have HN5 := Kept.mk hn5
  clear hb5 hs5 hn5 i0 i1 j0 j1
  go_wp2_with fail
  refine (rint_any false HR5.out).mono ?_
  rintro e w6 ⟨hb6, v6, rfl, s6, u6, rfl, hs6, hn6⟩
  obtain ⟨ao6, k6, c6, rfl, _, _⟩ := hn6.form
  have HX6 := Kept.mk (HX5.out.below hb6)
  obtain ⟨c0, c1', f0, f1⟩ := two_cells HX6.out.b2
  obtain ⟨d0, d1, g0, g1⟩ := two_cells HX6.out.b3
  have hz6 := HX6.out.l4
  have HE := Kept.mk (fun W' => rint_end2 (L := La + 2) (L' := Lb) (z := z / y) (z' := z % y) (w := w) (s := s5) (ao := ao5) (k := k5) (c := c5) (s' := s6) (ao' := ao6) (k' := k6) (c' := c6) HX6.out.b2 HX6.out.b3 (by omega) HX6.out.1 (by omega) (by omega)
    (by rw [HS5.out, HD.out.1]) (by have := HN5.out.below hb6; rw [HD.out.1] at this; exact this.mono (L' := La + 2) (by omega))
    (by rw [hs6]; show decide (sgn false _ < 0) = _; rw [HD.out.2]; rfl) (by have := hn6; rw [HD.out.2] at this; exact this.mono (L' := Lb) (by omega)) W')
  clear hs6 hn6 hb6
  go_wp2
  have hE := HE.out _ rfl
  exact bodyPost_ret (v := .tuple #[.agg #[.bool s5, .slice ao5 k5 c5], .agg #[.bool s6, .slice ao6 k6 c6]]) (by simp [results, Tryz.results45, go_sem, hE.2.2.2.1, hE.2.2.2.2.1, hE.2.2.2.2.2.1, hE.2.2.2.2.2.2]) rfl ⟨hE.1, _, _, rfl, hE.2.1, hE.2.2.1⟩
set_option maxRecDepth 20000 in
set_option maxHeartbeats 4000000 in
theorem rdivz_flat {La Lb : Nat} {va vb : Value} {z y : Int} {w : World} (ha : ZV La w va z) (hb : ZV Lb w vb y) (hy : y ≠ 0) (hz : z < 0) (hr : (z.natAbs % y.natAbs : Int) = 0) (h1 : La ≤ 100000000) (h2 : Lb ≤ 100000000) :
    Calls Tryz.prog 45 #[va, vb] w (RdRet (La + 2) Lb w z y) := by
  obtain ⟨sa, ua, rfl, hsa, hna⟩ := ha
  obtain ⟨sb, ub, rfl, hsb, hnb⟩ := hb
  obtain ⟨ao, ka, ca, rfl, _, _⟩ := hna.form
  obtain ⟨bo, kb, cb, rfl, _, _⟩ := hnb.form
  have HX0 : Kept (Bxs w [.cells #[.bool sa, .slice ao ka ca] 25, .cells #[.bool sb, .slice bo kb cb] 25, .cells #[.bool false, .slice none 0 0] 25, .cells #[.bool false, .slice none 0 0] 25] ((((w.alloc (.cells #[.bool sa, .slice ao ka ca] 25)).alloc (.cells #[.bool sb, .slice bo kb cb] 25)).alloc (.cells #[.bool false, .slice none 0 0] 25)).alloc (.cells #[.bool false, .slice none 0 0] 25))) := ⟨((((Bxs.start w).alloc (by simp) _).alloc (by simp) _).alloc (by simp) _).alloc (by simp) _⟩
  have HNA := Kept.mk (hna.below HX0.out.1)
  have HNB := Kept.mk (hnb.below HX0.out.1)
  have HSA := Kept.mk hsa
  have HSB := Kept.mk hsb
  have HDV := Kept.mk (rdivn_num HNA.out HNB.out (by omega) (Nat.le_trans h1 (by decide)) (Nat.le_trans h2 (by decide)))
  have hd := And.intro (div_neg0 hz hy hr).1 (hr.trans (div_neg0 hz hy hr).2)
  have e : sa = true := by rw [hsa]; simp; omega
  subst e
  rw [← hsa, ← hsb, show (true != sb) = !sb by cases sb <;> rfl] at hd
  have HD := Kept.mk hd
  have HY := Kept.mk hy
  have HR := Kept.mk hr
  have hnot : ∀ (x : Bool) (w : World), (Op.unary .not (.bool x)).run Tryz.prog w = .ok (.bool (!x)) w := fun _ _ => rfl
  clear hna hnb hsa hsb hy hd hr
  obtain ⟨i0, j0, -, -⟩ := two_cells HX0.out.b0
  obtain ⟨i1, j1, -, -⟩ := two_cells HX0.out.b1
  go_enter Tryz.func45, Tryz.ntmps45
  go_wp2_with fail
  refine HDV.out.mono ?_
  rintro e w1 ⟨q, r, rfl, hb1, hq1, hr1⟩
  obtain ⟨qo, kq, cq, rfl, _, _⟩ := hq1.form
  obtain ⟨ro, kr, cr, rfl, hkr, _⟩ := hr1.form
  obtain rfl : kr = 0 := hkr.2 HR.out
  have HX1 := Kept.mk (HX0.out.below hb1)
  have HQ1 := Kept.mk hq1
  have HR1 := Kept.mk hr1
  have HNB1 := Kept.mk (HNB.out.below hb1)
  clear hb1 hq1 hr1 hkr i0 i1 j0 j1
  obtain ⟨i0, j0, -, -⟩ := two_cells HX1.out.b0
  obtain ⟨i1, j1, -, -⟩ := two_cells HX1.out.b1
  go_wp2_with fail
  refine (rint_any (!sb) HQ1.out).mono ?_
  rintro e w5 ⟨hb5, v5, rfl, s5, u5, rfl, hs5, hn5⟩
  obtain ⟨ao5, k5, c5, rfl, _, _⟩ := hn5.form
  have HX5 := Kept.mk (HX1.out.below hb5)
  have HR5 := Kept.mk (HR1.out.below hb5)
  have HS5 := Kept.mk hs5
  have HN5 := Kept.mk hn5
  clear hb5 hs5 hn5 i0 i1 j0 j1
  go_wp2_with fail
  refine (rint_any false HR5.out).mono ?_
  rintro e w6 ⟨hb6, v6, rfl, s6, u6, rfl, hs6, hn6⟩
  obtain ⟨ao6, k6, c6, rfl, _, _⟩ := hn6.form
  have HX6 := Kept.mk (HX5.out.below hb6)
  obtain ⟨c0, c1', f0, f1⟩ := two_cells HX6.out.b2
  obtain ⟨d0, d1, g0, g1⟩ := two_cells HX6.out.b3
  have hz6 := HX6.out.l4
  have HE := Kept.mk (fun W' => rint_end2 (L := La + 2) (L' := Lb) (z := z / y) (z' := z % y) (w := w) (s := s5) (ao := ao5) (k := k5) (c := c5) (s' := s6) (ao' := ao6) (k' := k6) (c' := c6) HX6.out.b2 HX6.out.b3 (by omega) HX6.out.1 (by omega) (by omega)
    (by rw [HS5.out, HD.out.1]) (by have := HN5.out.below hb6; rw [HD.out.1] at this; exact this.mono (L' := La + 2) (by omega))
    (by rw [hs6]; show decide (sgn false _ < 0) = _; rw [HD.out.2]; rfl) (by have := hn6; rw [HD.out.2] at this; exact this.mono (L' := Lb) (by omega)) W')
  clear hs6 hn6 hb6
  go_wp2
  have hE := HE.out _ rfl
  exact bodyPost_ret (v := .tuple #[.agg #[.bool s5, .slice ao5 k5 c5], .agg #[.bool s6, .slice ao6 k6 c6]]) (by simp [results, Tryz.results45, go_sem, hE.2.2.2.1, hE.2.2.2.2.1, hE.2.2.2.2.2.1, hE.2.2.2.2.2.2]) rfl ⟨hE.1, _, _, rfl, hE.2.1, hE.2.2.1⟩
set_option maxRecDepth 20000 in
set_option maxHeartbeats 4000000 in
theorem rdivz_down {La Lb : Nat} {va vb : Value} {z y : Int} {w : World} (ha : ZV La w va z) (hb : ZV Lb w vb y) (hy : y ≠ 0) (hz : z < 0) (hr : (z.natAbs % y.natAbs : Int) ≠ 0) (h1 : La ≤ 100000000) (h2 : Lb ≤ 100000000) :
    Calls Tryz.prog 45 #[va, vb] w (RdRet (La + 2) Lb w z y) := by
  obtain ⟨sa, ua, rfl, hsa, hna⟩ := ha
  obtain ⟨sb, ub, rfl, hsb, hnb⟩ := hb
  obtain ⟨ao, ka, ca, rfl, _, _⟩ := hna.form
  obtain ⟨bo, kb, cb, rfl, _, _⟩ := hnb.form
  have HX0 : Kept (Bxs w [.cells #[.bool sa, .slice ao ka ca] 25, .cells #[.bool sb, .slice bo kb cb] 25, .cells #[.bool false, .slice none 0 0] 25, .cells #[.bool false, .slice none 0 0] 25] ((((w.alloc (.cells #[.bool sa, .slice ao ka ca] 25)).alloc (.cells #[.bool sb, .slice bo kb cb] 25)).alloc (.cells #[.bool false, .slice none 0 0] 25)).alloc (.cells #[.bool false, .slice none 0 0] 25))) := ⟨((((Bxs.start w).alloc (by simp) _).alloc (by simp) _).alloc (by simp) _).alloc (by simp) _⟩
  have HNA := Kept.mk (hna.below HX0.out.1)
  have HNB := Kept.mk (hnb.below HX0.out.1)
  have HSA := Kept.mk hsa
  have HSB := Kept.mk hsb
  have HDV := Kept.mk (rdivn_num HNA.out HNB.out (by omega) (Nat.le_trans h1 (by decide)) (Nat.le_trans h2 (by decide)))
  have hd := div_neg1 hz hy hr
  have e : sa = true := by rw [hsa]; simp; omega
  subst e
  rw [← hsa, ← hsb, show (true != sb) = !sb by cases sb <;> rfl] at hd
  have HD := Kept.mk hd
  have HY := Kept.mk hy
  have HR := Kept.mk hr
  have hnot : ∀ (x : Bool) (w : World), (Op.unary .not (.bool x)).run Tryz.prog w = .ok (.bool (!x)) w := fun _ _ => rfl
  clear hna hnb hsa hsb hy hd hr
  obtain ⟨i0, j0, -, -⟩ := two_cells HX0.out.b0
  obtain ⟨i1, j1, -, -⟩ := two_cells HX0.out.b1
  go_enter Tryz.func45, Tryz.ntmps45
  go_wp2_with fail
  refine HDV.out.mono ?_
  rintro e w1 ⟨q, r, rfl, hb1, hq1, hr1⟩
  obtain ⟨qo, kq, cq, rfl, _, _⟩ := hq1.form
  obtain ⟨ro, kr, cr, rfl, hkr, _⟩ := hr1.form
  have hk0 : 0 < kr := Nat.pos_of_ne_zero (fun hc => HR.out (hkr.1 hc))
  have ht0 : ((kr : Int) == 0) = false := beq_eq_false_iff_ne.2 (by omega)
  have HX1 := Kept.mk (HX0.out.below hb1)
  have HQ1 := Kept.mk hq1
  have HR1 := Kept.mk hr1
  have HNB1 := Kept.mk (HNB.out.below hb1)
  clear hb1 hq1 hr1 hkr i0 i1 j0 j1
  obtain ⟨i0, j0, -, -⟩ := two_cells HX1.out.b0
  obtain ⟨i1, j1, -, -⟩ := two_cells HX1.out.b1
  have hle : (z.natAbs % y.natAbs : Int) ≤ y.natAbs := Int.le_of_lt (Int.emod_lt_of_pos _ (by have := HY.out; omega))
  have HLE := Kept.mk hle
  clear hle
  have hA2 : ¬ w.heap.size = w.heap.size + 1 + 1 := by omega
  have hB2 : ¬ w.heap.size + 1 = w.heap.size + 1 + 1 := by omega
  have hA3 : ¬ w.heap.size = w.heap.size + 1 + 1 + 1 := by omega
  have hB3 : ¬ w.heap.size + 1 = w.heap.size + 1 + 1 + 1 := by omega
  go_wp2_with fail
  go_region_held3 (fun w' => w'.cell? ⟨w.heap.size, 0, none⟩ = some (.bool true) ∧ w'.cell? ⟨w.heap.size, 1, none⟩ = some (.slice ao ka ca) ∧ w'.cell? ⟨w.heap.size + 1, 0, none⟩ = some (.bool sb) ∧ w'.cell? ⟨w.heap.size + 1, 1, none⟩ = some (.slice bo kb cb))
    (first | (with_reducible exact ⟨q0, q0', q1, q1'⟩) | (with_reducible exact ⟨p0, p0', p1, p1'⟩) | (with_reducible exact ⟨n0, n0', n1, n1'⟩) | (with_reducible exact ⟨m0, m0', m1, m1'⟩) | (with_reducible exact ⟨i0, j0, i1, j1⟩) | (with_reducible exact ⟨(cell2 hA2).trans q0, (cell2 hA2).trans q0', (cell2 hB2).trans q1, (cell2 hB2).trans q1'⟩) | (with_reducible exact ⟨(cell2 hA3).trans q0, (cell2 hA3).trans q0', (cell2 hB3).trans q1, (cell2 hB3).trans q1'⟩) | (with_reducible exact ⟨(cell2 hA3).trans ((cell2 hA2).trans q0), (cell2 hA3).trans ((cell2 hA2).trans q0'), (cell2 hB3).trans ((cell2 hB2).trans q1), (cell2 hB3).trans ((cell2 hB2).trans q1')⟩) | (with_reducible exact ⟨(cell2 hA2).trans ((cell2 hA3).trans q0), (cell2 hA2).trans ((cell2 hA3).trans q0'), (cell2 hB2).trans ((cell2 hB3).trans q1), (cell2 hB2).trans ((cell2 hB3).trans q1')⟩) | (refine ⟨?_, ?_, ?_, ?_⟩ <;> simp [go_sem, i0, j0, i1, j1]; done) | go_keep)
    ((first
      | (go_at_call 98; have hal := (Below.refl w1.heap.size w1).alloc (Nat.le_refl _) (.cells #[.int .i64 1] 3); have hq2 := (HX1.out.below hal).drew; have hO := (one_numR w1).below ((Below.refl (w1.alloc (.cells #[.int .i64 1] 3)).heap.size _).drew); refine (addN_num (HQ1.out.below hal.drew) hO (by omega) (by decide)).mono ?_; rintro e w2 ⟨hb2, v2, rfl, hn2⟩; have hx2 := hq2.below hb2; obtain ⟨m0, m0', -, -⟩ := two_cells (hx2).b0; obtain ⟨m1, m1', -, -⟩ := two_cells (hx2).b1; have hbA : Below w1.heap.size w1 w2 := hal.drew.trans (hb2.mono (by simp)); have hr2 := HR1.out.below hbA; have hnb2 := HNB1.out.below hbA)
      | (go_at_call 78; (with_reducible refine (rint_any (!sb) hn2).mono ?_); rintro e w3 ⟨hb3, v3, rfl, s5, u5, rfl, hs5, hn5⟩; obtain ⟨ao5, k5, c5, rfl, _, _⟩ := hn5.form; have HS5 := Kept.mk hs5; clear hs5; have hx3 := hx2.below hb3; obtain ⟨n0, n0', -, -⟩ := two_cells (hx3).b0; obtain ⟨n1, n1', -, -⟩ := two_cells (hx3).b1; have hr3 := hr2.below hb3; have hnb3 := hnb2.below hb3)
      | (go_at_call 99; refine (subN_num hnb3 hr3 (by omega) HLE.out).mono ?_; rintro e w4 ⟨hb4, v4, rfl, hn4⟩; have hx4 := hx3.below hb4; obtain ⟨p0, p0', -, -⟩ := two_cells (hx4).b0; obtain ⟨p1, p1', -, -⟩ := two_cells (hx4).b1; have hn5' := hn5.below hb4)
      | (go_at_call 78; (with_reducible refine (rint_any false hn4).mono ?_); rintro e w6 ⟨hb6, v6, rfl, s6, u6, rfl, hs6, hn6⟩; obtain ⟨ao6, k6, c6, rfl, _, _⟩ := hn6.form; have HS6 := Kept.mk hs6; clear hs6; have hx6 := hx4.below hb6; obtain ⟨q0, q0', -, -⟩ := two_cells (hx6).b0; obtain ⟨q1, q1', -, -⟩ := two_cells (hx6).b1; have hn5'' := hn5'.below hb6; obtain ⟨c0, c1', f0, f1⟩ := two_cells hx6.b2; obtain ⟨d0, d1, g0, g1⟩ := two_cells hx6.b3; have hz6 := hx6.l4)))
  have HX6 := Kept.mk hx6
  have HN5 := Kept.mk hn5''
  have hs6 := HS6.out
  have HE := Kept.mk (fun W' => rint_end2 (L := La + 2) (L' := Lb) (z := z / y) (z' := z % y) (w := w) (s := s5) (ao := ao5) (k := k5) (c := c5) (s' := s6) (ao' := ao6) (k' := k6) (c' := c6) HX6.out.b2 HX6.out.b3 (by omega) HX6.out.1 (by omega) (by omega)
    (by rw [HS5.out, HD.out.1]) (by have := HN5.out; rw [HD.out.1] at this; exact this.mono (L' := La + 2) (by omega))
    (by rw [hs6]; show decide (sgn false _ < 0) = _; rw [HD.out.2]; rfl) (by have := hn6; rw [HD.out.2] at this; exact this.mono (L' := Lb) (by omega)) W')
  clear hs6 hn6 hn5'' hn5' hn5 hx6 hx4 hx3 hx2
  go_wp2
  have hE := HE.out _ rfl
  exact bodyPost_ret (v := .tuple #[.agg #[.bool s5, .slice ao5 k5 c5], .agg #[.bool s6, .slice ao6 k6 c6]]) (by simp [results, Tryz.results45, go_sem, hE.2.2.2.1, hE.2.2.2.2.1, hE.2.2.2.2.2.1, hE.2.2.2.2.2.2]) rfl ⟨hE.1, _, _, rfl, hE.2.1, hE.2.2.1⟩
theorem rdivz_any {La Lb : Nat} {va vb : Value} {z y : Int} {w : World} (ha : ZV La w va z) (hb : ZV Lb w vb y) (hy : y ≠ 0) (h1 : La ≤ 100000000) (h2 : Lb ≤ 100000000) :
    Calls Tryz.prog 45 #[va, vb] w (RdRet (La + 2) Lb w z y) := by
  by_cases hz : 0 ≤ z
  · exact rdivz_up ha hb hy hz h1 h2
  · by_cases hr : (z.natAbs % y.natAbs : Int) = 0
    · exact rdivz_flat ha hb hy (by omega) hr h1 h2
    · exact rdivz_down ha hb hy (by omega) hr h1 h2
end Go.Proofs.YtblbheilddafbaaGreatDoor
