/-
  Texts of the proof, merged by program: TSum TCmp TMul TAddMul TSum2 TProd TDif TKn TDv.
-/
import Derived.Test.YtdnheaafcbihbaaGreatTq6
import Derived.Deep.QuietTactic
import Derived.BigQuiet
import Derived.Test.YtdnheaafcbihbaaGreatShelf
import Derived.Deep.DeepMust
import Derived.Laws.Bits64b
import Derived.Laws.MathBits
import Derived.Lib.ItoaNum
set_option linter.unusedSimpArgs false
set_option linter.unusedVariables false
set_option maxHeartbeats 16000000
namespace Go.Proofs.YtdnheaafcbihbaaGreat
open Go Go.RowKit
def Num (L : Nat) (w : World) (v : Value) (n : Int) : Prop := ∃ xs, Sl .u64 w v xs /\ Dg.Wf BW xs /\ Dg.Nz xs /\ Dg.val BW xs = n /\ xs.length <= L
def RetNum (L : Nat) (w : World) (n : Int) (e : Ending) (w' : World) : Prop := Below w.heap.size w w' /\ ∃ v', e = .returned v' /\ Num L w' v' n /\ Frm w.heap.size v'
theorem Num.below {L : Nat} {w w' : World} {v : Value} {n : Int} (h : Num L w v n) (hb : Below w.heap.size w w') : Num L w' v n :=
 let ⟨xs, h1, h2⟩ := h; ⟨xs, h1.below hb, h2⟩
theorem Num.mono {L L' : Nat} {w : World} {v : Value} {n : Int} (h : Num L w v n) (hL : L <= L') : Num L' w v n :=
 let ⟨xs, h1, h2, h3, h4, h5⟩ := h; ⟨xs, h1, h2, h3, h4, Nat.le_trans h5 hL⟩
theorem cut_num {v : Value} {xs : List Int} {w : World} (h : Sl .u64 w v xs) (hw : Dg.Wf BW xs) :
 Calls Tryz.prog 196 #[v] w fun e w' => ∃ v', e = .returned v' /\ w = w' /\ Num xs.length w v' (Dg.val BW xs) /\ ∀ k, v'.ownBlock = some k -> v.ownBlock = some k :=
 (cut_any v xs w h).mono fun e w' ⟨hw', v', he, hs, ho⟩ => ⟨v', he, hw', ⟨Dg.cut xs, hs, hw.cut, Dg.nz_cut xs, Dg.val_cut BW xs, Dg.cut_len xs⟩, ho⟩
def SumAt (xs ys zs : List Int) (k : Nat) (c : Int) : Prop := zs.length = xs.length + 1 /\ Dg.Wf BW zs /\ 0 <= c /\ c <= 1 /\
 Dg.val BW (zs.take k) + c * BW ^ k = Dg.val BW (xs.take k) + Dg.val BW (ys.take k) /\ ∀ i, k <= i -> zs[i]?.getD 0 = 0
theorem SumAt.start (xs ys : List Int) : SumAt xs ys (List.replicate (xs.length + 1) 0) 0 0 :=
 ⟨by simp, Dg.Wf.zeros (by decide) _, by decide, by decide, by simp [Dg.val], fun i _ => by simp [List.getElem?_replicate]; split <;> rfl⟩
theorem SumAt.next {xs ys zs : List Int} {k : Nat} {c x y s d : Int} (h : SumAt xs ys zs k c) (hk : k < xs.length) (hx : x = xs[k]?.getD 0) (hy : y = ys[k]?.getD 0)
 (s0 : 0 <= s) (s1 : s < BW) (d0 : 0 <= d) (d1 : d <= 1) (he : x + y + c = s + BW * d) : SumAt xs ys (zs.set k s) (k + 1) d := by
 obtain ⟨hl, hw, c0, c1, hv, hz⟩ := h
 refine ⟨by simpa using hl, hw.set k s0 s1, d0, d1, ?_, fun i hi => by rw [List.getElem?_set_ne (by omega)]; exact hz i (by omega)⟩
 rw [Dg.take_set_succ zs k s (by omega), Dg.val_append, Dg.val_one, Dg.val_take_succD, Dg.val_take_succD, <- hx, <- hy, Int.pow_succ]
 have : (zs.take k).length = k := by simp; omega
 rw [this]
 exact Dg.step_sum hv he
theorem SumAt.done {xs ys zs : List Int} {c : Int} (h : SumAt xs ys zs xs.length c) (hy : ys.length <= xs.length) :
 Dg.Wf BW (zs.set xs.length c) /\ Dg.val BW (zs.set xs.length c) = Dg.val BW xs + Dg.val BW ys := by
 obtain ⟨hl, hw, c0, c1, hv, hz⟩ := h
 refine ⟨hw.set _ c0 (by unfold BW; omega), ?_⟩
 rw [Dg.set_last zs _ c hl, Dg.val_append, Dg.val_one]
 have : (zs.take xs.length).length = xs.length := by simp; omega
 rw [this]
 rw [List.take_of_length_le (Nat.le_refl _), List.take_of_length_le hy] at hv
 rw [<- hv, Int.mul_comm]
theorem tquietSame {P : Program} {f : FuncId} {args : Array Value} {w : World} {n : Nat} {v : Value}
 (h : Calls P f args (w.drewN n) fun e w' => e = .returned v /\ w.drewN n = w') : Calls P f args (w.drewN n) fun e w'' => e = .returned v /\ ∃ m, w'' = w.drewN m :=
 h.mono fun _ _ ⟨he, hm⟩ => ⟨he, n, hm.symm⟩
theorem cmpInt_any (x y : Int) (w : World) :
 Calls Tryz.prog 200 #[.int .i64 x, .int .i64 y] w fun e w' => e = .returned (.int .i64 (Dg.sg x y)) /\ w = w' := by
 rcases Int.lt_trichotomy x y with h | rfl | h
 ·go_enter Tryz.func200, Tryz.ntmps200
  go_wp2
  go_ret
  exact ⟨by rw [Dg.sg_lt h]; rfl, rfl⟩
 ·go_enter Tryz.func200, Tryz.ntmps200
  go_wp2
  go_ret
  exact ⟨by rw [Dg.sg_eq]; rfl, rfl⟩
 ·go_enter Tryz.func200, Tryz.ntmps200
  go_wp2
  go_ret
  exact ⟨by rw [Dg.sg_gt h]; rfl, rfl⟩
theorem cmpWord_any (x y : Int) (w : World) :
 Calls Tryz.prog 201 #[.int .u64 x, .int .u64 y] w fun e w' => e = .returned (.int .i64 (Dg.sg x y)) /\ w = w' := by
 rcases Int.lt_trichotomy x y with h | rfl | h
 ·go_enter Tryz.func201, Tryz.ntmps201
  go_wp2
  go_ret
  exact ⟨by rw [Dg.sg_lt h]; rfl, rfl⟩
 ·go_enter Tryz.func201, Tryz.ntmps201
  go_wp2
  go_ret
  exact ⟨by rw [Dg.sg_eq]; rfl, rfl⟩
 ·go_enter Tryz.func201, Tryz.ntmps201
  go_wp2
  go_ret
  exact ⟨by rw [Dg.sg_gt h]; rfl, rfl⟩
def RetV (w : World) (v : Value) (e : Ending) (w' : World) : Prop := Below w.heap.size w w' /\ e = .returned v
theorem compare_eqlen {va vb : Value} {xs ys : List Int} {w : World} (ha : Sl .u64 w va xs) (hb : Sl .u64 w vb ys) (hwa : Dg.Wf BW xs) (hwb : Dg.Wf BW ys) (hl : ys.length = xs.length) :
 Calls Tryz.prog 142 #[va, vb] w (RetV w (.int .i64 (Dg.sg (Dg.val BW xs) (Dg.val BW ys)))) := by
 obtain ⟨ao, cap, rfl, hcap, hmax, hc⟩ := ha
 obtain ⟨bo, bcap, rfl, hbcap, hbmax, hbc⟩ := hb
 unfold maxLen at hmax hbmax
 rw [hl] at hbcap ⊢
 have HL := Lib.hid hl
 simp only [hl] at hbc
 clear hl
 have hz : (Dg.sg (xs.length : Int) xs.length) = 0 := Dg.sg_eq _
 go_enter Tryz.func142, Tryz.ntmps142
 go_wp2_with (go_at_call 200; refine (cmpInt_any _ _ _).mono ?_; rintro e w' ⟨rfl, rfl⟩)
 go_loopw [6] (fun i wr => ∃ (k : Nat) (j : Int), k <= xs.length /\ Hid (j + 1 = k) /\ i = .int .i64 j /\ Hid (xs.drop k = ys.drop k) /\ Below w.heap.size w wr) (fun i _ => (intOf i + 1).toNat)
 case atStart => exact ⟨xs.length, _, Nat.le_refl _, by show _ - (1 : Int) + 1 = _; omega, rfl, by show xs.drop xs.length = ys.drop xs.length; rw [<- HL.out]; simp [HL.out], Below.refl _ _⟩
 case round =>
  obtain ⟨k, j, hk, hj, rfl, hd, hbl⟩ := hrel
  by_cases h0 : 0 < k
  ·obtain ⟨k, rfl⟩ : ∃ j, k = j+1 := ⟨k - 1, by omega⟩
   obtain rfl : j = (k : Int) := by have := hj.out; omega
   clear hj
   obtain ⟨b, o, rfl, hbs, hcell⟩ := hc k (by omega)
   obtain ⟨b', o', rfl, hbs', hcell'⟩ := hbc k (by omega)
   obtain ⟨x, hx⟩ : ∃ x, x = xs[k]?.getD 0 := ⟨_, rfl⟩
   obtain ⟨y, hy⟩ : ∃ y, y = ys[k]?.getD 0 := ⟨_, rfl⟩
   rw [<- hx] at hcell
   rw [<- hy] at hcell'
   have HX := Lib.hid hx
   have HY := Lib.hid hy
   clear hx hy
   have hcl := (hbl.cell (p := ⟨b, o + k, none⟩) hbs).trans hcell
   have hcl' := (hbl.cell (p := ⟨b', o' + k, none⟩) hbs').trans hcell'
   clear hcell hcell' hc hbc
   have hbd : ∀ q, Below w.heap.size w (wr.drewN q) := fun q => ⟨hbl.os, hbl.tape, hbl.output, hbl.size, hbl.block⟩
   have hki : k < xs.length := by omega
   rcases Int.lt_trichotomy x y with h | h | h
   ·have hs := Dg.sg_lt h
    go_wp2_with fail
    go_quiet ((go_at_call 201; exact tquietSame (cmpWord_any _ _ _)))
    go_wp2
    go_ret
    refine ⟨hbd _, ?_⟩
    rw [Dg.sg_lt (Dg.val_lt_at (by decide) hwa hwb HL.out.symm (k := k) (by omega) hd.out (by rw [<- HX.out, <- HY.out]; exact h))]
    show Ending.returned (.int .i64 (Dg.sg x y)) = _
    rw [hs]
   ·subst h
    have hs := Dg.sg_eq x
    go_wp2_with fail
    go_quiet ((go_at_call 201; exact tquietSame (cmpWord_any _ _ _)))
    go_wp2
    go_roundw
    case rel => exact ⟨k, (k : Int) - 1, by omega, by show _ - (1 : Int) + 1 = _; omega, rfl, Dg.drop_eq_at HL.out.symm hd.out (by rw [<- HX.out, <- HY.out]), hbd _⟩
    case measure => simp [intOf] <;> omega
   ·have hs := Dg.sg_gt h
    go_wp2_with fail
    go_quiet ((go_at_call 201; exact tquietSame (cmpWord_any _ _ _)))
    go_wp2
    go_ret
    refine ⟨hbd _, ?_⟩
    rw [Dg.sg_gt (Dg.val_lt_at (by decide) hwb hwa HL.out (k := k) (by have := HL.out; omega) hd.out.symm (by rw [<- HX.out, <- HY.out]; exact h))]
    show Ending.returned (.int .i64 (Dg.sg x y)) = _
    rw [hs]
  ·obtain rfl : k = 0 := by omega
   obtain rfl : j = -1 := by have := hj.out; omega
   have he : xs = ys := by simpa using hd.out
   have hs : Dg.sg (Dg.val BW xs) (Dg.val BW ys) = 0 := by rw [he]; exact Dg.sg_eq _
   have HS := Lib.hid hs
   clear hj hd he hs
   go_wp2
   go_ret
   exact ⟨hbl, by rw [HS.out]; rfl⟩
theorem compare_any {va vb : Value} {xs ys : List Int} {w : World} (ha : Sl .u64 w va xs) (hb : Sl .u64 w vb ys) (hwa : Dg.Wf BW xs) (hwb : Dg.Wf BW ys) (hna : Dg.Nz xs) (hnb : Dg.Nz ys) :
 Calls Tryz.prog 142 #[va, vb] w (RetV w (.int .i64 (Dg.sg (Dg.val BW xs) (Dg.val BW ys)))) := by
 rcases Nat.lt_trichotomy xs.length ys.length with h | h | h
 ·have hs : Dg.sg (xs.length : Int) ys.length = -1 := Dg.sg_lt (by omega)
  have hv : Dg.sg (Dg.val BW xs) (Dg.val BW ys) = -1 := Dg.sg_lt (Dg.val_lt_of_len (by decide) hwa hwb hnb h)
  obtain ⟨ao, cap, rfl, hcap, hmax, hc⟩ := ha
  obtain ⟨bo, bcap, rfl, hbcap, hbmax, hbc⟩ := hb
  have HV := Lib.hid hv
  clear hv
  go_enter Tryz.func142, Tryz.ntmps142
  go_wp2_with (go_at_call 200; refine (cmpInt_any _ _ _).mono ?_; rintro e w' ⟨rfl, rfl⟩)
  go_ret
  exact ⟨Below.refl _ _, by rw [HV.out]; rfl⟩
 ·exact compare_eqlen ha hb hwa hwb h.symm
 ·have hs : Dg.sg (xs.length : Int) ys.length = 1 := Dg.sg_gt (by omega)
  have hv : Dg.sg (Dg.val BW xs) (Dg.val BW ys) = 1 := Dg.sg_gt (Dg.val_lt_of_len (by decide) hwb hwa hna h)
  obtain ⟨ao, cap, rfl, hcap, hmax, hc⟩ := ha
  obtain ⟨bo, bcap, rfl, hbcap, hbmax, hbc⟩ := hb
  have HV := Lib.hid hv
  clear hv
  go_enter Tryz.func142, Tryz.ntmps142
  go_wp2_with (go_at_call 200; refine (cmpInt_any _ _ _).mono ?_; rintro e w' ⟨rfl, rfl⟩)
  go_ret
  exact ⟨Below.refl _ _, by rw [HV.out]; rfl⟩
theorem compare_num {La Lb : Nat} {va vb : Value} {m n : Int} {w : World} (ha : Num La w va m) (hb : Num Lb w vb n) :
 Calls Tryz.prog 142 #[va, vb] w (RetV w (.int .i64 (Dg.sg m n))) := by
 obtain ⟨xs, h1, h2, h3, rfl, _⟩ := ha
 obtain ⟨ys, k1, k2, k3, rfl, _⟩ := hb
 exact compare_any h1 k1 h2 k2 h3 k3
def Two (x y : Int) (c : Int) (w : World) (e : Ending) (w' : World) : Prop := ∃ h l : Int, e = .returned (.tuple #[.int .u64 h, .int .u64 l]) /\ w = w' /\
 0 <= h /\ h < 18446744073709551616 /\ 0 <= l /\ l < 18446744073709551616 /\ x * y + c = h * 18446744073709551616 + l
theorem mul64 (x y : Int) (w : World) (hx : 0 <= x) (hx1 : x < 18446744073709551616) (hy : 0 <= y) (hy1 : y < 18446744073709551616) :
 Calls Tryz.prog 261 #[.int .u64 x, .int .u64 y] w (Two x y 0 w) := by
 obtain ⟨x, rfl⟩ := Int.eq_ofNat_of_zero_le hx
 obtain ⟨y, rfl⟩ := Int.eq_ofNat_of_zero_le hy
 refine (Go.Proofs.Tryz.bits_Mul64 x y (by omega) (by omega) w).mono fun e w' ⟨he, hw⟩ => ?_
 have hb := Dg.mul_bound (B := 18446744073709551616) hx hx1 hy hy1
 have hp : 0 <= (x : Int) * y := Int.mul_nonneg hx hy
 refine ⟨_, _, he, hw.symm, by omega, ?_, by omega, by omega, ?_⟩
 ·have : (x * y : Nat) / 18446744073709551616 < 18446744073709551616 := by
   apply Nat.div_lt_of_lt_mul
   have : ((x * y : Nat) : Int) = x * y := Int.natCast_mul _ _
   omega
  omega
 ·have e1 : ((x * y : Nat) : Int) = x * y := Int.natCast_mul _ _
  have := Nat.div_add_mod (x * y) 18446744073709551616
  omega
theorem mulAdd (x y c : Int) (w : World) (hx : 0 <= x) (hx1 : x < 18446744073709551616) (hy : 0 <= y) (hy1 : y < 18446744073709551616) (hc : 0 <= c) (hc1 : c < 18446744073709551616) :
 Calls Tryz.prog 259 #[.int .u64 x, .int .u64 y, .int .u64 c] w (Two x y c w) := by
 have hbd := Dg.mul_bound (B := 18446744073709551616) hx hx1 hy hy1
 have HB := Lib.hid hbd
 clear hbd
 go_enter Tryz.func259, Tryz.ntmps259
 go_wp2_with fail
 refine (mul64 x y _ hx hx1 hy hy1).mono ?_
 rintro e w' ⟨h, l, rfl, rfl, h0, h1, l0, l1, hv⟩
 obtain ⟨s, k, hadd, s0, s1, k0, k1, hs⟩ := add64 l c 0 l0 l1 hc hc1 (by omega) (by omega)
 have hkb : h + k <= 18446744073709551615 := by have := HB.out; omega
 have HV := Lib.hid hv
 have HS := Lib.hid hs
 clear hv hs
 go_wp2
 go_ret2
 exact ⟨_, _, rfl, rfl, by omega, by omega, s0, s1, by have := HV.out; have := HS.out; omega⟩
theorem tgrowRefl (w : World) (r : Option Nat) : w.grownBy w r := ⟨rfl, rfl, rfl, Nat.le_refl _, fun _ _ _ => rfl⟩
theorem tgrowTrans {a b c : World} {r : Option Nat} (h : a.grownBy b r) (k : b.grownBy c r) : a.grownBy c r :=
 ⟨k.os.trans h.os, k.tape.trans h.tape, k.output.trans h.output, Nat.le_trans h.size k.size, fun i hi hne => (k.block i (Nat.lt_of_lt_of_le hi h.size) hne).trans (h.block i hi hne)⟩
theorem tgrowSet {w w' : World} {g : Nat} (h : w.grownBy w' (some g)) (i : Nat) (v : Value) : w.grownBy (w'.setCell ⟨g, i, none⟩ v) (some g) :=
 tgrowTrans h ⟨rfl, rfl, rfl, by simp [World.setCell], fun k _ hk => heap_setCell_other w' ⟨g, i, none⟩ k v (fun e => hk (by rw [e]))⟩
theorem tgrowBelow {w w' : World} {r : Option Nat} (h : Below w.heap.size w w') : w.grownBy w' r := ⟨h.os, h.tape, h.output, h.size, fun i hi _ => h.block i hi⟩
theorem tbelowGrow {w0 w w' : World} {g : Nat} (h : w.grownBy w' (some g)) (hb : Below w0.heap.size w0 w) (hg : w0.heap.size <= g) : Below w0.heap.size w0 w' :=
 hb.grown h hb.size (fun k hk => by cases hk; exact hg)
def AmAt (M us M' : List Int) (f : Int) (k : Nat) (c : Int) : Prop := M'.length = M.length /\ Dg.Wf BW M' /\ 0 <= c /\ c < 18446744073709551616 /\
 Dg.val BW (M'.take k) + c * BW ^ k = Dg.val BW (M.take k) + f * Dg.val BW (us.take k) /\ ∀ i, k <= i -> M'[i]?.getD 0 = M[i]?.getD 0
theorem AmAt.start {M : List Int} (hM : Dg.Wf BW M) (us : List Int) (f : Int) : AmAt M us M f 0 0 := ⟨rfl, hM, by decide, by decide, by simp [Dg.val], fun _ _ => rfl⟩
theorem AmAt.next {M us M' : List Int} {f : Int} {k : Nat} {c x m h l s d : Int} (H : AmAt M us M' f k c) (hk : k < M.length) (hx : x = us[k]?.getD 0) (hm : m = M'[k]?.getD 0)
 (he : x * f + c = h * 18446744073709551616 + l) (hs : m + l + 0 = s + 18446744073709551616 * d) (s0 : 0 <= s) (s1 : s < 18446744073709551616) (d0 : 0 <= h + d) (d1 : h + d < 18446744073709551616) :
 AmAt M us (M'.set k s) f (k + 1) (h + d) := by
 obtain ⟨hl, hw, c0, c1, hv, hz⟩ := H
 refine ⟨by simpa using hl, hw.set k s0 s1, d0, d1, ?_, fun i hi => by rw [List.getElem?_set_ne (by omega)]; exact hz i (by omega)⟩
 rw [Dg.take_set_succ M' k s (by omega), Dg.val_append, Dg.val_one, Dg.val_take_succD, Dg.val_take_succD, <- hx, <- hz k (Nat.le_refl _), <- hm, Int.pow_succ]
 have : (M'.take k).length = k := by simp; omega
 rw [this]
 exact Dg.step_mul hv he (by rw [Int.add_zero] at hs; exact hs)
theorem AmAt.done {M us M' : List Int} {f c : Int} (H : AmAt M us M' f us.length c) (hl : M.length = us.length) : Dg.val BW M' + c * BW ^ us.length = Dg.val BW M + f * Dg.val BW us := by
 obtain ⟨hl', hw, c0, c1, hv, hz⟩ := H
 rw [List.take_of_length_le (by omega), List.take_of_length_le (by omega), List.take_of_length_le (Nat.le_refl _)] at hv
 exact hv
def AmRet (w : World) (g : Nat) (P M S us : List Int) (f : Int) (e : Ending) (w' : World) : Prop :=
 ∃ (c : Int) (M' : List Int), e = .returned (.int .u64 c) /\ Row 165 .u64 w' g (P ++ M' ++ S) /\ w.grownBy w' (some g) /\ M'.length = M.length /\ Dg.Wf BW M' /\ 0 <= c /\ c < 18446744073709551616 /\
   Dg.val BW M' + c * BW ^ us.length = Dg.val BW M + f * Dg.val BW us
theorem taddMultiple_any (g cap : Nat) (P M S us : List Int) (va : Value) (f : Int) (w0 w : World) (ha : Sl .u64 w0 va us) (hb0 : Below w0.heap.size w0 w) (hg : w0.heap.size <= g)
 (hr : Row 165 .u64 w g (P ++ M ++ S)) (hM : M.length = us.length) (hwM : Dg.Wf BW M) (hwa : Dg.Wf BW us) (hf : 0 <= f) (hf1 : f < 18446744073709551616) :
 Calls Tryz.prog 242 #[.slice (some ⟨g, P.length, none⟩) us.length cap, va, .int .u64 f] w (AmRet w g P M S us f) := by
 obtain ⟨ao, acap, rfl, hcap, hmax, hc⟩ := ha
 unfold maxLen at hmax
 have HM := Lib.hid hM
 clear hM
 go_enter Tryz.func242, Tryz.ntmps242
 go_wp2
 go_loopw [7, 15] (fun c i wr => ∃ (k : Nat) (cv : Int) (M' : List Int), k <= us.length /\ i = .int .i64 k /\ c = .int .u64 cv /\ Hid (AmAt M us M' f k cv) /\ Row 165 .u64 wr g (P ++ M' ++ S) /\ w.grownBy wr (some g)) (fun _ i _ => us.length - (intOf i).toNat)
 case atStart => exact ⟨0, 0, M, Nat.zero_le _, rfl, rfl, AmAt.start hwM us f, hr, tgrowRefl _ _⟩
 case round =>
  obtain ⟨k, cv, M', hk, rfl, rfl, hat, hrr, hgr⟩ := hrel
  have hz0 : 0 <= cv := hat.out.2.2.1
  have hz1 : cv < 18446744073709551616 := hat.out.2.2.2.1
  by_cases hlt : k < us.length
  ·have hMl : k < M'.length := by have := hat.out.1; have := HM.out; omega
   obtain ⟨b, o, rfl, hbs, hcell⟩ := hc k hlt
   obtain ⟨x, hx⟩ : ∃ x, x = us[k]?.getD 0 := ⟨_, rfl⟩
   obtain ⟨m, hm⟩ : ∃ m, m = M'[k]?.getD 0 := ⟨_, rfl⟩
   have hxb := wfD hwa k
   have hmb := wfD hat.out.2.1 k
   have hcl := ((tbelowGrow hgr hb0 hg).cell (p := ⟨b, o + k, none⟩) hbs).trans hcell
   have hcz := hrr.cell (i := P.length + k) (by simp; omega)
   rw [Dg.mid_get P M' S k hMl, <- hm] at hcz
   have hfz := hrr.free (P.length + k)
   rw [<- hx] at hcl hxb
   rw [<- hm] at hmb
   have HX := Lib.hid hx
   have HMM := Lib.hid hm
   clear hx hm hcell
   have hxf := Lib.hid (Dg.mul_bound (B := 18446744073709551616) hxb.1 hxb.2 hf hf1)
   go_wp2_with fail
   refine (mulAdd x f cv _ hxb.1 hxb.2 hf hf1 hz0 hz1).mono ?_
   rintro e w' ⟨h, l, rfl, rfl, h0, h1, l0, l1, hv⟩
   obtain ⟨s, d, hadd, s0, s1, d0, d1, hs⟩ := add64 m l 0 hmb.1 hmb.2 l0 l1 (by omega) (by omega)
   have hkb : h + d <= 18446744073709551615 := by have := hxf.out; omega
   have HV := Lib.hid hv
   have HS := Lib.hid hs
   clear hv hs
   go_wp2
   have hrs := hrr.set (P.length + k) s
   rw [Dg.mid_set P M' S k s hMl] at hrs
   go_roundw
   case rel => exact ⟨k + 1, h + d, M'.set k s, by omega, by go_num, rfl, hat.out.next (by have := HM.out; omega) HX.out HMM.out HV.out HS.out s0 s1 (by omega) (by omega), hrs, tgrowSet hgr _ _⟩
   case measure => simp [intOf] <;> omega
  ·obtain rfl : k = us.length := by omega
   go_wp2
   go_ret
   exact ⟨_, M', rfl, hrr, hgr, hat.out.1, hat.out.2.1, hz0, hz1, hat.out.done HM.out⟩
theorem sum_core (sw : Bool) (va vb : Value) (xs ys : List Int) (w : World) (ha : Sl .u64 w va xs) (hb : Sl .u64 w vb ys) (hwa : Dg.Wf BW xs) (hwb : Dg.Wf BW ys)
 (hle : ys.length <= xs.length) (hlt : sw = true -> ys.length < xs.length) (hmx : xs.length <= 17000000000000) :
 Calls Tryz.prog 194 (if sw then #[vb, va] else #[va, vb]) w (RetNum (xs.length + 1) w (Dg.val BW xs + Dg.val BW ys)) := by
 have hb' := hb
 have ha' := ha
 obtain ⟨ao, cap, rfl, hcap, hmax, hc⟩ := ha
 obtain ⟨bo, bcap, rfl, hbcap, hbmax, hbc⟩ := hb
 unfold maxLen at hmax hbmax
 cases sw
 all_goals
  simp only [if_true, if_false, Bool.false_eq_true, forall_const] at hlt ⊢
  go_enter Tryz.func194, Tryz.ntmps194
  go_wp2_with (at_make; refine wpList_make_zeros _ rfl _ _ 96 rfl 165 .u64 Tryz.underlying96 info_u64 _ _ (xs.length + 1) rfl rfl (by omega) (by omega) (by omega) ?_)
 all_goals
  intro w1 hrow hbel
  go_wp2
  go_loopw [6, 22] (fun c i wr => ∃ (k : Nat) (cv : Int) (zs : List Int), k <= xs.length /\ i = .int .i64 k /\ c = .int .u64 cv /\ Hid (SumAt xs ys zs k cv) /\ Row 165 .u64 wr w.heap.size zs /\ Below w.heap.size w wr) (fun _ i _ => xs.length - (intOf i).toNat)
  case atStart => exact ⟨0, 0, _, Nat.zero_le _, rfl, rfl, SumAt.start xs ys, hrow, hbel⟩
  case round =>
   obtain ⟨k, cv, zs, hk, rfl, rfl, hat, hr, hbl⟩ := hrel
   have hzl : zs.length = xs.length + 1 := hat.out.1
   have hz0 : 0 <= cv := hat.out.2.2.1
   have hz1 : cv <= 1 := hat.out.2.2.2.1
   clear hrow hbel
   by_cases hlt' : k < xs.length
   ·obtain ⟨b, o, rfl, hbs, hcell⟩ := hc k hlt'
    obtain ⟨x, hx⟩ : ∃ x, x = xs[k]?.getD 0 := ⟨_, rfl⟩
    obtain ⟨y, hy⟩ : ∃ y, y = ys[k]?.getD 0 := ⟨_, rfl⟩
    have hxb := wfD hwa k
    have hyb := wfD hwb k
    rw [<- hx] at hcell hxb
    rw [<- hy] at hyb
    have HX := Lib.hid hx
    have HY := Lib.hid hy
    clear hx hy
    have hcl := (hbl.cell (p := ⟨b, o + k, none⟩) hbs).trans hcell
    have hsl := hb'.below hbl
    have hcz := hr.cell (i := k) (by omega)
    have hfz := hr.free k
    obtain ⟨s, d, hadd, hs0, hs1, hd0, hd1, hsd⟩ := add64 x y cv hxb.1 hxb.2 hyb.1 hyb.2 hz0 hz1
    have HSD := Lib.hid hsd
    clear hsd hcell
    go_wp2_with (go_at_call 239; refine (wordAt_any hsl k y HY).mono ?_; rintro e w' ⟨rfl, rfl⟩)
    go_roundw
    case rel => exact ⟨k + 1, d, zs.set k s, by omega, by go_num, rfl, hat.out.next hlt' HX.out HY.out hs0 hs1 hd0 hd1 HSD.out, hr.set k s, hbl.setCell (Nat.le_refl _) _⟩
    case measure => simp [intOf] <;> omega
   ·obtain rfl : k = xs.length := by omega
    have hcz := hr.cell (i := xs.length) (by omega)
    have hfz := hr.free xs.length
    obtain ⟨hdw, hdv⟩ := hat.out.done hle
    have hrs := hr.set xs.length cv
    have hlen : (zs.set xs.length cv).length = xs.length + 1 := by simpa using hzl
    have hSl := hrs.slAll (n := xs.length + 1) (cap := xs.length + 1) hlen.symm (Nat.le_refl _) (by unfold maxLen; omega)
    have hbl2 : Below w.heap.size w (wr.setCell ⟨w.heap.size, xs.length, none⟩ (.int .u64 cv)) := hbl.setCell (Nat.le_refl _) _
    have HL := Lib.hid hlen
    have HV := Lib.hid hdv
    clear hlen hdv hat hzl
    go_wp2_with (go_at_call 196; refine (cut_num hSl hdw).mono ?_; rintro e w' ⟨v', rfl, rfl, hn, hob⟩; have HOB := Lib.hid hob; clear hob)
    go_ret
    rw [HV.out, HL.out] at hn
    exact ⟨hbl2, _, rfl, hn, (Frm.mk (Nat.le_refl _)).of HOB.out⟩
theorem addMultiple_at (g cap o n : Nat) (P M S us : List Int) (va : Value) (f : Int) (w0 w : World) (ha : Sl .u64 w0 va us) (hb0 : Below w0.heap.size w0 w) (hg : w0.heap.size <= g)
 (hr : Row 165 .u64 w g (P ++ M ++ S)) (ho : Hid (P.length = o)) (hn : Hid (us.length = n)) (hM : M.length = us.length) (hwM : Dg.Wf BW M) (hwa : Dg.Wf BW us) (hf : 0 <= f) (hf1 : f < 18446744073709551616) :
 Calls Tryz.prog 242 #[.slice (some ⟨g, o, none⟩) n cap, va, .int .u64 f] w (AmRet w g P M S us f) := by
 rw [<- ho.out, <- hn.out]
 exact taddMultiple_any g cap P M S us va f w0 w ha hb0 hg hr hM hwM hwa hf hf1
def PrAt (xs ys T : List Int) (k : Nat) : Prop := T.length = xs.length + ys.length /\ Dg.Wf BW T /\ Dg.val BW T = Dg.val BW xs * Dg.val BW (ys.take k) /\ ∀ i, xs.length + k <= i -> T[i]?.getD 0 = 0
theorem PrAt.start (xs ys : List Int) : PrAt xs ys (List.replicate (xs.length + ys.length) 0) 0 :=
 ⟨by simp, Dg.Wf.zeros (by decide) _, by simp [Dg.val, Dg.val_zeros], fun i _ => by simp [List.getElem?_replicate]; split <;> rfl⟩
theorem PrAt.next {xs ys T M' : List Int} {k : Nat} {c y : Int} (h : PrAt xs ys T k) (hk : k < ys.length) (hy : y = ys[k]?.getD 0)
 (hl : M'.length = ((T.drop k).take xs.length).length) (hw : Dg.Wf BW M') (c0 : 0 <= c) (c1 : c < 18446744073709551616)
 (hv : Dg.val BW M' + c * BW ^ xs.length = Dg.val BW ((T.drop k).take xs.length) + y * Dg.val BW xs) :
 PrAt xs ys ((T.take k ++ M' ++ T.drop (k + xs.length)).set (k + xs.length) c) (k + 1) := by
 obtain ⟨tl, tw, tv, tz⟩ := h
 have hz : ∀ i : Nat, (T.drop (k + xs.length))[i]?.getD 0 = 0 := fun i => by rw [List.getElem?_drop]; exact tz _ (by omega)
 have el : ((T.drop k).take xs.length).length = xs.length := by simp; omega
 rw [el] at hl
 have ek : (T.take k).length = k := by simp; omega
 have ed : (T.drop (k + xs.length)).length = ys.length - k := by simp; omega
 have es : (T.take k ++ M' ++ T.drop (k + xs.length)).set (k + xs.length) c = T.take k ++ M' ++ (T.drop (k + xs.length)).set 0 c := by
  rw [List.set_append_right _ _ (by simp; omega)]
  congr 2
  simp; omega
 rw [es]
 refine ⟨by simp; omega, ((tw.take k).append hw).append ((tw.drop _).set 0 c0 c1), ?_, fun i hi => ?_⟩
 ·rw [Dg.val_append, Dg.val_append, Dg.val_set_zeros hz (by omega)]
  have et : Dg.val BW T = Dg.val BW (T.take k) + BW ^ k * (Dg.val BW ((T.drop k).take xs.length)) := by
   conv => lhs; rw [<- Dg.three T k xs.length]
   rw [Dg.val_append, Dg.val_append, Dg.val_of_zeros hz, ek]
   simp
  rw [Dg.val_take_succD, <- hy, Int.mul_add, <- tv, et]
  have e2 : (T.take k ++ M').length = k + xs.length := by simp; omega
  rw [e2, ek, Int.pow_add]
  have e3 : BW ^ k * (Dg.val BW M' + c * BW ^ xs.length) = BW ^ k * (Dg.val BW ((T.drop k).take xs.length) + y * Dg.val BW xs) := by rw [hv]
  generalize BW ^ k = p at *
  generalize BW ^ xs.length = q at *
  simp only [Int.mul_add, Int.mul_comm, Int.mul_left_comm, Int.mul_assoc] at *
  omega
 ·have hz' := hz (i - (k + xs.length))
  rw [List.getElem?_append_right (by simp; omega), List.getElem?_set_ne (by simp; omega)]
  have e2 : (T.take k ++ M').length = k + xs.length := by simp; omega
  rw [e2]
  exact hz'
theorem PrAt.done {xs ys T : List Int} (h : PrAt xs ys T ys.length) : Dg.Wf BW T /\ Dg.val BW T = Dg.val BW xs * Dg.val BW ys :=
 ⟨h.2.1, by rw [h.2.2.1, List.take_of_length_le (Nat.le_refl _)]⟩
theorem product_any (va vb : Value) (xs ys : List Int) (w : World) (ha : Sl .u64 w va xs) (hb : Sl .u64 w vb ys) (hwa : Dg.Wf BW xs) (hwb : Dg.Wf BW ys)
 (hlx : xs.length <= 1099511627776) (hly : ys.length <= 1099511627776) :
 Calls Tryz.prog 199 #[va, vb] w (RetNum (xs.length + ys.length) w (Dg.val BW xs * Dg.val BW ys)) := by
 have ha' := ha
 obtain ⟨ao, cap, rfl, hcap, hmax, hc⟩ := ha
 obtain ⟨bo, bcap, rfl, hbcap, hbmax, hbc⟩ := hb
 unfold maxLen at hmax hbmax
 go_enter Tryz.func199, Tryz.ntmps199
 go_wp2_with (at_make; refine wpList_make_zeros _ rfl _ _ 96 rfl 165 .u64 Tryz.underlying96 info_u64 _ _ (xs.length + ys.length) rfl rfl (by omega) (by omega) (by omega) ?_)
 intro w1 hrow hbel
 go_wp2
 go_loopw [16] (fun i wr => ∃ (k : Nat) (T : List Int), k <= ys.length /\ i = .int .i64 k /\ Hid (PrAt xs ys T k) /\ Row 165 .u64 wr w.heap.size T /\ Below w.heap.size w wr) (fun i _ => ys.length - (intOf i).toNat)
 case atStart => exact ⟨0, _, Nat.zero_le _, rfl, PrAt.start xs ys, hrow, hbel⟩
 case round =>
  obtain ⟨k, T, hk, rfl, hat, hr, hbl⟩ := hrel
  clear hrow hbel
  by_cases hlt : k < ys.length
  ·obtain ⟨b, o, rfl, hbs, hcell⟩ := hbc k hlt
   obtain ⟨y, hy⟩ : ∃ y, y = ys[k]?.getD 0 := ⟨_, rfl⟩
   have hyb := wfD hwb k
   rw [<- hy] at hcell hyb
   have HY := Lib.hid hy
   have hcl := (hbl.cell (p := ⟨b, o + k, none⟩) hbs).trans hcell
   clear hy hcell
   have htl := Lib.hid hat.out.1
   have hr3 : Row 165 .u64 wr w.heap.size (T.take k ++ (T.drop k).take xs.length ++ T.drop (k + xs.length)) := by rw [Dg.three]; exact hr
   have ek : Hid ((T.take k).length = k) := by have := htl.out; show _ = _; simp; omega
   have el : Hid (((T.drop k).take xs.length).length = xs.length) := by have := htl.out; show _ = _; simp; omega
   go_wp2_with fail
   refine (addMultiple_at w.heap.size _ k xs.length (T.take k) ((T.drop k).take xs.length) (T.drop (k + xs.length)) xs _ y w _ ha' hbl (Nat.le_refl _) hr3 ek rfl el.out ((hat.out.2.1.drop _).take _) hwa hyb.1 hyb.2).mono ?_
   rintro e w' ⟨c, M', rfl, hr4, hgr, hml, hmw, c0, c1, hmv⟩
   have hbl4 := tbelowGrow hgr hbl (Nat.le_refl _)
   have HMV := Lib.hid hmv
   have HML := Lib.hid hml
   have hlen : (T.take k ++ M' ++ T.drop (k + xs.length)).length = xs.length + ys.length := by
    have := HML.out; have := htl.out; have := ek.out; have := el.out
    simp only [List.length_append, List.length_drop]; omega
   have hcz := hr4.cell (i := k + xs.length) (by omega)
   have hfz := hr4.free (k + xs.length)
   clear hmv hml hlen hr3
   go_wp2
   go_roundw
   case rel => exact ⟨k + 1, _, by omega, by go_num, hat.out.next hlt HY.out HML.out hmw c0 c1 HMV.out, hr4.set _ _, hbl4.setCell (Nat.le_refl _) _⟩
   case measure => simp [intOf] <;> omega
  ·obtain rfl : k = ys.length := by omega
   obtain ⟨hdw, hdv⟩ := hat.out.done
   have hlen : T.length = xs.length + ys.length := hat.out.1
   have hSl := hr.slAll (n := xs.length + ys.length) (cap := xs.length + ys.length) hlen.symm (Nat.le_refl _) (by unfold maxLen; omega)
   have HL := Lib.hid hlen
   have HV := Lib.hid hdv
   clear hlen hdv hat
   go_wp2_with (go_at_call 196; refine (cut_num hSl hdw).mono ?_; rintro e w' ⟨v', rfl, rfl, hn, hob⟩; have HOB := Lib.hid hob; clear hob)
   go_ret
   rw [HV.out, HL.out] at hn
   exact ⟨hbl, _, rfl, hn, (Frm.mk (Nat.le_refl _)).of HOB.out⟩
def DfAt (xs ys zs : List Int) (k : Nat) (c : Int) : Prop := zs.length = xs.length /\ Dg.Wf BW zs /\ 0 <= c /\ c <= 1 /\
 Dg.val BW (zs.take k) - c * BW ^ k = Dg.val BW (xs.take k) - Dg.val BW (ys.take k)
theorem DfAt.start (xs ys : List Int) : DfAt xs ys (List.replicate xs.length 0) 0 0 :=
 ⟨by simp, Dg.Wf.zeros (by decide) _, by decide, by decide, by simp [Dg.val]⟩
theorem DfAt.next {xs ys zs : List Int} {k : Nat} {c x y s d : Int} (h : DfAt xs ys zs k c) (hk : k < xs.length) (hx : x = xs[k]?.getD 0) (hy : y = ys[k]?.getD 0)
 (s0 : 0 <= s) (s1 : s < BW) (d0 : 0 <= d) (d1 : d <= 1) (he : x - y - c = s - BW * d) : DfAt xs ys (zs.set k s) (k + 1) d := by
 obtain ⟨hl, hw, c0, c1, hv⟩ := h
 refine ⟨by simpa using hl, hw.set k s0 s1, d0, d1, ?_⟩
 rw [Dg.take_set_succ zs k s (by omega), Dg.val_append, Dg.val_one, Dg.val_take_succD, Dg.val_take_succD, <- hx, <- hy, Int.pow_succ]
 have : (zs.take k).length = k := by simp; omega
 rw [this]
 exact Dg.step_dif hv he
theorem DfAt.done {xs ys zs : List Int} {c : Int} (h : DfAt xs ys zs xs.length c) (hy : ys.length <= xs.length) (hle : Dg.val BW ys <= Dg.val BW xs) :
 Dg.Wf BW zs /\ Dg.val BW zs = Dg.val BW xs - Dg.val BW ys := by
 obtain ⟨hl, hw, c0, c1, hv⟩ := h
 refine ⟨hw, ?_⟩
 rw [List.take_of_length_le (by omega), List.take_of_length_le (Nat.le_refl _), List.take_of_length_le hy] at hv
 have hlt := Dg.val_lt (show (0 : Int) < BW by decide) hw
 rw [hl] at hlt
 have : c = 0 := by
  rcases (show c = 0 \/ c = 1 by omega) with h | h
  ·exact h
  ·subst h; omega
 subst this
 omega
theorem tdifference_any (va vb : Value) (xs ys : List Int) (w : World) (ha : Sl .u64 w va xs) (hb : Sl .u64 w vb ys) (hwa : Dg.Wf BW xs) (hwb : Dg.Wf BW ys)
 (hle : ys.length <= xs.length) (hv : Dg.val BW ys <= Dg.val BW xs) (hmx : xs.length <= 17000000000000) :
 Calls Tryz.prog 195 #[va, vb] w (RetNum xs.length w (Dg.val BW xs - Dg.val BW ys)) := by
 have hb' := hb
 obtain ⟨ao, cap, rfl, hcap, hmax, hc⟩ := ha
 obtain ⟨bo, bcap, rfl, hbcap, hbmax, hbc⟩ := hb
 unfold maxLen at hmax hbmax
 have HLE := Lib.hid hv
 clear hv
 go_enter Tryz.func195, Tryz.ntmps195
 go_wp2_with (at_make; refine wpList_make_zeros _ rfl _ _ 96 rfl 165 .u64 Tryz.underlying96 info_u64 _ _ xs.length rfl rfl (by omega) (by omega) (by omega) ?_)
 intro w1 hrow hbel
 go_wp2
 go_loopw [6, 14] (fun c i wr => ∃ (k : Nat) (cv : Int) (zs : List Int), k <= xs.length /\ i = .int .i64 k /\ c = .int .u64 cv /\ Hid (DfAt xs ys zs k cv) /\ Row 165 .u64 wr w.heap.size zs /\ Below w.heap.size w wr) (fun _ i _ => xs.length - (intOf i).toNat)
 case atStart => exact ⟨0, 0, _, Nat.zero_le _, rfl, rfl, DfAt.start xs ys, hrow, hbel⟩
 case round =>
  obtain ⟨k, cv, zs, hk, rfl, rfl, hat, hr, hbl⟩ := hrel
  have hzl : zs.length = xs.length := hat.out.1
  have hz0 : 0 <= cv := hat.out.2.2.1
  have hz1 : cv <= 1 := hat.out.2.2.2.1
  clear hrow hbel
  by_cases hlt' : k < xs.length
  ·obtain ⟨b, o, rfl, hbs, hcell⟩ := hc k hlt'
   obtain ⟨x, hx⟩ : ∃ x, x = xs[k]?.getD 0 := ⟨_, rfl⟩
   obtain ⟨y, hy⟩ : ∃ y, y = ys[k]?.getD 0 := ⟨_, rfl⟩
   have hxb := wfD hwa k
   have hyb := wfD hwb k
   rw [<- hx] at hcell hxb
   rw [<- hy] at hyb
   have HX := Lib.hid hx
   have HY := Lib.hid hy
   clear hx hy
   have hcl := (hbl.cell (p := ⟨b, o + k, none⟩) hbs).trans hcell
   have hsl := hb'.below hbl
   have hcz := hr.cell (i := k) (by omega)
   have hfz := hr.free k
   obtain ⟨s, d, hsub, hs0, hs1, hd0, hd1, hsd⟩ := sub64 x y cv hxb.1 hxb.2 hyb.1 hyb.2 hz0 hz1
   have HSD := Lib.hid hsd
   have HZ := Lib.hid hzl
   clear hsd hcell hzl
   go_wp2_with (go_at_call 239; refine (wordAt_any hsl k y HY).mono ?_; rintro e w' ⟨rfl, rfl⟩)
   go_roundw
   case rel => exact ⟨k + 1, d, zs.set k s, by omega, by go_num, rfl, hat.out.next hlt' HX.out HY.out hs0 hs1 hd0 hd1 HSD.out, hr.set k s, hbl.setCell (Nat.le_refl _) _⟩
   case measure => simp [intOf] <;> omega
  ·obtain rfl : k = xs.length := by omega
   obtain ⟨hdw, hdv⟩ := hat.out.done hle HLE.out
   have hSl := hr.slAll (n := xs.length) (cap := xs.length) hzl.symm (Nat.le_refl _) (by unfold maxLen; omega)
   have HL := Lib.hid hzl
   have HV := Lib.hid hdv
   clear hzl hdv hat
   go_wp2_with (go_at_call 196; refine (cut_num hSl hdw).mono ?_; rintro e w' ⟨v', rfl, rfl, hn, hob⟩; have HOB := Lib.hid hob; clear hob)
   go_ret
   rw [HV.out, HL.out] at hn
   exact ⟨hbl, _, rfl, hn, (Frm.mk (Nat.le_refl _)).of HOB.out⟩
theorem sum_num {La Lb : Nat} {va vb : Value} {m n : Int} {w : World} (ha : Num La w va m) (hb : Num Lb w vb n) (h1 : La <= 17000000000000) (h2 : Lb <= 17000000000000) :
 Calls Tryz.prog 194 #[va, vb] w (RetNum (max La Lb + 1) w (m + n)) := by
 obtain ⟨xs, a1, a2, a3, rfl, a5⟩ := ha
 obtain ⟨ys, b1, b2, b3, rfl, b5⟩ := hb
 by_cases h : ys.length <= xs.length
 ·exact (sum_core false va vb xs ys w a1 b1 a2 b2 h (by simp) (by omega)).mono fun e w' ⟨hb, v', he, hn, ho⟩ => ⟨hb, v', he, hn.mono (by omega), ho⟩
 ·exact (sum_core true vb va ys xs w b1 a1 b2 a2 (by omega) (by omega) (by omega)).mono fun e w' ⟨hb, v', he, hn, ho⟩ => ⟨hb, v', he, by rw [Int.add_comm]; exact hn.mono (by omega), ho⟩
theorem difference_num {La Lb : Nat} {va vb : Value} {m n : Int} {w : World} (ha : Num La w va m) (hb : Num Lb w vb n) (h1 : La <= 17000000000000) (hle : n <= m) :
 Calls Tryz.prog 195 #[va, vb] w (RetNum La w (m - n)) := by
 obtain ⟨xs, a1, a2, a3, rfl, a5⟩ := ha
 obtain ⟨ys, b1, b2, b3, rfl, b5⟩ := hb
 have hl : ys.length <= xs.length := by
  apply Classical.byContradiction
  intro hc
  have := Dg.val_lt_of_len (show (1 : Int) < BW by decide) a2 b2 b3 (by omega)
  omega
 exact (tdifference_any va vb xs ys w a1 b1 a2 b2 hl hle (by omega)).mono fun e w' ⟨hb, v', he, hn, ho⟩ => ⟨hb, v', he, hn.mono (by omega), ho⟩
theorem product_num {La Lb : Nat} {va vb : Value} {m n : Int} {w : World} (ha : Num La w va m) (hb : Num Lb w vb n) (h1 : La <= 1099511627776) (h2 : Lb <= 1099511627776) :
 Calls Tryz.prog 199 #[va, vb] w (RetNum (La + Lb) w (m * n)) := by
 obtain ⟨xs, a1, a2, a3, rfl, a5⟩ := ha
 obtain ⟨ys, b1, b2, b3, rfl, b5⟩ := hb
 exact (product_any va vb xs ys w a1 b1 a2 b2 (by omega) (by omega)).mono fun e w' ⟨hb, v', he, hn, ho⟩ => ⟨hb, v', he, hn.mono (by omega), ho⟩
end Go.Proofs.YtdnheaafcbihbaaGreat
namespace Go.Proofs.YtdnheaafcbihbaaGreat.Dg
structure KN (U u Y d1 d0 q r : Int) : Prop where
 eq : q * d1 + r = U
 q0 : 0 <= q
 q1 : q <= 4294967297
 r0 : 0 <= r
 r1 : r < 4294967296
 hi : U * 4294967296 + u < (q + 1) * Y
structure KD (U u Y d1 d0 : Int) : Prop where
 yd : Y = d1 * 4294967296 + d0
 a0 : 0 <= d0
 a1 : d0 < 4294967296
 b0 : 2147483648 <= d1
 b1 : d1 < 4294967296
 u0 : 0 <= u
 u1 : u < 4294967296
 U0 : 0 <= U
 U1 : U < Y
structure KF (U u Y q : Int) : Prop where
 q0 : 0 <= q
 q1 : q < 4294967296
 lo : q * Y <= U * 4294967296 + u
 hi : U * 4294967296 + u < q * Y + Y
theorem KN.start {U u Y d1 d0 : Int} (D : KD U u Y d1 d0) : KN U u Y d1 d0 (U / d1) (U - U / d1 * d1) := by
 have h1 := Int.mul_ediv_add_emod U d1
 have h2 := Int.emod_nonneg U (show d1 ≠ 0 by have := D.b0; omega)
 have h3 := Int.emod_lt_of_pos U (show 0 < d1 by have := D.b0; omega)
 have h4 := Int.ediv_nonneg D.U0 (show 0 <= d1 by have := D.b0; omega)
 rw [Int.mul_comm] at h1
 generalize U / d1 = q at *
 obtain ⟨yd, a0, a1, b0, b1, u0, u1, U0, U1⟩ := D
 subst yd
 refine ⟨by omega, h4, ?_, by omega, by omega, ?_⟩
 ·apply Classical.byContradiction
  intro hc
  have := Int.mul_le_mul_of_nonneg_right (show 4294967298 <= q by omega) (show 0 <= d1 by omega)
  omega
 ·have e : (q + 1) * (d1 * 4294967296 + d0) = (q * d1 + d1) * 4294967296 + (q * d0 + d0) := by
   simp only [Int.add_mul, Int.mul_add, Int.mul_assoc, Int.one_mul]; try omega
  have := Int.mul_nonneg h4 a0
  omega
theorem KN.step {U u Y d1 d0 q r : Int} (D : KD U u Y d1 d0) (K : KN U u Y d1 d0 q r) (hd : 4294967296 <= q \/ (q < 4294967296 /\ 4294967296 * r + u < q * d0)) :
 1 <= q /\ (q - 1) * d1 + (r + d1) = U /\ U * 4294967296 + u < (q - 1 + 1) * Y := by
 obtain ⟨yd, a0, a1, b0, b1, u0, u1, U0, U1⟩ := D
 obtain ⟨eq, q0, q1, r0, r1, hi⟩ := K
 have e : q * Y = q * d1 * 4294967296 + q * d0 := by rw [yd, Int.mul_add, Int.mul_assoc]
 refine ⟨?_, by rw [Int.sub_mul]; omega, ?_⟩
 ·apply Classical.byContradiction
  intro hc
  obtain rfl : q = 0 := by omega
  rcases hd with h | ⟨h, h'⟩ <;> omega
 ·rw [show q - 1 + 1 = q by omega]
  rcases hd with h | ⟨h, h'⟩
  ·have := Int.mul_le_mul_of_nonneg_right h (show 0 <= Y by omega)
   omega
  ·omega
theorem KN.less {U u Y d1 d0 q r : Int} (D : KD U u Y d1 d0) (K : KN U u Y d1 d0 q r) (hd : 4294967296 <= q \/ (q < 4294967296 /\ 4294967296 * r + u < q * d0)) (hr : r + d1 < 4294967296) :
 KN U u Y d1 d0 (q - 1) (r + d1) :=
 let ⟨h1, h2, h3⟩ := K.step D hd
 ⟨h2, by omega, by have := K.q1; omega, by have := K.r0; have := D.b0; omega, hr, h3⟩
theorem KN.over {U u Y d1 d0 q r : Int} (D : KD U u Y d1 d0) (K : KN U u Y d1 d0 q r) (hd : 4294967296 <= q \/ (q < 4294967296 /\ 4294967296 * r + u < q * d0)) (hr : 4294967296 <= r + d1) :
 KF U u Y (q - 1) := by
 obtain ⟨h1, h2, h3⟩ := K.step D hd
 obtain ⟨yd, a0, a1, b0, b1, u0, u1, U0, U1⟩ := D
 generalize q - 1 = p at *
 generalize r + d1 = t at *
 have hp0 : 0 <= p := by have := K.q0; apply Classical.byContradiction; intro hc; have := Int.mul_le_mul_of_nonneg_right (show p + 1 <= 0 by omega) (show 0 <= Y by omega); omega
 have hp1 : p < 4294967296 := by
  apply Classical.byContradiction
  intro hc
  have := Int.mul_le_mul_of_nonneg_right (show 4294967296 <= p by omega) (show 0 <= d1 by omega)
  omega
 have e : p * Y = p * d1 * 4294967296 + p * d0 := by rw [yd, Int.mul_add, Int.mul_assoc]
 have hb : p * d0 <= 4294967295 * 4294967295 := Int.mul_le_mul (by omega) (by omega) a0 (by omega)
 exact ⟨hp0, hp1, by omega, by rw [Int.add_mul] at h3; omega⟩
theorem KN.stop {U u Y d1 d0 q r : Int} (D : KD U u Y d1 d0) (K : KN U u Y d1 d0 q r) (h1 : q < 4294967296) (h2 : q * d0 <= 4294967296 * r + u) : KF U u Y q := by
 obtain ⟨yd, a0, a1, b0, b1, u0, u1, U0, U1⟩ := D
 obtain ⟨eq, q0, q1, r0, r1, hi⟩ := K
 have e : q * Y = q * d1 * 4294967296 + q * d0 := by rw [yd, Int.mul_add, Int.mul_assoc]
 exact ⟨q0, h1, by omega, by rw [Int.add_mul] at hi; omega⟩
theorem knuth_done {hi lo y p U u1 u0 Y q1 q0 : Int} (hp : 0 < p) (hY : y * p = Y) (hU : (hi * 18446744073709551616 + lo) * p = U * 18446744073709551616 + (u1 * 4294967296 + u0))
 (F1 : KF U u1 Y q1) (F2 : KF (U * 4294967296 + u1 - q1 * Y) u0 Y q0) :
 ((U * 4294967296 + u1 - q1 * Y) * 4294967296 + u0 - q0 * Y) / p = hi * 18446744073709551616 + lo - (q1 * 4294967296 + q0) * y /\
   0 <= hi * 18446744073709551616 + lo - (q1 * 4294967296 + q0) * y /\ hi * 18446744073709551616 + lo - (q1 * 4294967296 + q0) * y < y := by
 have e : (U * 4294967296 + u1 - q1 * Y) * 4294967296 + u0 - q0 * Y = (hi * 18446744073709551616 + lo - (q1 * 4294967296 + q0) * y) * p := by
  have e2 : (hi * 18446744073709551616 + lo - (q1 * 4294967296 + q0) * y) * p = (hi * 18446744073709551616 + lo) * p - (q1 * 4294967296 + q0) * (y * p) := by rw [Int.sub_mul, Int.mul_assoc _ y p]
  rw [e2, hU, hY, Int.add_mul, Int.mul_right_comm]
  omega
 obtain ⟨_, _, l1, g1⟩ := F1
 obtain ⟨_, _, l2, g2⟩ := F2
 generalize hi * 18446744073709551616 + lo - (q1 * 4294967296 + q0) * y = R at *
 have h0 : 0 <= R * p := by omega
 have h1 : R * p < y * p := by rw [hY]; omega
 refine ⟨by rw [e]; exact Int.mul_ediv_cancel _ (by omega), ?_, ?_⟩
 ·apply Classical.byContradiction
  intro hc
  have := Int.mul_le_mul_of_nonneg_right (show R <= -1 by omega) (show 0 <= p by omega)
  omega
 ·exact Int.lt_of_mul_lt_mul_right h1 (by omega)
end Go.Proofs.YtdnheaafcbihbaaGreat.Dg
namespace Go.Proofs.YtdnheaafcbihbaaGreat
open Go Go.RowKit
theorem lz64 (y : Int) (w : World) (h0 : 0 < y) (h1 : y < 18446744073709551616) : Calls Tryz.prog 234 #[.int .u64 y] w fun e w' => ∃ s : Nat, e = .returned (.int .i64 s) /\ w = w' /\ s <= 63 /\ 9223372036854775808 <= y * 2 ^ s /\ y * 2 ^ s < 18446744073709551616 := by
 obtain ⟨n, rfl⟩ := Int.eq_ofNat_of_zero_le (show 0 <= y by omega)
 have hb := Lib.bitLenAux_bounds 64 n (by show n < 18446744073709551616; omega) (by omega)
 have hle : Lib.bitLen n <= 64 := Lib.bitLen_le n 64 (by omega) (by show n < 18446744073709551616; omega)
 refine (Go.Proofs.Tryz.bits_LeadingZeros64 n w (by omega) (by omega)).mono fun e w' ⟨he, hw⟩ => ?_
 have hb' : 1 <= Lib.bitLen n /\ 2 ^ (Lib.bitLen n - 1) <= n /\ n < 2 ^ Lib.bitLen n := hb
 obtain ⟨k1, k2, k3⟩ := hb'
 simp only [Int.toNat_natCast] at he
 generalize Lib.bitLen n = m at *
 have e1 : n * 2 ^ (64 - m) < 18446744073709551616 := by
  have h := Nat.mul_lt_mul_of_pos_right k3 (Nat.pow_pos (n := 64 - m) (show 0 < 2 by omega))
  rw [<- Nat.pow_add, show m + (64 - m) = 64 by omega] at h
  exact h
 have e2 : 9223372036854775808 <= n * 2 ^ (64 - m) := by
  have h := Nat.mul_le_mul_right (2 ^ (64 - m)) k2
  rw [<- Nat.pow_add, show m - 1 + (64 - m) = 63 by omega] at h
  exact h
 have e3 : ((n * 2 ^ (64 - m) : Nat) : Int) = (n : Int) * 2 ^ (64 - m) := by simp
 exact ⟨64 - m, by rw [he]; congr 2; omega, hw.symm, by omega, by rw [<- e3]; omega, by rw [<- e3]; omega⟩
theorem or_add (a b : Int) (s : Nat) (ha : 0 <= a) (hb : 0 <= b) (hb1 : b < 2 ^ s) (hab : a * 2 ^ s + b < 18446744073709551616) : bits .or .u64 (a * 2 ^ s) b = a * 2 ^ s + b := by
 obtain ⟨a, rfl⟩ := Int.eq_ofNat_of_zero_le ha
 obtain ⟨b, rfl⟩ := Int.eq_ofNat_of_zero_le hb
 have e3 : ((a * 2 ^ s : Nat) : Int) = (a : Int) * 2 ^ s := by simp
 have hb2 : b < 2 ^ s := by
  have : ((2 ^ s : Nat) : Int) = 2 ^ s := by simp
  omega
 rw [<- e3, bits_or_u64_nat _ _ (by omega) (by omega), <- Nat.shiftLeft_eq, <- Nat.shiftLeft_add_eq_or_of_lt hb2, Nat.shiftLeft_eq]
 omega
theorem shl_two (hi lo : Int) (s : Nat) (hs : s <= 63) (h0 : 0 <= hi) (h1 : hi * 2 ^ s + 2 ^ s <= 18446744073709551616) (l0 : 0 <= lo) (l1 : lo < 18446744073709551616) :
 ∃ U L : Int, bits .or .u64 (IntKind.u64.wrap (hi * 2 ^ s)) (lo / 2 ^ (64 - s)) = U /\ IntKind.u64.wrap (lo * 2 ^ s) = L /\ U = hi * 2 ^ s + lo / 2 ^ (64 - s) /\ 0 <= L /\ L < 18446744073709551616 /\
   (hi * 18446744073709551616 + lo) * 2 ^ s = U * 18446744073709551616 + L /\ 0 <= lo / 2 ^ (64 - s) /\ lo / 2 ^ (64 - s) < 2 ^ s := by
 have hp : (0 : Int) < 2 ^ s := Int.pow_pos (by omega)
 have hq : (0 : Int) < 2 ^ (64 - s) := Int.pow_pos (by omega)
 have hpq : (2 : Int) ^ (64 - s) * 2 ^ s = 18446744073709551616 := by
  rw [<- Int.pow_add, show 64 - s + s = 64 by omega]; rfl
 have hd0 := Int.ediv_nonneg l0 (Int.le_of_lt hq)
 have hm := Int.mul_ediv_add_emod lo (2 ^ (64 - s))
 have hm0 := Int.emod_nonneg lo (Int.ne_of_gt hq)
 have hm1 := Int.emod_lt_of_pos lo hq
 generalize lo / 2 ^ (64 - s) = d at *
 generalize lo % 2 ^ (64 - s) = r at *
 generalize hP : (2 : Int) ^ s = p at *
 generalize (2 : Int) ^ (64 - s) = q at *
 have hhp : 0 <= hi * p := Int.mul_nonneg h0 (by omega)
 have hd1 : d < p := by
  apply Int.lt_of_mul_lt_mul_left (a := q) ?_ (by omega)
  omega
 have erp : r * p < 18446744073709551616 := by
  rw [<- hpq]; exact Int.mul_lt_mul_of_pos_right hm1 hp
 have erp0 : 0 <= r * p := Int.mul_nonneg hm0 (by omega)
 have elo : lo * p = d * 18446744073709551616 + r * p := by
  rw [<- hm, Int.add_mul, Int.mul_right_comm, hpq, Int.mul_comm]
 refine ⟨_, _, rfl, rfl, ?_, ?_, ?_, ?_, hd0, hd1⟩
 ·have ew : IntKind.u64.wrap (hi * p) = hi * p := by rw [IntKind.wrap_u64]; omega
  rw [ew, <- hP]
  exact or_add hi d s h0 hd0 (by rw [hP]; exact hd1) (by rw [hP]; omega)
 ·rw [IntKind.wrap_u64]; omega
 ·rw [IntKind.wrap_u64]; omega
 ·have ew : IntKind.u64.wrap (hi * p) = hi * p := by rw [IntKind.wrap_u64]; omega
  have eo : bits .or .u64 (hi * p) d = hi * p + d := by
   rw [<- hP]
   exact or_add hi d s h0 hd0 (by rw [hP]; exact hd1) (by rw [hP]; omega)
  rw [ew, eo, IntKind.wrap_u64, Int.add_mul, elo]
  have e5 : hi * 18446744073709551616 * p = hi * p * 18446744073709551616 := Int.mul_right_comm _ _ _
  omega
end Go.Proofs.YtdnheaafcbihbaaGreat
