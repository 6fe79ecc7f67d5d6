/-
  Texts of the proof, merged by program: I64 Ref1 Rst Rst2.
-/
import Derived.Test.YtblbheilddafbaaGreatDoorZ7
import Derived.Test.YtblbheilddafbaaGreatDoorZ4
import Derived.Test.YtblbheilddafbaaGreatDoorZ19
set_option linter.unusedVariables false
set_option linter.unusedSimpArgs false
namespace Go.Proofs.YtblbheilddafbaaGreatDoor
open Go Go.RowKit
/-- Is the integer an int64? -/
def fits64 (z : Int) : Bool := decide (-9223372036854775808 ≤ z) && decide (z ≤ 9223372036854775807)
/-- The int64 that Int64 returns. -/
def v64 (z : Int) : Int := if fits64 z = true then z else 0
theorem v64_yes {z : Int} (h : fits64 z = true) : v64 z = z := by unfold v64; rw [if_pos h]
theorem v64_no {z : Int} (h : fits64 z = false) : v64 z = 0 := by unfold v64; rw [if_neg (by rw [h]; simp)]
set_option maxHeartbeats 1000000 in
theorem int64_any {L : Nat} {v : Value} {z : Int} {w : World} (h : IntV L w v z) :
    Calls Tryz.prog 23 #[v] w (RetV w (.tuple #[.int .i64 (v64 z), .bool (fits64 z)])) := by
  obtain ⟨sb, sv, rfl, hsb, hn⟩ := h
  obtain ⟨xs, a1, a2, a3, a4, a5⟩ := hn
  obtain ⟨ao, cap, rfl, hc, hm, hx⟩ := a1
  have hb0 : Below w.heap.size w (w.alloc (.cells #[.bool sb, .slice ao xs.length cap] 30)) := (Below.refl _ _).alloc (Nat.le_refl _) _
  have HB := Lib.hid hb0
  have hnot : ∀ (x : Bool) (w : World), (Op.unary .not (.bool x)).run Tryz.prog w = .ok (.bool (!x)) w := fun _ _ => rfl
  rcases xs with _ | ⟨x, _ | ⟨x2, xt⟩⟩
  · have hz : z = 0 := by simp [Dg.val] at a4; omega
    subst hz
    have hf : Hid (fits64 0 = true) := rfl
    clear hx hm hc a2 a3 a4 hsb a5 hb0
    simp only [List.length_nil]
    go_enter Tryz.func23, Tryz.ntmps23
    go_wp2
    go_ret2
    exact ⟨HB.out, by first | (rw [hf.out, v64_yes hf.out]; rfl) | (rw [v64_yes hf.out]; rfl) | rfl⟩
  · rw [Dg.val_one] at a4
    obtain ⟨b, o, rfl, hbs, hcell⟩ := hx 0 (by simp)
    simp only [List.length_cons, List.length_nil, Nat.zero_add, List.getElem?_cons_zero, Option.getD_some, Nat.add_zero] at hcell ⊢
    have hxb := a2 x (by simp)
    have hx1 : x < 18446744073709551616 := hxb.2
    have hx0 : 0 ≤ x := hxb.1
    clear hx hm hc a2 a3 a5 hxb
    have hb : sb = decide (z < 0) := hsb
    clear hsb
    cases sb
    · have hz : z = x := by
        have : ¬ z < 0 := by simpa using hb.symm
        omega
      subst hz
      by_cases hle : z ≤ 9223372036854775807
      · have hf : Hid (fits64 z = true) := by show fits64 z = true; unfold fits64; simp; omega
        clear hb a4 hb0
        go_enter Tryz.func23, Tryz.ntmps23
        go_wp2
        go_ret2
        exact ⟨HB.out, by first | (rw [hf.out, v64_yes hf.out]; rfl) | (rw [v64_yes hf.out]; rfl) | rfl⟩
      · have hf : Hid (fits64 z = false) := by show fits64 z = false; unfold fits64; simp; omega
        have hgt : 9223372036854775807 < z := by omega
        clear hb a4 hb0 hle
        go_enter Tryz.func23, Tryz.ntmps23
        go_wp2
        go_ret2
        exact ⟨HB.out, by first | (rw [hf.out, v64_no hf.out]; rfl) | (rw [v64_no hf.out]; rfl) | rfl⟩
    · have hz : z = -x := by
        have : z < 0 := by simpa using hb.symm
        omega
      subst hz
      have hxp : 0 < x := by simpa using hb.symm
      by_cases hle : x ≤ 9223372036854775808
      · have hf : Hid (fits64 (-x) = true) := by show fits64 (-x) = true; unfold fits64; simp; omega
        have ew : IntKind.i64.wrap (IntKind.u64.wrap (-x)) = -x := by rw [IntKind.wrap_u64, IntKind.wrap_i64]; omega
        clear hb a4 hb0
        go_enter Tryz.func23, Tryz.ntmps23
        go_wp2
        go_ret2
        exact ⟨HB.out, by first | (rw [hf.out, v64_yes hf.out]; rfl) | (rw [v64_yes hf.out]; rfl) | rfl⟩
      · have hf : Hid (fits64 (-x) = false) := by show fits64 (-x) = false; unfold fits64; simp; omega
        have hgt : 9223372036854775808 < x := by omega
        clear hb a4 hb0 hle
        go_enter Tryz.func23, Tryz.ntmps23
        go_wp2
        go_ret2
        exact ⟨HB.out, by first | (rw [hf.out, v64_no hf.out]; rfl) | (rw [v64_no hf.out]; rfl) | rfl⟩
  · have hbig : (18446744073709551616 : Int) ≤ z.natAbs := by
      have := Dg.val_ge (show (0 : Int) < BW by decide) a2 a3 (by simp)
      rw [a4] at this
      have h2 : (BW : Int) ^ 1 ≤ BW ^ ((x :: x2 :: xt).length - 1) := Dg.pow_mono (by decide) (by simp)
      rw [Int.pow_one] at h2
      exact Int.le_trans h2 this
    have hf : Hid (fits64 z = false) := by
      show fits64 z = false
      unfold fits64
      by_cases h : -9223372036854775808 ≤ z
      · have : ¬ z ≤ 9223372036854775807 := by omega
        simp [this]
      · simp [h]
    have hlen : 1 < (x :: x2 :: xt).length := by simp
    obtain ⟨b, o, rfl, hbs, hcell⟩ := hx 0 (by simp)
    simp only [List.getElem?_cons_zero, Option.getD_some, Nat.add_zero] at hcell
    obtain ⟨n, hn⟩ : ∃ n, (x :: x2 :: xt).length = n + 2 := ⟨xt.length, by simp⟩
    rw [hn] at hb0 HB ⊢
    have hn2 : (1 : Int) < (n : Int) + 2 := by omega
    clear hx hm hc a2 a3 a4 a5 hsb hb0 hlen hbig hn
    go_enter Tryz.func23, Tryz.ntmps23
    go_wp2
    go_ret2
    exact ⟨HB.out, by first | (rw [hf.out, v64_no hf.out]; rfl) | (rw [v64_no hf.out]; rfl) | rfl⟩
end Go.Proofs.YtblbheilddafbaaGreatDoor

set_option linter.unusedVariables false
set_option linter.unusedSimpArgs false
namespace Go.Proofs.YtblbheilddafbaaGreatDoor
open Go Go.RowKit
/-- The base of the limbs. -/
abbrev BN : Int := 1000000000
theorem info_i64 : (Tryz.prog.info? 3).map (fun i => (i.zero, i.size, i.bytes)) = some (some (.int .i64 0), 1, 8) := by kernel_rfl
/-- The slice value v holds the limbs of n, at most L of them. -/
def NumR (L : Nat) (w : World) (v : Value) (n : Int) : Prop := ∃ xs, Sl .i64 w v xs ∧ Dg.Wf BN xs ∧ Dg.Nz xs ∧ Dg.val BN xs = n ∧ xs.length ≤ L
theorem NumR.below {L : Nat} {w w' : World} {v : Value} {n : Int} (h : NumR L w v n) (hb : Below w.heap.size w w') : NumR L w' v n :=
  let ⟨xs, h1, h2⟩ := h; ⟨xs, h1.below hb, h2⟩
theorem NumR.mono {L L' : Nat} {w : World} {v : Value} {n : Int} (h : NumR L w v n) (hL : L ≤ L') : NumR L' w v n :=
  let ⟨xs, h1, h2, h3, h4, h5⟩ := h; ⟨xs, h1, h2, h3, h4, by omega⟩
theorem NumR.form {L : Nat} {w : World} {v : Value} {n : Int} (h : NumR L w v n) : ∃ ao k cap, v = .slice ao k cap ∧ (k = 0 ↔ n = 0) ∧ 0 ≤ n := by
  obtain ⟨xs, ⟨ao, cap, e, _⟩, a2, a3, a4, _⟩ := h
  refine ⟨ao, _, cap, e, ?_, by rw [← a4]; exact Dg.val_nonneg (by decide) a2⟩
  rw [← a4, Dg.val_zero_iff (by decide) a2 a3]
  exact List.length_eq_zero_iff
theorem NumR.box {L : Nat} {w : World} {v : Value} {n : Int} {g : Nat} {x : Bool} {a : Option Addr} {k c : Nat} {T : TypeId} (h : NumR L w v n) (hg : w.heap[g]? = some (.cells #[.bool x, .slice a k c] T (0, 0))) (u u' : Value) :
    NumR L ((w.setCell ⟨g, 0, none⟩ u).setCell ⟨g, 1, none⟩ u') v n := by
  obtain ⟨xs, h1, h2⟩ := h
  refine ⟨xs, h1.kept (growSet (growSet (growRefl w (some g)) 0 u) 1 u') (fun k hk e => ?_), h2⟩
  refine h1.not_box hg (fun i m => ?_) (hk.trans e.symm)
  rcases i with _ | _ | i <;> simp
/-- The struct value v is the reference's integer z. -/
def ZV (L : Nat) (w : World) (v : Value) (z : Int) : Prop := ∃ sb sv, v = .agg #[.bool sb, sv] ∧ sb = decide (z < 0) ∧ NumR L w sv z.natAbs
def RetZ (L : Nat) (w : World) (z : Int) (e : Ending) (w' : World) : Prop := Below w.heap.size w w' ∧ ∃ v', e = .returned v' ∧ ZV L w' v' z
theorem ZV.below {L : Nat} {w w' : World} {v : Value} {z : Int} (h : ZV L w v z) (hb : Below w.heap.size w w') : ZV L w' v z := let ⟨sb, sv, e, h1, hn⟩ := h; ⟨sb, sv, e, h1, hn.below hb⟩
theorem ZV.mono {L L' : Nat} {w : World} {v : Value} {z : Int} (h : ZV L w v z) (hL : L ≤ L') : ZV L' w v z := let ⟨sb, sv, e, h1, hn⟩ := h; ⟨sb, sv, e, h1, hn.mono hL⟩
set_option maxHeartbeats 400000 in
theorem rint_any {L : Nat} (neg : Bool) {sv : Value} {m : Int} {w : World} (h : NumR L w sv m) :
    Calls Tryz.prog 78 #[.bool neg, sv] w (RetZ L w (sgn neg m)) := by
  have hN := h
  obtain ⟨ao, k, cap, rfl, hk, hm0⟩ := h.form
  have hb : Below w.heap.size w (w.alloc (.cells #[.bool (decide (sgn neg m < 0)), .slice ao k cap] 25)) := (Below.refl _ _).alloc (Nat.le_refl _) _
  have hI : Hid (RetZ L w (sgn neg m) (.returned (.agg #[.bool (decide (sgn neg m < 0)), .slice ao k cap])) (w.alloc (.cells #[.bool (decide (sgn neg m < 0)), .slice ao k cap] 25))) :=
    ⟨hb, _, rfl, _, _, rfl, rfl, by
      have e : ((sgn neg m).natAbs : Int) = m := by unfold sgn; split <;> omega
      rw [e]; exact hN.below hb⟩
  by_cases hs : neg = true ∧ 0 < m
  · obtain ⟨rfl, hp⟩ := hs
    have hl : 0 < k := Nat.pos_of_ne_zero (fun e => by have := hk.1 e; omega)
    have e : decide (sgn true m < 0) = true := by simp [sgn]; omega
    rw [e] at hI
    clear hk hm0 hb e hN h hp
    go_enter Tryz.func78, Tryz.ntmps78
    go_wp2
    exact bodyPost_ret (v := .agg #[.bool true, .slice ao k cap]) (by simp [results, Tryz.results78, go_sem]) rfl hI.out
  · have e : decide (sgn neg m < 0) = false := by
      unfold sgn
      cases neg
      · simp; omega
      · simp at hs ⊢; omega
    rw [e] at hI
    cases neg
    · clear hk hm0 hb e hN h hs
      go_enter Tryz.func78, Tryz.ntmps78
      go_wp2
      exact bodyPost_ret (v := .agg #[.bool false, .slice ao k cap]) (by simp [results, Tryz.results78, go_sem]) rfl hI.out
    · obtain rfl : k = 0 := hk.2 (by simp at hs; omega)
      clear hk hm0 hb e hN h hs
      go_enter Tryz.func78, Tryz.ntmps78
      go_wp2
      exact bodyPost_ret (v := .agg #[.bool false, .slice ao 0 cap]) (by simp [results, Tryz.results78, go_sem]) rfl hI.out
/-- Limbs taken so far: D; R is left of N. -/
structure OfAt (N : Int) (D : List Int) (R : Int) : Prop where
  wf : Dg.Wf BN D
  eq : N = Dg.val BN D + BN ^ D.length * R
  nz : R = 0 → Dg.Nz D
  R0 : 0 ≤ R
theorem OfAt.start {N : Int} (h : 0 ≤ N) : OfAt N [] N := ⟨Dg.Wf.nil _, by simp [Dg.val], fun _ => Dg.Nz.nil, h⟩
theorem OfAt.next {N R : Int} {D : List Int} (h : OfAt N D R) (hR : 0 < R) : OfAt N (D ++ [R % 1000000000]) (R / 1000000000) := by
  obtain ⟨hw, he, _, _⟩ := h
  refine ⟨hw.append (Dg.Wf.one (by omega) (by show _ < (1000000000 : Int); omega)), ?_, ?_, by omega⟩
  · rw [Dg.val_append, Dg.val_one, he, List.length_append, List.length_singleton, Int.pow_succ]
    have : BN ^ D.length * R = BN ^ D.length * (R % 1000000000 + BN * (R / 1000000000)) := by congr 1; unfold BN; omega
    rw [this, Int.mul_add, Int.mul_assoc]
    omega
  · intro h0 hne
    simp
    omega
theorem OfAt.len {N R : Int} {D : List Int} (h : OfAt N D R) (hN : N < 18446744073709551616) (hR : 0 < R) : D.length < 64 := by
  apply Classical.byContradiction
  intro hc
  have h1 : (BN : Int) ^ 64 ≤ BN ^ D.length := Dg.pow_mono (by decide) (by omega)
  have h2 := Dg.val_nonneg (B := BN) (by decide) h.wf
  have h3 := Leh.mul_ge (a := BN ^ D.length) (b := R) (Int.le_of_lt (Dg.pow_pos (by decide) _)) (by omega)
  have h4 := h.eq
  have h5 : (18446744073709551616 : Int) ≤ BN ^ 64 := by decide
  omega
/-- The end of a call that stores the reference's integer into its result's box g. -/
theorem rint_end {L : Nat} {z : Int} {w W : World} {g : Nat} {s x : Bool} {ao bo : Option Addr} {k c k' c' : Nat} {T : TypeId} (hg : W.heap[g]? = some (.cells #[.bool x, .slice bo k' c'] T (0, 0)))
    (hb : Below w.heap.size w W) (hgw : w.heap.size ≤ g) (hs : s = decide (z < 0)) (hn : NumR L W (.slice ao k c) z.natAbs) :
    RetZ L w z (.returned (.agg #[.bool s, .slice ao k c])) ((W.setCell ⟨g, 0, none⟩ (.bool s)).setCell ⟨g, 1, none⟩ (.slice ao k c)) ∧
      ((W.setCell ⟨g, 0, none⟩ (.bool s)).setCell ⟨g, 1, none⟩ (.slice ao k c)).cell? ⟨g, 0, none⟩ = some (.bool s) ∧ ((W.setCell ⟨g, 0, none⟩ (.bool s)).setCell ⟨g, 1, none⟩ (.slice ao k c)).cell? ⟨g, 1, none⟩ = some (.slice ao k c) := by
  obtain ⟨q0, q1, _, _⟩ := two_cells (two_set hg (.bool s) (.slice ao k c))
  exact ⟨⟨(hb.setCell (p := ⟨g, 0, none⟩) hgw _).setCell (p := ⟨g, 1, none⟩) hgw _, _, rfl, _, _, rfl, hs, hn.box hg _ _⟩, q0, q1⟩
theorem Mine.numR {E : TypeId} {B L : Nat} {w : World} {v : Value} {xs : List Int} {n : Int} (h : Mine E .i64 B w v xs) (hw : Dg.Wf BN xs) (hz : Dg.Nz xs) (hv : Dg.val BN xs = n) (hl : xs.length ≤ L) : NumR L w v n := ⟨xs, h.sl, hw, hz, hv, hl⟩
set_option maxRecDepth 20000 in
set_option maxHeartbeats 2000000 in
theorem rof_any (n : Int) (w : World) (h0 : -9223372036854775808 ≤ n) (h1 : n ≤ 9223372036854775807) :
    Calls Tryz.prog 32 #[.int .i64 n] w (RetZ 64 w n) := by
  obtain ⟨N, hN⟩ : ∃ N : Int, N = (n.natAbs : Int) := ⟨_, rfl⟩
  have hN0 : 0 ≤ N := by omega
  have hN1 : N ≤ 9223372036854775808 := by omega
  have HN := Kept.mk hN
  have hcase : (n < 0 ∧ n = -N) ∨ (0 ≤ n ∧ n = N) := by omega
  clear hN
  rcases hcase with ⟨hneg, rfl⟩ | ⟨hpos, e⟩
  · have e0 : IntKind.u64.wrap (-N) = 18446744073709551616 - N := by rw [IntKind.wrap_u64]; omega
    have e1 : IntKind.u64.wrap (-(18446744073709551616 - N)) = N := by rw [IntKind.wrap_u64]; omega
    have hs : Kept (sgn true N = -N) := ⟨rfl⟩
    have hnp : 0 < N := by omega
    have hnd : decide (0 < N) = true := by simpa using hnp
    have hnd2 : decide (-N < 0) = true := by simpa using hnp
    go_enter Tryz.func32, Tryz.ntmps32
    go_wp2
    go_loopw [3, 4] (fun u m wr => ∃ (R : Int) (D : List Int), u = .int .u64 R ∧ 0 ≤ R ∧ R ≤ 9223372036854775808 ∧ Kept (OfAt N D R) ∧ Kept (Mine 3 .i64 (w.heap.size + 1) wr m D) ∧ Kept (Bxs w [.cells #[.bool false, .slice none 0 0] 25] wr)) (fun u _ _ => (intOf u).toNat)
    case atStart => exact ⟨N, [], rfl, hN0, hN1, ⟨OfAt.start hN0⟩, ⟨Mine.nil _ _ _ _⟩, ⟨(Bxs.start w).alloc (by simp) _⟩⟩
    case round =>
      obtain ⟨R, D, rfl, hR0, hR1, hat, hm, hx⟩ := hrel
      by_cases hR : 0 < R
      · have hlen := hat.out.len (by omega) hR
        obtain ⟨d, hd⟩ : ∃ d, R % 1000000000 = d := ⟨_, rfl⟩
        obtain ⟨R2, hR2⟩ : ∃ R2, R / 1000000000 = R2 := ⟨_, rfl⟩
        have hd0 : 0 ≤ d := by omega
        have hd1 : d < 1000000000 := by omega
        have hq0 : 0 ≤ R2 := by omega
        have hq1 : R2 < R := by omega
        have HNX := Kept.mk (hat.out.next hR)
        have HD := Kept.mk hd
        have HR2 := Kept.mk hR2
        have HMa := Lib.hid (hm.out.alloc (.cells #[.int .i64 d] 3))
        have HNW := Lib.hid (new_one (K := .i64) (x := d) (w := wr.alloc (.cells #[.int .i64 d] 3)) (b := wr.heap.size) (o := 0) (by exact (Row.new (E := 3) (K := .i64) wr [d]).cell (i := 0) (by simp)))
        have HBB := Lib.hid (show w.heap.size + 1 ≤ (wr.alloc (.cells #[.int .i64 d] 3)).heap.size by have := hx.out.l1; simp; omega)
        have H1 := Lib.hid (show (D.length + [d].length) * 8 ≤ 140737488355328 by simp; omega)
        have H2 := Lib.hid (show D.length + [d].length ≤ maxLen by unfold maxLen; simp; omega)
        have hmod : R % 1000000000 = d := hd
        clear hlen hd hR2
        go_wp2_with (at_builtin; refine wpList_append_mine _ rfl _ _ 23 rfl 3 .i64 8 Tryz.underlying23 info_i64 (w.heap.size + 1) _ D rfl HMa.out HBB.out ⟨wr.heap.size, 0, none⟩ 1 1 [d] rfl rfl HNW.out H1.out H2.out ?_)
        intro v' w5 hm5 hg5 hn5
        have HM5 := Kept.mk hm5
        have hg6 := growTrans (World.grownBy_alloc wr (.cells #[.int .i64 d] 3) _) hg5
        have HX5 : Kept (Bxs w [.cells #[.bool false, .slice none 0 0] 25] w5) :=
          ⟨hx.out.1.grown hg6 hx.out.1.size (fun k hk => by have := (hm.out.own k hk).1; omega), Nat.le_trans hx.out.2.1 hg6.size, fun i o hi => by
            have hi0 : i = 0 := by
              apply Classical.byContradiction
              intro hc
              rw [List.getElem?_eq_none (by simp; omega)] at hi
              cases hi
            subst hi0
            have hl := hx.out.l1
            rw [hg6.block (w.heap.size + 0) (by omega) (by cases hv : Value.ownBlock _ with | none => simp | some k => have := (hm.out.own k hv).1; simp; omega)]
            exact hx.out.2.2 0 o hi⟩
        clear hm5 hg5 hn5 hg6
        go_wp2
        go_roundw
        case rel => exact ⟨R2, D ++ [d], congrArg (Value.int .u64) HR2.out, by omega, by omega, ⟨by have := HNX.out; rw [HD.out, HR2.out] at this; exact this⟩, HM5, HX5⟩
        case measure => simp [intOf]; omega
      · obtain rfl : R = 0 := by omega
        have hlen : D.length ≤ 64 := by
          apply Classical.byContradiction
          intro hc
          have h1 : (BN : Int) ^ 63 ≤ BN ^ (D.length - 1) := Dg.pow_mono (by decide) (by omega)
          have h2 := Dg.val_ge (B := BN) (by decide) hat.out.wf (hat.out.nz rfl) (fun e => by rw [e] at hc; simp at hc)
          have h4 := hat.out.eq
          rw [Int.mul_zero, Int.add_zero] at h4
          have h5 : (18446744073709551616 : Int) ≤ BN ^ 63 := by decide
          omega
        have hnum : NumR 64 wr u4 N := hm.out.numR hat.out.wf (hat.out.nz rfl) (by have := hat.out.eq; rw [Int.mul_zero, Int.add_zero] at this; exact this.symm) hlen
        have HNUM := Kept.mk hnum
        obtain ⟨ao, k, c, rfl, _, _⟩ := hnum.form
        clear hlen hnum hm hat
        go_wp2_with fail
        refine (rint_any true HNUM.out).mono ?_
        rintro e w2 ⟨hb2, v2, rfl, s2, u2, rfl, hs2, hn2⟩
        rw [hs.out] at hs2 hn2
        obtain ⟨ao2, k2, c2, rfl, _, _⟩ := hn2.form
        have HX2 := Lib.hid (hx.out.below hb2)
        have hbx := HX2.out.b0
        obtain ⟨c0, c1, f0, f1⟩ := two_cells hbx
        have hsz := HX2.out.l1
        have HE := Kept.mk (rint_end (L := 64) (w := w) (s := s2) (ao := ao2) (k := k2) (c := c2) hbx HX2.out.1 (Nat.le_refl _) hs2 hn2)
        clear hb2 hs2 hn2 hbx
        go_wp2
        exact bodyPost_ret (v := .agg #[.bool s2, .slice ao2 k2 c2]) (by simp [results, Tryz.results32, go_sem, HE.out.2.1, HE.out.2.2]) rfl HE.out.1
  · obtain rfl : N = n := e.symm
    have e0 : IntKind.u64.wrap N = N := by rw [IntKind.wrap_u64]; omega
    have hs : Kept (sgn false N = N) := ⟨rfl⟩
    have hnd : decide (N < 0) = false := by simp; omega
    go_enter Tryz.func32, Tryz.ntmps32
    go_wp2
    go_loopw [3, 4] (fun u m wr => ∃ (R : Int) (D : List Int), u = .int .u64 R ∧ 0 ≤ R ∧ R ≤ 9223372036854775808 ∧ Kept (OfAt N D R) ∧ Kept (Mine 3 .i64 (w.heap.size + 1) wr m D) ∧ Kept (Bxs w [.cells #[.bool false, .slice none 0 0] 25] wr)) (fun u _ _ => (intOf u).toNat)
    case atStart => exact ⟨N, [], rfl, hN0, hN1, ⟨OfAt.start hN0⟩, ⟨Mine.nil _ _ _ _⟩, ⟨(Bxs.start w).alloc (by simp) _⟩⟩
    case round =>
      obtain ⟨R, D, rfl, hR0, hR1, hat, hm, hx⟩ := hrel
      by_cases hR : 0 < R
      · have hlen := hat.out.len (by omega) hR
        obtain ⟨d, hd⟩ : ∃ d, R % 1000000000 = d := ⟨_, rfl⟩
        obtain ⟨R2, hR2⟩ : ∃ R2, R / 1000000000 = R2 := ⟨_, rfl⟩
        have hd0 : 0 ≤ d := by omega
        have hd1 : d < 1000000000 := by omega
        have hq0 : 0 ≤ R2 := by omega
        have hq1 : R2 < R := by omega
        have HNX := Kept.mk (hat.out.next hR)
        have HD := Kept.mk hd
        have HR2 := Kept.mk hR2
        have HMa := Lib.hid (hm.out.alloc (.cells #[.int .i64 d] 3))
        have HNW := Lib.hid (new_one (K := .i64) (x := d) (w := wr.alloc (.cells #[.int .i64 d] 3)) (b := wr.heap.size) (o := 0) (by exact (Row.new (E := 3) (K := .i64) wr [d]).cell (i := 0) (by simp)))
        have HBB := Lib.hid (show w.heap.size + 1 ≤ (wr.alloc (.cells #[.int .i64 d] 3)).heap.size by have := hx.out.l1; simp; omega)
        have H1 := Lib.hid (show (D.length + [d].length) * 8 ≤ 140737488355328 by simp; omega)
        have H2 := Lib.hid (show D.length + [d].length ≤ maxLen by unfold maxLen; simp; omega)
        have hmod : R % 1000000000 = d := hd
        clear hlen hd hR2
        go_wp2_with (at_builtin; refine wpList_append_mine _ rfl _ _ 23 rfl 3 .i64 8 Tryz.underlying23 info_i64 (w.heap.size + 1) _ D rfl HMa.out HBB.out ⟨wr.heap.size, 0, none⟩ 1 1 [d] rfl rfl HNW.out H1.out H2.out ?_)
        intro v' w5 hm5 hg5 hn5
        have HM5 := Kept.mk hm5
        have hg6 := growTrans (World.grownBy_alloc wr (.cells #[.int .i64 d] 3) _) hg5
        have HX5 : Kept (Bxs w [.cells #[.bool false, .slice none 0 0] 25] w5) :=
          ⟨hx.out.1.grown hg6 hx.out.1.size (fun k hk => by have := (hm.out.own k hk).1; omega), Nat.le_trans hx.out.2.1 hg6.size, fun i o hi => by
            have hi0 : i = 0 := by
              apply Classical.byContradiction
              intro hc
              rw [List.getElem?_eq_none (by simp; omega)] at hi
              cases hi
            subst hi0
            have hl := hx.out.l1
            rw [hg6.block (w.heap.size + 0) (by omega) (by cases hv : Value.ownBlock _ with | none => simp | some k => have := (hm.out.own k hv).1; simp; omega)]
            exact hx.out.2.2 0 o hi⟩
        clear hm5 hg5 hn5 hg6
        go_wp2
        go_roundw
        case rel => exact ⟨R2, D ++ [d], congrArg (Value.int .u64) HR2.out, by omega, by omega, ⟨by have := HNX.out; rw [HD.out, HR2.out] at this; exact this⟩, HM5, HX5⟩
        case measure => simp [intOf]; omega
      · obtain rfl : R = 0 := by omega
        have hlen : D.length ≤ 64 := by
          apply Classical.byContradiction
          intro hc
          have h1 : (BN : Int) ^ 63 ≤ BN ^ (D.length - 1) := Dg.pow_mono (by decide) (by omega)
          have h2 := Dg.val_ge (B := BN) (by decide) hat.out.wf (hat.out.nz rfl) (fun e => by rw [e] at hc; simp at hc)
          have h4 := hat.out.eq
          rw [Int.mul_zero, Int.add_zero] at h4
          have h5 : (18446744073709551616 : Int) ≤ BN ^ 63 := by decide
          omega
        have hnum : NumR 64 wr u4 N := hm.out.numR hat.out.wf (hat.out.nz rfl) (by have := hat.out.eq; rw [Int.mul_zero, Int.add_zero] at this; exact this.symm) hlen
        have HNUM := Kept.mk hnum
        obtain ⟨ao, k, c, rfl, _, _⟩ := hnum.form
        clear hlen hnum hm hat
        go_wp2_with fail
        refine (rint_any false HNUM.out).mono ?_
        rintro e w2 ⟨hb2, v2, rfl, s2, u2, rfl, hs2, hn2⟩
        rw [hs.out] at hs2 hn2
        obtain ⟨ao2, k2, c2, rfl, _, _⟩ := hn2.form
        have HX2 := Lib.hid (hx.out.below hb2)
        have hbx := HX2.out.b0
        obtain ⟨c0, c1, f0, f1⟩ := two_cells hbx
        have hsz := HX2.out.l1
        have HE := Kept.mk (rint_end (L := 64) (w := w) (s := s2) (ao := ao2) (k := k2) (c := c2) hbx HX2.out.1 (Nat.le_refl _) hs2 hn2)
        clear hb2 hs2 hn2 hbx
        go_wp2
        exact bodyPost_ret (v := .agg #[.bool s2, .slice ao2 k2 c2]) (by simp [results, Tryz.results32, go_sem, HE.out.2.1, HE.out.2.2]) rfl HE.out.1
end Go.Proofs.YtblbheilddafbaaGreatDoor

set_option linter.unusedVariables false
set_option linter.unusedSimpArgs false
namespace Go.Proofs.YtblbheilddafbaaGreatDoor
open Go Go.RowKit
/-- Digits written: D are those of the i lowest limbs and of k digits of the next one, x, of which v is left. -/
structure StAt (xs D : List Int) (i k : Nat) (x v : Int) : Prop where
  wf : Dg.Wf 10 D
  len : D.length = 9 * i + k
  eq : Dg.val 10 D + 10 ^ D.length * v = Dg.val BN (xs.take i) + BN ^ i * x
  v0 : 0 ≤ v
  v1 : v < 10 ^ (9 - k)
theorem pow9 (i : Nat) : (10 : Int) ^ (9 * i) = BN ^ i := by rw [Int.pow_mul]; rfl
theorem StAt.start {xs D : List Int} {i : Nat} {x : Int} (hw : Dg.Wf 10 D) (hl : D.length = 9 * i) (hv : Dg.val 10 D = Dg.val BN (xs.take i)) (x0 : 0 ≤ x) (x1 : x < 1000000000) : StAt xs D i 0 x x :=
  ⟨hw, by omega, by rw [hv, hl, pow9], x0, by simpa using x1⟩
theorem StAt.next {xs D : List Int} {i k : Nat} {x v : Int} (h : StAt xs D i k x v) (hk : k < 9) : StAt xs (D ++ [v % 10]) i (k + 1) x (v / 10) := by
  obtain ⟨hw, hl, he, h0, h1⟩ := h
  refine ⟨hw.append (Dg.Wf.one (by omega) (by omega)), by simp; omega, ?_, by omega, ?_⟩
  · rw [← he, Dg.val_append, Dg.val_one, List.length_append, List.length_singleton, Int.pow_succ]
    have : 10 ^ D.length * v = 10 ^ D.length * (v % 10 + 10 * (v / 10)) := by congr 1; omega
    rw [this, Int.mul_add, Int.mul_assoc]
    omega
  · have e : (10 : Int) ^ (9 - k) = 10 * 10 ^ (9 - (k + 1)) := by rw [Int.mul_comm, ← Int.pow_succ]; congr 1; omega
    omega
theorem StAt.done {xs D : List Int} {i : Nat} {x v : Int} (h : StAt xs D i 9 x v) (hi : i < xs.length) (hx : x = xs[i]?.getD 0) : Dg.val 10 D = Dg.val BN (xs.take (i + 1)) := by
  have hv : v = 0 := by
    have := h.v0
    have := h.v1
    simp at this
    omega
  have he := h.eq
  rw [hv, Int.mul_zero, Int.add_zero] at he
  rw [he, Dg.val_take_succD, ← hx]
/-- Bytes as numbers. -/
def nat8 (l : List UInt8) : List Int := l.map (fun c => (c.toNat : Int))
theorem dby_nat8 {D : List Int} (h : Dg.Wf 10 D) : dby D = nat8 (D.map Dg.byt) := by
  unfold dby nat8
  rw [List.map_map]
  apply List.map_congr_left
  intro d hd
  have := h d hd
  simp only [Function.comp]
  rw [Dg.byt_nat this.1 this.2]
  omega
theorem nat8_append (a b : List UInt8) : nat8 (a ++ b) = nat8 a ++ nat8 b := by simp [nat8]
theorem nat8_reverse (a : List UInt8) : (nat8 a).reverse = nat8 a.reverse := by simp [nat8]
theorem bytes_of (w : World) {v : Value} {l : List UInt8} (h : Sl .u8 w v (nat8 l)) (hne : l ≠ []) : (convert 107 9 v).run Tryz.prog w = .ok (str l) w := by
  obtain ⟨ao, cap, rfl, hc, hm, hx⟩ := h
  have hlen : (nat8 l).length = l.length := by simp [nat8]
  have h0 : 0 < l.length := List.length_pos_iff.2 hne
  obtain ⟨b, o, rfl, hb, _⟩ := hx 0 (by omega)
  rw [hlen]
  refine run_convert_bytes_back w 107 9 5 ⟨b, o, none⟩ cap l Tryz.underlying107 Tryz.underlying5 Tryz.underlying9 (fun j hj => ?_)
  obtain ⟨b', o', e, _, hcell⟩ := hx j (by omega)
  simp only [Option.some.injEq, Addr.mk.injEq, and_true] at e
  obtain ⟨rfl, rfl⟩ := e
  have : (⟨b, o, none⟩ : Addr).add j = ⟨b, o + j, none⟩ := by simp [Addr.add]
  rw [this, hcell]
  simp [nat8, hj]
/-- A row of one's own, cut at its end. -/
theorem Mine.upto {E : TypeId} {K : IntKind} {B : Nat} {w : World} {g n cap : Nat} {xs : List Int} (h : Mine E K B w (.slice (some ⟨g, 0, none⟩) xs.length cap) xs) (hn : n ≤ xs.length) : Mine E K B w (.slice (some ⟨g, 0, none⟩) n cap) (xs.take n) := by
  rcases h with ⟨e, _⟩ | ⟨g', cap', cur, e, hB, hg, h1, h2, h3, h4⟩
  · cases e
  · simp only [Value.slice.injEq, Option.some.injEq, Addr.mk.injEq, and_true, true_and] at e
    obtain ⟨rfl, rfl⟩ := e
    have hl : (xs.take n).length = n := by simp; omega
    refine .inr ⟨g, cap, cur, by rw [hl], hB, hg, by omega, h2, h3, ?_⟩
    rw [hl, List.map_take, ← h4, List.take_take, Nat.min_eq_left hn]
/-- The digits without the zeros that lead the number. -/
theorem cut_decN {N : Int} {D : List Int} (hw : Dg.Wf 10 D) (hv : Dg.val 10 D = N) (hN : 0 < N) : (Dg.cut D).reverse.map Dg.byt = Dg.decN N.toNat := by
  have h1 := Dg.val_cut 10 D
  rw [← hv, ← h1]
  refine Dg.decN_map hw.cut (Dg.nz_cut D) (fun e => ?_)
  rw [e] at h1
  simp [Dg.val] at h1
  omega
end Go.Proofs.YtblbheilddafbaaGreatDoor

set_option linter.unusedVariables false
set_option linter.unusedSimpArgs false
namespace Go.Proofs.YtblbheilddafbaaGreatDoor
open Go Go.RowKit
theorem Bxs.grow1 {w0 W W' : World} {o : Obj} {r : Option Nat} (h : Bxs w0 [o] W) (hg : W.grownBy W' r) (hr : ∀ k, r = some k → w0.heap.size + 1 ≤ k) : Bxs w0 [o] W' :=
  ⟨h.1.grown hg h.1.size (fun k hk => by have := hr k hk; omega), Nat.le_trans h.2.1 hg.size, fun i o' hi => by
    have hi0 : i = 0 := by
      apply Classical.byContradiction
      intro hc
      rw [List.getElem?_eq_none (by simp; omega)] at hi
      cases hi
    subst hi0
    have hl := h.l1
    rw [hg.block (w0.heap.size + 0) (by omega) (by
      rcases r with _ | k
      · simp
      · have := hr k rfl; simp; omega)]
    exact h.2.2 0 o' hi⟩
/-- The limbs written out so far. -/
structure LmAt (xs D : List Int) (n : Nat) : Prop where
  wf : Dg.Wf 10 D
  len : D.length = 9 * n
  eq : Dg.val 10 D = Dg.val BN (xs.take n)
set_option maxRecDepth 20000 in
set_option maxHeartbeats 4000000 in
theorem rstr_any {L : Nat} {v : Value} {z : Int} {w : World} (h : ZV L w v z) (hL : L ≤ 67108864) :
    Calls Tryz.prog 31 #[v] w (StrRet w (Dg.decZ z)) := by
  obtain ⟨sb, sv, rfl, hsb, xs, a1, a2, a3, a4, a5⟩ := h
  have a1' := a1
  obtain ⟨ao, cap, rfl, hc, hm, hx⟩ := a1
  unfold maxLen at hm
  have HX0 : Hid (Bxs w [.cells #[.bool sb, .slice ao xs.length cap] 25] (w.alloc (.cells #[.bool sb, .slice ao xs.length cap] 25))) := (Bxs.start w).alloc (by simp) _
  by_cases hz : z = 0
  · have hxs : xs = [] := (Dg.val_zero_iff (B := BN) (by decide) a2 a3).1 (by rw [a4, hz]; rfl)
    subst hxs
    subst hz
    simp only [List.length_nil] at HX0 ⊢
    clear hx a1' a2 a3 a4 a5 hsb
    go_enter Tryz.func31, Tryz.ntmps31
    go_wp2
    go_ret
    exact ⟨HX0.out.1, rfl⟩
  · obtain ⟨N, hN⟩ : ∃ N : Int, N = (z.natAbs : Int) := ⟨_, rfl⟩
    have hNp : 0 < N := by omega
    have hxl : 0 < xs.length := by
      apply List.length_pos_iff.2
      intro e
      have h4 : (z.natAbs : Int) = 0 := by rw [← a4, e]; rfl
      omega
    have t0 : ((xs.length : Int) == 0) = false := beq_eq_false_iff_ne.2 (by omega)
    rw [← hN] at a4
    have HN := Kept.mk hN
    have HA4 := Kept.mk a4
    have HSB := Kept.mk hsb
    have HX := Kept.mk hx
    have HWF := Kept.mk a2
    clear hN a4 hsb hx a3 a1'
    go_enter Tryz.func31, Tryz.ntmps31
    go_wp2
    go_loopw [3, 4] (fun bv iv wr => ∃ (n : Nat) (D : List Int), n ≤ xs.length ∧ iv = .int .i64 n ∧ Kept (LmAt xs D n) ∧ Kept (Mine 5 .u8 (w.heap.size + 1) wr bv (dby D)) ∧ Kept (Bxs w [.cells #[.bool sb, .slice ao xs.length cap] 25] wr)) (fun _ iv _ => xs.length - (intOf iv).toNat)
    case atStart => exact ⟨0, [], Nat.zero_le _, rfl, ⟨⟨Dg.Wf.nil _, rfl, rfl⟩⟩, ⟨Mine.nil _ _ _ _⟩, ⟨HX0.out⟩⟩
    case round =>
      obtain ⟨n, D, hn, rfl, hat, hmi, hbx⟩ := hrel
      obtain ⟨wo, rfl⟩ : ∃ wo : World, wo = wr := ⟨_, rfl⟩
      obtain ⟨q0, q1, _⟩ := two_cells hbx.out.b0
      have hl1 := hbx.out.l1
      by_cases hlt : n < xs.length
      · obtain ⟨b, o, rfl, hbs, hcell⟩ := HX.out n hlt
        obtain ⟨x, hxx⟩ : ∃ x, x = xs[n]?.getD 0 := ⟨_, rfl⟩
        have hxb : 0 ≤ x ∧ x < 1000000000 := by rw [hxx]; exact HWF.out.getD (by decide) n
        rw [← hxx] at hcell
        have HXX := Kept.mk hxx
        have hcl := (hbx.out.1.cell (p := ⟨b, o + n, none⟩) hbs).trans hcell
        clear hxx hcell
        go_wp2
        go_loopw [3, 5, 6] (fun bv vv kv wi => ∃ (k : Nat) (y : Int) (D' : List Int), k ≤ 9 ∧ kv = .int .i64 k ∧ vv = .int .i64 y ∧ 0 ≤ y ∧ y < 1000000000 ∧ Kept (StAt xs D' n k x y) ∧ Kept (Mine 5 .u8 (w.heap.size + 1) wi bv (dby D')) ∧ Kept (Bxs w [.cells #[.bool sb, .slice (some ⟨b, o, none⟩) xs.length cap] 25] wi)) (fun _ _ kv _ => 9 - (intOf kv).toNat)
        case atStart => exact ⟨0, x, D, by omega, rfl, rfl, hxb.1, hxb.2, ⟨StAt.start hat.out.wf hat.out.len hat.out.eq hxb.1 hxb.2⟩, hmi, hbx⟩
        case round =>
          clear q0 q1 hcl hbx hmi hl1
          obtain ⟨k, y, D', hk, rfl, rfl, y0, y1, hst, hmi, hbx⟩ := hrel
          by_cases hk9 : k < 9
          · obtain ⟨d, hd⟩ : ∃ d, y % 10 = d := ⟨_, rfl⟩
            obtain ⟨y2, hy2⟩ : ∃ y2, y / 10 = y2 := ⟨_, rfl⟩
            have hd0 : 0 ≤ d := by omega
            have hd1 : d < 10 := by omega
            have hyy0 : 0 ≤ y2 := by omega
            have hyy1 : y2 < 1000000000 := by omega
            have hlen := hst.out.len
            have HST := Kept.mk (hst.out.next hk9)
            have HD := Kept.mk hd
            have HY2 := Kept.mk hy2
            have HMa := Lib.hid (hmi.out.alloc (.cells #[.int .u8 (48 + d)] 5))
            have HNW := Lib.hid (new_one (K := .u8) (x := 48 + d) (w := wr.alloc (.cells #[.int .u8 (48 + d)] 5)) (b := wr.heap.size) (o := 0) (by exact (Row.new (E := 5) (K := .u8) wr [48 + d]).cell (i := 0) (by simp)))
            have HBB := Lib.hid (show w.heap.size + 1 ≤ (wr.alloc (.cells #[.int .u8 (48 + d)] 5)).heap.size by have := hbx.out.l1; simp; omega)
            have H1 := Lib.hid (show ((dby D').length + [48 + d].length) * 1 ≤ 140737488355328 by rw [dby_len]; simp; omega)
            have H2 := Lib.hid (show (dby D').length + [48 + d].length ≤ maxLen by rw [dby_len]; unfold maxLen; simp; omega)
            clear hlen hy2
            go_wp2_with (at_builtin; refine wpList_append_mine _ rfl _ _ 107 rfl 5 .u8 1 Tryz.underlying107 info_u8 (w.heap.size + 1) _ (dby D') rfl HMa.out HBB.out ⟨wr.heap.size, 0, none⟩ 1 1 [48 + d] rfl rfl HNW.out H1.out H2.out ?_)
            intro v' w5 hm5 hg5 hn5
            have HM5 := Kept.mk hm5
            have HX5 := Kept.mk (hbx.out.grow1 (growTrans (World.grownBy_alloc wr (.cells #[.int .u8 (48 + d)] 5) _) hg5) (fun k hk => (hmi.out.own k hk).1))
            clear hm5 hg5 hn5
            go_wp2
            go_roundw
            case rel => exact ⟨k + 1, y2, D' ++ [d], by omega, by go_num, congrArg (Value.int .i64) HY2.out, hyy0, hyy1, ⟨by have := HST.out; rw [HD.out, HY2.out] at this; exact this⟩, ⟨by rw [dby_snoc]; exact HM5.out⟩, HX5⟩
            case measure => simp [intOf]; omega
          · obtain rfl : k = 9 := by omega
            have HDN := Kept.mk (hst.out.done hlt HXX.out)
            go_wp2
            go_roundw
            case rel => exact ⟨n + 1, D', by omega, by go_num, ⟨⟨hst.out.wf, by have := hst.out.len; omega, HDN.out⟩⟩, hmi, hbx⟩
            case measure => simp [intOf]; omega
      · obtain rfl : n = xs.length := by omega
        have hval : Dg.val 10 D = N := by rw [hat.out.eq, List.take_of_length_le (Nat.le_refl _)]; exact HA4.out
        have hDl : D.length = 9 * xs.length := hat.out.len
        have HWD := Kept.mk hat.out.wf
        have HVAL := Kept.mk hval
        obtain ⟨g, cap', eb, _, hgs, hcapb, hcmb, _⟩ := hmi.out.at (i := 0) (by rw [dby_len]; omega)
        rw [dby_len] at eb hcapb
        subst eb
        unfold maxLen at hcmb
        have HMI := Kept.mk hmi.out
        clear hval
        go_wp2
        go_loop [3] (fun b => ∃ m : Nat, 0 < m ∧ m ≤ D.length ∧ b = .slice (some ⟨g, 0, none⟩) m cap' ∧ Kept (∀ i, m ≤ i → D[i]?.getD 0 = 0)) (fun b => match b with | .slice _ m _ => m | _ => 0)
        case atStart => exact ⟨D.length, by omega, Nat.le_refl _, rfl, ⟨fun i hi => by simp [hi]⟩⟩
        case round =>
          obtain ⟨m, hm0, hmD, rfl, hzs⟩ := hrel
          obtain ⟨j, rfl⟩ : ∃ j, m = j + 1 := ⟨m - 1, by omega⟩
          obtain ⟨_, _, e5, _, _, _, _, hcell, hfz, _⟩ := HMI.out.at (i := j) (by rw [dby_len]; omega)
          rw [dby_len] at e5
          simp only [Value.slice.injEq, Option.some.injEq, Addr.mk.injEq, and_true, true_and] at e5
          obtain ⟨rfl, rfl⟩ := e5
          obtain ⟨d, hd⟩ : ∃ d, d = D[j]?.getD 0 := ⟨_, rfl⟩
          have hdb := HWD.out.getD (by decide) j
          rw [← hd] at hdb
          have ed : (dby D)[j]?.getD 0 = 48 + d := by
            have hjl : j < D.length := by omega
            rw [hd]; simp [dby, hjl]
          rw [ed] at hcell
          have HD := Kept.mk hd
          clear ed hd
          by_cases hd0 : d = 0
          · subst hd0
            have hj0 : 0 < j := by
              apply Nat.pos_of_ne_zero
              intro hj
              subst hj
              have hz0 : ∀ i : Nat, D[i]?.getD (0 : Int) = 0 := fun i => by
                by_cases hi : i = 0
                · rw [hi]; exact HD.out.symm
                · exact hzs.out i (by omega)
              have := Dg.val_of_zeros (B := 10) hz0
              have := HVAL.out
              omega
            have HZ2 : Kept (∀ i, j ≤ i → D[i]?.getD 0 = 0) := ⟨fun i hi => by
              by_cases e : i = j
              · rw [e]; exact HD.out.symm
              · exact hzs.out i (by omega)⟩
            go_wp2
            go_round
            case rel => exact ⟨j, hj0, by omega, rfl, HZ2⟩
            case measure => simp
          · have hcut : Dg.cut D = D.take (j + 1) := Dg.cut_eq D (j + 1) hzs.out (.inr (by rw [Nat.add_sub_cancel, ← HD.out]; exact hd0))
            have hdec := cut_decN HWD.out HVAL.out hNp
            rw [hcut] at hdec
            have hMF := HMI.out
            rw [← dby_len D] at hMF
            have hMF2 := hMF.upto (n := j + 1) (by rw [dby_len]; omega)
            have eE : (dby D).take (j + 1) = nat8 ((D.take (j + 1)).map Dg.byt) := by
              rw [← dby_nat8 (HWD.out.take _)]; unfold dby; rw [List.map_take]
            rw [eE] at hMF2
            obtain ⟨l, hl⟩ : ∃ l, l = (D.take (j + 1)).map Dg.byt := ⟨_, rfl⟩
            have hll : l.length = j + 1 := by rw [hl]; simp; omega
            have hlr : l.reverse = Dg.decN N.toNat := by rw [hl, ← List.map_reverse]; exact hdec
            rw [← hl] at hMF2
            have HM2 := Kept.mk hMF2
            have HLL := Kept.mk hll
            have HLR := Kept.mk hlr
            have hd48 : ((48 + d) == 48) = false := beq_eq_false_iff_ne.2 (by omega)
            clear hcut hdec hMF hMF2 eE hl hll hlr hfz
            cases sb
            · have hdz : Dg.decZ z = Dg.decN N.toNat := by
                have hz0 : ¬ z < 0 := by have := HSB.out; simpa using this.symm
                have e : N.toNat = z.natAbs := by rw [HN.out, Int.toNat_natCast]
                unfold Dg.decZ; rw [if_neg hz0, e]
              obtain ⟨F, hF⟩ : ∃ F, F = l := ⟨_, rfl⟩
              have hFne : F ≠ [] := by rw [hF]; intro e; have := HLL.out; rw [e] at this; simp at this
              have HFZ : Kept (F.reverse = Dg.decZ z) := ⟨by rw [hF, HLR.out, hdz]⟩
              have hFL : F.length = j + 1 := by rw [hF]; exact HLL.out
              have HMF : Kept (Mine 5 .u8 (w.heap.size + 1) wo (.slice (some ⟨g, 0, none⟩) (j + 1) cap') (nat8 F)) := ⟨by rw [hF]; exact HM2.out⟩
              have HBF : Kept (Below w.heap.size w wo) := ⟨hbx.out.1⟩
              have hnl : (nat8 F).length = j + 1 := by rw [← hFL]; simp [nat8]
              obtain ⟨g2', cap2', eb, hgB2, _, _, _, _⟩ := HMF.out.at (i := 0) (by omega)
              have hgB3 : w.heap.size + 1 ≤ g := by
                simp only [Value.slice.injEq, Option.some.injEq, Addr.mk.injEq, and_true] at eb
                omega
              have HNL := Kept.mk hnl
              clear hnl eb hgB2
              clear hF hdz
              go_wp2
              go_loopw [7, 8] (fun si sj wr => ∃ (i j' : Nat) (ys : List Int), i + j' + 1 ≤ (j + 1) ∧ (j + 1) ≤ i + j' + 1 ∧ si = .int .i64 i ∧ sj = .int .i64 j' ∧ Kept (RvAt (nat8 F) ys i j') ∧ Kept (Mine 5 .u8 (w.heap.size + 1) wr (.slice (some ⟨g, 0, none⟩) (j + 1) cap') ys) ∧ Kept (Below w.heap.size w wr)) (fun _ sj _ => (intOf sj).toNat)
              case atStart => exact ⟨0, (j + 1) - 1, nat8 F, by omega, by omega, rfl, by first | rfl | (congr 1; omega), ⟨⟨rfl, fun t ht => by rw [HNL.out] at ht; rw [if_pos (by omega)]⟩⟩, HMF, HBF⟩
              case round =>
                obtain ⟨i, j', ys, hs1, hs2, rfl, rfl, hrv, hMr, hbw⟩ := hrel
                have HYL := Kept.mk (hrv.out.1.trans HNL.out)
                by_cases hlt2 : i < j'
                · obtain ⟨g3, cap3, e3, hgB, hgs, hca, hcm, hci, hcj, hfi, hfj, hset⟩ := hMr.out.two (i := i) (j := j') (by have := HYL.out; omega) (by have := HYL.out; omega)
                  simp only [Value.slice.injEq, Option.some.injEq, Addr.mk.injEq, and_true, true_and] at e3
                  obtain ⟨rfl, hl', rfl⟩ := e3
                  clear hl'
                  obtain ⟨x, hx2⟩ : ∃ x, x = ys[i]?.getD 0 := ⟨_, rfl⟩
                  obtain ⟨y, hy2⟩ : ∃ y, y = ys[j']?.getD 0 := ⟨_, rfl⟩
                  rw [← hx2] at hci
                  rw [← hy2] at hcj
                  have HX2 := Kept.mk hx2
                  have HY2 := Kept.mk hy2
                  have HSET := Kept.mk hset
                  have hil : i < (j + 1) := by omega
                  have hjl : j' < (j + 1) := by omega
                  have hij : ¬ i = j' := by omega
                  clear hx2 hy2 hset hcm hca
                  go_wp2
                  go_roundw
                  case rel => exact ⟨i + 1, j' - 1, (ys.set i y).set j' x, by omega, by omega, by go_num, by congr 1; omega, ⟨hrv.out.next hlt2 (by rw [HNL.out]; omega) HX2.out HY2.out⟩, ⟨HSET.out y x⟩, ⟨(hbw.out.setCell (p := ⟨g, i, none⟩) (by simp; omega) _).setCell (p := ⟨g, j', none⟩) (by simp; omega) _⟩⟩
                  case measure => simp [intOf] <;> omega
                · have he := hrv.out.done (by omega) (by rw [HNL.out]; omega)
                  have hSl := hMr.out.sl
                  rw [he, nat8_reverse] at hSl
                  have hcv := bytes_of wr (l := F.reverse) (by exact hSl) (by simpa using hFne)
                  unfold str at hcv
                  rw [HFZ.out] at hcv
                  have hcv2 : ∀ w', w' = wr → (convert 107 9 (.slice (some ⟨g, 0, none⟩) (j + 1) cap')).run Tryz.prog w' = .ok (.string ⟨(Dg.decZ z).toArray⟩) w' := fun w' e => by rw [e]; exact hcv
                  have hcv3 := hcv2 wr rfl
                  clear he hSl hcv hcv2
                  go_wp2
                  go_ret
                  exact ⟨hbw.out, rfl⟩
            · have HBXX := Kept.mk hbx.out
              have hjb : j + 1 ≤ 9 * 67108864 := by omega
              have HMa := Lib.hid (HM2.out.alloc (.cells #[.int .u8 45] 5))
              have HNW := Lib.hid (new_one (K := .u8) (x := 45) (w := wo.alloc (.cells #[.int .u8 45] 5)) (b := wo.heap.size) (o := 0) (by exact (Row.new (E := 5) (K := .u8) wo [45]).cell (i := 0) (by simp)))
              have HBB := Lib.hid (show w.heap.size + 1 ≤ (wo.alloc (.cells #[.int .u8 45] 5)).heap.size by have := hbx.out.l1; simp; omega)
              have hn8 : (nat8 l).length = j + 1 := by simp [nat8, HLL.out]
              have H1 := Lib.hid (show ((nat8 l).length + [(45 : Int)].length) * 1 ≤ 140737488355328 by rw [hn8]; simp; omega)
              have H2 := Lib.hid (show (nat8 l).length + [(45 : Int)].length ≤ maxLen by rw [hn8]; unfold maxLen; simp; omega)
              clear hn8
              go_wp2_with (at_builtin; refine wpList_append_mine _ rfl _ _ 107 rfl 5 .u8 1 Tryz.underlying107 info_u8 (w.heap.size + 1) _ (nat8 l) rfl HMa.out HBB.out ⟨wo.heap.size, 0, none⟩ 1 1 [45] rfl rfl HNW.out H1.out H2.out ?_)
              intro v' wq hm5 hg5 hn5
              have hdz : Dg.decZ z = 45 :: Dg.decN N.toNat := by
                have hz0 : z < 0 := by have := HSB.out; simpa using this.symm
                have e : N.toNat = z.natAbs := by rw [HN.out, Int.toNat_natCast]
                unfold Dg.decZ; rw [if_pos hz0, e]
              obtain ⟨F, hF⟩ : ∃ F : List UInt8, F = l ++ [45] := ⟨_, rfl⟩
              have hFne : F ≠ [] := by rw [hF]; simp
              have HFZ : Kept (F.reverse = Dg.decZ z) := ⟨by rw [hF, hdz, ← HLR.out]; simp⟩
              have HMF : Kept (Mine 5 .u8 (w.heap.size + 1) wq v' (nat8 F)) := ⟨by rw [hF, nat8_append]; exact hm5⟩
              have HBF : Kept (Below w.heap.size w wq) := ⟨(HBXX.out.grow1 (growTrans (World.grownBy_alloc wo (.cells #[.int .u8 45] 5) _) hg5) (fun k hk => (HM2.out.own k hk).1)).1⟩
              have hFlen : F.length ≤ 9 * 67108864 + 1 := by rw [hF]; simp [HLL.out]; omega
              clear hm5 hg5 hn5 hF hdz
              have hFl : 0 < F.length := List.length_pos_iff.2 hFne
              have hFl : 0 < F.length := List.length_pos_iff.2 hFne
              have hnl : (nat8 F).length = F.length := by simp [nat8]
              obtain ⟨g2, cap2, eb, _, hg2s, hcap2, hcm2, _⟩ := HMF.out.at (i := 0) (by omega)
              rw [hnl] at eb hcap2
              subst eb
              unfold maxLen at hcm2
              have HNL := Kept.mk hnl
              clear hnl
              go_wp2
              go_loopw [7, 8] (fun si sj wr => ∃ (i j : Nat) (ys : List Int), i + j + 1 ≤ F.length ∧ F.length ≤ i + j + 1 ∧ si = .int .i64 i ∧ sj = .int .i64 j ∧ Kept (RvAt (nat8 F) ys i j) ∧ Kept (Mine 5 .u8 (w.heap.size + 1) wr (.slice (some ⟨g2, 0, none⟩) F.length cap2) ys) ∧ Kept (Below w.heap.size w wr)) (fun _ sj _ => (intOf sj).toNat)
              case atStart => exact ⟨0, F.length - 1, nat8 F, by omega, by omega, rfl, by congr 1; omega, ⟨⟨rfl, fun t ht => by rw [HNL.out] at ht; rw [if_pos (by omega)]⟩⟩, HMF, HBF⟩
              case round =>
                obtain ⟨i, j, ys, hs1, hs2, rfl, rfl, hrv, hMr, hbw⟩ := hrel
                have HYL := Kept.mk (hrv.out.1.trans HNL.out)
                by_cases hlt2 : i < j
                · obtain ⟨g3, cap3, e3, hgB, hgs, hca, hcm, hci, hcj, hfi, hfj, hset⟩ := hMr.out.two (i := i) (j := j) (by have := HYL.out; omega) (by have := HYL.out; omega)
                  simp only [Value.slice.injEq, Option.some.injEq, Addr.mk.injEq, and_true, true_and] at e3
                  obtain ⟨rfl, hl', rfl⟩ := e3
                  clear hl'
                  obtain ⟨x, hx2⟩ : ∃ x, x = ys[i]?.getD 0 := ⟨_, rfl⟩
                  obtain ⟨y, hy2⟩ : ∃ y, y = ys[j]?.getD 0 := ⟨_, rfl⟩
                  rw [← hx2] at hci
                  rw [← hy2] at hcj
                  have HX2 := Kept.mk hx2
                  have HY2 := Kept.mk hy2
                  have HSET := Kept.mk hset
                  have hil : i < F.length := by omega
                  have hjl : j < F.length := by omega
                  have hij : ¬ i = j := by omega
                  clear hx2 hy2 hset hcm hca
                  go_wp2
                  go_roundw
                  case rel => exact ⟨i + 1, j - 1, (ys.set i y).set j x, by omega, by omega, by go_num, by congr 1; omega, ⟨hrv.out.next hlt2 (by rw [HNL.out]; omega) HX2.out HY2.out⟩, ⟨HSET.out y x⟩, ⟨(hbw.out.setCell (p := ⟨g2, i, none⟩) (by simp; omega) _).setCell (p := ⟨g2, j, none⟩) (by simp; omega) _⟩⟩
                  case measure => simp [intOf] <;> omega
                · have he := hrv.out.done (by omega) (by rw [HNL.out]; omega)
                  have hSl := hMr.out.sl
                  rw [he, nat8_reverse] at hSl
                  have hcv := bytes_of wr (l := F.reverse) (by exact hSl) (by simpa using hFne)
                  unfold str at hcv
                  rw [HFZ.out] at hcv
                  have hcv2 : ∀ w', w' = wr → (convert 107 9 (.slice (some ⟨g2, 0, none⟩) F.length cap2)).run Tryz.prog w' = .ok (.string ⟨(Dg.decZ z).toArray⟩) w' := fun w' e => by rw [e]; exact hcv
                  have hcv3 := hcv2 wr rfl
                  clear he hSl hcv hcv2
                  go_wp2
                  go_ret
                  exact ⟨hbw.out, rfl⟩
end Go.Proofs.YtblbheilddafbaaGreatDoor
