/-
  Texts of the proof, merged by program: TI64 TRef1 TRam TZtr TZad TZsu TZmu.
-/
import Derived.Test.YtfhhnfpapgfnmaaGreatV4
import Derived.Test.YtfhhnfpapgfnmaaGreatV3
import Derived.Test.YtfhhnfpapgfnmaaGreatV7
set_option linter.unusedVariables false
set_option linter.unusedSimpArgs false
namespace Go.Proofs.YtfhhnfpapgfnmaaGreat
open Go Go.RowKit
/-- Is the integer an int64? -/
def fits64 (z : Int) : Bool := decide (-9223372036854775808 ≤ z) && decide (z ≤ 9223372036854775807)
/-- The int64 that Int64 returns. -/
def v64 (z : Int) : Int := if fits64 z = true then z else 0
end Go.Proofs.YtfhhnfpapgfnmaaGreat

set_option linter.unusedVariables false
set_option linter.unusedSimpArgs false
namespace Go.Proofs.YtfhhnfpapgfnmaaGreat
open Go Go.RowKit
/-- The base of the limbs. -/
abbrev BN : Int := 1000000000
theorem tinfo_i64 : (Tryz.prog.info? 3).map (fun i => (i.zero, i.size, i.bytes)) = some (some (.int .i64 0), 1, 8) := by kernel_rfl
/-- The slice value v holds the limbs of n, at most L of them. -/
def NumR (L : Nat) (w : World) (v : Value) (n : Int) : Prop := ∃ xs, Sl .i64 w v xs ∧ Dg.Wf BN xs ∧ Dg.Nz xs ∧ Dg.val BN xs = n ∧ xs.length ≤ L
theorem NumR.below {L : Nat} {w w' : World} {v : Value} {n : Int} (h : NumR L w v n) (hb : Below w.heap.size w w') : NumR L w' v n :=
  let ⟨xs, h1, h2⟩ := h; ⟨xs, h1.below hb, h2⟩
theorem NumR.mono {L L' : Nat} {w : World} {v : Value} {n : Int} (h : NumR L w v n) (hL : L ≤ L') : NumR L' w v n :=
  let ⟨xs, h1, h2, h3, h4, h5⟩ := h; ⟨xs, h1, h2, h3, h4, by omega⟩
theorem NumR.form {L : Nat} {w : World} {v : Value} {n : Int} (h : NumR L w v n) : ∃ ao k cap, v = .slice ao k cap ∧ (k = 0 ↔ n = 0) ∧ 0 ≤ n := by
  obtain ⟨xs, ⟨ao, cap, e, _⟩, a2, a3, a4, _⟩ := h
  refine ⟨ao, _, cap, e, ?_, by rw [← a4]; exact Dg.val_nonneg (by decide) a2⟩
  rw [← a4, Dg.val_zero_iff (by decide) a2 a3]
  exact List.length_eq_zero_iff
theorem NumR.box {L : Nat} {w : World} {v : Value} {n : Int} {g : Nat} {x : Bool} {a : Option Addr} {k c : Nat} {T : TypeId} (h : NumR L w v n) (hg : w.heap[g]? = some (.cells #[.bool x, .slice a k c] T (0, 0))) (u u' : Value) :
    NumR L ((w.setCell ⟨g, 0, none⟩ u).setCell ⟨g, 1, none⟩ u') v n := by
  obtain ⟨xs, h1, h2⟩ := h
  refine ⟨xs, h1.kept (tgrowSet (tgrowSet (tgrowRefl w (some g)) 0 u) 1 u') (fun k hk e => ?_), h2⟩
  refine h1.not_boxT hg (fun i m => ?_) (hk.trans e.symm)
  rcases i with _ | _ | i <;> simp
/-- The struct value v is the reference's integer z. -/
def ZV (L : Nat) (w : World) (v : Value) (z : Int) : Prop := ∃ sb sv, v = .agg #[.bool sb, sv] ∧ sb = decide (z < 0) ∧ NumR L w sv z.natAbs
def RetZ (L : Nat) (w : World) (z : Int) (e : Ending) (w' : World) : Prop := Below w.heap.size w w' ∧ ∃ v', e = .returned v' ∧ ZV L w' v' z
theorem ZV.below {L : Nat} {w w' : World} {v : Value} {z : Int} (h : ZV L w v z) (hb : Below w.heap.size w w') : ZV L w' v z := let ⟨sb, sv, e, h1, hn⟩ := h; ⟨sb, sv, e, h1, hn.below hb⟩
theorem ZV.mono {L L' : Nat} {w : World} {v : Value} {z : Int} (h : ZV L w v z) (hL : L ≤ L') : ZV L' w v z := let ⟨sb, sv, e, h1, hn⟩ := h; ⟨sb, sv, e, h1, hn.mono hL⟩
set_option maxHeartbeats 400000 in
theorem rint_any {L : Nat} (neg : Bool) {sv : Value} {m : Int} {w : World} (h : NumR L w sv m) :
    Calls Tryz.prog 26 #[.bool neg, sv] w (RetZ L w (sgn neg m)) := by
  have hN := h
  obtain ⟨ao, k, cap, rfl, hk, hm0⟩ := h.form
  have hb : Below w.heap.size w (w.alloc (.cells #[.bool (decide (sgn neg m < 0)), .slice ao k cap] 38)) := (Below.refl _ _).alloc (Nat.le_refl _) _
  have hI : Hid (RetZ L w (sgn neg m) (.returned (.agg #[.bool (decide (sgn neg m < 0)), .slice ao k cap])) (w.alloc (.cells #[.bool (decide (sgn neg m < 0)), .slice ao k cap] 38))) :=
    ⟨hb, _, rfl, _, _, rfl, rfl, by
      have e : ((sgn neg m).natAbs : Int) = m := by unfold sgn; split <;> omega
      rw [e]; exact hN.below hb⟩
  by_cases hs : neg = true ∧ 0 < m
  · obtain ⟨rfl, hp⟩ := hs
    have hl : 0 < k := Nat.pos_of_ne_zero (fun e => by have := hk.1 e; omega)
    have e : decide (sgn true m < 0) = true := by simp [sgn]; omega
    rw [e] at hI
    clear hk hm0 hb e hN h hp
    go_enter Tryz.func26, Tryz.ntmps26
    go_wp2
    exact bodyPost_ret (v := .agg #[.bool true, .slice ao k cap]) (by simp [results, Tryz.results26, go_sem]) rfl hI.out
  · have e : decide (sgn neg m < 0) = false := by
      unfold sgn
      cases neg
      · simp; omega
      · simp at hs ⊢; omega
    rw [e] at hI
    cases neg
    · clear hk hm0 hb e hN h hs
      go_enter Tryz.func26, Tryz.ntmps26
      go_wp2
      exact bodyPost_ret (v := .agg #[.bool false, .slice ao k cap]) (by simp [results, Tryz.results26, go_sem]) rfl hI.out
    · obtain rfl : k = 0 := hk.2 (by simp at hs; omega)
      clear hk hm0 hb e hN h hs
      go_enter Tryz.func26, Tryz.ntmps26
      go_wp2
      exact bodyPost_ret (v := .agg #[.bool false, .slice ao 0 cap]) (by simp [results, Tryz.results26, go_sem]) rfl hI.out
/-- Limbs taken so far: D; R is left of N. -/
structure OfAt (N : Int) (D : List Int) (R : Int) : Prop where
  wf : Dg.Wf BN D
  eq : N = Dg.val BN D + BN ^ D.length * R
  nz : R = 0 → Dg.Nz D
  R0 : 0 ≤ R
theorem OfAt.start {N : Int} (h : 0 ≤ N) : OfAt N [] N := ⟨Dg.Wf.nil _, by simp [Dg.val], fun _ => Dg.Nz.nil, h⟩
theorem OfAt.next {N R : Int} {D : List Int} (h : OfAt N D R) (hR : 0 < R) : OfAt N (D ++ [R % 1000000000]) (R / 1000000000) := by
  obtain ⟨hw, he, _, _⟩ := h
  refine ⟨hw.append (Dg.Wf.one (by omega) (by show _ < (1000000000 : Int); omega)), ?_, ?_, by omega⟩
  · rw [Dg.val_append, Dg.val_one, he, List.length_append, List.length_singleton, Int.pow_succ]
    have : BN ^ D.length * R = BN ^ D.length * (R % 1000000000 + BN * (R / 1000000000)) := by congr 1; unfold BN; omega
    rw [this, Int.mul_add, Int.mul_assoc]
    omega
  · intro h0 hne
    simp
    omega
theorem OfAt.len {N R : Int} {D : List Int} (h : OfAt N D R) (hN : N < 18446744073709551616) (hR : 0 < R) : D.length < 64 := by
  apply Classical.byContradiction
  intro hc
  have h1 : (BN : Int) ^ 64 ≤ BN ^ D.length := Dg.pow_mono (by decide) (by omega)
  have h2 := Dg.val_nonneg (B := BN) (by decide) h.wf
  have h3 := Leh.mul_ge (a := BN ^ D.length) (b := R) (Int.le_of_lt (Dg.pow_pos (by decide) _)) (by omega)
  have h4 := h.eq
  have h5 : (18446744073709551616 : Int) ≤ BN ^ 64 := by decide
  omega
/-- The end of a call that stores the reference's integer into its result's box g. -/
theorem rint_end {L : Nat} {z : Int} {w W : World} {g : Nat} {s x : Bool} {ao bo : Option Addr} {k c k' c' : Nat} {T : TypeId} (hg : W.heap[g]? = some (.cells #[.bool x, .slice bo k' c'] T (0, 0)))
    (hb : Below w.heap.size w W) (hgw : w.heap.size ≤ g) (hs : s = decide (z < 0)) (hn : NumR L W (.slice ao k c) z.natAbs) :
    RetZ L w z (.returned (.agg #[.bool s, .slice ao k c])) ((W.setCell ⟨g, 0, none⟩ (.bool s)).setCell ⟨g, 1, none⟩ (.slice ao k c)) ∧
      ((W.setCell ⟨g, 0, none⟩ (.bool s)).setCell ⟨g, 1, none⟩ (.slice ao k c)).cell? ⟨g, 0, none⟩ = some (.bool s) ∧ ((W.setCell ⟨g, 0, none⟩ (.bool s)).setCell ⟨g, 1, none⟩ (.slice ao k c)).cell? ⟨g, 1, none⟩ = some (.slice ao k c) := by
  obtain ⟨q0, q1, _, _⟩ := ttwo_cells (ttwo_set hg (.bool s) (.slice ao k c))
  exact ⟨⟨(hb.setCell (p := ⟨g, 0, none⟩) hgw _).setCell (p := ⟨g, 1, none⟩) hgw _, _, rfl, _, _, rfl, hs, hn.box hg _ _⟩, q0, q1⟩
theorem Mine.numR {E : TypeId} {B L : Nat} {w : World} {v : Value} {xs : List Int} {n : Int} (h : Mine E .i64 B w v xs) (hw : Dg.Wf BN xs) (hz : Dg.Nz xs) (hv : Dg.val BN xs = n) (hl : xs.length ≤ L) : NumR L w v n := ⟨xs, h.sl, hw, hz, hv, hl⟩
set_option maxRecDepth 20000 in
set_option maxHeartbeats 2000000 in
theorem rof_any (n : Int) (w : World) (h0 : -9223372036854775808 ≤ n) (h1 : n ≤ 9223372036854775807) :
    Calls Tryz.prog 10 #[.int .i64 n] w (RetZ 64 w n) := by
  obtain ⟨N, hN⟩ : ∃ N : Int, N = (n.natAbs : Int) := ⟨_, rfl⟩
  have hN0 : 0 ≤ N := by omega
  have hN1 : N ≤ 9223372036854775808 := by omega
  have HN := TKept.mk hN
  have hcase : (n < 0 ∧ n = -N) ∨ (0 ≤ n ∧ n = N) := by omega
  clear hN
  rcases hcase with ⟨hneg, rfl⟩ | ⟨hpos, e⟩
  · have e0 : IntKind.u64.wrap (-N) = 18446744073709551616 - N := by rw [IntKind.wrap_u64]; omega
    have e1 : IntKind.u64.wrap (-(18446744073709551616 - N)) = N := by rw [IntKind.wrap_u64]; omega
    have hs : TKept (sgn true N = -N) := ⟨rfl⟩
    have hnp : 0 < N := by omega
    have hnd : decide (0 < N) = true := by simpa using hnp
    have hnd2 : decide (-N < 0) = true := by simpa using hnp
    go_enter Tryz.func10, Tryz.ntmps10
    go_wp2
    go_loopw [3, 4] (fun u m wr => ∃ (R : Int) (D : List Int), u = .int .u64 R ∧ 0 ≤ R ∧ R ≤ 9223372036854775808 ∧ TKept (OfAt N D R) ∧ TKept (Mine 3 .i64 (w.heap.size + 1) wr m D) ∧ TKept (TBxs w [.cells #[.bool false, .slice none 0 0] 38] wr)) (fun u _ _ => (intOf u).toNat)
    case atStart => exact ⟨N, [], rfl, hN0, hN1, ⟨OfAt.start hN0⟩, ⟨Mine.nil _ _ _ _⟩, ⟨(TBxs.start w).alloc (by simp) _⟩⟩
    case round =>
      obtain ⟨R, D, rfl, hR0, hR1, hat, hm, hx⟩ := hrel
      by_cases hR : 0 < R
      · have hlen := hat.out.len (by omega) hR
        obtain ⟨d, hd⟩ : ∃ d, R % 1000000000 = d := ⟨_, rfl⟩
        obtain ⟨R2, hR2⟩ : ∃ R2, R / 1000000000 = R2 := ⟨_, rfl⟩
        have hd0 : 0 ≤ d := by omega
        have hd1 : d < 1000000000 := by omega
        have hq0 : 0 ≤ R2 := by omega
        have hq1 : R2 < R := by omega
        have HNX := TKept.mk (hat.out.next hR)
        have HD := TKept.mk hd
        have HR2 := TKept.mk hR2
        have HMa := Lib.hid (hm.out.alloc (.cells #[.int .i64 d] 3))
        have HNW := Lib.hid (new_one (K := .i64) (x := d) (w := wr.alloc (.cells #[.int .i64 d] 3)) (b := wr.heap.size) (o := 0) (by exact (Row.new (E := 3) (K := .i64) wr [d]).cell (i := 0) (by simp)))
        have HBB := Lib.hid (show w.heap.size + 1 ≤ (wr.alloc (.cells #[.int .i64 d] 3)).heap.size by have := hx.out.l1; simp; omega)
        have H1 := Lib.hid (show (D.length + [d].length) * 8 ≤ 140737488355328 by simp; omega)
        have H2 := Lib.hid (show D.length + [d].length ≤ maxLen by unfold maxLen; simp; omega)
        have hmod : R % 1000000000 = d := hd
        clear hlen hd hR2
        go_wp2_with (at_builtin; refine wpList_append_mine _ rfl _ _ 36 rfl 3 .i64 8 Tryz.underlying36 tinfo_i64 (w.heap.size + 1) _ D rfl HMa.out HBB.out ⟨wr.heap.size, 0, none⟩ 1 1 [d] rfl rfl HNW.out H1.out H2.out ?_)
        intro v' w5 hm5 hg5 hn5
        have HM5 := TKept.mk hm5
        have hg6 := tgrowTrans (World.grownBy_alloc wr (.cells #[.int .i64 d] 3) _) hg5
        have HX5 : TKept (TBxs w [.cells #[.bool false, .slice none 0 0] 38] w5) :=
          ⟨hx.out.1.grown hg6 hx.out.1.size (fun k hk => by have := (hm.out.own k hk).1; omega), Nat.le_trans hx.out.2.1 hg6.size, fun i o hi => by
            have hi0 : i = 0 := by
              apply Classical.byContradiction
              intro hc
              rw [List.getElem?_eq_none (by simp; omega)] at hi
              cases hi
            subst hi0
            have hl := hx.out.l1
            rw [hg6.block (w.heap.size + 0) (by omega) (by cases hv : Value.ownBlock _ with | none => simp | some k => have := (hm.out.own k hv).1; simp; omega)]
            exact hx.out.2.2 0 o hi⟩
        clear hm5 hg5 hn5 hg6
        go_wp2
        go_roundw
        case rel => exact ⟨R2, D ++ [d], congrArg (Value.int .u64) HR2.out, by omega, by omega, ⟨by have := HNX.out; rw [HD.out, HR2.out] at this; exact this⟩, HM5, HX5⟩
        case measure => simp [intOf]; omega
      · obtain rfl : R = 0 := by omega
        have hlen : D.length ≤ 64 := by
          apply Classical.byContradiction
          intro hc
          have h1 : (BN : Int) ^ 63 ≤ BN ^ (D.length - 1) := Dg.pow_mono (by decide) (by omega)
          have h2 := Dg.val_ge (B := BN) (by decide) hat.out.wf (hat.out.nz rfl) (fun e => by rw [e] at hc; simp at hc)
          have h4 := hat.out.eq
          rw [Int.mul_zero, Int.add_zero] at h4
          have h5 : (18446744073709551616 : Int) ≤ BN ^ 63 := by decide
          omega
        have hnum : NumR 64 wr u4 N := hm.out.numR hat.out.wf (hat.out.nz rfl) (by have := hat.out.eq; rw [Int.mul_zero, Int.add_zero] at this; exact this.symm) hlen
        have HNUM := TKept.mk hnum
        obtain ⟨ao, k, c, rfl, _, _⟩ := hnum.form
        clear hlen hnum hm hat
        go_wp2_with fail
        refine (rint_any true HNUM.out).mono ?_
        rintro e w2 ⟨hb2, v2, rfl, s2, u2, rfl, hs2, hn2⟩
        rw [hs.out] at hs2 hn2
        obtain ⟨ao2, k2, c2, rfl, _, _⟩ := hn2.form
        have HX2 := Lib.hid (hx.out.below hb2)
        have hbx := HX2.out.b0
        obtain ⟨c0, c1, f0, f1⟩ := ttwo_cells hbx
        have hsz := HX2.out.l1
        have HE := TKept.mk (rint_end (L := 64) (w := w) (s := s2) (ao := ao2) (k := k2) (c := c2) hbx HX2.out.1 (Nat.le_refl _) hs2 hn2)
        clear hb2 hs2 hn2 hbx
        go_wp2
        exact bodyPost_ret (v := .agg #[.bool s2, .slice ao2 k2 c2]) (by simp [results, Tryz.results10, go_sem, HE.out.2.1, HE.out.2.2]) rfl HE.out.1
  · obtain rfl : N = n := e.symm
    have e0 : IntKind.u64.wrap N = N := by rw [IntKind.wrap_u64]; omega
    have hs : TKept (sgn false N = N) := ⟨rfl⟩
    have hnd : decide (N < 0) = false := by simp; omega
    go_enter Tryz.func10, Tryz.ntmps10
    go_wp2
    go_loopw [3, 4] (fun u m wr => ∃ (R : Int) (D : List Int), u = .int .u64 R ∧ 0 ≤ R ∧ R ≤ 9223372036854775808 ∧ TKept (OfAt N D R) ∧ TKept (Mine 3 .i64 (w.heap.size + 1) wr m D) ∧ TKept (TBxs w [.cells #[.bool false, .slice none 0 0] 38] wr)) (fun u _ _ => (intOf u).toNat)
    case atStart => exact ⟨N, [], rfl, hN0, hN1, ⟨OfAt.start hN0⟩, ⟨Mine.nil _ _ _ _⟩, ⟨(TBxs.start w).alloc (by simp) _⟩⟩
    case round =>
      obtain ⟨R, D, rfl, hR0, hR1, hat, hm, hx⟩ := hrel
      by_cases hR : 0 < R
      · have hlen := hat.out.len (by omega) hR
        obtain ⟨d, hd⟩ : ∃ d, R % 1000000000 = d := ⟨_, rfl⟩
        obtain ⟨R2, hR2⟩ : ∃ R2, R / 1000000000 = R2 := ⟨_, rfl⟩
        have hd0 : 0 ≤ d := by omega
        have hd1 : d < 1000000000 := by omega
        have hq0 : 0 ≤ R2 := by omega
        have hq1 : R2 < R := by omega
        have HNX := TKept.mk (hat.out.next hR)
        have HD := TKept.mk hd
        have HR2 := TKept.mk hR2
        have HMa := Lib.hid (hm.out.alloc (.cells #[.int .i64 d] 3))
        have HNW := Lib.hid (new_one (K := .i64) (x := d) (w := wr.alloc (.cells #[.int .i64 d] 3)) (b := wr.heap.size) (o := 0) (by exact (Row.new (E := 3) (K := .i64) wr [d]).cell (i := 0) (by simp)))
        have HBB := Lib.hid (show w.heap.size + 1 ≤ (wr.alloc (.cells #[.int .i64 d] 3)).heap.size by have := hx.out.l1; simp; omega)
        have H1 := Lib.hid (show (D.length + [d].length) * 8 ≤ 140737488355328 by simp; omega)
        have H2 := Lib.hid (show D.length + [d].length ≤ maxLen by unfold maxLen; simp; omega)
        have hmod : R % 1000000000 = d := hd
        clear hlen hd hR2
        go_wp2_with (at_builtin; refine wpList_append_mine _ rfl _ _ 36 rfl 3 .i64 8 Tryz.underlying36 tinfo_i64 (w.heap.size + 1) _ D rfl HMa.out HBB.out ⟨wr.heap.size, 0, none⟩ 1 1 [d] rfl rfl HNW.out H1.out H2.out ?_)
        intro v' w5 hm5 hg5 hn5
        have HM5 := TKept.mk hm5
        have hg6 := tgrowTrans (World.grownBy_alloc wr (.cells #[.int .i64 d] 3) _) hg5
        have HX5 : TKept (TBxs w [.cells #[.bool false, .slice none 0 0] 38] w5) :=
          ⟨hx.out.1.grown hg6 hx.out.1.size (fun k hk => by have := (hm.out.own k hk).1; omega), Nat.le_trans hx.out.2.1 hg6.size, fun i o hi => by
            have hi0 : i = 0 := by
              apply Classical.byContradiction
              intro hc
              rw [List.getElem?_eq_none (by simp; omega)] at hi
              cases hi
            subst hi0
            have hl := hx.out.l1
            rw [hg6.block (w.heap.size + 0) (by omega) (by cases hv : Value.ownBlock _ with | none => simp | some k => have := (hm.out.own k hv).1; simp; omega)]
            exact hx.out.2.2 0 o hi⟩
        clear hm5 hg5 hn5 hg6
        go_wp2
        go_roundw
        case rel => exact ⟨R2, D ++ [d], congrArg (Value.int .u64) HR2.out, by omega, by omega, ⟨by have := HNX.out; rw [HD.out, HR2.out] at this; exact this⟩, HM5, HX5⟩
        case measure => simp [intOf]; omega
      · obtain rfl : R = 0 := by omega
        have hlen : D.length ≤ 64 := by
          apply Classical.byContradiction
          intro hc
          have h1 : (BN : Int) ^ 63 ≤ BN ^ (D.length - 1) := Dg.pow_mono (by decide) (by omega)
          have h2 := Dg.val_ge (B := BN) (by decide) hat.out.wf (hat.out.nz rfl) (fun e => by rw [e] at hc; simp at hc)
          have h4 := hat.out.eq
          rw [Int.mul_zero, Int.add_zero] at h4
          have h5 : (18446744073709551616 : Int) ≤ BN ^ 63 := by decide
          omega
        have hnum : NumR 64 wr u4 N := hm.out.numR hat.out.wf (hat.out.nz rfl) (by have := hat.out.eq; rw [Int.mul_zero, Int.add_zero] at this; exact this.symm) hlen
        have HNUM := TKept.mk hnum
        obtain ⟨ao, k, c, rfl, _, _⟩ := hnum.form
        clear hlen hnum hm hat
        go_wp2_with fail
        refine (rint_any false HNUM.out).mono ?_
        rintro e w2 ⟨hb2, v2, rfl, s2, u2, rfl, hs2, hn2⟩
        rw [hs.out] at hs2 hn2
        obtain ⟨ao2, k2, c2, rfl, _, _⟩ := hn2.form
        have HX2 := Lib.hid (hx.out.below hb2)
        have hbx := HX2.out.b0
        obtain ⟨c0, c1, f0, f1⟩ := ttwo_cells hbx
        have hsz := HX2.out.l1
        have HE := TKept.mk (rint_end (L := 64) (w := w) (s := s2) (ao := ao2) (k := k2) (c := c2) hbx HX2.out.1 (Nat.le_refl _) hs2 hn2)
        clear hb2 hs2 hn2 hbx
        go_wp2
        exact bodyPost_ret (v := .agg #[.bool s2, .slice ao2 k2 c2]) (by simp [results, Tryz.results10, go_sem, HE.out.2.1, HE.out.2.2]) rfl HE.out.1
end Go.Proofs.YtfhhnfpapgfnmaaGreat

set_option linter.unusedVariables false
set_option linter.unusedSimpArgs false
/-! The arithmetic of the reference's loops over limbs. No program. -/
namespace Go.Proofs.YtfhhnfpapgfnmaaGreat
open Go Go.RowKit
theorem Dg.nz_of_ge {B : Int} (hB : 0 < B) {xs : List Int} (h : Dg.Wf B xs) (hv : xs ≠ [] → B ^ (xs.length - 1) ≤ Dg.val B xs) : Dg.Nz xs := by
  intro hne h0
  have h1 := hv hne
  have hl : 0 < xs.length := List.length_pos_iff.2 hne
  have e := Dg.val_take_succD B xs (xs.length - 1)
  rw [show xs.length - 1 + 1 = xs.length by omega, List.take_of_length_le (Nat.le_refl _)] at e
  have e2 : xs[xs.length - 1]?.getD 0 = 0 := by
    rw [List.getLast_eq_getElem] at h0
    rw [List.getElem?_eq_getElem (by omega)]
    exact h0
  rw [e2, Int.mul_zero, Int.add_zero] at e
  have h2 := Dg.val_lt hB (h.take (xs.length - 1))
  have h3 : (xs.take (xs.length - 1)).length = xs.length - 1 := by simp
  rw [h3] at h2
  omega
theorem Dg.getD_out {xs : List Int} {k : Nat} (h : xs.length ≤ k) : xs[k]?.getD 0 = 0 := by rw [List.getElem?_eq_none h]; rfl
/-- How far the reference's sum has come. -/
structure RaAt (xs ys zs : List Int) (k : Nat) (c : Int) : Prop where
  len : zs.length = k
  wf : Dg.Wf BN zs
  c0 : 0 ≤ c
  c1 : c ≤ 1
  eq : Dg.val BN zs + c * BN ^ k = Dg.val BN (xs.take k) + Dg.val BN (ys.take k)
  top : xs.length < k → ys.length < k → c = 0 ∧ BN ^ (k - 1) ≤ Dg.val BN zs
  kl : k ≤ max xs.length ys.length + 1
theorem RaAt.start (xs ys : List Int) : RaAt xs ys [] 0 0 := ⟨rfl, Dg.Wf.nil _, by omega, by omega, by simp [Dg.val], fun h => by omega, by omega⟩
theorem RaAt.next {xs ys zs : List Int} {k : Nat} {c x y : Int} (h : RaAt xs ys zs k c) (hx : x = xs[k]?.getD 0) (hy : y = ys[k]?.getD 0) (hxb : 0 ≤ x ∧ x < BN) (hyb : 0 ≤ y ∧ y < BN)
    (hk : k < xs.length ∨ k < ys.length ∨ 0 < c) : RaAt xs ys (zs ++ [(c + x + y) % 1000000000]) (k + 1) ((c + x + y) / 1000000000) := by
  obtain ⟨hl, hw, c0, c1, hv, ht, hkl⟩ := h
  have hx1 : x < 1000000000 := hxb.2
  have hy1 : y < 1000000000 := hyb.2
  have hx0 := hxb.1
  have hy0 := hyb.1
  refine ⟨by simp [hl], hw.append (Dg.Wf.one (by omega) (by show _ < (1000000000 : Int); omega)), by omega, by omega, ?_, ?_, ?_⟩
  · rw [Dg.val_append, Dg.val_one, hl, Dg.val_take_succD, Dg.val_take_succD, ← hx, ← hy, Int.pow_succ]
    exact Dg.step_sum hv (by unfold BN; omega)
  · intro h1 h2
    have ex : x = 0 := by rw [hx]; exact Dg.getD_out (by omega)
    have ey : y = 0 := by rw [hy]; exact Dg.getD_out (by omega)
    have hc : c = 1 := by omega
    subst ex ey hc
    refine ⟨rfl, ?_⟩
    have hn := Dg.val_nonneg (show (0 : Int) < BN by decide) hw
    have hp := Dg.pow_pos (show (0 : Int) < BN by decide) k
    rw [Dg.val_append, Dg.val_one, hl]
    show BN ^ (k + 1 - 1) ≤ _
    rw [show k + 1 - 1 = k by omega, show (1 + 0 + 0 : Int) % 1000000000 = 1 from rfl, Int.mul_one]
    omega
  · rcases hk with h | h | h
    · omega
    · omega
    · by_cases e : xs.length < k ∧ ys.length < k
      · have := (ht e.1 e.2).1; omega
      · omega
theorem RaAt.done {xs ys zs : List Int} {k : Nat} (h : RaAt xs ys zs k 0) (hx : xs.length ≤ k) (hy : ys.length ≤ k) (wx : Dg.Wf BN xs) (wy : Dg.Wf BN ys) (nx : Dg.Nz xs) (ny : Dg.Nz ys) :
    Dg.Nz zs ∧ Dg.val BN zs = Dg.val BN xs + Dg.val BN ys ∧ zs.length ≤ max xs.length ys.length + 1 := by
  obtain ⟨hl, hw, c0, c1, hv, ht, hkl⟩ := h
  rw [List.take_of_length_le hx, List.take_of_length_le hy, Int.zero_mul, Int.add_zero] at hv
  refine ⟨Dg.nz_of_ge (by decide) hw fun hne => ?_, hv, by omega⟩
  rw [hl]
  by_cases e : xs.length < k ∧ ys.length < k
  · exact (ht e.1 e.2).2
  · have h1 := Dg.val_nonneg (show (0 : Int) < BN by decide) wx
    have h2 := Dg.val_nonneg (show (0 : Int) < BN by decide) wy
    have hk : 0 < k := by have := List.length_pos_iff.2 hne; omega
    by_cases e1 : xs.length = k
    · have := Dg.val_ge (show (0 : Int) < BN by decide) wx nx (fun e => by rw [e] at e1; simp at e1; omega)
      rw [e1] at this
      omega
    · have e2 : ys.length = k := by omega
      have := Dg.val_ge (show (0 : Int) < BN by decide) wy ny (fun e => by rw [e] at e2; simp at e2; omega)
      rw [e2] at this
      omega
/-- How far the reference's difference has come. -/
structure RsAt (xs ys zs : List Int) (k : Nat) (c : Int) : Prop where
  len : zs.length = k
  wf : Dg.Wf BN zs
  c0 : 0 ≤ c
  c1 : c ≤ 1
  eq : Dg.val BN zs - c * BN ^ k = Dg.val BN (xs.take k) - Dg.val BN (ys.take k)
theorem RsAt.start (xs ys : List Int) : RsAt xs ys [] 0 0 := ⟨rfl, Dg.Wf.nil _, by omega, by omega, by simp [Dg.val]⟩
theorem RsAt.next {xs ys zs : List Int} {k : Nat} {c x y s d : Int} (h : RsAt xs ys zs k c) (hx : x = xs[k]?.getD 0) (hy : y = ys[k]?.getD 0)
    (s0 : 0 ≤ s) (s1 : s < 1000000000) (d0 : 0 ≤ d) (d1 : d ≤ 1) (he : x - y - c = s - 1000000000 * d) : RsAt xs ys (zs ++ [s]) (k + 1) d := by
  obtain ⟨hl, hw, c0, c1, hv⟩ := h
  refine ⟨by simp [hl], hw.append (Dg.Wf.one s0 s1), d0, d1, ?_⟩
  rw [Dg.val_append, Dg.val_one, hl, Dg.val_take_succD, Dg.val_take_succD, ← hx, ← hy, Int.pow_succ]
  exact Dg.step_dif hv he
theorem RsAt.done {xs ys zs : List Int} {c : Int} (h : RsAt xs ys zs xs.length c) (hy : ys.length ≤ xs.length) (hle : Dg.val BN ys ≤ Dg.val BN xs) :
    Dg.Wf BN zs ∧ Dg.val BN zs = Dg.val BN xs - Dg.val BN ys := by
  obtain ⟨hl, hw, c0, c1, hv⟩ := h
  refine ⟨hw, ?_⟩
  rw [List.take_of_length_le (Nat.le_refl _), List.take_of_length_le hy] at hv
  have hlt := Dg.val_lt (show (0 : Int) < BN by decide) hw
  rw [hl] at hlt
  have : c = 0 := by
    rcases (show c = 0 ∨ c = 1 by omega) with h | h
    · exact h
    · subst h; omega
  subst this
  omega
theorem Dg.val_setD {B : Int} : ∀ {xs : List Int} {i : Nat} (x : Int), i < xs.length → Dg.val B (xs.set i x) = Dg.val B xs + B ^ i * (x - xs[i]?.getD 0)
  | [], i, x, h => by simp at h
  | y :: xs, 0, x, h => by
    simp only [List.set_cons_zero, Dg.val_cons, Int.pow_zero, List.getElem?_cons_zero, Option.getD_some]
    omega
  | y :: xs, i + 1, x, h => by
    have ih := Dg.val_setD (B := B) (xs := xs) (i := i) x (by simpa using h)
    simp only [List.set_cons_succ, Dg.val_cons, List.getElem?_cons_succ]
    rw [ih, Int.mul_add, Int.pow_succ, ← Int.mul_assoc, Int.mul_comm B (B ^ i)]
    omega
/-- How far the reference's product has come: i rows are in T. -/
structure RmAt (xs ys T : List Int) (i : Nat) : Prop where
  len : T.length = xs.length + ys.length
  wf : Dg.Wf BN T
  eq : Dg.val BN T = Dg.val BN (xs.take i) * Dg.val BN ys
  zero : ∀ j, i + ys.length ≤ j → T[j]?.getD 0 = 0
/-- .. and in row i the place k with a carry. -/
structure RmIn (xs ys T : List Int) (i k : Nat) (x c : Int) : Prop where
  len : T.length = xs.length + ys.length
  wf : Dg.Wf BN T
  c0 : 0 ≤ c
  c1 : c < 1000000000
  eq : Dg.val BN T + c * BN ^ (i + k) = Dg.val BN (xs.take i) * Dg.val BN ys + BN ^ i * (x * Dg.val BN (ys.take k))
  zero : ∀ j, i + ys.length ≤ j → i + k ≤ j → T[j]?.getD 0 = 0
  top : ys.length < k → c = 0 ∧ k = ys.length + 1
theorem RmAt.start (xs ys : List Int) : RmAt xs ys (List.replicate (xs.length + ys.length) 0) 0 :=
  ⟨by simp, Dg.Wf.zeros (by decide) _, by simp [Dg.val_zeros, Dg.val], fun j _ => by simp [List.getElem?_replicate]; split <;> rfl⟩
theorem RmAt.row {xs ys T : List Int} {i : Nat} (h : RmAt xs ys T i) (x : Int) : RmIn xs ys T i 0 x 0 :=
  ⟨h.len, h.wf, by omega, by omega, by rw [h.eq]; simp [Dg.val], fun j h1 h2 => h.zero j h1, fun h => by omega⟩
theorem RmIn.next {xs ys T : List Int} {i k : Nat} {x y t c : Int} (h : RmIn xs ys T i k x c) (hi : i < xs.length) (hy : y = ys[k]?.getD 0) (ht : t = T[i + k]?.getD 0)
    (hx0 : 0 ≤ x) (hx1 : x < 1000000000) (wy : Dg.Wf BN ys) (hk : k < ys.length ∨ 0 < c) :
    i + k < T.length ∧ 0 ≤ x * y ∧ x * y ≤ 999999998000000001 ∧ 0 ≤ t ∧ t < 1000000000 ∧ RmIn xs ys (T.set (i + k) ((t + c + x * y) % 1000000000)) i (k + 1) x ((t + c + x * y) / 1000000000) := by
  obtain ⟨hl, hw, c0, c1, he, hz, htop⟩ := h
  have hyb := Dg.Wf.getD (show (0 : Int) < BN by decide) wy k
  have htb := Dg.Wf.getD (show (0 : Int) < BN by decide) hw (i + k)
  rw [← hy] at hyb
  rw [← ht] at htb
  obtain ⟨y0, y1⟩ := hyb
  obtain ⟨t0, t1⟩ := htb
  have hkk : k ≤ ys.length := by
    apply Classical.byContradiction
    intro hc
    have := (htop (by omega)).1
    omega
  have hm0 : 0 ≤ x * y := Int.mul_nonneg hx0 y0
  have hm1 : x * y ≤ (BN - 1) * (BN - 1) := Dg.mul_bound hx0 hx1 y0 y1
  have hm2 : (BN - 1) * (BN - 1) = 999999998000000001 := rfl
  rw [hm2] at hm1
  have t1' : t < 1000000000 := t1
  refine ⟨by omega, hm0, hm1, t0, t1', by simpa using hl, hw.set _ (by omega) (by show _ < (1000000000 : Int); omega), by omega, by omega, ?_, ?_, ?_⟩
  · rw [Dg.val_setD _ (by omega), ← ht, Dg.val_take_succD, ← hy, ← Nat.add_assoc, Int.pow_succ]
    have e1 : (BN : Int) ^ (i + k) = BN ^ i * BN ^ k := Int.pow_add _ _ _
    have e2 : BN ^ i * (x * (Dg.val BN (ys.take k) + BN ^ k * y)) = BN ^ i * (x * Dg.val BN (ys.take k)) + BN ^ (i + k) * (x * y) := by
      rw [e1, Int.mul_add, Int.mul_add]
      simp only [Int.mul_comm, Int.mul_left_comm, Int.mul_assoc]
    rw [e2, ← Int.add_assoc, ← he]
    have hd : (t + c + x * y) = (t + c + x * y) % 1000000000 + BN * ((t + c + x * y) / 1000000000) := by unfold BN; omega
    generalize (t + c + x * y) % 1000000000 = s at *
    generalize (t + c + x * y) / 1000000000 = q at *
    generalize (BN : Int) ^ (i + k) = P at *
    have e3 : P * (t + c + x * y) = P * (s + BN * q) := by rw [hd]
    generalize x * y = m at *
    rw [Int.mul_sub]
    simp only [Int.mul_add] at e3
    have e4 : q * (P * BN) = P * (BN * q) := by simp only [Int.mul_comm, Int.mul_left_comm, Int.mul_assoc]
    rw [e4, Int.mul_comm c P]
    omega
  · intro j h1 h2
    rw [List.getElem?_set_ne (by omega)]
    exact hz j h1 (by omega)
  · intro h1
    have ek : k = ys.length := by omega
    have ey : y = 0 := by rw [hy]; exact Dg.getD_out (by omega)
    have et : t = 0 := by rw [ht]; exact hz _ (by omega) (by omega)
    subst ey et
    refine ⟨by omega, by omega⟩
theorem RmIn.done {xs ys T : List Int} {i k : Nat} {x : Int} (h : RmIn xs ys T i k x 0) (hk : ys.length ≤ k) (hi : i < xs.length) (hx : x = xs[i]?.getD 0) : RmAt xs ys T (i + 1) := by
  obtain ⟨hl, hw, _, _, he, hz, ht⟩ := h
  refine ⟨hl, hw, ?_, fun j hj => ?_⟩
  · rw [Int.zero_mul, Int.add_zero, List.take_of_length_le hk] at he
    rw [he, Dg.val_take_succD, ← hx, Int.add_mul, Int.mul_assoc]
  · by_cases e : i + k ≤ j
    · exact hz j (by omega) e
    · by_cases e2 : ys.length < k
      · have := (ht e2).2; omega
      · exact hz j (by omega) (by omega)
theorem RmAt.done {xs ys T : List Int} (h : RmAt xs ys T xs.length) : Dg.val BN T = Dg.val BN xs * Dg.val BN ys := by
  have := h.eq
  rw [List.take_of_length_le (Nat.le_refl _)] at this
  exact this
end Go.Proofs.YtfhhnfpapgfnmaaGreat

set_option linter.unusedVariables false
set_option linter.unusedSimpArgs false
namespace Go.Proofs.YtfhhnfpapgfnmaaGreat
open Go Go.RowKit
theorem Sl.cut_cap {K : IntKind} {w : World} {ao : Option Addr} {xs : List Int} {k cap : Nat} (hk : k ≤ xs.length) (hc : xs.length ≤ cap) (hm : cap ≤ maxLen)
    (hx : ∀ i, i < xs.length → ∃ b o, ao = some ⟨b, o, none⟩ ∧ b < w.heap.size ∧ w.cell? ⟨b, o + i, none⟩ = some (.int K (xs[i]?.getD 0))) : Sl K w (.slice ao k cap) (xs.take k) := by
  refine ⟨ao, cap, by simp [Nat.min_eq_left hk], by simp [Nat.min_eq_left hk]; omega, hm, fun i hi => ?_⟩
  have hi' : i < k := by simpa [Nat.min_eq_left hk] using hi
  obtain ⟨b, o, e, hl, hcell⟩ := hx i (by omega)
  exact ⟨b, o, e, hl, by rw [hcell, List.getElem?_take, if_pos hi']⟩
def tsliceLen : Value → Nat | .slice _ k _ => k | _ => 0
set_option maxHeartbeats 400000 in
theorem trim_any (v : Value) (xs : List Int) (w : World) (h : Sl .i64 w v xs) :
    Calls Tryz.prog 27 #[v] w (RetSame .i64 w v (Dg.cut xs)) := by
  obtain ⟨ao, cap, rfl, hcap, hmax, hc⟩ := h
  have hmax' := hmax
  unfold maxLen at hmax
  go_enter Tryz.func27, Tryz.ntmps27
  go_wp2
  go_loop [0] (fun n => ∃ k : Nat, k ≤ xs.length ∧ n = .slice ao k cap ∧ Hid (∀ i, k ≤ i → xs[i]?.getD 0 = 0)) (fun n => tsliceLen n)
  case atStart => exact ⟨xs.length, Nat.le_refl _, rfl, fun i hi => by simp [hi]⟩
  case round =>
    obtain ⟨k, hk, rfl, hz⟩ := hrel
    by_cases h0 : 0 < k
    · obtain ⟨b, o, rfl, hb, hcell⟩ := hc (k-1) (by omega)
      obtain ⟨k, rfl⟩ : ∃ j, k = j+1 := ⟨k - 1, by omega⟩
      obtain ⟨x, hx⟩ : ∃ x, x = xs[k]?.getD 0 := ⟨_, rfl⟩
      simp only [Nat.add_sub_cancel] at hcell
      rw [← hx] at hcell
      have HX := Lib.hid hx
      clear hx
      go_wp2
      · have h1 : (x == 0) = true := by assumption
        refine ⟨⟨k, by omega, rfl, fun i hi => ?_⟩, by simp [tsliceLen]⟩
        by_cases e : i = k
        · rw [e, ← HX.out]; simpa using h1
        · exact hz.out i (by omega)
      · have h1 : (x == 0) = false := by assumption
        go_ret
        refine ⟨rfl, _, rfl, ?_⟩
        rw [Dg.cut_eq xs (k + 1) hz.out (Or.inr (by simpa [← HX.out] using h1))]
        exact ⟨Sl.cut_cap hk hcap hmax' hc, fun k h => h⟩
    · obtain rfl : k = 0 := by omega
      go_wp2
      go_ret
      refine ⟨rfl, _, rfl, ?_⟩
      rw [Dg.cut_eq xs 0 hz.out (Or.inl rfl)]
      refine ⟨Sl.cut_cap hk hcap hmax' hc, fun k h => ?_⟩
      have h' : (Value.slice ao 0 cap).ownBlock = some k := h
      cases ao <;> exact h'
theorem trim_num {v : Value} {xs : List Int} {w : World} (h : Sl .i64 w v xs) (hw : Dg.Wf BN xs) :
    Calls Tryz.prog 27 #[v] w fun e w' => ∃ v', e = .returned v' ∧ w = w' ∧ NumR xs.length w v' (Dg.val BN xs) ∧ ∀ k, v'.ownBlock = some k → v.ownBlock = some k :=
  (trim_any v xs w h).mono fun e w' ⟨hw', v', he, hs, ho⟩ => ⟨v', he, hw', ⟨Dg.cut xs, hs, hw.cut, Dg.nz_cut xs, Dg.val_cut BN xs, Dg.cut_len xs⟩, ho⟩
/-- The call returns the limbs of n, at most L of them. -/
def TRetR (L : Nat) (w : World) (n : Int) (e : Ending) (w' : World) : Prop := Below w.heap.size w w' ∧ ∃ v', e = .returned v' ∧ NumR L w' v' n
end Go.Proofs.YtfhhnfpapgfnmaaGreat

set_option linter.unusedVariables false
set_option linter.unusedSimpArgs false
namespace Go.Proofs.YtfhhnfpapgfnmaaGreat
open Go Go.RowKit
set_option maxRecDepth 20000 in
set_option maxHeartbeats 2000000 in
theorem addN_any (va vb : Value) (xs ys : List Int) (w : World) (ha : Sl .i64 w va xs) (hb : Sl .i64 w vb ys) (wx : Dg.Wf BN xs) (wy : Dg.Wf BN ys) (nx : Dg.Nz xs) (ny : Dg.Nz ys) (hxl : xs.length ≤ 17000000000000) (hyl : ys.length ≤ 17000000000000) :
    Calls Tryz.prog 28 #[va, vb] w (TRetR (max xs.length ys.length + 1) w (Dg.val BN xs + Dg.val BN ys)) := by
  obtain ⟨ao, cap, rfl, hcap, hmax, hc⟩ := ha
  obtain ⟨bo, bcap, rfl, hbcap, hbmax, hbc⟩ := hb
  unfold maxLen at hmax hbmax
  obtain ⟨M, hM⟩ : ∃ M, M = max xs.length ys.length := ⟨_, rfl⟩
  rw [← hM]
  have hMx : xs.length ≤ M := by omega
  have hMy : ys.length ≤ M := by omega
  have hMl : M ≤ 17000000000000 := by omega
  have HM := TKept.mk hM
  have HC := TKept.mk hc
  have HBC := TKept.mk hbc
  have WX := TKept.mk wx
  have WY := TKept.mk wy
  have NX := TKept.mk nx
  have NY := TKept.mk ny
  clear hM hc hbc wx wy nx ny
  go_enter Tryz.func28, Tryz.ntmps28
  go_wp2
  go_loopw [5, 6, 7] (fun o c i wr => ∃ (k : Nat) (cv : Int) (zs : List Int), k ≤ M + 1 ∧ i = .int .i64 k ∧ c = .int .i64 cv ∧ 0 ≤ cv ∧ cv ≤ 1 ∧ TKept (RaAt xs ys zs k cv) ∧ TKept (Mine 3 .i64 w.heap.size wr o zs) ∧ TKept (Below w.heap.size w wr)) (fun _ _ i _ => M + 2 - (intOf i).toNat)
  case atStart => exact ⟨0, 0, [], Nat.zero_le _, rfl, rfl, by omega, by omega, ⟨RaAt.start xs ys⟩, ⟨Mine.nil _ _ _ _⟩, ⟨Below.refl _ _⟩⟩
  case round =>
    obtain ⟨k, cv, zs, hk, rfl, rfl, hc0, hc1, hat, hm, hbl⟩ := hrel
    by_cases hcond : k < xs.length ∨ k < ys.length ∨ 0 < cv
    · obtain ⟨x, hx⟩ : ∃ x, x = xs[k]?.getD 0 := ⟨_, rfl⟩
      obtain ⟨y, hy⟩ : ∃ y, y = ys[k]?.getD 0 := ⟨_, rfl⟩
      have hxb := Dg.Wf.getD (show (0 : Int) < BN by decide) WX.out k
      have hyb := Dg.Wf.getD (show (0 : Int) < BN by decide) WY.out k
      rw [← hx] at hxb
      rw [← hy] at hyb
      have hx0 : 0 ≤ x := hxb.1
      have hx1 : x < 1000000000 := hxb.2
      have hy0 : 0 ≤ y := hyb.1
      have hy1 : y < 1000000000 := hyb.2
      have HNX := TKept.mk (hat.out.next hx hy hxb hyb hcond)
      have hkM : k ≤ M := by
        have := HNX.out.kl
        have := HM.out
        omega
      have hlen := hat.out.len
      obtain ⟨d, hd⟩ : ∃ d, (cv + x + y) % 1000000000 = d := ⟨_, rfl⟩
      obtain ⟨q, hq⟩ : ∃ q, (cv + x + y) / 1000000000 = q := ⟨_, rfl⟩
      have HD := TKept.mk hd
      have HQ := TKept.mk hq
      have hq0 : 0 ≤ q := by omega
      have hq1 : q ≤ 1 := by omega
      have HMa := Lib.hid (hm.out.alloc (.cells #[.int .i64 d] 3))
      have HNW := Lib.hid (new_one (K := .i64) (x := d) (w := wr.alloc (.cells #[.int .i64 d] 3)) (b := wr.heap.size) (o := 0) (by exact (Row.new (E := 3) (K := .i64) wr [d]).cell (i := 0) (by simp)))
      have HBB := Lib.hid (show w.heap.size ≤ (wr.alloc (.cells #[.int .i64 d] 3)).heap.size by have := hbl.out.size; simp; omega)
      have H1 := Lib.hid (show (zs.length + [d].length) * 8 ≤ 140737488355328 by simp; omega)
      have H2 := Lib.hid (show zs.length + [d].length ≤ maxLen by unfold maxLen; simp; omega)
      have hOwn := TKept.mk hm.out.own
      by_cases hkx : k < xs.length
      · by_cases hky : k < ys.length
        · obtain ⟨b, o, rfl, hbs, hcell⟩ := HC.out k hkx
          rw [← hx] at hcell
          have hcl := (hbl.out.cell (p := ⟨b, o + k, none⟩) hbs).trans hcell
          obtain ⟨b', o', rfl, hbs', hcell'⟩ := HBC.out k hky
          rw [← hy] at hcell'
          have hcl' := (hbl.out.cell (p := ⟨b', o' + k, none⟩) hbs').trans hcell'
          have hmod : (cv + x + y) % 1000000000 = d := by exact hd
          have hquo : (cv + x + y) / 1000000000 = q := by exact hq
          have HQU := TKept.mk hquo
          clear hlen hd hq hquo hcond hxb hyb hx hy hcell hcell'
          go_wp2_with (at_builtin; refine wpList_append_mine _ rfl _ _ 36 rfl 3 .i64 8 Tryz.underlying36 tinfo_i64 w.heap.size _ zs rfl HMa.out HBB.out ⟨wr.heap.size, 0, none⟩ 1 1 [d] rfl rfl HNW.out H1.out H2.out ?_)
          intro v' w5 hm5 hg5 hn5
          have HM5 := TKept.mk hm5
          have HB5 := TKept.mk (hbl.out.grown (tgrowTrans (World.grownBy_alloc wr (.cells #[.int .i64 d] 3) _) hg5) hbl.out.size (fun j hj => (hOwn.out j hj).1))
          clear hm5 hg5 hn5
          go_wp2
          go_roundw
          case rel => exact ⟨k + 1, q, zs ++ [d], by omega, by go_num, congrArg (Value.int .i64) HQU.out, hq0, hq1, ⟨by have := HNX.out; rw [HD.out, HQ.out] at this; exact this⟩, HM5, HB5⟩
          case measure => simp [intOf]; omega
        · obtain ⟨b, o, rfl, hbs, hcell⟩ := HC.out k hkx
          rw [← hx] at hcell
          have hcl := (hbl.out.cell (p := ⟨b, o + k, none⟩) hbs).trans hcell
          have ey : y = 0 := by rw [hy]; exact Dg.getD_out (by omega)
          subst ey
          have hmod : (cv + x) % 1000000000 = d := by rw [← hd]; congr 1; omega
          have hquo : (cv + x) / 1000000000 = q := by rw [← hq]; congr 1; omega
          have HQU := TKept.mk hquo
          clear hlen hd hq hquo hcond hxb hyb hx hy hcell
          go_wp2_with (at_builtin; refine wpList_append_mine _ rfl _ _ 36 rfl 3 .i64 8 Tryz.underlying36 tinfo_i64 w.heap.size _ zs rfl HMa.out HBB.out ⟨wr.heap.size, 0, none⟩ 1 1 [d] rfl rfl HNW.out H1.out H2.out ?_)
          intro v' w5 hm5 hg5 hn5
          have HM5 := TKept.mk hm5
          have HB5 := TKept.mk (hbl.out.grown (tgrowTrans (World.grownBy_alloc wr (.cells #[.int .i64 d] 3) _) hg5) hbl.out.size (fun j hj => (hOwn.out j hj).1))
          clear hm5 hg5 hn5
          go_wp2
          go_roundw
          case rel => exact ⟨k + 1, q, zs ++ [d], by omega, by go_num, congrArg (Value.int .i64) HQU.out, hq0, hq1, ⟨by have := HNX.out; rw [HD.out, HQ.out] at this; exact this⟩, HM5, HB5⟩
          case measure => simp [intOf]; omega
      · by_cases hky : k < ys.length
        · have ex : x = 0 := by rw [hx]; exact Dg.getD_out (by omega)
          subst ex
          obtain ⟨b', o', rfl, hbs', hcell'⟩ := HBC.out k hky
          rw [← hy] at hcell'
          have hcl' := (hbl.out.cell (p := ⟨b', o' + k, none⟩) hbs').trans hcell'
          have hmod : (cv + y) % 1000000000 = d := by rw [← hd]; congr 1; omega
          have hquo : (cv + y) / 1000000000 = q := by rw [← hq]; congr 1; omega
          have HQU := TKept.mk hquo
          clear hlen hd hq hquo hcond hxb hyb hx hy hcell'
          go_wp2_with (at_builtin; refine wpList_append_mine _ rfl _ _ 36 rfl 3 .i64 8 Tryz.underlying36 tinfo_i64 w.heap.size _ zs rfl HMa.out HBB.out ⟨wr.heap.size, 0, none⟩ 1 1 [d] rfl rfl HNW.out H1.out H2.out ?_)
          intro v' w5 hm5 hg5 hn5
          have HM5 := TKept.mk hm5
          have HB5 := TKept.mk (hbl.out.grown (tgrowTrans (World.grownBy_alloc wr (.cells #[.int .i64 d] 3) _) hg5) hbl.out.size (fun j hj => (hOwn.out j hj).1))
          clear hm5 hg5 hn5
          go_wp2
          go_roundw
          case rel => exact ⟨k + 1, q, zs ++ [d], by omega, by go_num, congrArg (Value.int .i64) HQU.out, hq0, hq1, ⟨by have := HNX.out; rw [HD.out, HQ.out] at this; exact this⟩, HM5, HB5⟩
          case measure => simp [intOf]; omega
        · have hcv : 0 < cv := by omega
          have ex : x = 0 := by rw [hx]; exact Dg.getD_out (by omega)
          subst ex
          have ey : y = 0 := by rw [hy]; exact Dg.getD_out (by omega)
          subst ey
          have hmod : (cv) % 1000000000 = d := by rw [← hd]; congr 1; omega
          have hquo : (cv) / 1000000000 = q := by rw [← hq]; congr 1; omega
          have HQU := TKept.mk hquo
          clear hlen hd hq hquo hcond hxb hyb hx hy
          go_wp2_with (at_builtin; refine wpList_append_mine _ rfl _ _ 36 rfl 3 .i64 8 Tryz.underlying36 tinfo_i64 w.heap.size _ zs rfl HMa.out HBB.out ⟨wr.heap.size, 0, none⟩ 1 1 [d] rfl rfl HNW.out H1.out H2.out ?_)
          intro v' w5 hm5 hg5 hn5
          have HM5 := TKept.mk hm5
          have HB5 := TKept.mk (hbl.out.grown (tgrowTrans (World.grownBy_alloc wr (.cells #[.int .i64 d] 3) _) hg5) hbl.out.size (fun j hj => (hOwn.out j hj).1))
          clear hm5 hg5 hn5
          go_wp2
          go_roundw
          case rel => exact ⟨k + 1, q, zs ++ [d], by omega, by go_num, congrArg (Value.int .i64) HQU.out, hq0, hq1, ⟨by have := HNX.out; rw [HD.out, HQ.out] at this; exact this⟩, HM5, HB5⟩
          case measure => simp [intOf]; omega
    · have hcv : cv = 0 := by omega
      subst hcv
      have hd := hat.out.done (by omega) (by omega) WX.out WY.out NX.out NY.out
      rw [← HM.out] at hd
      have HN : TKept (NumR (M + 1) wr u5 (Dg.val BN xs + Dg.val BN ys)) := ⟨⟨zs, hm.out.sl, hat.out.wf, hd.1, hd.2.1, hd.2.2⟩⟩
      have c1 : ¬ k < xs.length := by omega
      have c2 : ¬ k < ys.length := by omega
      clear hd
      go_wp2
      go_ret
      exact ⟨hbl.out, _, rfl, HN.out⟩
end Go.Proofs.YtfhhnfpapgfnmaaGreat

set_option linter.unusedVariables false
set_option linter.unusedSimpArgs false
namespace Go.Proofs.YtfhhnfpapgfnmaaGreat
open Go Go.RowKit
set_option maxRecDepth 20000 in
set_option maxHeartbeats 2000000 in
theorem subN_any (va vb : Value) (xs ys : List Int) (w : World) (ha : Sl .i64 w va xs) (hb : Sl .i64 w vb ys) (wx : Dg.Wf BN xs) (wy : Dg.Wf BN ys) (hle : ys.length ≤ xs.length) (hv : Dg.val BN ys ≤ Dg.val BN xs) (hxl : xs.length ≤ 17000000000000) :
    Calls Tryz.prog 30 #[va, vb] w (TRetR xs.length w (Dg.val BN xs - Dg.val BN ys)) := by
  obtain ⟨ao, cap, rfl, hcap, hmax, hc⟩ := ha
  obtain ⟨bo, bcap, rfl, hbcap, hbmax, hbc⟩ := hb
  unfold maxLen at hmax hbmax
  have HC := TKept.mk hc
  have HBC := TKept.mk hbc
  have WX := TKept.mk wx
  have WY := TKept.mk wy
  have HV := TKept.mk hv
  clear hc hbc wx wy hv
  go_enter Tryz.func30, Tryz.ntmps30
  go_wp2
  go_loopw [5, 6, 7] (fun o c i wr => ∃ (k : Nat) (cv : Int) (zs : List Int), k ≤ xs.length ∧ i = .int .i64 k ∧ c = .int .i64 cv ∧ 0 ≤ cv ∧ cv ≤ 1 ∧ TKept (RsAt xs ys zs k cv) ∧ TKept (Mine 3 .i64 w.heap.size wr o zs) ∧ TKept (Below w.heap.size w wr)) (fun _ _ i _ => xs.length - (intOf i).toNat)
  case atStart => exact ⟨0, 0, [], Nat.zero_le _, rfl, rfl, by omega, by omega, ⟨RsAt.start xs ys⟩, ⟨Mine.nil _ _ _ _⟩, ⟨Below.refl _ _⟩⟩
  case round =>
    obtain ⟨k, cv, zs, hk, rfl, rfl, hc0, hc1, hat, hm, hbl⟩ := hrel
    by_cases hkx : k < xs.length
    · obtain ⟨x, hx⟩ : ∃ x, x = xs[k]?.getD 0 := ⟨_, rfl⟩
      obtain ⟨y, hy⟩ : ∃ y, y = ys[k]?.getD 0 := ⟨_, rfl⟩
      have hxb := Dg.Wf.getD (show (0 : Int) < BN by decide) WX.out k
      have hyb := Dg.Wf.getD (show (0 : Int) < BN by decide) WY.out k
      rw [← hx] at hxb
      rw [← hy] at hyb
      have hx0 : 0 ≤ x := hxb.1
      have hx1 : x < 1000000000 := hxb.2
      have hy0 : 0 ≤ y := hyb.1
      have hy1 : y < 1000000000 := hyb.2
      have hlen := hat.out.len
      obtain ⟨d, q, hd, hd0, hd1, hq0, hq1⟩ : ∃ d q : Int, x - y - cv = d - 1000000000 * q ∧ 0 ≤ d ∧ d < 1000000000 ∧ 0 ≤ q ∧ q ≤ 1 := by
        by_cases h : x - y - cv < 0
        · exact ⟨x - y - cv + 1000000000, 1, by omega, by omega, by omega, by omega, by omega⟩
        · exact ⟨x - y - cv, 0, by omega, by omega, by omega, by omega, by omega⟩
      have HNX := TKept.mk (hat.out.next hx hy hd0 hd1 hq0 hq1 hd)
      have HMa := Lib.hid (hm.out.alloc (.cells #[.int .i64 d] 3))
      have HNW := Lib.hid (new_one (K := .i64) (x := d) (w := wr.alloc (.cells #[.int .i64 d] 3)) (b := wr.heap.size) (o := 0) (by exact (Row.new (E := 3) (K := .i64) wr [d]).cell (i := 0) (by simp)))
      have HBB := Lib.hid (show w.heap.size ≤ (wr.alloc (.cells #[.int .i64 d] 3)).heap.size by have := hbl.out.size; simp; omega)
      have H1 := Lib.hid (show (zs.length + [d].length) * 8 ≤ 140737488355328 by simp; omega)
      have H2 := Lib.hid (show zs.length + [d].length ≤ maxLen by unfold maxLen; simp; omega)
      have hOwn := TKept.mk hm.out.own
      obtain ⟨b, o, rfl, hbs, hcell⟩ := HC.out k hkx
      rw [← hx] at hcell
      have hcl := (hbl.out.cell (p := ⟨b, o + k, none⟩) hbs).trans hcell
      by_cases hky : k < ys.length
      · obtain ⟨b', o', rfl, hbs', hcell'⟩ := HBC.out k hky
        rw [← hy] at hcell'
        have hcl' := (hbl.out.cell (p := ⟨b', o' + k, none⟩) hbs').trans hcell'
        by_cases hneg : x - cv - y < 0
        · obtain rfl : q = 1 := by omega
          obtain rfl : d = x - cv - y + 1000000000 := by omega
          clear hlen hd hx hy hcell hcell' hxb hyb
          go_wp2_with (at_builtin; refine wpList_append_mine _ rfl _ _ 36 rfl 3 .i64 8 Tryz.underlying36 tinfo_i64 w.heap.size _ zs rfl HMa.out HBB.out ⟨wr.heap.size, 0, none⟩ 1 1 [x - cv - y + 1000000000] rfl rfl HNW.out H1.out H2.out ?_)
          intro v' w5 hm5 hg5 hn5
          have HM5 := TKept.mk hm5
          have HB5 := TKept.mk (hbl.out.grown (tgrowTrans (World.grownBy_alloc wr (.cells #[.int .i64 (x - cv - y + 1000000000)] 3) _) hg5) hbl.out.size (fun j hj => (hOwn.out j hj).1))
          clear hm5 hg5 hn5
          go_wp2
          go_roundw
          case rel => exact ⟨k + 1, 1, _, by omega, by go_num, rfl, hq0, hq1, HNX, HM5, HB5⟩
          case measure => simp [intOf]; omega
        · obtain rfl : q = 0 := by omega
          obtain rfl : d = x - cv - y := by omega
          clear hlen hd hx hy hcell hcell' hxb hyb
          go_wp2_with (at_builtin; refine wpList_append_mine _ rfl _ _ 36 rfl 3 .i64 8 Tryz.underlying36 tinfo_i64 w.heap.size _ zs rfl HMa.out HBB.out ⟨wr.heap.size, 0, none⟩ 1 1 [x - cv - y] rfl rfl HNW.out H1.out H2.out ?_)
          intro v' w5 hm5 hg5 hn5
          have HM5 := TKept.mk hm5
          have HB5 := TKept.mk (hbl.out.grown (tgrowTrans (World.grownBy_alloc wr (.cells #[.int .i64 (x - cv - y)] 3) _) hg5) hbl.out.size (fun j hj => (hOwn.out j hj).1))
          clear hm5 hg5 hn5
          go_wp2
          go_roundw
          case rel => exact ⟨k + 1, 0, _, by omega, by go_num, rfl, hq0, hq1, HNX, HM5, HB5⟩
          case measure => simp [intOf]; omega
      · have ey : y = 0 := by rw [hy]; exact Dg.getD_out (by omega)
        subst ey
        by_cases hneg : x - cv < 0
        · obtain rfl : q = 1 := by omega
          obtain rfl : d = x - cv + 1000000000 := by omega
          clear hlen hd hx hy hcell hxb hyb
          go_wp2_with (at_builtin; refine wpList_append_mine _ rfl _ _ 36 rfl 3 .i64 8 Tryz.underlying36 tinfo_i64 w.heap.size _ zs rfl HMa.out HBB.out ⟨wr.heap.size, 0, none⟩ 1 1 [x - cv + 1000000000] rfl rfl HNW.out H1.out H2.out ?_)
          intro v' w5 hm5 hg5 hn5
          have HM5 := TKept.mk hm5
          have HB5 := TKept.mk (hbl.out.grown (tgrowTrans (World.grownBy_alloc wr (.cells #[.int .i64 (x - cv + 1000000000)] 3) _) hg5) hbl.out.size (fun j hj => (hOwn.out j hj).1))
          clear hm5 hg5 hn5
          go_wp2
          go_roundw
          case rel => exact ⟨k + 1, 1, _, by omega, by go_num, rfl, hq0, hq1, HNX, HM5, HB5⟩
          case measure => simp [intOf]; omega
        · obtain rfl : q = 0 := by omega
          obtain rfl : d = x - cv := by omega
          clear hlen hd hx hy hcell hxb hyb
          go_wp2_with (at_builtin; refine wpList_append_mine _ rfl _ _ 36 rfl 3 .i64 8 Tryz.underlying36 tinfo_i64 w.heap.size _ zs rfl HMa.out HBB.out ⟨wr.heap.size, 0, none⟩ 1 1 [x - cv] rfl rfl HNW.out H1.out H2.out ?_)
          intro v' w5 hm5 hg5 hn5
          have HM5 := TKept.mk hm5
          have HB5 := TKept.mk (hbl.out.grown (tgrowTrans (World.grownBy_alloc wr (.cells #[.int .i64 (x - cv)] 3) _) hg5) hbl.out.size (fun j hj => (hOwn.out j hj).1))
          clear hm5 hg5 hn5
          go_wp2
          go_roundw
          case rel => exact ⟨k + 1, 0, _, by omega, by go_num, rfl, hq0, hq1, HNX, HM5, HB5⟩
          case measure => simp [intOf]; omega
    · obtain rfl : k = xs.length := by omega
      have hd := hat.out.done hle HV.out
      have HS := TKept.mk hm.out.sl
      have HL := TKept.mk hat.out.len
      have HD := TKept.mk hd.2
      have HW := TKept.mk hd.1
      clear hd
      go_wp2_with fail
      refine (trim_num HS.out HW.out).mono ?_
      rintro e w2 ⟨v2, rfl, rfl, hn2, _⟩
      rw [HD.out, HL.out] at hn2
      have HN2 := TKept.mk hn2
      clear hn2
      go_wp2
      go_ret
      exact ⟨hbl.out, _, rfl, HN2.out⟩
end Go.Proofs.YtfhhnfpapgfnmaaGreat

set_option linter.unusedVariables false
set_option linter.unusedSimpArgs false
namespace Go.Proofs.YtfhhnfpapgfnmaaGreat
open Go Go.RowKit
set_option maxRecDepth 20000 in
set_option maxHeartbeats 2000000 in
theorem mulN_any (va vb : Value) (xs ys : List Int) (w : World) (ha : Sl .i64 w va xs) (hb : Sl .i64 w vb ys) (wx : Dg.Wf BN xs) (wy : Dg.Wf BN ys) (hxl : xs.length ≤ 1099511627776) (hyl : ys.length ≤ 1099511627776) :
    Calls Tryz.prog 31 #[va, vb] w (TRetR (xs.length + ys.length) w (Dg.val BN xs * Dg.val BN ys)) := by
  obtain ⟨ao, cap, rfl, hcap, hmax, hc⟩ := ha
  obtain ⟨bo, bcap, rfl, hbcap, hbmax, hbc⟩ := hb
  unfold maxLen at hmax hbmax
  have HC := TKept.mk hc
  have HBC := TKept.mk hbc
  have WX := TKept.mk wx
  have WY := TKept.mk wy
  clear hc hbc wx wy
  go_enter Tryz.func31, Tryz.ntmps31
  go_wp2_with (at_make; refine wpList_make_zeros _ rfl _ _ 36 rfl 3 .i64 Tryz.underlying36 tinfo_i64 _ _ (xs.length + ys.length) rfl rfl (by omega) (by omega) (by omega) ?_)
  intro w1 hrow hbel
  have HR1 := TKept.mk hrow
  have HB1 := TKept.mk hbel
  clear hrow hbel
  go_wp2
  go_loopw [6] (fun i wr => ∃ (n : Nat) (T : List Int), n ≤ xs.length ∧ i = .int .i64 n ∧ TKept (RmAt xs ys T n) ∧ TKept (Row 3 .i64 wr w.heap.size T) ∧ TKept (Below w.heap.size w wr)) (fun i _ => xs.length - (intOf i).toNat)
  case atStart => exact ⟨0, _, Nat.zero_le _, rfl, ⟨RmAt.start xs ys⟩, HR1, HB1⟩
  case round =>
    obtain ⟨n, T, hn, rfl, hat, hr, hbl⟩ := hrel
    by_cases hnx : n < xs.length
    · obtain ⟨x, hx⟩ : ∃ x, x = xs[n]?.getD 0 := ⟨_, rfl⟩
      have hxb := Dg.Wf.getD (show (0 : Int) < BN by decide) WX.out n
      rw [← hx] at hxb
      have hx0 : 0 ≤ x := hxb.1
      have hx1 : x < 1000000000 := hxb.2
      obtain ⟨b, o, rfl, hbs, hcell⟩ := HC.out n hnx
      rw [← hx] at hcell
      have HX := TKept.mk hx
      have HCL := TKept.mk hcell
      clear hx hcell hxb
      go_wp2
      go_loopw [7, 8] (fun c kv wi => ∃ (k : Nat) (cv : Int) (T' : List Int), k ≤ ys.length + 1 ∧ kv = .int .i64 k ∧ c = .int .i64 cv ∧ 0 ≤ cv ∧ cv < 1000000000 ∧ TKept (RmIn xs ys T' n k x cv) ∧ TKept (Row 3 .i64 wi w.heap.size T') ∧ TKept (Below w.heap.size w wi)) (fun _ kv _ => ys.length + 2 - (intOf kv).toNat)
      case atStart => exact ⟨0, 0, T, Nat.zero_le _, rfl, rfl, by omega, by omega, ⟨hat.out.row x⟩, hr, hbl⟩
      case round =>
        obtain ⟨k, cv, T', hk, rfl, rfl, hc0, hc1, hin, hri, hbi⟩ := hrel
        by_cases hcond : k < ys.length ∨ 0 < cv
        · obtain ⟨y, hy⟩ : ∃ y, y = ys[k]?.getD 0 := ⟨_, rfl⟩
          obtain ⟨t, ht⟩ : ∃ t, t = T'[n + k]?.getD 0 := ⟨_, rfl⟩
          obtain ⟨hlt, hm0, hm1, ht0, ht1, hnx'⟩ := hin.out.next hnx hy ht hx0 hx1 WY.out hcond
          have hkk : k ≤ ys.length := by
            apply Classical.byContradiction
            intro hc
            have := (hin.out.top (by omega)).1
            omega
          have HNX := TKept.mk hnx'
          have hct := hri.out.cell hlt
          have hft := hri.out.free (n + k)
          rw [← ht] at hct
          have hcx := (hbi.out.cell (p := ⟨b, o + n, none⟩) hbs).trans HCL.out
          obtain ⟨m, hm⟩ : ∃ m, x * y = m := ⟨_, rfl⟩
          rw [hm] at hm0 hm1
          obtain ⟨d, hd⟩ : ∃ d, (t + cv + m) % 1000000000 = d := ⟨_, rfl⟩
          obtain ⟨q, hq⟩ : ∃ q, (t + cv + m) / 1000000000 = q := ⟨_, rfl⟩
          have hq0 : 0 ≤ q := by omega
          have hq1 : q < 1000000000 := by omega
          have HQ := TKept.mk hq
          have HNX' : TKept (RmIn xs ys (T'.set (n + k) d) n (k + 1) x q) := ⟨by have := HNX.out; rw [hm, hd, hq] at this; exact this⟩
          by_cases hky : k < ys.length
          · obtain ⟨b', o', rfl, hbs', hcell'⟩ := HBC.out k hky
            rw [← hy] at hcell'
            have hcy := (hbi.out.cell (p := ⟨b', o' + k, none⟩) hbs').trans hcell'
            clear hnx' HNX hq hy ht hcell' hcond
            go_wp2
            go_region
            go_wp2
            go_roundw
            case rel => exact ⟨k + 1, q, T'.set (n + k) d, by omega, by go_num, congrArg (Value.int .i64) HQ.out, hq0, hq1, HNX', ⟨(hri.out.set (n + k) d).drew⟩, ⟨(hbi.out.setCell (Nat.le_refl _) _).drew⟩⟩
            case measure => simp [intOf]; omega
          · have ey : y = 0 := by rw [hy]; exact Dg.getD_out (by omega)
            obtain rfl : m = 0 := by rw [← hm, ey, Int.mul_zero]
            have hcv : 0 < cv := by omega
            rw [Int.add_zero] at hd hq
            have HQ2 := TKept.mk hq
            clear hnx' HNX hq hy ht hcond
            go_wp2
            go_roundw
            case rel => exact ⟨k + 1, q, T'.set (n + k) d, by omega, by go_num, congrArg (Value.int .i64) HQ2.out, hq0, hq1, HNX', ⟨hri.out.set (n + k) d⟩, ⟨hbi.out.setCell (Nat.le_refl _) _⟩⟩
            case measure => simp [intOf]; omega
        · have hcv : cv = 0 := by omega
          subst hcv
          have c2 : ¬ k < ys.length := by omega
          have HD := TKept.mk (hin.out.done (by omega) hnx HX.out)
          go_wp2
          go_roundw
          case rel => exact ⟨n + 1, T', by omega, by go_num, HD, hri, hbi⟩
          case measure => simp [intOf]; omega
    · obtain rfl : n = xs.length := by omega
      have hSl := hr.out.slAll (n := xs.length + ys.length) (cap := xs.length + ys.length) hat.out.len.symm (Nat.le_refl _) (by unfold maxLen; omega)
      have HS := TKept.mk hSl
      have HL := TKept.mk hat.out.len
      have HD := TKept.mk hat.out.done
      have HW := TKept.mk hat.out.wf
      clear hSl
      go_wp2_with fail
      refine (trim_num HS.out HW.out).mono ?_
      rintro e w2 ⟨v2, rfl, rfl, hn2, _⟩
      rw [HD.out, HL.out] at hn2
      have HN2 := TKept.mk hn2
      clear hn2
      go_wp2
      go_ret
      exact ⟨hbl.out, _, rfl, HN2.out⟩
end Go.Proofs.YtfhhnfpapgfnmaaGreat
