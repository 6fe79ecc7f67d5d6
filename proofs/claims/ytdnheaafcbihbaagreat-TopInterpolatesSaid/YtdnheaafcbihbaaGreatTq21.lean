/-
  Texts of the proof, merged by program: Rcx Cdc Cdd Awp Awc Cen Tpb.
-/
import Derived.Test.YtdnheaafcbihbaaGreatTq20
import Derived.WalkMore
set_option linter.unusedSimpArgs false
set_option linter.unusedVariables false
set_option maxHeartbeats 16000000
namespace Go.Proofs.YtdnheaafcbihbaaGreat
open Go Go.RowKit Go.Deep
open FFld (ints)
theorem Sl.news_ {w : World} {ao : Option Addr} {n cap : Nat} {xs : List Int} (h : Sl .i64 w (.slice ao n cap) xs) (i : Nat) (hi : i < xs.length) : ∃ b o, ao = some ⟨b, o, none⟩ /\ b < w.heap.size /\ w.cell? ⟨b, o + i, none⟩ = some (.int .i64 (xs[i]?.getD 0)) := by
 obtain ⟨ao', cap', e, hc, hm, hx⟩ := h
 simp only [Value.slice.injEq] at e
 obtain ⟨rfl, _, _⟩ := e
 exact hx i hi
theorem kpF_le (es : List Int) (i : Nat) : (kpF es i).length <= i := by
 unfold kpF
 exact Nat.le_trans (List.length_filter_le _ _) (by simp)
theorem FldB.res5 {D : FFld.FD} {W W' : World} {b g : Nat} (h : FldB D W b) (hz : W.heap[g]? = some rczb) (hg : W.grownBy W' (some g)) : FldB D W' b := by
 obtain ⟨h, ar, ms, ml, h1, h2, h3, h4⟩ := h
 have hbg : b ≠ g := fun e => by
  subst e
  rw [hz] at h1
  have := congrArg (fun o : Option Obj => match o with | some (.cells a _ _) => a.size | _ => 0) h1
  simp at this
 refine ⟨h, ar, ms, ml, (hg.block _ (Array.getElem?_eq_some_iff.1 h1).1 (by simpa using hbg)).trans h1, ?_, ?_, h4⟩
 ·rcases h2 with hv | ⟨k2, gP, gL, q1, q, P, L, e, r1, r2, rest⟩
  ·exact .inl hv
  ·have ty : ∀ x xs, Row 252 .u16 W x xs -> x ≠ g := fun x xs hr e => by
    subst e
    unfold Row at hr
    rw [hz] at hr
    have := congrArg (fun o : Option Obj => match o with | some (.cells _ t _) => t | _ => 0) hr
    have h9 : (119 : TypeId) = 252 := this
    exact absurd h9 (by decide)
   exact .inr ⟨k2, gP, gL, q1, q, P, L, e, r1.grown hg (ty _ _ r1), r2.grown hg (ty _ _ r2), rest⟩
 ·refine h3.kept hg (fun k hk e => ?_)
  cases e
  obtain ⟨ao, cap, rfl, hc, hm, hx⟩ := h3
  by_cases hl : ml = []
  ·subst hl
   cases ao <;> simp [live, ints] at hk
  ·have hpos : 0 < ml.length := List.length_pos_iff.2 hl
   obtain ⟨b', o, rfl, hb', hcell⟩ := hx (ml.length - 1) (by rw [FFld.ints_len]; omega)
   have hk' := live_own hk
   simp [Value.ownBlock] at hk'
   subst hk'
   rw [FFld.ints_get, cell_of_row W b' _ _ _ (0, 0) hz] at hcell
   have hlast : ml[ml.length - 1]?.getD 0 ≠ 0 := fun e => h4.nz (by
    rw [List.getLast?_eq_getElem?, List.getElem?_eq_getElem (by omega)]
    rw [List.getElem?_eq_getElem (by omega)] at e
    simpa using e)
   generalize ml[ml.length - 1]?.getD 0 = z at hcell hlast
   generalize o + (ml.length - 1) = n at hcell
   have : n = 0 \/ n = 1 \/ n = 2 \/ n = 3 \/ n = 4 \/ 5 <= n := by omega
   rcases this with rfl | rfl | rfl | rfl | rfl | h4
   ·simp at hcell
   ·simp at hcell
   ·simp at hcell
   ·simp at hcell; omega
   ·simp at hcell; omega
   ·rw [Array.getElem?_eq_none (by simpa using h4)] at hcell
    cases hcell
def ReRet {D : FFld.FD} (hD : D.Ok) (k rad : Nat) (P W : List Nat) (w : World) (e : Ending) (w' : World) : Prop := Below w.heap.size w w' /\ ∃ (b : Nat) (pv ev : Value), e = .returned (.tuple #[rcv b pv ev k rad, .int .i64 0]) /\ FldB D w' b /\ Sl .i64 w' pv (ints P) /\ Sl .i64 w' ev (ints W)
set_option maxRecDepth 20000 in
theorem creceive_ok {D : FFld.FD} (hD : D.Ok) (ax aw ae : Option Addr) (cx cw ce n m k : Nat) (xs ws : List Nat) (es : List Int) (w : World) (hx : Sl .i64 w (.slice ax n cx) (ints xs)) (hw : Sl .i64 w (.slice aw n cw) (ints ws)) (he : Sl .i64 w (.slice ae m ce) es) (lx : xs.length = n) (lw : ws.length = n) (le : es.length = m) (hxq : ∀ a ∈ xs, a < D.p ^ D.k) (hwq : ∀ a ∈ ws, a < D.p ^ D.k) (hchk : chkE D.q (ints xs) k = 0) (hk1 : 1 <= k) (hkm : m + k <= n) (hn : n <= 64) (hb : belB n es = true) (hd : difB es m = true) :
 Calls Tryz.prog 90 #[cdv D.q ax n cx k, .slice aw n cw, .slice ae m ce] w (ReRet hD k ((n - m - k) / 2) ((kpF es n).map fun j => xs[j]?.getD 0) ((kpF es n).map fun j => ws[j]?.getD 0) w) := by
 have hq6 : D.p ^ D.k <= 65536 := hD.pre.small
 have hq0 : D.q = D.p ^ D.k := rfl
 have HX0 : Kept (Bxs w [cdbox D.q ax n cx k, rczb] ((w.alloc (cdbox D.q ax n cx k)).alloc rczb)) := ⟨((Bxs.start w).alloc (by simp) _).alloc (by simp) _⟩
 have HCK : Kept (∀ W, Below w.heap.size w W -> Calls Tryz.prog 21 #[cdv D.q ax n cx k] W (RB W (.int .i64 0))) := ⟨fun W hW => by
  have h := ccheck_any (D.q : Int) k ax cx (ints xs) W (by rw [FFld.ints_len, lx]; exact hx.below hW) (by omega) (by omega) (by omega) (by omega)
  rw [hchk, FFld.ints_len, lx] at h
  exact h⟩
 have HB1 : Kept (∀ W, Below w.heap.size w W -> Calls Tryz.prog 85 #[.int .i64 D.q, .slice aw n cw] W (fun e w' => W = w' /\ e = .returned (.bool true))) := ⟨fun W hW => by
  have h := careBelow_any (D.q : Int) _ (ints ws) W (hw.below hW)
  rw [bel_ints hwq] at h
  exact h⟩
 have HB2 : Kept (∀ W, Below w.heap.size w W -> Calls Tryz.prog 85 #[.int .i64 n, .slice ae m ce] W (fun e w' => W = w' /\ e = .returned (.bool true))) := ⟨fun W hW => by
  have h := careBelow_any (n : Int) _ es W (he.below hW)
  rw [hb] at h
  exact h⟩
 have HD1 : Kept (∀ W, Below w.heap.size w W -> Calls Tryz.prog 86 #[.slice ae m ce] W (fun e w' => W = w' /\ e = .returned (.bool true))) := ⟨fun W hW => by
  have h := careDifferent_any _ es W (he.below hW)
  rw [le, hd] at h
  exact h⟩
 have HNW := Kept.mk (fun W => fnew_any (D.q : Int) W (by omega) (by omega))
 have HD := Kept.mk hD
 have HXS := Kept.mk hx
 have HWS := Kept.mk hw
 have HES := Kept.mk he
 have HLX := Kept.mk lx
 have HLW := Kept.mk lw
 have HLE := Kept.mk le
 obtain ⟨q, hq⟩ : ∃ q, D.q = q := ⟨_, rfl⟩
 have HQ := Kept.mk hq
 rw [hq] at HX0 HCK HB1 HNW ⊢
 obtain ⟨rad, hrad⟩ : ∃ r, (n - m - k) / 2 = r := ⟨_, rfl⟩
 have er1 : (n : Int) - (m : Int) - (k : Int) = ((n - m - k : Nat) : Int) := by omega
 have er2 : ((n - m - k : Nat) : Int).tdiv 2 = rad := by rw [Int.tdiv_eq_ediv_of_nonneg (by omega)]; omega
 have er3 : (n : Int) - (k : Int) = ((n - k : Nat) : Int) := by omega
 have er4 : (n : Int) - (m : Int) = ((n - m : Nat) : Int) := by omega
 have er5 : ((n - m : Nat) : Int) - (k : Int) = ((n - m - k : Nat) : Int) := by omega
 have er6 : ((n - m - k : Nat) : Int) / 2 = rad := by omega
 have g1 : ((n : Int) != (n : Int)) = false := by simp
 have g2 : decide (((n - k : Nat) : Int) < (m : Int)) = false := decide_eq_false (by omega)
 rw [hrad]
 have hq6' : q <= 65536 := by omega
 clear hx hw he lx lw le hxq hwq hchk hb hd hq hq0 hrad
 go_enter Tryz.func90, Tryz.ntmps90
 obtain ⟨c0, c1, c2, _⟩ := three_cells HX0.out.b0
 go_wp2_with fail
 go_step3
 go_wp2_with fail
 have hbx := HX0.out.1
 (with_reducible refine (HCK.out _ hbx).mono ?_)
 rintro e w1 ⟨hb1, rfl⟩
 have HX1 := Kept.mk (HX0.out.below hb1)
 clear hb1 c0 c1 c2 HCK hbx
 have hbx := HX1.out.1
 obtain ⟨c0, c1, c2, _⟩ := three_cells HX1.out.b0
 go_wp2_with fail
 (with_reducible refine (HB1.out _ hbx).mono ?_)
 rintro e w2 ⟨rfl, rfl⟩
 go_wp2_with fail
 (with_reducible refine (HB2.out _ hbx).mono ?_)
 rintro e w2 ⟨rfl, rfl⟩
 go_wp2_with fail
 (with_reducible refine (HD1.out _ hbx).mono ?_)
 rintro e w2 ⟨rfl, rfl⟩
 go_wp2_with fail
 (with_reducible refine (HNW.out _).mono ?_)
 rintro e w2 ⟨hb2, ⟨D', b, hq', hle, rfl, hf⟩ | ⟨hno, rfl⟩⟩
 ·obtain rfl : D' = D := FFld.FD.uniq hf.ok HD.out (by have := HQ.out; omega)
  have HX2 := Kept.mk (HX1.out.below hb2)
  have HF2 := Kept.mk hf
  clear hb2 hf hq' hle hbx HB1 HB2 HD1 HNW c0 c1 c2
  obtain ⟨c0, c1, c2, _⟩ := three_cells HX2.out.b0
  have hal : Below w2.heap.size w2 (w2.alloc (rcbox b nilv nilv k rad)) := (Below.refl _ _).alloc (Nat.le_refl _) _
  have HRC : Kept (RcAt b (w2.heap.size + 1) w2.heap.size k rad nilv nilv ((kpF es 0).map fun j => xs[j]?.getD 0) ((kpF es 0).map fun j => ws[j]?.getD 0) (w2.alloc (rcbox b nilv nilv k rad))) := ⟨⟨heap_alloc_new w2 _, Mine.nil _ _ _ _, Mine.nil _ _ _ _, fun j hj => (by simp [Value.ownBlock] at hj), by omega⟩⟩
  have HX3 := Kept.mk (HX2.out.below hal)
  have HBL := Kept.mk hal
  clear hal
  go_wp2
  obtain ⟨g, hg⟩ : ∃ x, w2.heap.size = x := ⟨_, rfl⟩
  have hgw : w.heap.size + 1 < g := by have := HX2.out.2.1; simp at this; omega
  obtain ⟨W3, hW3⟩ : ∃ W, w2.alloc (rcbox b nilv nilv k rad) = W := ⟨_, rfl⟩
  rw [hW3] at HRC HX3 HBL
  try rw [hW3]
  have HG2 := Kept.mk hg
  rw [hg] at HRC HBL
  try rw [hg]
  clear hW3 hg c0 c1 c2 HX3
  go_step3
  go_wp2
  go_loopw [79] (fun iv wr => ∃ (i : Nat) (pv ev : Value), i <= n /\ iv = .int .i64 i /\ Kept (RcAt b (g + 1) g k rad pv ev ((kpF es i).map fun j => xs[j]?.getD 0) ((kpF es i).map fun j => ws[j]?.getD 0) wr) /\ Kept (Below g w2 wr)) (fun iv _ => n - (intOf iv).toNat)
  case atStart => exact ⟨0, _, _, Nat.zero_le _, rfl, HRC, HBL⟩
  case round =>
   clear HRC HBL
   obtain ⟨i, pv, ev, hin, rfl, hrc, hb2⟩ := hrel
   have hbx := Kept.mk (HX2.out.below (show Below w2.heap.size w2 wr by rw [HG2.out]; exact hb2.out))
   have hbl := hbx.out.1
   by_cases hlt : i < n
   ·obtain ⟨aw', cw', e, hcw, hmw, hxw⟩ := HWS.out.below hbl
    simp only [Value.slice.injEq] at e
    obtain ⟨rfl, e2, rfl⟩ := e
    clear e2
    obtain ⟨bw, ow, rfl, hbw, hcell⟩ := hxw i (by rw [FFld.ints_len, HLW.out]; exact hlt)
    rw [FFld.ints_get] at hcell
    rw [FFld.ints_len, HLW.out] at hcw
    obtain ⟨wv, hwv⟩ : ∃ x, ws[i]?.getD 0 = x := ⟨_, rfl⟩
    rw [hwv] at hcell
    have HWV := Kept.mk hwv
    unfold maxLen at hmw
    obtain ⟨ae', ce', e, hce, hme, hxe⟩ := HES.out.below hbl
    simp only [Value.slice.injEq] at e
    obtain ⟨rfl, e2, rfl⟩ := e
    clear e2 hwv hxw
    rw [HLE.out] at hce
    have HXE := Kept.mk hxe
    unfold maxLen at hme
    clear hxe
    go_wp2
    go_loopw [86] (fun jv wv' => ∃ (j : Nat), j <= m /\ jv = .int .i64 j /\ Kept (∀ a, a < j -> es[a]?.getD 0 ≠ (i : Int)) /\ wr = wv') (fun jv _ => m - (intOf jv).toNat)
    case atStart => exact ⟨0, Nat.zero_le _, rfl, ⟨fun a ha => absurd ha (Nat.not_lt_zero _)⟩, rfl⟩
    case round =>
     obtain ⟨j, hjm, rfl, hall, rfl⟩ := hrel
     by_cases hj : j < m
     ·obtain ⟨be, oe, rfl, hbe, hce2⟩ := HXE.out j (by rw [HLE.out]; exact hj)
      obtain ⟨ev2, hev⟩ : ∃ x, es[j]?.getD 0 = x := ⟨_, rfl⟩
      rw [hev] at hce2
      have HEV := Kept.mk hev
      clear hev
      by_cases heq : ev2 = (i : Int)
      ·have e0 : (ev2 == (i : Int)) = true := beq_iff_eq.2 heq
       have HK : Kept (kpF es (i + 1) = kpF es i) := ⟨by
        rw [kpF_next, if_neg]
        intro hc
        rw [List.all_eq_true] at hc
        have := hc (es[j]?.getD 0) (FFld.get_mem (by rw [HLE.out]; exact hj))
        rw [HEV.out] at this
        simp [heq] at this⟩
       go_wp2
       go_roundw
       case rel => exact ⟨i + 1, pv, ev, by omega, by go_num, by rw [HK.out]; exact hrc, hb2⟩
       case measure => simp [intOf] <;> omega
      ·have e0 : (ev2 == (i : Int)) = false := beq_eq_false_iff_ne.2 heq
       have HA : Kept (∀ a, a < j + 1 -> es[a]?.getD 0 ≠ (i : Int)) := ⟨fun a ha => by
        by_cases e : a = j
        ·rw [e, HEV.out]; exact heq
        ·exact hall.out a (by omega)⟩
       go_wp2
       go_roundw
       case rel => exact ⟨j + 1, by omega, by go_num, HA, trivial⟩
       case measure => simp [intOf] <;> omega
     ·obtain rfl : j = m := by omega
      have HK : Kept (kpF es (i + 1) = kpF es i ++ [i]) := ⟨by
       rw [kpF_next, if_pos]
       rw [List.all_eq_true]
       intro x hx
       obtain ⟨a, ha, rfl⟩ := List.getElem_of_mem hx
       have := hall.out a (by rw [<- HLE.out]; exact ha)
       rw [List.getElem?_eq_getElem ha] at this
       exact decide_eq_true this⟩
      obtain ⟨c0, c1, c2, _⟩ := three_cells hbx.out.b0
      obtain ⟨ax', cx', e, hcx, hmx, hxp⟩ := HXS.out.below hbl
      simp only [Value.slice.injEq] at e
      obtain ⟨rfl, e2, rfl⟩ := e
      clear e2
      obtain ⟨bx, ox, rfl, hbx0, hpc⟩ := (HXS.out.news_ i (by rw [FFld.ints_len, HLX.out]; exact hlt))
      rw [FFld.ints_get] at hpc
      rw [FFld.ints_len, HLX.out] at hcx
      obtain ⟨x, hxv⟩ : ∃ y, xs[i]?.getD 0 = y := ⟨_, rfl⟩
      rw [hxv] at hpc
      have HXV := Kept.mk hxv
      have p0 := belowCell hbl hpc
      unfold maxLen at hmx
      obtain ⟨pa, pc, rfl, _, _⟩ := hrc.out.pm.sl.form
      obtain ⟨np, hnp⟩ : ∃ y, (ints ((kpF es i).map fun j => xs[j]?.getD 0)).length = y := ⟨_, rfl⟩
      have HNP := Kept.mk hnp
      have hnp64 : np <= 64 := by rw [<- hnp, FFld.ints_len, List.length_map]; have := kpF_le es i; omega
      rw [hnp] at hrc
      try rw [hnp]
      obtain ⟨ea, ec, rfl, _, _⟩ := hrc.out.em.sl.form
      obtain ⟨ne, hne⟩ : ∃ y, (ints ((kpF es i).map fun j => ws[j]?.getD 0)).length = y := ⟨_, rfl⟩
      have HNE := Kept.mk hne
      have hne64 : ne <= 64 := by rw [<- hne, FFld.ints_len, List.length_map]; have := kpF_le es i; omega
      rw [hne] at hrc
      try rw [hne]
      clear hne
      have hgl := hrc.out.gB
      have hsz := hbl.size
      have hgs : g < wr.heap.size := (Array.getElem?_eq_some_iff.1 hrc.out.box).1
      have hal : Below wr.heap.size wr ((wr.alloc (.cells #[.int .i64 (x : Nat)] 3)).drew) := ((Below.refl _ _).alloc (Nat.le_refl _) _).drew
      have HRA := Kept.mk (hrc.out.below hal)
      have HBA := Kept.mk (hb2.out.trans (hal.mono (Nat.le_of_lt hgs)))
      have HNW : Kept (∀ j u, ([((x : Nat) : Int)].map (Value.int .i64))[j]? = some u -> ((wr.alloc (.cells #[.int .i64 (x : Nat)] 3)).drew).cell? ((⟨wr.heap.size, 0, none⟩ : Addr).add j) = some u) := ⟨new_one (K := .i64) (x := ((x : Nat) : Int)) (b := wr.heap.size) (o := 0) (by exact (Row.new (E := 3) (K := .i64) wr [((x : Nat) : Int)]).cell (i := 0) (by simp))⟩
      have HBB : Kept (g + 1 <= ((wr.alloc (.cells #[.int .i64 (x : Nat)] 3)).drew).heap.size) := ⟨by have := hal.size; omega⟩
      have H1 := Kept.mk (show ((ints ((kpF es i).map fun j => xs[j]?.getD 0)).length + [((x : Nat) : Int)].length) * 8 <= 140737488355328 by rw [HNP.out]; simp; omega)
      have H2 := Kept.mk (show (ints ((kpF es i).map fun j => xs[j]?.getD 0)).length + [((x : Nat) : Int)].length <= maxLen by rw [HNP.out]; unfold maxLen; simp; omega)
      have HMA := Kept.mk HRA.out.pm
      have a1 := belowCell hal c1
      have a2 := belowCell hal p0
      obtain ⟨u0, u1, u2, u3, u4⟩ := five_cells_ hrc.out.box
      have u1a := belowCell hal u1
      clear hnp hpc hxp hxv hcell
      go_upto_region 19 with fail
      refine wp_region_held_drew (S := fun w' => w'.cell? ⟨w.heap.size, 1, none⟩ = some (.slice (some ⟨bx, ox, none⟩) n cx) /\ w'.cell? ⟨bx, ox + i, none⟩ = some (.int .i64 (x : Nat))) (by kernel_rfl) ⟨c1, p0⟩ (fun hHeld => ?_)
      refine wpAnyH_take (i := 0) (v := ?_) rfl (by kernel_rfl) (by kernel_rfl) (by kernel_rfl) (fun _ _ _ h => h) (Or.inl ⟨by rfl, ?_⟩) (by assumption) ?_
      rotate_left
      ·(intro w hSw; (try dsimp only at hSw); go_simp; (try with_reducible rfl))
      try simp only [Act.put, List.getElem_toArray, List.getElem_cons_succ, List.getElem_cons_zero, List.setIfInBounds_toArray, List.set_cons_zero, List.set_cons_succ]
      refine wpAnyH_take (i := 2) (v := ?_) rfl (by kernel_rfl) (by kernel_rfl) (by kernel_rfl) (fun _ _ _ h => h) (Or.inl ⟨by rfl, ?_⟩) (by assumption) ?_
      rotate_left
      ·(intro w hSw; (try dsimp only at hSw); go_simp; (try with_reducible rfl))
      try simp only [Act.put, List.getElem_toArray, List.getElem_cons_succ, List.getElem_cons_zero, List.setIfInBounds_toArray, List.set_cons_zero, List.set_cons_succ]
      refine wpAnyH_take (i := 3) (v := ?_) rfl (by kernel_rfl) (by kernel_rfl) (by kernel_rfl) (fun _ _ _ h => h) (Or.inl ⟨by rfl, ?_⟩) (by assumption) ?_
      rotate_left
      ·(intro w hSw; (try dsimp only at hSw); go_simp; (try with_reducible rfl))
      try simp only [Act.put, List.getElem_toArray, List.getElem_cons_succ, List.getElem_cons_zero, List.setIfInBounds_toArray, List.set_cons_zero, List.set_cons_succ]
      refine wpAnyH_take (i := 4) (v := ?_) rfl (by kernel_rfl) (by kernel_rfl) (by kernel_rfl) (fun _ _ _ h => h) (Or.inl ⟨by rfl, ?_⟩) (by assumption) ?_
      rotate_left
      ·(intro w hSw; (try dsimp only at hSw); go_simp; (try with_reducible rfl))
      try simp only [Act.put, List.getElem_toArray, List.getElem_cons_succ, List.getElem_cons_zero, List.setIfInBounds_toArray, List.set_cons_zero, List.set_cons_succ]
      refine wpAnyH_take (i := 5) (v := ?_) rfl (by kernel_rfl) (by kernel_rfl) (by kernel_rfl) (fun _ _ _ h => h) (Or.inl ⟨by rfl, ?_⟩) (by assumption) ?_
      rotate_left
      ·(intro w hSw; (try dsimp only at hSw); go_simp; (try with_reducible rfl))
      try simp only [Act.put, List.getElem_toArray, List.getElem_cons_succ, List.getElem_cons_zero, List.setIfInBounds_toArray, List.set_cons_zero, List.set_cons_succ]
      refine wpAnyH_take (i := 6) (v := ?_) rfl (by kernel_rfl) (by kernel_rfl) (by kernel_rfl) (fun _ _ _ h => h) (Or.inl ⟨by rfl, ?_⟩) (by assumption) ?_
      rotate_left
      ·(intro w hSw; (try dsimp only at hSw); go_simp; (try with_reducible rfl))
      try simp only [Act.put, List.getElem_toArray, List.getElem_cons_succ, List.getElem_cons_zero, List.setIfInBounds_toArray, List.set_cons_zero, List.set_cons_succ]
      refine wpAnyH_ready (rs := [1, 7]) (by kernel_rfl) (by simp) ?_
      refine AllReadyH.cons rfl (fun K hK => ?_) (AllReadyH.cons rfl (fun K hK => ?_) AllReadyH.nil)
      ·go_simp
       refine hK.out _ _ ⟨c1, p0⟩ (fun hHeld => ?_)
       clear hK K
       try simp only [Act.put, List.getElem_toArray, List.getElem_cons_succ, List.getElem_cons_zero, List.setIfInBounds_toArray, List.set_cons_zero, List.set_cons_succ]
       refine wpAnyH_ready (rs := [7]) (by kernel_rfl) (by simp) ?_
       refine (AllReadyH.cons rfl (fun K hK => ?_) AllReadyH.nil)
       go_simp
       refine hK.out _ _ ⟨a1, a2⟩ (fun hHeld => ?_)
       clear hK K
       try simp only [Act.put, List.getElem_toArray, List.getElem_cons_succ, List.getElem_cons_zero, List.setIfInBounds_toArray, List.set_cons_zero, List.set_cons_succ]
       obtain ⟨W5, hW5⟩ : ∃ W, (wr.alloc (.cells #[.int .i64 (x : Nat)] 3)).drew = W := ⟨_, rfl⟩
       rw [hW5] at hal HRA HBA HNW HBB HMA a1 a2 u1a ⊢
       clear hW5
       refine wpAnyH_ready (rs := [8]) (by kernel_rfl) (by simp) ?_
       refine (AllReadyH.cons rfl (fun K hK => ?_) AllReadyH.nil)
       simp only [Act.put, List.getElem_toArray, List.getElem_cons_succ, List.getElem_cons_zero, List.setIfInBounds_toArray, List.set_cons_zero, List.set_cons_succ]
       rw [if_pos (by simp [Region.wanted])]
       refine wp_append_parts _ _ _ 22 (by rfl) 3 .i64 8 Tryz.underlying22 info_i64 (g + 1) (.slice pa np pc) (ints ((kpF es i).map fun j => xs[j]?.getD 0)) (by rfl) HMA.out HBB.out ⟨wr.heap.size, 0, none⟩ 1 1 [((x : Nat) : Int)] (by rfl) (by rfl) HNW.out H1.out H2.out ?_
       intro va nv vc w5 hlv hm5 hg5 hn5
       have hown := HMA.out.own
       have HRC := Kept.mk (HRA.out.point (x := x) (by rw [FFld.ints_append]; exact hm5) hg5 hn5)
       have HLV := Kept.mk hlv
       have b1 := hg5.cell (a := ⟨w.heap.size, 1, none⟩) a1 (fun e => by have := (hown w.heap.size e.symm).1; omega)
       have b2 := hg5.cell (a := ⟨bx, ox + i, none⟩) a2 (fun e => by have := (hown bx e.symm).1; omega)
       have hbox5 := (hg5.block g (Array.getElem?_eq_some_iff.1 HRA.out.box).1 (fun e => by have := (hown g e.symm).1; omega)).trans HRA.out.box
       obtain ⟨v0, v1, v2, v3, v4⟩ := five_cells_ hbox5
       obtain ⟨f0, f1, f2, f3, f4⟩ := five_free hbox5
       have HB5 := Kept.mk (HBA.out.grown hg5 (by have := HBB.out; omega) (fun j hj => by have := (hown j hj).1; omega))
       clear hlv hm5 hg5 hn5 hown hbox5
       refine hK.out _ _ ⟨b1, b2⟩ (fun hHeld => ?_)
       clear hK K
       try simp only [Act.put, List.getElem_toArray, List.getElem_cons_succ, List.getElem_cons_zero, List.setIfInBounds_toArray, List.set_cons_zero, List.set_cons_succ]
       refine wpAnyH_take (i := 9) (v := ?_) rfl (by kernel_rfl) (by kernel_rfl) (by kernel_rfl) (fun _ _ _ h => h) (Or.inl ⟨by rfl, ?_⟩) (by assumption) ?_
       rotate_left
       ·(intro w hSw; (try dsimp only at hSw); go_simp; (try with_reducible rfl))
       try simp only [Act.put, List.getElem_toArray, List.getElem_cons_succ, List.getElem_cons_zero, List.setIfInBounds_toArray, List.set_cons_zero, List.set_cons_succ]
       refine wpAnyH_ready (rs := [10]) (by kernel_rfl) (by simp) ?_
       refine (AllReadyH.cons rfl (fun K hK => ?_) AllReadyH.nil)
       go_simp
       have d1 := (World.cell?_of_block (heap_setCell_other w5 ⟨g, 1, none⟩ w.heap.size (.slice va nv vc) (by simp; omega))).trans b1
       have d2 := (World.cell?_of_block (heap_setCell_other w5 ⟨g, 1, none⟩ bx (.slice va nv vc) (by simp; omega))).trans b2
       refine hK.out _ _ ⟨d1, d2⟩ (fun hHeld => ?_)
       clear hK K
       try simp only [Act.put, List.getElem_toArray, List.getElem_cons_succ, List.getElem_cons_zero, List.setIfInBounds_toArray, List.set_cons_zero, List.set_cons_succ]
       refine wpAnyH_done (by kernel_rfl) ?_ _
       have HB6 := Kept.mk (HB5.out.setCell (p := ⟨g, 1, none⟩) (by simp) (.slice va nv vc))
       obtain ⟨W6, hW6⟩ : ∃ W, w5.setCell ⟨g, 1, none⟩ (.slice va nv vc) = W := ⟨_, rfl⟩
       rw [hW6] at HRC HB6 ⊢
       clear hW6 d1 d2 b1 b2 v0 v1 v2 v3 v4 f0 f1 f2 f3 f4 HB5 HRA HBA HNW HBB HMA a1 a2 u1a u0 u1 u2 u3 u4 H1 H2 hal c0 c1 c2 p0
       have hal : Below W6.heap.size W6 (W6.alloc (.cells #[.int .i64 (wv : Nat)] 3)) := (Below.refl _ _).alloc (Nat.le_refl _) _
       have HRB := Kept.mk (HRC.out.below hal)
       have HME := Kept.mk HRB.out.em
       have HNW : Kept (∀ j u, ([((wv : Nat) : Int)].map (Value.int .i64))[j]? = some u -> (W6.alloc (.cells #[.int .i64 (wv : Nat)] 3)).cell? ((⟨W6.heap.size, 0, none⟩ : Addr).add j) = some u) := ⟨new_one (K := .i64) (x := ((wv : Nat) : Int)) (b := W6.heap.size) (o := 0) (by exact (Row.new (E := 3) (K := .i64) W6 [((wv : Nat) : Int)]).cell (i := 0) (by simp))⟩
       have hgs6 : g < W6.heap.size := (Array.getElem?_eq_some_iff.1 HRC.out.box).1
       have HBB : Kept (g + 1 <= (W6.alloc (.cells #[.int .i64 (wv : Nat)] 3)).heap.size) := ⟨by have := hal.size; omega⟩
       have H1 := Kept.mk (show ((ints ((kpF es i).map fun j => ws[j]?.getD 0)).length + [((wv : Nat) : Int)].length) * 8 <= 140737488355328 by rw [HNE.out]; simp; omega)
       have H2 := Kept.mk (show (ints ((kpF es i).map fun j => ws[j]?.getD 0)).length + [((wv : Nat) : Int)].length <= maxLen by rw [HNE.out]; unfold maxLen; simp; omega)
       have HB7 := Kept.mk (HB6.out.trans (hal.mono (Nat.le_of_lt hgs6)))
       obtain ⟨u0, u1, u2, u3, u4⟩ := five_cells_ HRC.out.box
       clear hal
       go_wp2_with (at_builtin; refine wpList_append_parts _ rfl _ _ 22 (by rfl) 3 .i64 8 Tryz.underlying22 info_i64 (g + 1) (.slice ea ne ec) (ints ((kpF es i).map fun j => ws[j]?.getD 0)) (by rfl) HME.out HBB.out ⟨W6.heap.size, 0, none⟩ 1 1 [((wv : Nat) : Int)] (by rfl) rfl HNW.out H1.out H2.out ?_)
       intro va2 nv2 vc2 w7 hlv2 hm7 hg7 hn7
       have hown := HME.out.own
       have HRC2 := Kept.mk (HRB.out.element (x := wv) (by rw [FFld.ints_append]; exact hm7) hg7 (by simpa using hn7))
       have hbox7 := (hg7.block g (Array.getElem?_eq_some_iff.1 HRB.out.box).1 (fun e => by have := (hown g e.symm).1; omega)).trans HRB.out.box
       obtain ⟨v0, v1, v2, v3, v4⟩ := five_cells_ hbox7
       obtain ⟨f0, f1, f2, f3, f4⟩ := five_free hbox7
       have HB8 := Kept.mk ((HB7.out.grown hg7 (by have := HBB.out; omega) (fun j hj => by have := (hown j hj).1; omega)).setCell (p := ⟨g, 2, none⟩) (by simp) (.slice va2 nv2 vc2))
       clear hlv2 hm7 hg7 hn7 hown hbox7 u0 u1 u2 u3 u4 HRB HME
       go_wp2
       go_roundw
       case rel => exact ⟨i + 1, _, _, by omega, by go_num, by rw [HK.out, List.map_append, List.map_append, List.map_cons, List.map_nil, List.map_cons, List.map_nil, HXV.out, HWV.out]; exact HRC2, HB8⟩
       case measure => simp [intOf] <;> omega
      ·go_simp
       refine hK.out _ _ ⟨a1, a2⟩ (fun hHeld => ?_)
       clear hK K
       try simp only [Act.put, List.getElem_toArray, List.getElem_cons_succ, List.getElem_cons_zero, List.setIfInBounds_toArray, List.set_cons_zero, List.set_cons_succ]
       refine wpAnyH_ready (rs := [1]) (by kernel_rfl) (by simp) ?_
       refine (AllReadyH.cons rfl (fun K hK => ?_) AllReadyH.nil)
       go_simp
       refine hK.out _ _ ⟨a1, a2⟩ (fun hHeld => ?_)
       clear hK K
       try simp only [Act.put, List.getElem_toArray, List.getElem_cons_succ, List.getElem_cons_zero, List.setIfInBounds_toArray, List.set_cons_zero, List.set_cons_succ]
       obtain ⟨W5, hW5⟩ : ∃ W, (wr.alloc (.cells #[.int .i64 (x : Nat)] 3)).drew = W := ⟨_, rfl⟩
       rw [hW5] at hal HRA HBA HNW HBB HMA a1 a2 u1a ⊢
       clear hW5
       refine wpAnyH_ready (rs := [8]) (by kernel_rfl) (by simp) ?_
       refine (AllReadyH.cons rfl (fun K hK => ?_) AllReadyH.nil)
       simp only [Act.put, List.getElem_toArray, List.getElem_cons_succ, List.getElem_cons_zero, List.setIfInBounds_toArray, List.set_cons_zero, List.set_cons_succ]
       rw [if_pos (by simp [Region.wanted])]
       refine wp_append_parts _ _ _ 22 (by rfl) 3 .i64 8 Tryz.underlying22 info_i64 (g + 1) (.slice pa np pc) (ints ((kpF es i).map fun j => xs[j]?.getD 0)) (by rfl) HMA.out HBB.out ⟨wr.heap.size, 0, none⟩ 1 1 [((x : Nat) : Int)] (by rfl) (by rfl) HNW.out H1.out H2.out ?_
       intro va nv vc w5 hlv hm5 hg5 hn5
       have hown := HMA.out.own
       have HRC := Kept.mk (HRA.out.point (x := x) (by rw [FFld.ints_append]; exact hm5) hg5 hn5)
       have HLV := Kept.mk hlv
       have b1 := hg5.cell (a := ⟨w.heap.size, 1, none⟩) a1 (fun e => by have := (hown w.heap.size e.symm).1; omega)
       have b2 := hg5.cell (a := ⟨bx, ox + i, none⟩) a2 (fun e => by have := (hown bx e.symm).1; omega)
       have hbox5 := (hg5.block g (Array.getElem?_eq_some_iff.1 HRA.out.box).1 (fun e => by have := (hown g e.symm).1; omega)).trans HRA.out.box
       obtain ⟨v0, v1, v2, v3, v4⟩ := five_cells_ hbox5
       obtain ⟨f0, f1, f2, f3, f4⟩ := five_free hbox5
       have HB5 := Kept.mk (HBA.out.grown hg5 (by have := HBB.out; omega) (fun j hj => by have := (hown j hj).1; omega))
       clear hlv hm5 hg5 hn5 hown hbox5
       refine hK.out _ _ ⟨b1, b2⟩ (fun hHeld => ?_)
       clear hK K
       try simp only [Act.put, List.getElem_toArray, List.getElem_cons_succ, List.getElem_cons_zero, List.setIfInBounds_toArray, List.set_cons_zero, List.set_cons_succ]
       refine wpAnyH_take (i := 9) (v := ?_) rfl (by kernel_rfl) (by kernel_rfl) (by kernel_rfl) (fun _ _ _ h => h) (Or.inl ⟨by rfl, ?_⟩) (by assumption) ?_
       rotate_left
       ·(intro w hSw; (try dsimp only at hSw); go_simp; (try with_reducible rfl))
       try simp only [Act.put, List.getElem_toArray, List.getElem_cons_succ, List.getElem_cons_zero, List.setIfInBounds_toArray, List.set_cons_zero, List.set_cons_succ]
       refine wpAnyH_ready (rs := [10]) (by kernel_rfl) (by simp) ?_
       refine (AllReadyH.cons rfl (fun K hK => ?_) AllReadyH.nil)
       go_simp
       have d1 := (World.cell?_of_block (heap_setCell_other w5 ⟨g, 1, none⟩ w.heap.size (.slice va nv vc) (by simp; omega))).trans b1
       have d2 := (World.cell?_of_block (heap_setCell_other w5 ⟨g, 1, none⟩ bx (.slice va nv vc) (by simp; omega))).trans b2
       refine hK.out _ _ ⟨d1, d2⟩ (fun hHeld => ?_)
       clear hK K
       try simp only [Act.put, List.getElem_toArray, List.getElem_cons_succ, List.getElem_cons_zero, List.setIfInBounds_toArray, List.set_cons_zero, List.set_cons_succ]
       refine wpAnyH_done (by kernel_rfl) ?_ _
       have HB6 := Kept.mk (HB5.out.setCell (p := ⟨g, 1, none⟩) (by simp) (.slice va nv vc))
       obtain ⟨W6, hW6⟩ : ∃ W, w5.setCell ⟨g, 1, none⟩ (.slice va nv vc) = W := ⟨_, rfl⟩
       rw [hW6] at HRC HB6 ⊢
       clear hW6 d1 d2 b1 b2 v0 v1 v2 v3 v4 f0 f1 f2 f3 f4 HB5 HRA HBA HNW HBB HMA a1 a2 u1a u0 u1 u2 u3 u4 H1 H2 hal c0 c1 c2 p0
       have hal : Below W6.heap.size W6 (W6.alloc (.cells #[.int .i64 (wv : Nat)] 3)) := (Below.refl _ _).alloc (Nat.le_refl _) _
       have HRB := Kept.mk (HRC.out.below hal)
       have HME := Kept.mk HRB.out.em
       have HNW : Kept (∀ j u, ([((wv : Nat) : Int)].map (Value.int .i64))[j]? = some u -> (W6.alloc (.cells #[.int .i64 (wv : Nat)] 3)).cell? ((⟨W6.heap.size, 0, none⟩ : Addr).add j) = some u) := ⟨new_one (K := .i64) (x := ((wv : Nat) : Int)) (b := W6.heap.size) (o := 0) (by exact (Row.new (E := 3) (K := .i64) W6 [((wv : Nat) : Int)]).cell (i := 0) (by simp))⟩
       have hgs6 : g < W6.heap.size := (Array.getElem?_eq_some_iff.1 HRC.out.box).1
       have HBB : Kept (g + 1 <= (W6.alloc (.cells #[.int .i64 (wv : Nat)] 3)).heap.size) := ⟨by have := hal.size; omega⟩
       have H1 := Kept.mk (show ((ints ((kpF es i).map fun j => ws[j]?.getD 0)).length + [((wv : Nat) : Int)].length) * 8 <= 140737488355328 by rw [HNE.out]; simp; omega)
       have H2 := Kept.mk (show (ints ((kpF es i).map fun j => ws[j]?.getD 0)).length + [((wv : Nat) : Int)].length <= maxLen by rw [HNE.out]; unfold maxLen; simp; omega)
       have HB7 := Kept.mk (HB6.out.trans (hal.mono (Nat.le_of_lt hgs6)))
       obtain ⟨u0, u1, u2, u3, u4⟩ := five_cells_ HRC.out.box
       clear hal
       go_wp2_with (at_builtin; refine wpList_append_parts _ rfl _ _ 22 (by rfl) 3 .i64 8 Tryz.underlying22 info_i64 (g + 1) (.slice ea ne ec) (ints ((kpF es i).map fun j => ws[j]?.getD 0)) (by rfl) HME.out HBB.out ⟨W6.heap.size, 0, none⟩ 1 1 [((wv : Nat) : Int)] (by rfl) rfl HNW.out H1.out H2.out ?_)
       intro va2 nv2 vc2 w7 hlv2 hm7 hg7 hn7
       have hown := HME.out.own
       have HRC2 := Kept.mk (HRB.out.element (x := wv) (by rw [FFld.ints_append]; exact hm7) hg7 (by simpa using hn7))
       have hbox7 := (hg7.block g (Array.getElem?_eq_some_iff.1 HRB.out.box).1 (fun e => by have := (hown g e.symm).1; omega)).trans HRB.out.box
       obtain ⟨v0, v1, v2, v3, v4⟩ := five_cells_ hbox7
       obtain ⟨f0, f1, f2, f3, f4⟩ := five_free hbox7
       have HB8 := Kept.mk ((HB7.out.grown hg7 (by have := HBB.out; omega) (fun j hj => by have := (hown j hj).1; omega)).setCell (p := ⟨g, 2, none⟩) (by simp) (.slice va2 nv2 vc2))
       clear hlv2 hm7 hg7 hn7 hown hbox7 u0 u1 u2 u3 u4 HRB HME
       go_wp2
       go_roundw
       case rel => exact ⟨i + 1, _, _, by omega, by go_num, by rw [HK.out, List.map_append, List.map_append, List.map_cons, List.map_nil, List.map_cons, List.map_nil, HXV.out, HWV.out]; exact HRC2, HB8⟩
       case measure => simp [intOf] <;> omega
   ·obtain rfl : i = n := by omega
    have hrc' := hrc.out
    obtain ⟨pa, pc, rfl, _, _⟩ := hrc'.pm.sl.form
    obtain ⟨ea, ec, rfl, _, _⟩ := hrc'.em.sl.form
    have hB1 := hbx.out.b1
    obtain ⟨t0, t1, t2, t3, t4⟩ := five_free hB1
    obtain ⟨y0, y1, y2, y3, y4⟩ := five_cells_ hB1
    obtain ⟨u0, u1, u2, u3, u4⟩ := five_cells_ hrc'.box
    obtain ⟨np, hnp⟩ : ∃ y, (ints ((kpF es i).map fun j => xs[j]?.getD 0)).length = y := ⟨_, rfl⟩
    obtain ⟨ne, hne⟩ : ∃ y, (ints ((kpF es i).map fun j => ws[j]?.getD 0)).length = y := ⟨_, rfl⟩
    rw [hnp, hne] at hrc'
    rw [hnp] at u1
    rw [hne] at u2
    try rw [hnp, hne]
    have hset := five_set_ hB1 (.pointer (some ⟨b, 0, none⟩)) (.slice pa np pc) (.slice ea ne ec) (.int .i64 k) (.int .i64 rad)
    have HSET := Kept.mk hset
    have hgr : wr.grownBy (((((wr.setCell ⟨w.heap.size + 1, 0, none⟩ (.pointer (some ⟨b, 0, none⟩))).setCell ⟨w.heap.size + 1, 1, none⟩ (.slice pa np pc)).setCell ⟨w.heap.size + 1, 2, none⟩ (.slice ea ne ec)).setCell ⟨w.heap.size + 1, 3, none⟩ (.int .i64 k)).setCell ⟨w.heap.size + 1, 4, none⟩ (.int .i64 rad)) (some (w.heap.size + 1)) := growSet (growSet (growSet (growSet (growSet (growRefl _ _) _ _) _ _) _ _) _ _) _ _
    have HB9 := Kept.mk (belowGrow hgr hbl (by omega))
    have HF9 := Kept.mk ((HF2.out.below (show Below w2.heap.size w2 wr by rw [HG2.out]; exact hb2.out)).res5 hB1 hgr)
    have HP9 := Kept.mk (hrc'.pm.sl.kept hgr (fun j hj e => by have := hrc'.pm.own j (live_own hj); cases e; omega))
    have HE9 := Kept.mk (hrc'.em.sl.kept hgr (fun j hj e => by have := hrc'.em.own j (live_own hj); cases e; omega))
    clear hset hgr hrc' hB1 hrc
    go_wp2
    obtain ⟨s0, s1, s2, s3, s4⟩ := five_cells_ HSET.out
    rw [Exit.noGoto_ret]
    exact bodyPost_ret (v := .tuple #[rcv b (.slice pa np pc) (.slice ea ne ec) k rad, .int .i64 0]) (by simp [results, Tryz.results90, go_sem, s0, s1, s2, s3, s4]) rfl ⟨HB9.out, b, _, _, rfl, HF9.out, HP9.out, HE9.out⟩
 ·exact absurd ⟨D, HD.out, by have := HQ.out; omega⟩ hno
def GaRet2 {D : FFld.FD} (hD : D.Ok) (xs ys : List Nat) (n rad : Nat) (w : World) (e : Ending) (w' : World) : Prop := Below w.heap.size w w' /\ ∃ (aq : Option Addr) (cq : Nat) (av : Option Addr) (cv nQ nE : Nat) (Q E bf el : List Nat), e = .returned (.agg #[.slice aq nQ cq, .slice av nE cv]) /\ Q.length = nQ /\ E.length = nE /\ Sl .i64 w' (.slice aq nQ cq) (ints Q) /\ Sl .i64 w' (.slice av nE cv) (ints E) /\ FFld.GaoOk hD xs ys n bf Q el E /\ Q.length + rad <= n /\ n < bf.length + rad
theorem GaRet.two {D : FFld.FD} {hD : D.Ok} {xs ys : List Nat} {n rad : Nat} {w : World} {e : Ending} {w' : World} (h : GaRet hD xs ys n rad w e w') : GaRet2 hD xs ys n rad w e w' := by
 obtain ⟨hb, vq, ve, Q, E, bf, el, rfl, h1, h2, h3, h4, h5⟩ := h
 obtain ⟨aq, cq, rfl, _, _⟩ := h1.form
 obtain ⟨av, cv, rfl, _, _⟩ := h2.form
 exact ⟨hb, aq, cq, av, cv, _, _, Q, E, bf, el, rfl, (FFld.ints_len Q).symm, (FFld.ints_len E).symm, h1, h2, h3, h4, h5⟩
theorem good_of {D : FFld.FD} {xs ys Qu Rs : List Nat} {k rad : Nat} (h : goodB D xs ys Qu Rs k rad = true) : Good D xs ys Qu Rs k rad := Classical.byContradiction fun hn => by
 rw [good_no hn] at h
 cases h
theorem good_not {D : FFld.FD} {xs ys Qu Rs : List Nat} {k rad : Nat} (h : goodB D xs ys Qu Rs k rad = false) : ¬ Good D xs ys Qu Rs k rad := fun hg => by
 rw [good_yes hg] at h
 cases h
def NqRet (D : FFld.FD) (P W : List Nat) (k t : Nat) (w : World) (e : Ending) (w' : World) : Prop := Below w.heap.size w w' /\ ∃ (v : Value) (bb : Bool), e = .returned (.tuple #[v, .bool bb]) /\ (bb = true -> ∃ Po, Near D P W k t Po /\ Sl .i64 w' v (ints Po)) /\ (bb = false -> ∀ Po, ¬ Near D P W k t Po)
def DcRet (D : FFld.FD) (P W X : List Nat) (k t : Nat) (w : World) (e : Ending) (w' : World) : Prop := Below w.heap.size w w' /\ ((∃ Po v, Near D P W k t Po /\ e = .returned (.tuple #[v, .int .i64 0]) /\ Sl .i64 w' v (ints (FFld.valsF D Po X X.length))) \/ ((∀ Po, ¬ Near D P W k t Po) /\ e = .returned (.tuple #[nilv, .int .i64 30])))
def DcOwn (D : FFld.FD) (P W X : List Nat) (k t : Nat) (w : World) (e : Ending) (w' : World) : Prop := Below w.heap.size w w' /\ ((∃ Po v, Near D P W k t Po /\ e = .returned (.tuple #[v, .int .i64 0]) /\ Mine 3 .i64 w.heap.size w' v (ints (FFld.valsF D Po X X.length))) \/ ((∀ Po, ¬ Near D P W k t Po) /\ e = .returned (.tuple #[nilv, .int .i64 30])))
set_option maxRecDepth 20000 in
theorem cdecode_own {D : FFld.FD} (hD : D.Ok) (ax aw ae : Option Addr) (cx cw ce n m k : Nat) (xs ws : List Nat) (es : List Int) (w : World) (hx : Sl .i64 w (.slice ax n cx) (ints xs)) (hw : Sl .i64 w (.slice aw n cw) (ints ws)) (he : Sl .i64 w (.slice ae m ce) es) (hc : CodeV D xs n k) (lw : ws.length = n) (le : es.length = m) (hwq : ∀ a ∈ ws, a < D.p ^ D.k) (hkm : m + k <= n) (hb : belB n es = true) (hd : difB es m = true) :
 Calls Tryz.prog 25 #[cdv D.q ax n cx k, .slice aw n cw, .slice ae m ce] w (DcOwn D (kpL es n xs) (kpL es n ws) xs k ((n - m - k) / 2) w) := by
 have HX0 : Kept (Bxs w [cdbox D.q ax n cx k] (w.alloc (cdbox D.q ax n cx k))) := ⟨(Bxs.start w).alloc (by simp) _⟩
 have hRC : ∀ W, Below w.heap.size w W -> Calls Tryz.prog 90 #[cdv D.q ax n cx k, .slice aw n cw, .slice ae m ce] W (ReRet hD k ((n - m - k) / 2) (kpL es n xs) (kpL es n ws) W) := fun W hW => creceive_ok hD ax aw ae cx cw ce n m k xs ws es W (hx.below hW) (hw.below hW) (he.below hW) hc.len lw le hc.lt hwq hc.chk hc.k1 hkm hc.n64 hb hd
 have hkl := kp_len hb hd le
 have hPl := kpL_len es n xs
 have hWl := kpL_len es n ws
 have hPq := kpL_lt (es := es) hc.len hc.lt
 have hWq := kpL_lt (es := es) lw hwq
 have hPd := kpL_dif (es := es) hc.dif
 obtain ⟨P, hP⟩ : ∃ l, kpL es n xs = l := ⟨_, rfl⟩
 obtain ⟨Wd, hWd⟩ : ∃ l, kpL es n ws = l := ⟨_, rfl⟩
 obtain ⟨np, hnp⟩ : ∃ l, (kpF es n).length = l := ⟨_, rfl⟩
 obtain ⟨rad, hrad⟩ : ∃ r, (n - m - k) / 2 = r := ⟨_, rfl⟩
 rw [hP, hWd, hrad] at hRC
 rw [hP, hWd, hrad]
 rw [hP] at hPl hPq hPd
 rw [hWd] at hWl hWq
 rw [hnp] at hkl hPl hWl
 try rw [hnp]
 rw [hPl] at hPd
 have hr1 : 2 * rad + k <= np := by omega
 have h64 := hc.n64
 have hk1 := hc.k1
 have hlx := hc.len
 have hxq := hc.lt
 have HRC := Kept.mk hRC
 have HPL := Kept.mk hPl
 have HWL := Kept.mk hWl
 have HPA : Kept (∀ W b pa ea pc ec, FldB D W b -> Sl .i64 W (.slice pa np pc) (ints P) -> Sl .i64 W (.slice ea np ec) (ints Wd) -> Calls Tryz.prog 92 #[rcv b (.slice pa np pc) (.slice ea np ec) k rad] W (GaRet2 hD P Wd np rad W)) := ⟨fun W b pa ea pc ec hf hp hq => (cpair_any hD pa ea pc ec k rad np P Wd W hf hp hq hPl hWl hPq hWq hPd (by omega) (by omega) (by omega)).mono fun e w' h => GaRet.two h⟩
 have HQU : Kept (∀ W b pa ea pc ec aq cq av cv nQ nE Q E bf el, FldB D W b -> Sl .i64 W (.slice pa np pc) (ints P) -> Sl .i64 W (.slice ea np ec) (ints Wd) -> Sl .i64 W (.slice aq nQ cq) (ints Q) -> Sl .i64 W (.slice av nE cv) (ints E) -> Q.length = nQ -> E.length = nE -> FFld.GaoOk hD P Wd np bf Q el E -> Q.length + rad <= np -> np < bf.length + rad -> Calls Tryz.prog 91 #[rcv b (.slice pa np pc) (.slice ea np ec) k rad, .agg #[.slice aq nQ cq, .slice av nE cv]] W (NqRet D P Wd k rad W)) := ⟨fun W b pa ea pc ec aq cq av cv nQ nE Q E bf el hf hp hq hQ hE lQ lE g h1 h2 => by
  subst lQ lE
  have g1 := g.len
  have g2 := g.up
  have h := cquot_any hD pa ea aq av pc ec cq cv k rad np P Wd Q E W hf hp hq hPl hWl hPq hWq (by omega) (by omega) (by omega) hQ hE g.nlt g.elt g.tn g.te (by omega) (by omega) (by omega)
  exact h.mono fun e w' ⟨hb, v, he, hv⟩ => ⟨hb, v, _, he, fun hg => ⟨_, good_near hD g (good_of hg), hv (good_of hg)⟩, fun hg Po hN => good_not hg (near_good hD g hPl hPq hPd h1 h2 hr1 hN)⟩⟩
 have HVA : Kept (∀ W, Below w.heap.size w W -> ∀ b ap cp nP Po, FldB D W b -> (∀ a ∈ Po, a < D.p ^ D.k) -> Po.length <= 64 -> Po.length = nP -> Sl .i64 W (.slice ap nP cp) (ints Po) -> Calls Tryz.prog 87 #[.pointer (some ⟨b, 0, none⟩), .slice ax n cx, .slice ap nP cp] W (fun e w' => Below W.heap.size W w' /\ ∃ v, e = .returned v /\ Mine 3 .i64 w.heap.size w' v (ints (FFld.valsF D Po xs xs.length)))) := ⟨fun W hW b ap cp nP Po hf hq h64 hnP hs => by
  subst hnP
  have h := cvalues_any hD ax ap cx cp xs Po W hf (by rw [hlx]; exact hx.below hW) hs hxq hq (by omega) (by omega)
  rw [hlx] at h ⊢
  exact h.mono fun e w' ⟨hb, he, hw⟩ => ⟨hb, _, he, hw.mine hW.size (by rw [FFld.valsF_len, hlx]) (by unfold maxLen; omega)⟩⟩
 clear hx hw he lw le hwq hb hd hRC hPl hWl hPq hWq hPd hP hWd hnp hrad hlx hxq hc
 go_enter Tryz.func25, Tryz.ntmps25
 obtain ⟨c0, c1, c2, _⟩ := three_cells HX0.out.b0
 have hbx := HX0.out.1
 go_wp2_with fail
 (with_reducible refine (HRC.out _ hbx).mono ?_)
 rintro e w1 ⟨hb1, b, pv, ev, rfl, hf, hp, hev⟩
 obtain ⟨pa, pc, rfl, _, _⟩ := hp.form
 obtain ⟨ea, ec, rfl, _, _⟩ := hev.form
 rw [FFld.ints_len, HPL.out] at hp
 rw [FFld.ints_len, HWL.out] at hev
 rw [FFld.ints_len, FFld.ints_len, HPL.out, HWL.out]
 have HX1 := Kept.mk (HX0.out.below hb1)
 have hal : Below w1.heap.size w1 (w1.alloc (rcbox b (.slice pa np pc) (.slice ea np ec) k rad)) := (Below.refl _ _).alloc (Nat.le_refl _) _
 have hbox := heap_alloc_new w1 (rcbox b (.slice pa np pc) (.slice ea np ec) k rad)
 obtain ⟨W2, hW2⟩ : ∃ W, w1.alloc (rcbox b (.slice pa np pc) (.slice ea np ec) k rad) = W := ⟨_, rfl⟩
 rw [hW2] at hal hbox
 have HX2 := Kept.mk (HX1.out.below hal)
 have HF2 := Kept.mk (hf.below hal)
 have HP2 := Kept.mk (hp.below hal)
 have HE2 := Kept.mk (hev.below hal)
 clear hb1 c0 c1 c2 HRC HX1 hal hf hp hev hbx
 obtain ⟨c0, c1, c2, _⟩ := three_cells HX2.out.b0
 obtain ⟨j0, j1, j2, j3, j4⟩ := five_cells_ hbox
 go_wp2_with fail
 try rw [hW2]
 obtain ⟨g, hg⟩ : ∃ x, w1.heap.size = x := ⟨_, rfl⟩
 try rw [hg]
 rw [hg] at j0 j1 j2 j3 j4 hbox
 clear hW2 hg
 go_upto_region 4 with fail
 go_region_held3 (fun w' => w'.cell? ⟨g, 0, none⟩ = some (.pointer (some ⟨b, 0, none⟩)) /\ w'.cell? ⟨g, 1, none⟩ = some (.slice pa np pc) /\ w'.cell? ⟨g, 2, none⟩ = some (.slice ea np ec) /\ w'.cell? ⟨g, 3, none⟩ = some (.int .i64 k) /\ w'.cell? ⟨g, 4, none⟩ = some (.int .i64 rad))
  (first | exact ⟨l0, l1, l2, l3, l4⟩ | exact ⟨k0, k1, k2, k3, k4⟩ | exact ⟨j0, j1, j2, j3, j4⟩ | go_keep)
  ((first
    | (go_at_call 92; (with_reducible refine (HPA.out _ _ _ _ _ _ ?h1 ?h2 ?h3).mono ?_); (case h1 => first | exact HF2.out | exact HF2.out.below (Below.refl _ _).drew); (case h2 => first | exact HP2.out | exact HP2.out.below (Below.refl _ _).drew); (case h3 => first | exact HE2.out | exact HE2.out.below (Below.refl _ _).drew); rintro e v1 ⟨hb3, aq, cq, av, cv, nQ, nE, Q, E, bf, el, rfl, lQ, lE, hsQ, hsE, hga, hl1, hl2⟩; have HB3 := Kept.mk (bstep (show Below W2.heap.size W2 _ from (by first | exact Below.refl _ _ | exact (Below.refl _ _).drew)) hb3); have k0 := belowCell HB3.out j0; have k1 := belowCell HB3.out j1; have k2 := belowCell HB3.out j2; have k3 := belowCell HB3.out j3; have k4 := belowCell HB3.out j4; have HLQ := Kept.mk lQ; have HLE := Kept.mk lE; have HSQ := Kept.mk hsQ; have HSE := Kept.mk hsE; have HGA := Kept.mk hga; have HL1 := Kept.mk hl1; have HL2 := Kept.mk hl2; clear hb3 lQ lE hsQ hsE hga hl1 hl2)
    | (go_at_call 91; (with_reducible refine (HQU.out _ _ _ _ _ _ _ _ _ _ _ _ Q E bf el ?h1 ?h2 ?h3 ?h4 ?h5 HLQ.out HLE.out HGA.out HL1.out HL2.out).mono ?_); (case h1 => first | exact HF2.out.below HB3.out | exact HF2.out.below HB3.out.drew); (case h2 => first | exact HP2.out.below HB3.out | exact HP2.out.below HB3.out.drew); (case h3 => first | exact HE2.out.below HB3.out | exact HE2.out.below HB3.out.drew); (case h4 => first | exact HSQ.out | exact HSQ.out.below (Below.refl _ _).drew); (case h5 => first | exact HSE.out | exact HSE.out.below (Below.refl _ _).drew); rintro e v2 ⟨hb4, vv, bb, rfl, hyes, hno⟩; have HB4 := Kept.mk (bstep (show Below W2.heap.size W2 _ from (by first | exact HB3.out | exact HB3.out.drew)) hb4); have l0 := belowCell HB4.out j0; have l1 := belowCell HB4.out j1; have l2 := belowCell HB4.out j2; have l3 := belowCell HB4.out j3; have l4 := belowCell HB4.out j4; have HYES := Kept.mk hyes; have HNO := Kept.mk hno; clear hb4 hyes hno)))
 have HX4 := Kept.mk (HX2.out.below HB4.out)
 have HF4 := Kept.mk (HF2.out.below HB4.out)
 clear HB3 HSQ HSE HGA HL1 HL2 HLQ HLE HPA HQU HP2 HE2 HF2 HX2 c0 c1 c2 k0 k1 k2 k3 k4 j0 j1 j2 j3 j4
 obtain ⟨c0, c1, c2, _⟩ := three_cells HX4.out.b0
 cases bb with
 | false =>
   have HN := Kept.mk (HNO.out rfl)
   clear HYES HNO
   go_wp2
   exact bodyPost_ret (v := .tuple #[nilv, .int .i64 30]) (by simp [results, Tryz.results25, go_sem]) rfl ⟨HX4.out.1, .inr ⟨HN.out, rfl⟩⟩
 | true =>
   obtain ⟨Po, hN, hsl⟩ := HYES.out rfl
   obtain ⟨ap, cp, rfl, _, _⟩ := hsl.form
   obtain ⟨nP, hnP⟩ : ∃ x, Po.length = x := ⟨_, rfl⟩
   rw [FFld.ints_len, hnP] at hsl
   rw [FFld.ints_len, hnP]
   have HN := Kept.mk hN
   have HSL := Kept.mk hsl
   have HNP := Kept.mk hnP
   have hk6 : Po.length <= 64 := by have := hN.len; omega
   have HK6 := Kept.mk hk6
   have hbx := HX4.out.1
   clear HYES HNO hN hsl hnP hk6
   go_wp2_with fail
   (with_reducible refine (HVA.out _ hbx _ _ _ _ Po HF4.out HN.out.lt HK6.out HNP.out HSL.out).mono ?_)
   rintro e w5 ⟨hb5, v5, rfl, hs5⟩
   have HB5 := Kept.mk (bstep hbx hb5)
   have HS5 := Kept.mk hs5
   clear hb5 hs5
   go_wp2
   exact bodyPost_ret (v := .tuple #[v5, .int .i64 0]) (by simp [results, Tryz.results25, go_sem]) rfl ⟨HB5.out, .inl ⟨Po, v5, HN.out, rfl, HS5.out⟩⟩
def DyRet {D : FFld.FD} (hD : D.Ok) (P W : List Nat) (n k t : Nat) (w : World) (e : Ending) (w' : World) : Prop := Below w.heap.size w w' /\ ((∃ (vq ve : Value) (Q E bf el : List Nat), (∀ Po, ¬ Near D P W k t Po) /\ e = .returned (.tuple #[.agg #[vq, ve], .bool true]) /\ Sl .i64 w' vq (ints Q) /\ Sl .i64 w' ve (ints E) /\ FFld.GaoOk hD P W n bf Q el E /\ Q.length + t <= n /\ n < bf.length + t) \/ ((∃ Po, Near D P W k t Po) /\ e = .returned (.tuple #[.agg #[nilv, nilv], .bool false])))
theorem q7 : ∃ g, FFld.FD.Ok ⟨7, 1, 7, g⟩ := FFld.FD.prime_exists 7 (FFld.prime_of (by decide)) (by decide)
abbrev pt6 (a : Option Addr) : Value := .agg #[.int .i64 7, .slice a 6 6, .int .i64 2]
abbrev awX : Obj := .cells #[.int .i64 0, .int .i64 1, .int .i64 2, .int .i64 3, .int .i64 4, .int .i64 5] 3
abbrev awN : Obj := .cells #[.int .i64 1, .int .i64 3, .int .i64 5, .int .i64 0, .int .i64 0, .int .i64 0] 3
abbrev awF : Obj := .cells #[.int .i64 1, .int .i64 3, .int .i64 6, .int .i64 6, .int .i64 0, .int .i64 0] 3
abbrev awS : Obj := .cells #[.int .i64 1, .int .i64 2, .int .i64 4, .int .i64 3] 3
abbrev awC (g : Nat) : Obj := .cells #[.int .i64 7, .slice (some ⟨g, 0, none⟩) 6 6, .int .i64 2] 27
def EnRet (D : FFld.FD) (xs ms : List Nat) (n : Nat) (w : World) (e : Ending) (w' : World) : Prop := Below w.heap.size w w' /\ ∃ (wa : Option Addr) (wc : Nat), e = .returned (.tuple #[.slice wa n wc, .int .i64 0]) /\ Sl .i64 w' (.slice wa n wc) (ints (FFld.valsF D ms xs n))
set_option maxRecDepth 20000 in
theorem cencode_ok {D : FFld.FD} (hD : D.Ok) (ax am : Option Addr) (cx cm n k : Nat) (xs ms : List Nat) (w : World) (hx : Sl .i64 w (.slice ax n cx) (ints xs)) (hm : Sl .i64 w (.slice am k cm) (ints ms)) (hc : CodeV D xs n k) (lm : ms.length = k) (hmq : ∀ a ∈ ms, a < D.p ^ D.k) :
 Calls Tryz.prog 23 #[cdv D.q ax n cx k, .slice am k cm] w (EnRet D xs ms n w) := by
 have hq6 : D.p ^ D.k <= 65536 := hD.pre.small
 have hq0 : D.q = D.p ^ D.k := rfl
 have h64 := hc.n64
 have hkn := hc.kn
 have hlx := hc.len
 have hxq := hc.lt
 have hchk := hc.chk
 have HX0 : Kept (Bxs w [cdbox D.q ax n cx k] (w.alloc (cdbox D.q ax n cx k))) := ⟨(Bxs.start w).alloc (by simp) _⟩
 have HCK : Kept (∀ W, Below w.heap.size w W -> Calls Tryz.prog 21 #[cdv D.q ax n cx k] W (RB W (.int .i64 0))) := ⟨fun W hW => by
  have h := ccheck_any (D.q : Int) k ax cx (ints xs) W (by rw [FFld.ints_len, hlx]; exact hx.below hW) (by omega) (by omega) (by omega) (by omega)
  rw [hchk, FFld.ints_len, hlx] at h
  exact h⟩
 have HB1 : Kept (∀ W, Below w.heap.size w W -> Calls Tryz.prog 85 #[.int .i64 D.q, .slice am k cm] W (fun e w' => W = w' /\ e = .returned (.bool true))) := ⟨fun W hW => by
  have h := careBelow_any (D.q : Int) _ (ints ms) W (hm.below hW)
  rw [bel_ints hmq] at h
  exact h⟩
 have HNW := Kept.mk (fun W => fnew_any (D.q : Int) W (by omega) (by omega))
 have HVA : Kept (∀ W, Below w.heap.size w W -> ∀ b, FldB D W b -> Calls Tryz.prog 87 #[.pointer (some ⟨b, 0, none⟩), .slice ax n cx, .slice am k cm] W (fun e w' => Below W.heap.size W w' /\ ∃ wa wc, e = .returned (.slice wa n wc) /\ Sl .i64 w' (.slice wa n wc) (ints (FFld.valsF D ms xs n)))) := ⟨fun W hW b hf => by
  have h := cvalues_any hD ax am cx cm xs ms W hf (by rw [hlx]; exact hx.below hW) (by rw [lm]; exact hm.below hW) hxq hmq (by omega) (by omega)
  rw [hlx, lm] at h
  exact h.mono fun e w' ⟨hb, he, hw⟩ => ⟨hb, _, n, he, hw.sl (by rw [FFld.valsF_len, hlx]) (Nat.le_refl _) (by unfold maxLen; omega)⟩⟩
 have HD := Kept.mk hD
 obtain ⟨q, hq⟩ : ∃ q, D.q = q := ⟨_, rfl⟩
 rw [hq] at HX0 HCK HB1 HNW ⊢
 have HQ := Kept.mk hq
 have ek : ((k : Int) != (k : Int)) = false := by simp
 clear hx hm hc lm hmq hq hq0 hlx hxq hchk
 go_enter Tryz.func23, Tryz.ntmps23
 obtain ⟨c0, c1, c2, _⟩ := three_cells HX0.out.b0
 have hbx := HX0.out.1
 go_wp2_with fail
 (with_reducible refine (HCK.out _ hbx).mono ?_)
 rintro e w1 ⟨hb1, rfl⟩
 have HX1 := Kept.mk (HX0.out.below hb1)
 clear hb1 hbx c0 c1 c2 HCK
 have hbx := HX1.out.1
 obtain ⟨c0, c1, c2, _⟩ := three_cells HX1.out.b0
 go_wp2_with fail
 (with_reducible refine (HB1.out _ hbx).mono ?_)
 rintro e w2 ⟨rfl, rfl⟩
 go_wp2_with fail
 (with_reducible refine (HNW.out _).mono ?_)
 rintro e w2 ⟨hb2, ⟨D', b, hq', hle, rfl, hf⟩ | ⟨hno, rfl⟩⟩
 ·obtain rfl : D' = D := FFld.FD.uniq hf.ok HD.out (by have := HQ.out; omega)
  have HX2 := Kept.mk (HX1.out.below hb2)
  have HF2 := Kept.mk hf
  clear hb2 hf hq' hle hbx HB1 HNW c0 c1 c2
  obtain ⟨c0, c1, c2, _⟩ := three_cells HX2.out.b0
  have hbx := HX2.out.1
  go_wp2_with fail
  (with_reducible refine (HVA.out _ hbx _ HF2.out).mono ?_)
  rintro e w3 ⟨hb3, wa, wc, rfl, hsl⟩
  have HB3 := Kept.mk (bstep hbx hb3)
  have HSL := Kept.mk hsl
  clear hb3 hsl
  go_wp2
  exact bodyPost_ret (v := .tuple #[.slice wa n wc, .int .i64 0]) (by simp [results, Tryz.results23, go_sem]) rfl ⟨HB3.out, wa, wc, rfl, HSL.out⟩
 ·exact absurd ⟨D, HD.out, by have := HQ.out; omega⟩ hno
end Go.Proofs.YtdnheaafcbihbaaGreat
namespace Go.Proofs.YtdnheaafcbihbaaGreat
open Go Go.RowKit Go.Deep
open FFld (ints)
namespace FFld
theorem ok9 : ∃ g, FD.Ok ⟨3, 2, 10, g⟩ := by
 have hpre : FD.Pre ⟨3, 2, 10, 0⟩ := ⟨prime_of (by decide), by decide, by decide, fun h => by simp at h, fun _ => ⟨by decide, by decide, (irr_iff 3 2 10).1 (by decide), fun n h1 h2 hi => by
  have h1' : 9 <= n := h1
  have h2' : n < 10 := h2
  rw [<- irr_iff] at hi
  have : n = 9 := by omega
  subst this
  exact absurd hi (by decide)⟩⟩
 exact FD.with_gen 3 2 10 hpre (nzd_cert (g := 4) (fs := [2]) hpre.pk (by decide) (by decide))
theorem pow9 (h : PK 3 2 10) : ppow h 1 4 = 1 /\ ppow h 2 4 = 1 /\ ppow h 3 4 = 1 /\ ppow h 4 4 = 2 := ⟨by kernel_rfl, by kernel_rfl, by kernel_rfl, by kernel_rfl⟩
theorem q9 {D : FD} (h : D.Ok) (e : D.q = 9) : D = ⟨3, 2, 10, 4⟩ := by
 obtain ⟨g, hg⟩ := ok9
 have hD : D = ⟨3, 2, 10, g⟩ := FD.uniq h hg (by rw [e]; rfl)
 subst hD
 have h1 : 1 <= g := hg.g1
 have e2 : ((3 : Nat) ^ 2 - 1) / 2 = 4 := by decide
 obtain ⟨p1, p2, p3, p4⟩ := pow9 hg.pre.pk
 have no : ∀ a, a <= g -> ppow hg.pre.pk a 4 = 1 -> a + 1 <= g := fun a ha hp => hg.not_gen (a := a) (r := 2) ha (by decide) (show (2 : Nat) < 3 ^ 2 by decide) (fun ht => ht (show (2 : Nat) ∣ 3 ^ 2 - 1 by decide) (prime_of (by decide)) (by
  show ppow hg.pre.pk a (((3 : Nat) ^ 2 - 1) / 2) = 1
  rw [e2]
  exact hp))
 have h2 := no 1 h1 p1
 have h3 := no 2 h2 p2
 have h4 := no 3 h3 p3
 have h5 : 4 = g := hg.gen (a := 4) (by decide) h4 (fun r hr1 hr2 hd hp he => by
  have hd' : r ∣ 8 := hd
  have : r = 2 := by
   have h9 : r < 9 := hr2
   have h5 := Nat.le_of_dvd (by decide) hd'
   have : r = 2 \/ r = 3 \/ r = 4 \/ r = 5 \/ r = 6 \/ r = 7 \/ r = 8 := by omega
   rcases this with rfl | rfl | rfl | rfl | rfl | rfl | rfl
   ·rfl
   ·exact absurd hd' (by decide)
   ·exact absurd (hp.2 2 (by decide)) (by decide)
   ·exact absurd hd' (by decide)
   ·exact absurd hd' (by decide)
   ·exact absurd hd' (by decide)
   ·exact absurd (hp.2 2 (by decide)) (by decide)
  subst this
  have e1 : ppow hg.pre.pk 4 (((3 : Nat) ^ 2 - 1) / 2) = 1 := he
  rw [e2, p4] at e1
  exact absurd e1 (by decide))
 subst h5
 rfl
theorem vals3 (g : Nat) : valsF ⟨7, 1, 7, g⟩ [1, 2] [0, 1, 2] 3 = [1, 3, 5] := by kernel_rfl
end FFld
set_option maxRecDepth 20000 in
theorem three_any (w : World) : Calls Tryz.prog 77 #[] w (RB w (.bool true)) := by
 have HN9 := Kept.mk (fnew_any 9 w (by omega) (by omega))
 obtain ⟨g, hg7⟩ := q7
 have HG7 := Kept.mk hg7
 clear hg7
 go_enter Tryz.func77, Tryz.ntmps77
 go_wp2_with fail
 refine HN9.out.mono ?_
 rintro e w1 ⟨hb1, h⟩
 rcases h with ⟨D, b, hq, hbb, rfl, hf⟩ | ⟨hn, rfl⟩
 ·obtain rfl : D = ⟨3, 2, 10, 4⟩ := FFld.q9 hf.ok (by omega)
  have hal : Below w1.heap.size w1 ((w1.alloc (.cells #[.int .i64 0, .int .i64 1, .int .i64 2] 3)).alloc (.cells #[.int .i64 1, .int .i64 2] 3)) := ((Below.refl _ _).alloc (Nat.le_refl _) _).alloc (by simp) _
  have hx := (((Bxs.start w1).alloc (by simp) (.cells #[.int .i64 0, .int .i64 1, .int .i64 2] 3)).alloc (by simp) (.cells #[.int .i64 1, .int .i64 2] 3))
  have h0 : Row 3 .i64 _ w1.heap.size (ints [0, 1, 2]) := hx.2.2 0 _ rfl
  have h1 : Row 3 .i64 _ (w1.heap.size + 1) (ints [1, 2]) := hx.2.2 1 _ rfl
  have HEN : Kept (Calls Tryz.prog 23 #[cdv 7 (some ⟨w1.heap.size, 0, none⟩) 3 3 2, .slice (some ⟨w1.heap.size + 1, 0, none⟩) 2 2] ((w1.alloc (.cells #[.int .i64 0, .int .i64 1, .int .i64 2] 3)).alloc (.cells #[.int .i64 1, .int .i64 2] 3)) (EnRet ⟨7, 1, 7, g⟩ [0, 1, 2] [1, 2] 3 ((w1.alloc (.cells #[.int .i64 0, .int .i64 1, .int .i64 2] 3)).alloc (.cells #[.int .i64 1, .int .i64 2] 3)))) := ⟨cencode_ok HG7.out (some ⟨w1.heap.size, 0, none⟩) (some ⟨w1.heap.size + 1, 0, none⟩) 3 2 3 2 [0, 1, 2] [1, 2] _ (h0.slAll rfl (Nat.le_refl _) (by decide)) (h1.slAll rfl (Nat.le_refl _) (by decide)) (CodeV.of HG7.out rfl (by decide) (by decide) (by decide) (show ∀ a ∈ [0, 1, 2], a < 7 ^ 1 by decide) (by decide)) rfl (show ∀ a ∈ [1, 2], a < 7 ^ 1 by decide)⟩
  have HB1 := Kept.mk (bstep hb1 hal)
  have HF := Kept.mk (hf.below hal)
  clear hb1 hf hq hal hx h0 h1 HN9
  go_wp2_with fail
  (with_reducible refine HEN.out.mono ?_)
  rintro e w2 ⟨hb2, wa, wc, rfl, hws⟩
  rw [FFld.vals3] at hws
  have HB2 := Kept.mk (bstep HB1.out hb2)
  have HGE := Kept.mk (generator_any w2 (HF.out.below hb2))
  have hal : Below w2.heap.size w2 (w2.alloc (.cells #[.int .i64 1, .int .i64 3, .int .i64 5] 3)) := (Below.refl _ _).alloc (Nat.le_refl _) _
  have hr : Row 3 .i64 (w2.alloc (.cells #[.int .i64 1, .int .i64 3, .int .i64 5] 3)) w2.heap.size (ints [1, 3, 5]) := Row.new w2 [1, 3, 5]
  have HSM := Kept.mk (samet_eq (.slice wa 3 wc) (.slice (some ⟨w2.heap.size, 0, none⟩) 3 3) (ints [1, 3, 5]) _ (hws.below hal) (hr.slAll rfl (Nat.le_refl _) (by decide)) (by decide))
  have HB3 := Kept.mk (bstep HB2.out hal)
  clear hb2 hws hal hr HF HEN HB1 HB2
  go_wp2_with fail
  refine HGE.out.mono ?_
  rintro e w3 ⟨rfl, rfl⟩
  go_wp2_with fail
  (with_reducible refine HSM.out.mono ?_)
  rintro e w4 ⟨hb4, rfl⟩
  have HBZ := Kept.mk (bstep HB3.out hb4)
  clear hb4
  go_wp2
  go_ret
  exact ⟨HBZ.out, rfl⟩
 ·exfalso
  exact hn (FFld.fit_pow (p := 3) (k := 2) (FFld.prime_of (by decide)) (by decide) (by decide))
end Go.Proofs.YtdnheaafcbihbaaGreat
