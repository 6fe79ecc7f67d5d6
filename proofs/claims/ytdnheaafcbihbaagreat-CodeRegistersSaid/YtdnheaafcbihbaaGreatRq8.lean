/-
  Texts of the proof, merged by program: Mj Mk Mm Mn Gt Mo Rel Raw Mq Mr Mro Ms Ech Rea Shp Tam Un Frb.
-/
import Derived.Test.YtdnheaafcbihbaaGreatRq7
import Derived.WalkMore
import Derived.BigQuiet
set_option linter.unusedSectionVars false
set_option linter.unusedSimpArgs false
set_option linter.unusedVariables false
set_option maxHeartbeats 16000000
namespace Go.Proofs.YtdnheaafcbihbaaGreat
open Go Go.RowKit Go.Deep
open FFld (ints)
def wid (A : List (List Nat)) : Nat := (FFld.rowAt A 0).length
def unitR (n i : Nat) : List Nat := (List.replicate n 0).set i 1
def idM (n : Nat) : List (List Nat) := (List.range n).map (unitR n)
structure ReAt (w : World) (b g5 G1 G2 n i : Nat) (L1 L2 : List RH) (W : World) : Prop where
 bel : Below w.heap.size w W
 b4 : W.heap[w.heap.size]? = some (.cells #[.pointer none, .slice none 0 0, .pointer none, .slice none 0 0] 197 (0, 0))
 b5 : W.heap[g5]? = some (prbox b G1 G2 n)
 o1 : w.heap.size < G1
 o2 : G1 < G2
 o3 : G2 < g5
 d1 : dis L1
 d2 : dis L2
 r1 : ∀ r ∈ L1, ∀ g, r.blk = some g -> G1 < g /\ g < G2
 r2 : ∀ r ∈ L2, ∀ g, r.blk = some g -> g5 < g
 m1 : Mx W G1 L1
 m2 : Mx W G2 L2
 len : L2.length = n
 val : ∀ j, (rowH L2 j).xs = if j < i then unitR n j else []
theorem made_zeros (n : Nat) : madeCells #[.int .i64 0] n = ((ints (List.replicate n 0)).map (Value.int .i64)).toArray := made_row .i64 n
def RcRet (b : Nat) (rows : List (List Nat)) (w : World) (e : Ending) (w' : World) : Prop := Below w.heap.size w w' /\ ∃ G1 G2 L1 L2 hi, e = .returned (prv b G1 G2 rows.length) /\ hi <= w'.heap.size /\ Pr w.heap.size hi w' G1 G2 L1 L2 /\ L1.map RH.xs = rows /\ L2.map RH.xs = idM rows.length
structure ElAt (B hi b G1 G2 n : Nat) (w : World) (sv : Value) (cols : List Nat) (A R : List (List Nat)) (L1 L2 : List RH) (W : World) : Prop where
 hhi : hi <= w.heap.size
 chg : Chg B hi w W
 box : W.heap[w.heap.size]? = some (prbox b G1 G2 n)
 pr : Pr B hi W G1 G2 L1 L2
 a : L1.map RH.xs = A
 r : L2.map RH.xs = R
 cols : Mine 3 .i64 (w.heap.size + 1) W sv (ints cols)
 la : L1.length = n
 lr : L2.length = n
def ElS (B hi b G1 G2 n : Nat) (w : World) (sv : Value) (cols : List Nat) (A R : List (List Nat)) (W : World) : Prop := ∃ L1 L2, ElAt B hi b G1 G2 n w sv cols A R L1 L2 W
section
variable {B hi b G1 G2 n : Nat} {w W W' : World} {sv : Value} {cols : List Nat} {A R : List (List Nat)} {L1 L2 : List RH}
variable {D : FFld.FD} {w0 : World} {wd m : Nat}
end
def ElRet (B hi b G1 G2 n : Nat) (s : FFld.ESt) (w : World) (e : Ending) (w' : World) : Prop := ∃ v, e = .returned v /\ ElS B hi b G1 G2 n w v s.cols s.A s.R w'
end Go.Proofs.YtdnheaafcbihbaaGreat
namespace Go.Proofs.YtdnheaafcbihbaaGreat
open Go Go.RowKit
open FFld (ints)
set_option maxRecDepth 20000 in
theorem isElement_any {D : FFld.FD} {b : Nat} (a : Int) (w : World) (hf : FldB D w b) :
 Calls Tryz.prog 212 #[.pointer (some ⟨b, 0, none⟩), .int .i64 a] w (fun e w' => w = w' /\ e = .returned (.bool (decide (0 <= a /\ a < D.q)))) := by
 obtain ⟨h, T, x, fs, fp, fw, ms, ml, hb, _, _, _⟩ := hf.open
 obtain ⟨c0, c1, c2, c3, c4, c5⟩ := six_cells hb
 by_cases h0 : 0 <= a
 ·have hd : decide (a ≥ 0) = true := by simp [h0]
  rw [show decide (0 <= a /\ a < (D.q : Int)) = decide (a < (D.q : Int)) by simp [h0]]
  go_enter Tryz.func212, Tryz.ntmps212
  go_wp2
  go_ret
  exact ⟨rfl, rfl⟩
 ·have hd : decide (a ≥ 0) = false := by simp; omega
  rw [show decide (0 <= a /\ a < (D.q : Int)) = false by simp [h0]]
  go_enter Tryz.func212, Tryz.ntmps212
  go_wp2
  go_ret
  exact ⟨rfl, rfl⟩
end Go.Proofs.YtdnheaafcbihbaaGreat
namespace Go.Proofs.YtdnheaafcbihbaaGreat
open Go Go.RowKit Go.Deep
open FFld (ints)
def sopF (D : FFld.FD) (al bl : List Nat) : Nat -> Nat
 | 0 => 0
 | i + 1 => FFld.padd D.p D.k (sopF D al bl i) (FFld.pmul D.p D.k D.m (al[i]?.getD 0) D.k (bl[i]?.getD 0))
def elsB (D : FFld.FD) (xs : List Int) : Bool := xs.all fun a => decide (0 <= a /\ a < D.q)
set_option maxRecDepth 20000 in
theorem areElements_any {D : FFld.FD} {b : Nat} (v : Value) (xs : List Int) (w : World) (hf : FldB D w b) (h : Sl .i64 w v xs) :
 Calls Tryz.prog 148 #[.pointer (some ⟨b, 0, none⟩), v] w (fun e w' => w = w' /\ e = .returned (.bool (elsB D xs))) := by
 obtain ⟨ao, cap, rfl, hcap, hmax, hc⟩ := h
 obtain ⟨n, hN⟩ : ∃ n, xs.length = n := ⟨_, rfl⟩
 have HI := Kept.mk (fun a => isElement_any a w hf)
 have HC := Kept.mk hc
 rw [hN] at hcap ⊢
 have HN := Kept.mk hN
 unfold maxLen at hmax
 clear hf hc hN
 go_enter Tryz.func148, Tryz.ntmps148
 go_wp2
 go_loopw [9] (fun iv wr => ∃ (i : Nat), i <= n /\ iv = .int .i64 i /\ Kept (elsB D (xs.take i) = true) /\ w = wr) (fun iv _ => n - (intOf iv).toNat)
 case atStart => exact ⟨0, Nat.zero_le _, rfl, ⟨rfl⟩, rfl⟩
 case round =>
  obtain ⟨i, hin, rfl, hat, rfl⟩ := hrel
  by_cases hlt : i < n
  ·obtain ⟨g, o, rfl, hg, hcell⟩ := HC.out i (by rw [HN.out]; exact hlt)
   obtain ⟨a, ha⟩ : ∃ a, xs[i]?.getD 0 = a := ⟨_, rfl⟩
   rw [ha] at hcell
   have hI := Kept.mk (HI.out a)
   have hT : xs.take (i + 1) = xs.take i ++ [a] := by
    rw [List.take_add_one]
    congr 1
    rw [<- ha, List.getElem?_eq_getElem (by rw [HN.out]; exact hlt)]
    rfl
   obtain ⟨t, ht⟩ : ∃ t, decide (0 <= a /\ a < (D.q : Int)) = t := ⟨_, rfl⟩
   rw [ht] at hI
   have HT : Kept (elsB D (xs.take (i + 1)) = t) := ⟨by
    have := hat.out
    unfold elsB at this ⊢
    rw [hT, List.all_append, this]
    simp only [List.all_cons, List.all_nil, Bool.and_true, Bool.true_and]
    exact ht⟩
   clear ha hT ht
   cases t with
   | true =>
     go_wp2_with fail
     refine hI.out.mono ?_
     rintro e w2 ⟨rfl, rfl⟩
     go_wp2
     go_roundw
     case rel => exact ⟨i + 1, by omega, by go_num, HT, trivial⟩
     case measure => simp [intOf] <;> omega
   | false =>
     have HE : Kept (elsB D xs = false) := ⟨by
      have h1 := HT.out
      unfold elsB at h1 ⊢
      rw [<- List.take_append_drop (i + 1) xs, List.all_append, h1]
      rfl⟩
     go_wp2_with fail
     refine hI.out.mono ?_
     rintro e w2 ⟨rfl, rfl⟩
     go_wp2
     go_ret
     exact ⟨rfl, by rw [HE.out]; rfl⟩
  ·obtain rfl : i = n := by omega
   have HE : Kept (elsB D xs = true) := ⟨by have := hat.out; rw [<- HN.out, List.take_length] at this; exact this⟩
   go_wp2
   go_ret
   exact ⟨rfl, by rw [HE.out]; rfl⟩
set_option maxRecDepth 20000 in
theorem relement_any (q p k m : Nat) (a : Int) (w : World) :
 Calls Tryz.prog 100 #[rfv q p k m, .int .i64 a] w (RB w (.bool (decide (0 <= a /\ a < q)))) := by
 have HX0 : Kept (Bxs w [rbox q p k m] (w.alloc (rbox q p k m))) := ⟨(Bxs.start w).alloc (by simp) _⟩
 obtain ⟨c0, c1, c2, c3⟩ := four_cells HX0.out.b0
 by_cases h0 : 0 <= a
 ·have hd : decide (a ≥ 0) = true := by simp [h0]
  rw [show decide (0 <= a /\ a < (q : Int)) = decide (a < (q : Int)) by simp [h0]]
  go_enter Tryz.func100, Tryz.ntmps100
  go_wp2
  go_ret
  exact ⟨HX0.out.1, rfl⟩
 ·have hd : decide (a ≥ 0) = false := by simp; omega
  rw [show decide (0 <= a /\ a < (q : Int)) = false by simp [h0]]
  go_enter Tryz.func100, Tryz.ntmps100
  go_wp2
  go_ret
  exact ⟨HX0.out.1, rfl⟩
theorem elsB_next {D : FFld.FD} {xs : List Int} {i : Nat} (h : elsB D (xs.take i) = true) (hi : i < xs.length) : elsB D (xs.take (i + 1)) = decide (0 <= xs[i]?.getD 0 /\ xs[i]?.getD 0 < (D.q : Int)) := by
 unfold elsB at h ⊢
 rw [List.take_add_one, List.all_append, h, List.getElem?_eq_getElem hi]
 simp
theorem elsB_false {D : FFld.FD} {xs : List Int} {i : Nat} (h : elsB D (xs.take i) = false) : elsB D xs = false := by
 unfold elsB at h ⊢
 rw [<- List.take_append_drop i xs, List.all_append, h]
 rfl
set_option maxRecDepth 20000 in
theorem relements_any (D : FFld.FD) (v : Value) (xs : List Int) (w : World) (h : Sl .i64 w v xs) :
 Calls Tryz.prog 32 #[rfv D.q D.p D.k D.m, v] w (RB w (.bool (elsB D xs))) := by
 obtain ⟨ao, cap, rfl, hcap, hmax, hc⟩ := h
 have HX0 : Kept (Bxs w [rbox D.q D.p D.k D.m] (w.alloc (rbox D.q D.p D.k D.m))) := ⟨(Bxs.start w).alloc (by simp) _⟩
 obtain ⟨n, hN⟩ : ∃ n, xs.length = n := ⟨_, rfl⟩
 have HC := Kept.mk hc
 rw [hN] at hcap ⊢
 have HN := Kept.mk hN
 unfold maxLen at hmax
 clear hc hN
 go_enter Tryz.func32, Tryz.ntmps32
 go_wp2
 go_loopw [5] (fun iv wr => ∃ (i : Nat), i <= n /\ iv = .int .i64 i /\ Kept (elsB D (xs.take i) = true) /\ Kept (Bxs w [rbox D.q D.p D.k D.m] wr)) (fun iv _ => n - (intOf iv).toNat)
 case atStart => exact ⟨0, Nat.zero_le _, rfl, ⟨rfl⟩, HX0⟩
 case round =>
  obtain ⟨i, hin, rfl, hat, hbx⟩ := hrel
  by_cases hlt : i < n
  ·obtain ⟨g, o, rfl, hg, hcell⟩ := HC.out i (by rw [HN.out]; exact hlt)
   have HT := Kept.mk (elsB_next hat.out (by rw [HN.out]; exact hlt))
   obtain ⟨a, ha⟩ : ∃ a, xs[i]?.getD 0 = a := ⟨_, rfl⟩
   rw [ha] at hcell HT
   have icell := (hbx.out.1.cell (p := ⟨g, o + i, none⟩) hg).trans hcell
   obtain ⟨i0, i1, i2, i3⟩ := four_cells hbx.out.b0
   have hI := Kept.mk (fun W (hW : Below wr.heap.size wr W) => relement_any D.q D.p D.k D.m a W)
   obtain ⟨t, ht⟩ : ∃ t, decide (0 <= a /\ a < (D.q : Int)) = t := ⟨_, rfl⟩
   rw [ht] at hI HT
   clear ha ht hcell HC
   cases t with
   | true =>
     go_wp2
     go_region_held3 (fun w' => w'.cell? ⟨w.heap.size, 0, none⟩ = some (.int .i64 D.q) /\ w'.cell? ⟨w.heap.size, 1, none⟩ = some (.int .i64 D.p) /\ w'.cell? ⟨w.heap.size, 2, none⟩ = some (.int .i64 D.k) /\ w'.cell? ⟨w.heap.size, 3, none⟩ = some (.int .i64 D.m) /\ w'.cell? ⟨g, o + i, none⟩ = some (.int .i64 a))
      (first | exact ⟨j0, j1, j2, j3, jc⟩ | exact ⟨i0, i1, i2, i3, icell⟩ | go_keep)
      ((first
        | ((with_reducible refine (hI.out _ ?_).mono ?_); (exact (by first | exact Below.refl _ _ | exact (Below.refl _ _).drew)); rintro e w3 ⟨hb3, rfl⟩; have HB3 := Kept.mk (bstep (show Below wr.heap.size wr _ from (by first | exact Below.refl _ _ | exact (Below.refl _ _).drew)) hb3); have j0 := belowCell HB3.out i0; have j1 := belowCell HB3.out i1; have j2 := belowCell HB3.out i2; have j3 := belowCell HB3.out i3; have jc := belowCell HB3.out icell; clear hb3)))
     have HX3 := Kept.mk (hbx.out.below HB3.out)
     go_wp2
     go_roundw
     case rel => exact ⟨i + 1, by omega, by go_num, HT, HX3⟩
     case measure => simp [intOf] <;> omega
   | false =>
     have HE := Kept.mk (elsB_false HT.out)
     go_wp2
     go_region_held3 (fun w' => w'.cell? ⟨w.heap.size, 0, none⟩ = some (.int .i64 D.q) /\ w'.cell? ⟨w.heap.size, 1, none⟩ = some (.int .i64 D.p) /\ w'.cell? ⟨w.heap.size, 2, none⟩ = some (.int .i64 D.k) /\ w'.cell? ⟨w.heap.size, 3, none⟩ = some (.int .i64 D.m) /\ w'.cell? ⟨g, o + i, none⟩ = some (.int .i64 a))
      (first | exact ⟨j0, j1, j2, j3, jc⟩ | exact ⟨i0, i1, i2, i3, icell⟩ | go_keep)
      ((first
        | ((with_reducible refine (hI.out _ ?_).mono ?_); (exact (by first | exact Below.refl _ _ | exact (Below.refl _ _).drew)); rintro e w3 ⟨hb3, rfl⟩; have HB3 := Kept.mk (bstep (show Below wr.heap.size wr _ from (by first | exact Below.refl _ _ | exact (Below.refl _ _).drew)) hb3); have j0 := belowCell HB3.out i0; have j1 := belowCell HB3.out i1; have j2 := belowCell HB3.out i2; have j3 := belowCell HB3.out i3; have jc := belowCell HB3.out icell; clear hb3)))
     have HX3 := Kept.mk (hbx.out.below HB3.out)
     go_wp2
     go_ret
     exact ⟨HX3.out.1, by rw [HE.out]; rfl⟩
  ·obtain rfl : i = n := by omega
   have HE : Kept (elsB D xs = true) := ⟨by have := hat.out; rw [<- HN.out, List.take_length] at this; exact this⟩
   go_wp2
   go_ret
   exact ⟨hbx.out.1, by rw [HE.out]; rfl⟩
theorem run_append_sl {P : Program} (w : World) (t ty E : TypeId) (K : IntKind) (bytes : Nat) (ht : P.underlying t = some (.slice E))
 (hinfo : (P.info? E).map (fun i => (i.zero, i.size, i.bytes)) = some (some (.int K 0), 1, bytes)) (B : Nat) (v : Value) (xs : List Int) (hM : Mine E K B w v xs) (hB : B <= w.heap.size)
 (u : Value) (ys : List Int) (hu : Sl K w u ys) (hb : (xs.length + ys.length) * bytes <= 140737488355328) (hm : xs.length + ys.length <= maxLen) :
 ∃ v' w', (Builtin.append_ #[t, t] ty #[v, u]).run P w = .ok v' w' /\ Mine E K B w' v' (xs ++ ys) /\ w.grownBy w' v.ownBlock := by
 obtain ⟨ao, cap, rfl, hcap, hmax, hx⟩ := hu
 cases ao with
 | some a =>
   obtain ⟨v', w', h1, h2, h3, _⟩ := run_append_mine (P := P) w t ty E K bytes ht hinfo B v xs hM hB a cap ys (fun j q hj => by
    have hjl : j < ys.length := by
     apply Classical.byContradiction
     intro hc
     simp [hc] at hj
    obtain ⟨b, o, e, _, hcell⟩ := hx j hjl
    obtain rfl := Option.some.inj e
    have e : (⟨b, o, none⟩ : Addr).add j = ⟨b, o + j, none⟩ := by
     unfold Addr.add
     split <;> simp_all
    rw [e, hcell]
    simp [hjl] at hj ⊢
    exact hj) hb hm
   exact ⟨v', w', h1, h2, h3⟩
 | none =>
   have he : ys = [] := by
    cases ys with
    | nil => rfl
    | cons y t =>
      obtain ⟨b, o, e, _⟩ := hx 0 (by simp)
      cases e
   subst he
   obtain ⟨i, hi, hz, hs, hby⟩ := info_parts hinfo
   obtain ⟨ao, c, rfl, hc, _⟩ := hM.sl
   refine ⟨_, w, run_append_nothing w t t ty E i ht hi ao xs.length c hc (.slice none 0 cap) (Src.ofNil w ht cap), ?_, ⟨rfl, rfl, rfl, Nat.le_refl _, fun _ _ _ => rfl⟩⟩
   rw [List.append_nil]
   exact hM
theorem wpList_append_sl {P : Program} (w : World) {ops : Array Oper} {rest : List Oper} {o : Oper} {a : Act} {Q : Exit -> Act -> World -> Prop} (hgd : o.guard = none) (s x : Operand) (t : TypeId)
 (ho : o.op = .call { callee := .builtin .append, args := #[s, x], argTypes := #[t, t] }) (E : TypeId) (K : IntKind) (bytes : Nat) (ht : P.underlying t = some (.slice E))
 (hinfo : (P.info? E).map (fun i => (i.zero, i.size, i.bytes)) = some (some (.int K 0), 1, bytes)) (B : Nat) (v : Value) (xs : List Int) (hs : a.eval s = v) (hM : Mine E K B w v xs) (hB : B <= w.heap.size)
 (u : Value) (ys : List Int) (hx : a.eval x = u) (hu : Sl K w u ys)
 (hb : (xs.length + ys.length) * bytes <= 140737488355328) (hm : xs.length + ys.length <= maxLen)
 (h : ∀ v' w', Mine E K B w' v' (xs ++ ys) -> w.grownBy w' v.ownBlock -> wpList P ops Q rest (a.put o.dst v') w') : wpList P ops Q (o :: rest) a w := by
 refine wpList_plain hgd fun K' hK => ?_
 obtain ⟨v', w', hrun, r1, r2⟩ := run_append_sl (P := P) w t o.type E K bytes ht hinfo B v xs hM hB u ys hu hb hm
 unfold Oper.wp
 simp [execOp, ho, resolve, invoke, builtin, hs, hx, hrun, Result.andThen]
 exact hK _ _ (h v' w' r1 r2)
theorem wp_append_mine {P : Program} (w : World) {o : Oper} {a : Act} {K' : Act -> World -> Prop} {Q : Exit -> Act -> World -> Prop} (s x : Operand) (t : TypeId)
 (ho : o.op = .call { callee := .builtin .append, args := #[s, x], argTypes := #[t, t] }) (E : TypeId) (K : IntKind) (bytes : Nat) (ht : P.underlying t = some (.slice E))
 (hinfo : (P.info? E).map (fun i => (i.zero, i.size, i.bytes)) = some (some (.int K 0), 1, bytes)) (B : Nat) (v : Value) (xs : List Int) (hs : a.eval s = v) (hM : Mine E K B w v xs) (hB : B <= w.heap.size)
 (ad : Addr) (m c : Nat) (news : List Int) (hx : a.eval x = .slice (some ad) m c) (hl : news.length = m) (hnews : ∀ j u, (news.map (Value.int K))[j]? = some u -> w.cell? (ad.add j) = some u)
 (hb : (xs.length + news.length) * bytes <= 140737488355328) (hm : xs.length + news.length <= maxLen)
 (h : ∀ v' w', Mine E K B w' v' (xs ++ news) -> w.grownBy w' v.ownBlock -> (v'.ownBlock = v.ownBlock \/ Frm w.heap.size v') -> K' (a.put o.dst v') w') : o.wp P a w K' Q := by
 subst hl
 obtain ⟨v', w', hrun, r1, r2, r3⟩ := run_append_mine (P := P) w t o.type E K bytes ht hinfo B v xs hM hB ad c news hnews hb hm
 unfold Oper.wp execOp
 simp only [ho, resolve, invoke, builtin, Sem.run_bind, Sem.run_pure, Result.andThen_ok, List.map_toArray, List.map_cons, List.map_nil, hs, hx, hrun]
 exact h v' w' r1 r2 r3
theorem step_append_mine {P : Program} (w : World) {ops : Array Oper} {o : Oper} {a : Act} {K' : Act -> World -> Prop} {Q : Exit -> Act -> World -> Prop} {E' : Prop} (hgd : o.guard = none) (s x : Operand) (t : TypeId)
 (ho : o.op = .call { callee := .builtin .append, args := #[s, x], argTypes := #[t, t] }) (E : TypeId) (K : IntKind) (bytes : Nat) (ht : P.underlying t = some (.slice E))
 (hinfo : (P.info? E).map (fun i => (i.zero, i.size, i.bytes)) = some (some (.int K 0), 1, bytes)) (B : Nat) (v : Value) (xs : List Int) (hs : a.eval s = v) (hM : Mine E K B w v xs) (hB : B <= w.heap.size)
 (ad : Addr) (m c : Nat) (news : List Int) (hx : a.eval x = .slice (some ad) m c) (hl : news.length = m) (hnews : ∀ j u, (news.map (Value.int K))[j]? = some u -> w.cell? (ad.add j) = some u)
 (hb : (xs.length + news.length) * bytes <= 140737488355328) (hm : xs.length + news.length <= maxLen)
 (h : ∀ v' w', Mine E K B w' v' (xs ++ news) -> w.grownBy w' v.ownBlock -> (v'.ownBlock = v.ownBlock \/ Frm w.heap.size v') -> K' (a.put o.dst v') w') :
 if Region.wanted o (yielded ops a.tmps) = true then Oper.wp P o a w K' Q else E' := by
 have hw : Region.wanted o (yielded ops a.tmps) = true := by simp [Region.wanted, hgd]
 rw [if_pos hw]
 exact wp_append_mine w s x t ho E K bytes ht hinfo B v xs hs hM hB ad m c news hx hl hnews hb hm h
def RetM (w : World) (xs : List Int) (e : Ending) (w' : World) : Prop := Below w.heap.size w w' /\ ∃ v', e = .returned v' /\ Mine 3 .i64 w.heap.size w' v' xs
def redN (D : FFld.FD) (a : Int) : Nat := (a % (D.q : Int)).toNat
def rlen (rows : List (List Int)) (i : Nat) : Nat := (rows[i]?.getD []).length
def mErr (D : FFld.FD) (rows : List (List Int)) : Nat :=
 if rows.length = 0 then 0 else if 64 < rows.length \/ 64 < rlen rows 0 then 2 else if rows.all (fun r => r.length == rlen rows 0) then (if rows.all (elsB D) then 0 else 1) else 7
def qErr (D : FFld.FD) (rows : List (List Int)) (bl : List Int) : Nat := if mErr D rows = 0 then (if bl.length = rows.length then (if elsB D bl then 0 else 1) else 7) else mErr D rows
theorem Sl.news_at {K : IntKind} {w : World} {ao : Option Addr} {n cap : Nat} {xs : List Int} (h : Sl K w (.slice ao n cap) xs) (i : Nat) (hi : i < xs.length) : ∃ g o, ao = some ⟨g, o, none⟩ /\ g < w.heap.size /\ w.cell? ⟨g, o + i, none⟩ = some (.int K (xs[i]?.getD 0)) := by
 obtain ⟨ao', cap', e, hc, hm, hx⟩ := h
 simp only [Value.slice.injEq] at e
 obtain ⟨rfl, _, _⟩ := e
 obtain ⟨b, o, e2, h1, h2⟩ := hx i hi
 exact ⟨b, o, e2, h1, h2⟩
def sopV (D : FFld.FD) (s : FFld.ESt) (bl : List Nat) (j : Nat) : Nat := sopF D (FFld.rowAt s.R j) bl (FFld.rowAt s.R j).length
def solF (D : FFld.FD) (s : FFld.ESt) (bl : List Nat) (wd : Nat) : Nat -> List Nat
 | 0 => List.replicate wd 0
 | i + 1 => (solF D s bl wd i).set (s.cols[i]?.getD 0) (sopV D s bl i)
def SvRet (D : FFld.FD) (s : FFld.ESt) (bl : List Nat) (wd n : Nat) (w : World) (e : Ending) (w' : World) : Prop := Below w.heap.size w w' /\ ∃ vx vd, e = .returned (.tuple #[vx, vd]) /\
 ((∃ i, s.cols.length <= i /\ i < n /\ (∀ j, s.cols.length <= j -> j < i -> sopV D s bl j = 0) /\ sopV D s bl i ≠ 0 /\ vx = .slice none 0 0 /\ (∃ g c, vd = .slice (some ⟨g, 0, none⟩) n c) /\ Sl .i64 w' vd (ints (FFld.rowAt s.R i))) \/
  ((∀ j, s.cols.length <= j -> j < n -> sopV D s bl j = 0) /\ vd = .slice none 0 0 /\ (∃ g c, vx = .slice (some ⟨g, 0, none⟩) wd c) /\ Sl .i64 w' vx (ints (solF D s bl wd s.cols.length))))
def OwnV (E : TypeId) (B : Nat) (w : World) (v : Value) (xs : List Value) : Prop :=
 (v = .slice none 0 0 /\ xs = []) \/
   ∃ g cap cur, v = .slice (some ⟨g, 0, none⟩) xs.length cap /\ B <= g /\ w.heap[g]? = some (.cells cur E (0, 0)) /\ xs.length <= cap /\ cap <= cur.size /\ cap <= maxLen /\ cur.toList.take xs.length = xs
section
variable {E : TypeId} {B : Nat} {w w' : World} {v : Value} {xs : List Value}
theorem OwnV.nil (E : TypeId) (B : Nat) (w : World) : OwnV E B w (.slice none 0 0) [] := .inl ⟨rfl, rfl⟩
theorem OwnV.own (h : OwnV E B w v xs) : ∀ k, v.ownBlock = some k -> B <= k /\ k < w.heap.size := by
 intro k hk
 rcases h with ⟨rfl, rfl⟩ | ⟨g, cap, cur, rfl, hB, hg, hn, hc, hm, ht⟩
 ·simp [Value.ownBlock] at hk
 ·simp [Value.ownBlock] at hk
  subst hk
  exact ⟨hB, (Array.getElem?_eq_some_iff.1 hg).1⟩
theorem OwnV.kept {row : Option Nat} (h : OwnV E B w v xs) (hg : w.grownBy w' row) (hne : v.ownBlock = none \/ v.ownBlock ≠ row) : OwnV E B w' v xs := by
 rcases h with h | ⟨g, cap, cur, rfl, hB, hgg, rest⟩
 ·exact .inl h
 ·refine .inr ⟨g, cap, cur, rfl, hB, ?_, rest⟩
  rw [hg.block g (Array.getElem?_eq_some_iff.1 hgg).1 (by simpa [Value.ownBlock] using hne)]
  exact hgg
theorem OwnV.below (h : OwnV E B w v xs) (hb : Below w.heap.size w w') : OwnV E B w' v xs :=
 h.kept (row := none) (growBelow hb) (by cases hv : v.ownBlock <;> simp)
theorem OwnV.lower {B' : Nat} (h : OwnV E B w v xs) (hB : B' <= B) : OwnV E B' w v xs := by
 rcases h with h | ⟨g, cap, cur, rfl, hb, rest⟩
 ·exact .inl h
 ·exact .inr ⟨g, cap, cur, rfl, by omega, rest⟩
theorem OwnV.of_owns {n : Nat} (h : w.ownsRow B E 1 v n xs) : OwnV E B w v xs := by
 have hl : xs.length = n := by simpa using h.1
 rcases h.2 with ⟨rfl, h0⟩ | ⟨g, cap, cur, rfl, hg, hh, hn, hm, hc, ht⟩
 ·have : xs = [] := by cases xs with | nil => rfl | cons => simp at hl; omega
  exact .inl ⟨rfl, this⟩
 ·exact .inr ⟨g, cap, cur, by rw [hl], hg, hh, by omega, by omega, hm, by rw [hl]; simpa using ht⟩
theorem OwnV.cell (h : OwnV E B w v xs) {i : Nat} (hi : i < xs.length) : ∃ g cap, v = .slice (some ⟨g, 0, none⟩) xs.length cap /\ g < w.heap.size /\ w.cell? ⟨g, i, none⟩ = some (xs[i]?.getD (.int .i64 0)) := by
 rcases h with ⟨rfl, rfl⟩ | ⟨g, cap, cur, rfl, hB, hg, hn, hc, hm, ht⟩
 ·simp at hi
 ·refine ⟨g, cap, rfl, (Array.getElem?_eq_some_iff.1 hg).1, ?_⟩
  rw [cell_of_row w g i cur E (0, 0) hg]
  have : (cur.toList.take xs.length)[i]? = cur[i]? := by rw [List.getElem?_take, if_pos hi]; simp
  rw [<- this, ht]
  simp [hi]
theorem OwnV.form (h : OwnV E B w v xs) : ∃ ao cap, v = .slice ao xs.length cap /\ xs.length <= cap /\ cap <= maxLen := by
 rcases h with ⟨rfl, rfl⟩ | ⟨g, cap, cur, rfl, hB, hg, hn, hc, hm, ht⟩
 ·exact ⟨none, 0, rfl, Nat.le_refl _, Nat.zero_le _⟩
 ·exact ⟨_, cap, rfl, hn, hm⟩
end
theorem add_zero' (g j : Nat) : (⟨g, 0, none⟩ : Addr).add j = ⟨g, j, none⟩ := by unfold Addr.add; split <;> simp_all
theorem run_append_v {P : Program} (w : World) (t ty E : TypeId) (z : Value) (bytes : Nat) (ht : P.underlying t = some (.slice E))
 (hinfo : (P.info? E).map (fun i => (i.zero, i.size, i.bytes)) = some (some z, 1, bytes)) (hz1 : z.cells.size = 1) (B : Nat) (v : Value) (xs : List Value) (hM : OwnV E B w v xs) (hB : B <= w.heap.size)
 (a : Addr) (c : Nat) (news : List Value) (hnews : ∀ j u, news[j]? = some u -> w.cell? (a.add j) = some u) (hone : ∀ u ∈ news, u.oneCell' = true)
 (hb : (xs.length + news.length) * bytes <= 140737488355328) (hm : xs.length + news.length <= maxLen) :
 ∃ v' w', (Builtin.append_ #[t, t] ty #[v, .slice (some a) news.length c]).run P w = .ok v' w' /\ OwnV E B w' v' (xs ++ news) /\ w.grownBy w' v.ownBlock /\ (v'.ownBlock = v.ownBlock \/ Frm w.heap.size v') := by
 obtain ⟨i, hi, hz, hs, hby⟩ := info_parts hinfo
 have hl : news.length = news.length * 1 := by simp
 rcases hM with ⟨rfl, rfl⟩ | ⟨g, cap, cur, rfl, hBg, hg, hn, hc, hcm, htk⟩
 ·obtain ⟨v', w', hr, h2, h3, _⟩ := run_append_own (P := P) w w.heap.size t ty E i z 1 bytes ht hi hz hs hby hz1 (by decide) (.slice none 0 0) 0 [] (World.ownsRow_nil w w.heap.size E 1) a news.length c news hl hnews hone (by simpa using hm) (by simpa using hb) (Nat.le_refl _)
  exact ⟨v', w', hr, (OwnV.of_owns (n := 0 + news.length) (by simpa using h2)).lower hB, h3, .inr (fun k hk => (h2.lt k hk).1)⟩
 ·by_cases hroom : xs.length + news.length <= cap
  ·have hfit : xs.length * i.size + news.length <= cur.size := by rw [hs]; simp; omega
   have hr := run_append_room (P := P) w t ty E i ht hi g xs.length cap cur hg a news.length c news (by rw [hs]; exact hl) hnews hone hroom hfit
   rw [hs, Nat.mul_one] at hr
   refine ⟨_, _, hr, .inr ⟨g, cap, _, by simp, hBg, setRow_heap w g cur _ E _ hg, by simpa using hroom, ?_, hcm, ?_⟩, ⟨rfl, rfl, rfl, by simp, fun k _ hk => setRow_other w g k _ (fun e => hk (by simp [Value.ownBlock, e]))⟩, .inl rfl⟩
   ·simp only [List.size_toArray, List.length_append, List.length_take, List.length_drop, Array.length_toList]
    omega
   ·rw [htk, List.length_append]
    have : (xs ++ news).length = xs.length + news.length := by simp
    rw [<- this]
    exact List.take_left
  ·have holds : ∀ j u, xs[j]? = some u -> w.cell? ((⟨g, 0, none⟩ : Addr).add j) = some u := by
    intro j u hu
    have e : (⟨g, 0, none⟩ : Addr).add j = ⟨g, j, none⟩ := add_zero' g j
    rw [e, cell_of_row w g j cur E (0, 0) hg]
    have hj : j < xs.length := by
     apply Classical.byContradiction
     intro hc'
     simp [hc'] at hu
    rw [<- htk, List.getElem?_take, if_pos hj] at hu
    simpa using hu
   obtain ⟨v', w', hr, h2, h3⟩ := run_append_arg_grows (P := P) w t ty E i z 1 bytes ht hi hz hs hby hz1 (by decide) ⟨g, 0, none⟩ xs.length cap xs (by simp) holds a news.length c news hl hnews (by omega) hm hb
   refine ⟨v', w', hr, ?_, ⟨h3.os, h3.tape, h3.output, h3.size, fun k hk _ => h3.block k hk (by simp)⟩, .inr (fun k hk => (h2.lt k hk).1)⟩
   exact (OwnV.of_owns (n := xs.length + news.length) (by simpa using h2)).lower hB
theorem wpList_append_v {P : Program} (w : World) {ops : Array Oper} {rest : List Oper} {o : Oper} {a : Act} {Q : Exit -> Act -> World -> Prop} (hgd : o.guard = none) (s x : Operand) (t : TypeId)
 (ho : o.op = .call { callee := .builtin .append, args := #[s, x], argTypes := #[t, t] }) (E : TypeId) (z : Value) (bytes : Nat) (ht : P.underlying t = some (.slice E))
 (hinfo : (P.info? E).map (fun i => (i.zero, i.size, i.bytes)) = some (some z, 1, bytes)) (hz1 : z.cells.size = 1) (B : Nat) (v : Value) (xs : List Value) (hs : a.eval s = v) (hM : OwnV E B w v xs) (hB : B <= w.heap.size)
 (ad : Addr) (m c : Nat) (news : List Value) (hx : a.eval x = .slice (some ad) m c) (hl : news.length = m) (hnews : ∀ j u, news[j]? = some u -> w.cell? (ad.add j) = some u) (hone : ∀ u ∈ news, u.oneCell' = true)
 (hb : (xs.length + news.length) * bytes <= 140737488355328) (hm : xs.length + news.length <= maxLen)
 (h : ∀ v' w', OwnV E B w' v' (xs ++ news) -> w.grownBy w' v.ownBlock -> (v'.ownBlock = v.ownBlock \/ Frm w.heap.size v') -> wpList P ops Q rest (a.put o.dst v') w') : wpList P ops Q (o :: rest) a w := by
 refine wpList_plain hgd fun K' hK => ?_
 subst hl
 obtain ⟨v', w', hrun, r1, r2, r3⟩ := run_append_v (P := P) w t o.type E z bytes ht hinfo hz1 B v xs hM hB ad c news hnews hone hb hm
 unfold Oper.wp
 simp [execOp, ho, resolve, invoke, builtin, hs, hx, hrun, Result.andThen]
 exact hK _ _ (h v' w' r1 r2 r3)
theorem wpList_append_w {P : Program} (w : World) {ops : Array Oper} {rest : List Oper} {o : Oper} {a : Act} {Q : Exit -> Act -> World -> Prop} (hgd : o.guard = none) (s x : Operand) (t : TypeId)
 (ho : o.op = .call { callee := .builtin .append, args := #[s, x], argTypes := #[t, t] }) (E : TypeId) (z : Value) (bytes : Nat) (ht : P.underlying t = some (.slice E))
 (hinfo : (P.info? E).map (fun i => (i.zero, i.size, i.bytes)) = some (some z, 1, bytes)) (hz1 : z.cells.size = 1) (B : Nat) (v : Value) (xs : List Value) (hs : a.eval s = v) (hM : OwnV E B w v xs) (hB : B <= w.heap.size)
 (ad : Addr) (c : Nat) (nv : Value) (hx : a.eval x = .slice (some ad) 1 c) (hnews : ∀ j u, ([nv])[j]? = some u -> w.cell? (ad.add j) = some u) (hone : nv.oneCell' = true)
 (n : Nat) (hn : xs.length = n) (hb : (n + 1) * bytes <= 140737488355328) (hm : n + 1 <= 1000000)
 (h : ∀ v' w', OwnV E B w' v' (xs ++ [nv]) -> w.grownBy w' v.ownBlock -> (v'.ownBlock = v.ownBlock \/ Frm w.heap.size v') -> wpList P ops Q rest (a.put o.dst v') w') : wpList P ops Q (o :: rest) a w :=
 wpList_append_v w hgd s x t ho E z bytes ht hinfo hz1 B v xs hs hM hB ad 1 c [nv] hx rfl hnews (fun u hu => by obtain rfl := List.mem_singleton.1 hu; exact hone) (by rw [hn]; exact hb) (by rw [hn]; unfold maxLen; simp; omega) h
structure Rws (B : Nat) (w : World) (v : Value) (L : List (Value × List Int)) : Prop where
 own : OwnV 22 B w v (L.map (·.1))
 ok : ∀ r ∈ L, Mine 3 .i64 B w r.1 r.2
 ne : ∀ r ∈ L, ∀ g, r.1.ownBlock = some g -> v.ownBlock ≠ some g
theorem Rws.nil (B : Nat) (w : World) : Rws B w (.slice none 0 0) [] := ⟨OwnV.nil _ _ _, by simp, by simp⟩
theorem Rws.below {B : Nat} {w w' : World} {v : Value} {L : List (Value × List Int)} (h : Rws B w v L) (hb : Below w.heap.size w w') : Rws B w' v L :=
 ⟨h.own.below hb, fun r hr => (h.ok r hr).below hb, h.ne⟩
theorem Mine.one {E : TypeId} {K : IntKind} {B : Nat} {w : World} {v : Value} {xs : List Int} (h : Mine E K B w v xs) : v.oneCell' = true := by
 obtain ⟨ao, c, rfl, _⟩ := h.sl
 rfl
theorem Rws.push {B : Nat} {w w' : World} {v v' rv : Value} {L : List (Value × List Int)} {xs : List Int} (h : Rws B w v L) (hr : Mine 3 .i64 B w rv xs) (hne : ∀ g, rv.ownBlock = some g -> v.ownBlock ≠ some g)
 (ho : OwnV 22 B w' v' (L.map (·.1) ++ [rv])) (hg : w.grownBy w' v.ownBlock) (hv : v'.ownBlock = v.ownBlock \/ Frm w.heap.size v') : Rws B w' v' (L ++ [(rv, xs)]) := by
 have all : ∀ s ∈ L ++ [(rv, xs)], Mine 3 .i64 B w s.1 s.2 /\ ∀ g, s.1.ownBlock = some g -> v.ownBlock ≠ some g := fun s hs => by
  rcases List.mem_append.1 hs with h1 | h1
  ·exact ⟨h.ok s h1, h.ne s h1⟩
  ·obtain rfl := List.mem_singleton.1 h1
   exact ⟨hr, hne⟩
 refine ⟨by rw [List.map_append]; exact ho, fun s hs => (all s hs).1.kept hg ?_, fun s hs g hgb e => ?_⟩
 ·cases hb : s.1.ownBlock with
  | none => exact .inl rfl
  | some g => exact .inr (fun e => (all s hs).2 g hb e.symm)
 ·rcases hv with h1 | h1
  ·rw [h1] at e
   exact (all s hs).2 g hgb e
  ·have := h1 g e
   have := ((all s hs).1.own g hgb).2
   omega
theorem Rws.sls {B : Nat} {w : World} {v : Value} {L : List (Value × List Int)} (h : Rws B w v L) : ∃ ao cap, v = .slice ao L.length cap /\ L.length <= cap /\ cap <= maxLen /\ Sls w ao (L.map (·.2)) := by
 obtain ⟨ao, cap, e, h1, h2⟩ := h.own.form
 rw [List.length_map] at e h1
 refine ⟨ao, cap, e, h1, h2, fun i hi => ?_⟩
 have hi' : i < L.length := by simpa using hi
 obtain ⟨g, c, e2, hg, hcell⟩ := h.own.cell (i := i) (by simpa using hi')
 rw [e] at e2
 simp only [Value.slice.injEq] at e2
 obtain ⟨rfl, _, _⟩ := e2
 refine ⟨g, 0, (L[i]'hi').1, rfl, hg, ?_, ?_⟩
 ·rw [Nat.zero_add, hcell]
  simp [hi']
 ·have := (h.ok _ (List.getElem_mem hi')).sl
  simpa [hi'] using this
theorem rows_one {W : World} {rv : Value} : ∀ j u, ([rv])[j]? = some u -> (W.alloc (.cells #[rv] 22)).cell? ((⟨W.heap.size, 0, none⟩ : Addr).add j) = some u := by
 intro j u hu
 cases j with
 | zero =>
   simp at hu
   subst hu
   have e : (⟨W.heap.size, 0, none⟩ : Addr).add 0 = ⟨W.heap.size, 0, none⟩ := by simp [Addr.add]
   rw [e, cell_of_row _ W.heap.size 0 _ _ (0, 0) (heap_alloc_new W _)]
   rfl
 | succ j => simp at hu
def RetR (w : World) (rows : List (List Int)) (e : Ending) (w' : World) : Prop := Below w.heap.size w w' /\ ∃ v L, e = .returned v /\ Rws w.heap.size w' v L /\ L.map (·.2) = rows
def cutR (rows : List (List Int)) (most : Nat) : List (List Int) := (rows.take most).map (·.take most)
theorem map_take_next' {α β : Type} {f : α -> β} {xs : List α} {i : Nat} {d : α} (h : i < xs.length) : (xs.take (i + 1)).map f = (xs.take i).map f ++ [f (xs[i]?.getD d)] := by
 rw [List.take_add_one, List.map_append, List.getElem?_eq_getElem h]
 rfl
theorem elsB_ints {D : FFld.FD} {l : List Nat} (h : ∀ a ∈ l, a < D.p ^ D.k) : elsB D (ints l) = true := by
 unfold elsB ints
 rw [List.all_map, List.all_eq_true]
 intro a ha
 have := h a ha
 have hq : D.q = D.p ^ D.k := rfl
 simp only [Function.comp, decide_eq_true_eq]
 rw [hq]
 omega
def DnRet (D : FFld.FD) (s : FFld.ESt) (bl : List Nat) (wd n : Nat) (w : World) (e : Ending) (w' : World) : Prop := Below w.heap.size w w' /\
 ((∃ i vd, s.cols.length <= i /\ i < n /\ sopV D s bl i ≠ 0 /\ e = .returned (.tuple #[vd, .bool true]) /\ Sl .i64 w' vd (ints (FFld.rowAt s.R i)) /\ ∃ ao c, vd = .slice ao n c) \/
  ((∀ j, s.cols.length <= j -> j < n -> sopV D s bl j = 0) /\ e = .returned (.tuple #[.slice none 0 0, .bool false])))
def EcRet (s : FFld.ESt) (w : World) (e : Ending) (w' : World) : Prop := Below w.heap.size w w' /\ ∃ G, e = .returned (.tuple #[.slice (some ⟨G, 0, none⟩) s.cols.length s.cols.length, .int .i64 0]) /\ Sls w' (some ⟨G, 0, none⟩) ((s.A.take s.cols.length).map ints)
def SlRet (D : FFld.FD) (s : FFld.ESt) (bl : List Nat) (wd n : Nat) (w : World) (e : Ending) (w' : World) : Prop := Below w.heap.size w w' /\
 ((∃ i, s.cols.length <= i /\ i < n /\ sopV D s bl i ≠ 0 /\ e = .returned (.tuple #[.slice none 0 0, .int .i64 4])) \/
  ((∀ j, s.cols.length <= j -> j < n -> sopV D s bl j = 0) /\ ∃ vx, e = .returned (.tuple #[vx, .int .i64 0]) /\ Sl .i64 w' vx (ints (solF D s bl wd s.cols.length))))
end Go.Proofs.YtdnheaafcbihbaaGreat
namespace Go.Proofs.YtdnheaafcbihbaaGreat
namespace FFld
theorem take_off {D : FD} (h : PK D.p D.k D.m) {t y : Nat} (ht : t < D.p ^ D.k) (hy : y < D.p ^ D.k) : pscl D.p D.k (D.p - 1) (pmul D.p D.k D.m t D.k y) = pmul D.p D.k D.m y D.k (negF D t) := by
 unfold negF
 rw [pmul_comm h _ _ hy (pscl_lt h _ _), pmul_scl h]
theorem negF_zero {D : FD} (h : PK D.p D.k D.m) : negF D 0 = 0 := pscl_nil h _
theorem addmF_none {D : FD} (h : PK D.p D.k D.m) {xs : List Nat} (q : List Nat) (hx : ∀ a ∈ xs, a < D.p ^ D.k) (hq : ∀ a ∈ q, a < D.p ^ D.k) (hl : q.length <= xs.length) : ∀ j, j <= q.length -> addmF D xs 0 q 0 j = xs
 | 0, _ => rfl
 | j + 1, hj => by
   simp only [addmF]
   rw [addmF_none h q hx hq hl j (by omega), Nat.zero_add]
   rw [pmul_zero_right h, padd_zero h _ (getD_lt (Nat.pow_pos h.p0) hx j)]
   apply List.ext_getElem?
   intro i
   by_cases e : j = i
   ·subst e
    rw [List.getElem?_set_self (by omega), List.getElem?_eq_getElem (by omega)]
    rfl
   ·rw [List.getElem?_set_ne e]
theorem rowAt_set_self {A : List (List Nat)} {i : Nat} (hi : i < A.length) : A.set i (rowAt A i) = A := by
 unfold rowAt
 apply List.ext_getElem?
 intro k
 by_cases e : i = k
 ·subst e
  rw [List.getElem?_set_self hi, List.getElem?_eq_getElem hi]
  rfl
 ·rw [List.getElem?_set_ne e]
theorem rowAt_put {A : List (List Nat)} {i : Nat} (hi : i < A.length) (r : List Nat) : rowAt (A.set i r) i = r := by
 unfold rowAt
 rw [List.getElem?_set_self hi]
 rfl
theorem rowAt_put_ne {A : List (List Nat)} {i j : Nat} (h : i ≠ j) (r : List Nat) : rowAt (A.set i r) j = rowAt A j := by
 unfold rowAt
 rw [List.getElem?_set_ne h]
theorem subAt_none {D : FD} (h : PK D.p D.k D.m) {n : Nat} {A : List (List Nat)} (hw : Wfm D n A) {i j : Nat} (hi : i < A.length) (hj : j < A.length) : subAt D A i j 0 = A := by
 unfold subAt addm
 rw [negF_zero h, addmF_none h (rowAt A j) (rowAt_lt hw i) (rowAt_lt hw j) (by rw [(hw.row hi).1, (hw.row hj).1]; exact Nat.le_refl _) _ (Nat.le_refl _), rowAt_set_self hi]
theorem stepF_full {D : FD} (h : PK D.p D.k D.m) (c : Nat) {s : ESt} (hs : s.cols.length = s.A.length) : stepF D h c s = s := by
 unfold stepF
 simp only
 rw [hs, Nat.sub_self]
 simp only [piv]
 rw [if_pos trivial]
theorem elimF_full {D : FD} (h : PK D.p D.k D.m) (s : ESt) (c : Nat) (hs : (elimF D h s c).cols.length = (elimF D h s c).A.length) : ∀ d, elimF D h s (c + d) = elimF D h s c
 | 0 => rfl
 | d + 1 => by
   show stepF D h (c + d) (elimF D h s (c + d)) = _
   rw [elimF_full h s c hs d, stepF_full h _ hs]
theorem subsF_fst (D : FD) (top c : Nat) (A R R' : List (List Nat)) : ∀ i, (subsF D top c (A, R) i).1 = (subsF D top c (A, R') i).1
 | 0 => rfl
 | i + 1 => by
   simp only [subsF]
   split
   ·exact subsF_fst D top c A R R' i
   ·simp only [subsF_fst D top c A R R' i]
end FFld
open Go Go.RowKit Go.Deep
open FFld (ints)
def DisR (L : List (Value × List Int)) : Prop := ∀ (i j g : Nat), L[i]?.bind (fun r => r.1.ownBlock) = some g -> L[j]?.bind (fun r => r.1.ownBlock) = some g -> i = j
theorem DisR.nil : DisR [] := fun i j g h => by simp at h
theorem DisR.push {L : List (Value × List Int)} (h : DisR L) {r : Value × List Int} (hr : ∀ g, r.1.ownBlock = some g -> ∀ s ∈ L, s.1.ownBlock ≠ some g) : DisR (L ++ [r]) := by
 have key : ∀ i g, (L ++ [r])[i]?.bind (fun r => r.1.ownBlock) = some g -> (i < L.length /\ L[i]?.bind (fun r => r.1.ownBlock) = some g) \/ (i = L.length /\ r.1.ownBlock = some g) := fun i g e => by
  by_cases hi : i < L.length
  ·rw [List.getElem?_append_left hi] at e
   exact .inl ⟨hi, e⟩
  ·by_cases he : i = L.length
   ·subst he
    rw [List.getElem?_append_right (Nat.le_refl _), Nat.sub_self] at e
    exact .inr ⟨rfl, e⟩
   ·rw [List.getElem?_eq_none (by simp; omega)] at e
    cases e
 have old : ∀ i g, i < L.length -> L[i]?.bind (fun r => r.1.ownBlock) = some g -> r.1.ownBlock ≠ some g := fun i g hi e e2 => by
  rw [List.getElem?_eq_getElem hi] at e
  exact hr g e2 _ (List.getElem_mem hi) e
 intro i j g h1 h2
 rcases key i g h1 with ⟨a1, b1⟩ | ⟨a1, b1⟩ <;> rcases key j g h2 with ⟨a2, b2⟩ | ⟨a2, b2⟩
 ·exact h i j g b1 b2
 ·exact absurd b2 (old i g a1 b1)
 ·exact absurd b1 (old j g a2 b2)
 ·omega
structure Mat (B : Nat) (w : World) (G n wd : Nat) (H C : Nat -> Nat) (A : List (List Nat)) : Prop where
 len : A.length = n
 hdr : ∃ cur, w.heap[G]? = some (.cells cur 22 (0, 0)) /\ ∀ i, i < n -> cur[i]? = some (.slice (some ⟨H i, 0, none⟩) wd (C i))
 row : ∀ i, i < n -> Wv w (H i) (FFld.rowAt A i)
 wid : ∀ i, i < n -> (FFld.rowAt A i).length = wd
 cap : ∀ i, i < n -> wd <= C i /\ C i <= maxLen
 low : ∀ i, i < n -> B <= H i /\ H i ≠ G
 dis : ∀ i j, i < n -> j < n -> H i = H j -> i = j
 gB : B <= G
section
variable {B : Nat} {w w' : World} {G n wd : Nat} {H C : Nat -> Nat} {A : List (List Nat)}
theorem Mat.lt (h : Mat B w G n wd H C A) : G < w.heap.size := by
 obtain ⟨cur, h1, _⟩ := h.hdr
 exact (Array.getElem?_eq_some_iff.1 h1).1
theorem Mat.cell (h : Mat B w G n wd H C A) {i : Nat} (hi : i < n) : w.cell? ⟨G, i, none⟩ = some (.slice (some ⟨H i, 0, none⟩) wd (C i)) := by
 obtain ⟨cur, h1, h2⟩ := h.hdr
 rw [cell_of_row w G i cur _ (0, 0) h1]
 exact h2 i hi
theorem Mat.free (h : Mat B w G n wd H C A) (i : Nat) : w.frozen? ⟨G, i, none⟩ = false := by
 obtain ⟨cur, h1, _⟩ := h.hdr
 exact frozen_of_row w G i cur _ h1
theorem Mat.el (h : Mat B w G n wd H C A) {i j : Nat} (hi : i < n) (hj : j < wd) : w.cell? ⟨H i, j, none⟩ = some (.int .i64 (FFld.cellAt A i j : Nat)) := (h.row i hi).cell (by rw [h.wid i hi]; exact hj)
theorem Mat.below (h : Mat B w G n wd H C A) (hb : Below w.heap.size w w') : Mat B w' G n wd H C A := by
 have hl := h.lt
 obtain ⟨cur, h1, h2⟩ := h.hdr
 exact ⟨h.len, ⟨cur, (hb.block _ hl).trans h1, h2⟩, fun i hi => (h.row i hi).below hb, h.wid, h.cap, h.low, h.dis, h.gB⟩
theorem grow_set (w : World) (g i : Nat) (v : Value) : w.grownBy (w.setCell ⟨g, i, none⟩ v) (some g) := growSet (growRefl _ _) _ _
theorem Mat.put (h : Mat B w G n wd H C A) {i : Nat} (hi : i < n) (j v : Nat) : Mat B (w.setCell ⟨H i, j, none⟩ (.int .i64 v)) G n wd H C (A.set i ((FFld.rowAt A i).set j v)) := by
 have hl := h.lt
 have hil : i < A.length := by rw [h.len]; exact hi
 obtain ⟨cur, h1, h2⟩ := h.hdr
 have hg := grow_set w (H i) j (.int .i64 (v : Nat))
 refine ⟨by rw [List.length_set]; exact h.len, ⟨cur, (hg.block _ hl (fun e => (h.low i hi).2 (Option.some.inj e).symm)).trans h1, h2⟩, fun k hk => ?_, fun k hk => ?_, h.cap, h.low, h.dis, h.gB⟩
 ·by_cases e : i = k
  ·subst e
   rw [FFld.rowAt_put hil]
   exact (h.row i hi).set v
  ·rw [FFld.rowAt_put_ne e]
   exact (h.row k hk).other hg (fun e2 => e (h.dis k i hk hi e2).symm)
 ·by_cases e : i = k
  ·subst e
   rw [FFld.rowAt_put hil, List.length_set]
   exact h.wid i hi
  ·rw [FFld.rowAt_put_ne e]
   exact h.wid k hk
def swapN (i j k : Nat) : Nat := if k = j then i else if k = i then j else k
theorem rowAt_ex {A : List (List Nat)} {i j : Nat} (hi : i < A.length) (hj : j < A.length) (k : Nat) : FFld.rowAt (FFld.exch [] A i j) k = FFld.rowAt A (swapN i j k) := by
 unfold FFld.rowAt
 rw [FFld.exch_get [] A hi hj]
 rfl
theorem swapN_lt {i j k n : Nat} (hi : i < n) (hj : j < n) (hk : k < n) : swapN i j k < n := by
 unfold swapN
 split
 ·exact hi
 ·split
  ·exact hj
  ·exact hk
theorem swapN_inj {i j k l : Nat} (h : swapN i j k = swapN i j l) : k = l := by
 unfold swapN at h
 (repeat' split at h) <;> omega
theorem Mat.swap (h : Mat B w G n wd H C A) {i j : Nat} (hi : i < n) (hj : j < n) : Mat B ((w.setCell ⟨G, j, none⟩ (.slice (some ⟨H i, 0, none⟩) wd (C i))).setCell ⟨G, i, none⟩ (.slice (some ⟨H j, 0, none⟩) wd (C j))) G n wd (fun k => H (swapN i j k)) (fun k => C (swapN i j k)) (FFld.exch [] A i j) := by
 have hil : i < A.length := by rw [h.len]; exact hi
 have hjl : j < A.length := by rw [h.len]; exact hj
 obtain ⟨cur, h1, h2⟩ := h.hdr
 have hci : i < cur.size := (Array.getElem?_eq_some_iff.1 (h2 i hi)).1
 have hcj : j < cur.size := (Array.getElem?_eq_some_iff.1 (h2 j hj)).1
 have g1 := grow_set w G j (.slice (some ⟨H i, 0, none⟩) wd (C i))
 have hg := growTrans g1 (grow_set _ G i (.slice (some ⟨H j, 0, none⟩) wd (C j)))
 have k1 := heap_setCell_same w G j cur _ (.slice (some ⟨H i, 0, none⟩) wd (C i)) h1
 have k2 := heap_setCell_same _ G i _ _ (.slice (some ⟨H j, 0, none⟩) wd (C j)) k1
 refine ⟨by rw [FFld.exch_len]; exact h.len, ⟨_, k2, fun k hk => ?_⟩, fun k hk => ?_, fun k hk => ?_, fun k hk => h.cap _ (swapN_lt hi hj hk), fun k hk => h.low _ (swapN_lt hi hj hk), fun k l hk hl e => swapN_inj (h.dis _ _ (swapN_lt hi hj hk) (swapN_lt hi hj hl) e), h.gB⟩
 ·rw [Array.getElem?_setIfInBounds]
  by_cases e : i = k
  ·subst e
   rw [if_pos rfl, if_pos (by simpa using hci)]
   unfold swapN
   by_cases e2 : i = j
   ·subst e2; rw [if_pos rfl]
   ·rw [if_neg e2, if_pos rfl]
  ·rw [if_neg e, Array.getElem?_setIfInBounds]
   by_cases e2 : j = k
   ·subst e2
    rw [if_pos rfl, if_pos hcj]
    unfold swapN
    rw [if_pos rfl]
   ·rw [if_neg e2, h2 k hk]
    unfold swapN
    rw [if_neg (fun e => e2 e.symm), if_neg (fun e2 => e e2.symm)]
 ·rw [rowAt_ex hil hjl]
  exact (h.row _ (swapN_lt hi hj hk)).other hg (h.low _ (swapN_lt hi hj hk)).2
 ·rw [rowAt_ex hil hjl]
  exact h.wid _ (swapN_lt hi hj hk)
theorem Mat.sls (h : Mat B w G n wd H C A) {k : Nat} (hk : k <= n) : Sls w (some ⟨G, 0, none⟩) ((A.take k).map ints) := fun i hi => by
 have hi' : i < k := by rw [List.length_map, List.length_take] at hi; omega
 have hr : ((A.take k).map ints)[i]?.getD [] = ints (FFld.rowAt A i) := by
  rw [List.getElem?_map, List.getElem?_take, if_pos hi']
  unfold FFld.rowAt
  cases A[i]? <;> rfl
 rw [hr]
 refine ⟨G, 0, .slice (some ⟨H i, 0, none⟩) wd (C i), rfl, h.lt, ?_, (h.row i (by omega)).sl (h.wid i (by omega)).symm (h.cap i (by omega)).1 (h.cap i (by omega)).2⟩
 rw [Nat.zero_add]
 exact h.cell (by omega)
end
def hdB (v : Value) : Nat := v.ownBlock.getD 0
def hdC : Value -> Nat | .slice _ _ c => c | _ => 0
def valAt (L : List (Value × List Int)) (i : Nat) : Value := (L[i]?.getD (.slice none 0 0, [])).1
theorem Rws.mat {D : FFld.FD} {B : Nat} {w : World} {v : Value} {L : List (Value × List Int)} {rows : List (List Nat)} {n wd : Nat} (h : Rws B w v L) (hd : DisR L) (he : L.map (·.2) = rows.map ints) (hw : FFld.Wfm D wd rows) (hn : rows.length = n) (h1 : 0 < n) (h2 : 0 < wd) :
 ∃ G cap H C, v = .slice (some ⟨G, 0, none⟩) n cap /\ n <= cap /\ cap <= maxLen /\ Mat B w G n wd H C rows := by
 have hLn : L.length = n := by
  have e := congrArg List.length he
  rw [List.length_map, List.length_map] at e
  rw [e, hn]
 have row : ∀ i, i < n -> ∃ g c, L[i]? = some (.slice (some ⟨g, 0, none⟩) wd c, ints (FFld.rowAt rows i)) /\ B <= g /\ g < w.heap.size /\ wd <= c /\ c <= maxLen /\ Mine 3 .i64 B w (.slice (some ⟨g, 0, none⟩) wd c) (ints (FFld.rowAt rows i)) := fun i hi => by
  have hi' : i < L.length := by omega
  have hm := h.ok _ (List.getElem_mem hi')
  have e2 : (L[i]'hi').2 = ints (FFld.rowAt rows i) := by
   have e := congrArg (fun l => l[i]?) he
   simp only [List.getElem?_map] at e
   rw [List.getElem?_eq_getElem hi', List.getElem?_eq_getElem (by omega)] at e
   unfold FFld.rowAt
   rw [List.getElem?_eq_getElem (by omega)]
   exact Option.some.inj e
  rw [e2] at hm
  have hl : (ints (FFld.rowAt rows i)).length = wd := by rw [FFld.ints_len]; exact (hw.row (by omega)).1
  obtain ⟨g, c, ev, hB, hg, hc1, hc2, _⟩ := hm.at (i := 0) (by rw [hl]; exact h2)
  rw [hl] at ev hc1
  refine ⟨g, c, ?_, hB, hg, hc1, hc2, ?_⟩
  ·rw [List.getElem?_eq_getElem hi', <- e2, <- ev]
  ·rw [<- ev]; exact hm
 rcases h.own with ⟨_, e⟩ | ⟨G, cap, cur, rfl, hBG, hG, hc1, hc2, hc3, ht⟩
 ·have : L.length = 0 := by have := congrArg List.length e; simpa using this
  omega
 ·have hml : (L.map (·.1)).length = n := by rw [List.length_map, hLn]
  rw [hml] at hc1 ht ⊢
  refine ⟨G, cap, fun i => hdB (valAt L i), fun i => hdC (valAt L i), rfl, hc1, hc3, ?_⟩
  have hv : ∀ i, i < n -> ∃ g c, valAt L i = .slice (some ⟨g, 0, none⟩) wd c /\ hdB (valAt L i) = g /\ hdC (valAt L i) = c := fun i hi => by
   obtain ⟨g, c, e, _⟩ := row i hi
   refine ⟨g, c, ?_, ?_, ?_⟩ <;> (unfold valAt; rw [e]; rfl)
  have hown : ∀ i, i < n -> L[i]?.bind (fun r => r.1.ownBlock) = some (hdB (valAt L i)) := fun i hi => by
   obtain ⟨g, c, e, _⟩ := row i hi
   unfold valAt
   rw [e]
   rfl
  refine ⟨hn, ⟨cur, hG, fun i hi => ?_⟩, fun i hi => ?_, fun i hi => (hw.row (by omega)).1, fun i hi => ?_, fun i hi => ?_, fun i j hi hj e => hd i j _ (hown i hi) (by rw [hown j hj]; exact congrArg some e.symm), hBG⟩
  ·obtain ⟨g, c, e, r1, r2⟩ := hv i hi
   have h3 : (cur.toList.take n)[i]? = cur[i]? := by rw [List.getElem?_take, if_pos hi]; simp
   rw [<- h3, ht, List.getElem?_map]
   obtain ⟨g2, c2, e2, _⟩ := row i hi
   rw [e2]
   unfold valAt
   rw [e2]
   rfl
  ·obtain ⟨g, c, e, r1, r2, r3, r4, r5⟩ := row i hi
   have : hdB (valAt L i) = g := by unfold valAt; rw [e]; rfl
   rw [this]
   exact r5.wv
  ·obtain ⟨g, c, e, r1, r2, r3, r4, r5⟩ := row i hi
   have : hdC (valAt L i) = c := by unfold valAt; rw [e]; rfl
   rw [this]
   exact ⟨r3, r4⟩
  ·obtain ⟨g, c, e, r1, r2, r3, r4, r5⟩ := row i hi
   have e3 : hdB (valAt L i) = g := by unfold valAt; rw [e]; rfl
   rw [e3]
   refine ⟨r1, fun e4 => ?_⟩
   subst e4
   have := h.ne (.slice (some ⟨g, 0, none⟩) wd c, ints (FFld.rowAt rows i)) (List.mem_iff_getElem?.2 ⟨i, e⟩) g rfl
   exact this rfl
end Go.Proofs.YtdnheaafcbihbaaGreat
namespace Go.Proofs.YtdnheaafcbihbaaGreat
open Go Go.RowKit Go.Deep
open FFld (ints)
theorem rlen_zero {rows : List (List Int)} (h : rows.length = 0) : rlen rows 0 = 0 := by
 unfold rlen
 rw [List.getElem?_eq_none (by omega)]
 rfl
set_option maxRecDepth 20000 in
theorem rcolumns_any (ao : Option Addr) (rows : List (List Int)) (cap : Nat) (w : World) (hcap : rows.length <= cap) (hmax : cap <= maxLen) (h : Sls w ao rows) :
 Calls Tryz.prog 118 #[.slice ao rows.length cap] w (fun e w' => w = w' /\ e = .returned (.int .i64 (rlen rows 0 : Nat))) := by
 obtain ⟨n, hN⟩ : ∃ n, rows.length = n := ⟨_, rfl⟩
 unfold maxLen at hmax
 by_cases h0 : n = 0
 ·subst h0
  have HE := Kept.mk (rlen_zero hN)
  rw [hN] at hcap ⊢
  rw [HE.out]
  clear h hN
  go_enter Tryz.func118, Tryz.ntmps118
  go_wp2
  go_ret
  exact ⟨rfl, rfl⟩
 ·obtain ⟨g, o, rv, rfl, hg, hcell, hsl⟩ := h 0 (by omega)
  obtain ⟨a0, c0, rfl, hc0, hm0⟩ := hsl.form
  obtain ⟨r0, hr0⟩ : ∃ r, (rows[0]?.getD []).length = r := ⟨_, rfl⟩
  have hr : rlen rows 0 = r0 := hr0
  rw [hr0, Nat.add_zero] at hcell
  rw [hr, hN]
  have e0 : ((n : Int) == 0) = false := by rw [beq_eq_false_iff_ne]; omega
  have hn0 : 0 < n := by omega
  clear hr hr0 hsl h0 h hc0 hm0 hN
  go_enter Tryz.func118, Tryz.ntmps118
  go_wp2
  go_ret
  exact ⟨rfl, rfl⟩
def tamE (D : FFld.FD) (r : List Int) (c : Nat) : Nat := if c < r.length then redN D (r[c]?.getD 0) else 0
def tamR (D : FFld.FD) (r : List Int) (wd : Nat) : List Nat := (List.range wd).map (tamE D r)
def tamM (D : FFld.FD) (rows : List (List Int)) (most : Nat) : List (List Nat) := (rows.take most).map fun r => tamR D r (min (rlen rows 0) most)
end Go.Proofs.YtdnheaafcbihbaaGreat
namespace Go.Proofs.YtdnheaafcbihbaaGreat
namespace FFld
theorem FD.gen_le {p k m g g' : Nat} (h : FD.Ok ⟨p, k, m, g⟩) (h' : FD.Ok ⟨p, k, m, g'⟩) : g' <= g := by
 rcases Nat.lt_or_ge g g' with hlt | hge
 ·exact absurd h.ord (h'.least g h.gq h.g1 hlt)
 ·exact hge
theorem FD.uniq {D D' : FD} (h : D.Ok) (h' : D'.Ok) (e : D.q = D'.q) : D = D' := by
 obtain ⟨p, k, m, g⟩ := D
 obtain ⟨p', k', m', g'⟩ := D'
 have e1 : p ^ k = p' ^ k' := e
 have hk := h.pre.k1
 have hp2 := h.pre.prime.1
 simp only at hk hp2
 have ep : p = p' := prime_pow_eq h.pre.prime h'.pre.prime (K := k') (by rw [<- e1]; exact ⟨p ^ (k - 1), by rw [<- Nat.pow_succ']; congr 1; omega⟩)
 subst ep
 have ek : k = k' := Nat.le_antisymm ((Nat.pow_le_pow_iff_right hp2).1 (Nat.le_of_eq e1)) ((Nat.pow_le_pow_iff_right hp2).1 (Nat.le_of_eq e1.symm))
 subst ek
 have em : m = m' := by
  by_cases h1 : k = 1
  ·exact (h.pre.mod1 h1).trans (h'.pre.mod1 h1).symm
  ·have a := h.pre.mod2 (show 2 <= k by omega)
   have a' := h'.pre.mod2 (show 2 <= k by omega)
   rcases Nat.lt_or_ge m m' with hl | hl
   ·exact absurd a.2.2.1 (a'.2.2.2 m a.1 hl)
   ·rcases Nat.lt_or_ge m' m with hl' | hl'
    ·exact absurd a'.2.2.1 (a.2.2.2 m' a'.1 hl')
    ·exact Nat.le_antisymm hl' hl
 subst em
 have eg : g = g' := Nat.le_antisymm (FD.gen_le h' h) (FD.gen_le h h')
 subst eg
 rfl
end FFld
end Go.Proofs.YtdnheaafcbihbaaGreat
namespace Go.Proofs.YtdnheaafcbihbaaGreat
namespace FFld
namespace Dom
variable {α : Type} (F : Dom α)
def psum (F : Dom α) : List α -> List α -> List α
 | [], m => m
 | a :: l, [] => a :: l
 | a :: l, b :: m => F.add a b :: psum F l m
theorem add4 (a b c d : α) : F.add (F.add a b) (F.add c d) = F.add (F.add a c) (F.add b d) := by
 rw [F.add_assoc, <- F.add_assoc b c d, F.add_comm b c, F.add_assoc c b d, <- F.add_assoc]
def Pol (F : Dom α) (n : Nat) (f : α -> α) : Prop := ∃ l : List α, l.length <= n /\ ∀ x, F.eval l x = f x
end Dom
theorem FD.Ok.fermat {D : FD} (h : D.Ok) {a : Nat} (ha : a < D.p ^ D.k) (h0 : a ≠ 0) : ppow h.pre.pk a (D.p ^ D.k - 1) = 1 := by
 have e := (FD.dom h.nzd).fermat (nzl_all h.nzd) (a := ⟨a, ha⟩) (fun e => h0 (congrArg Subtype.val e))
 rw [nzl_len] at e
 rw [ppow_of _ _ _ ha, <- dom_pow h.nzd, e]
 rfl
theorem FD.Ok.div_mul {D : FD} (h : D.Ok) {a b : Nat} (ha : a < D.p ^ D.k) (hb : b < D.p ^ D.k) (h0 : b ≠ 0) : pmul D.p D.k D.m (pmul D.p D.k D.m a D.k b) D.k (ppow h.pre.pk b (D.q - 2)) = a := by
 have hk := h.pre.pk
 have h1 := hk.one_lt
 have e := h.fermat hb h0
 have hq : D.p ^ D.k - 1 = D.q - 2 + 1 := by unfold FD.q; omega
 rw [hq, ppow_succ hk _ _ hb] at e
 rw [pmul_assoc hk _ _ _ ha hb (ppow_lt _ _ _), pmul_comm hk b _ hb (ppow_lt _ _ _), e, pmul_by_one hk a ha]
end FFld
end Go.Proofs.YtdnheaafcbihbaaGreat
