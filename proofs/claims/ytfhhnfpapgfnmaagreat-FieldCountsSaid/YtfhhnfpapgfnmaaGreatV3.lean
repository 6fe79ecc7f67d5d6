/-
  Texts of the proof, merged by program: TOne Mine TScale TStr TTxt TSplit TRead TRev TDec TWrite.
-/
import Derived.Test.YtfhhnfpapgfnmaaGreatV2
import Derived.Test.YtfhhnfpapgfnmaaGreatV1
import Derived.Lib.ParseIntB
import Derived.Lib.SmallJoins
import Derived.Lib.IndexBytes
import Derived.Deep.LoopGhost
import Derived.Laws.IdiomStrings
set_option linter.unusedVariables false
set_option linter.unusedSimpArgs false
namespace Go.Proofs.YtfhhnfpapgfnmaaGreat
open Go Go.RowKit
set_option maxHeartbeats 400000 in
theorem oneWord_any (x : Int) (w : World) (h0 : 0 ≤ x) (h1 : x < 18446744073709551616) :
    Calls Tryz.prog 41 #[.int .u64 x] w (RetNum 1 w x) := by
  have hS : Sl .u64 (w.alloc (.cells #[.int .u64 x] 62)) (.slice (some ⟨w.heap.size, 0, none⟩) 1 1) [x] := (Row.new (E := 62) (K := .u64) w [x]).slAll rfl (Nat.le_refl _) (by unfold maxLen; omega)
  have hb : Below w.heap.size w (w.alloc (.cells #[.int .u64 x] 62)) := (Below.refl _ _).alloc (Nat.le_refl _) _
  have hw : Dg.Wf BW [x] := Dg.Wf.one h0 h1
  go_enter Tryz.func41, Tryz.ntmps41
  go_wp2_with (go_at_call 58; refine (cut_num hS hw).mono ?_; rintro e w' ⟨v', rfl, rfl, hn, hob⟩; have HOB := Lib.hid hob; clear hob)
  go_ret
  rw [Dg.val_one] at hn
  exact ⟨hb, _, rfl, hn, (Frm.mk (Nat.le_refl _)).of HOB.out⟩
theorem Sl.of_owns {E : TypeId} {K : IntKind} {w : World} {B : Nat} {v : Value} {n : Nat} {xs : List Int} (h : w.ownsRow B E 1 v n (xs.map (Value.int K))) : Sl K w v xs := by
  have hl : xs.length = n := by simpa using h.1
  rcases h.2 with ⟨rfl, h0⟩ | ⟨g, cap, cur, rfl, hg, hh, hn, hm, hc, ht⟩
  · have : xs = [] := by cases xs with | nil => rfl | cons => simp at hl; omega
    subst this
    exact Sl.nil _ _
  · refine ⟨_, cap, by rw [hl], by omega, hm, fun i hi => ⟨g, 0, rfl, (Array.getElem?_eq_some_iff.1 hh).1, ?_⟩⟩
    have := h.cellAt i (by omega)
    rw [Nat.zero_add, this]
    simp [hi]
theorem Sl.newsT {K : IntKind} {w : World} {ad : Addr} {n cap : Nat} {xs : List Int} (h : Sl K w (.slice (some ad) n cap) xs) : ∀ j u, (xs.map (Value.int K))[j]? = some u → w.cell? (ad.add j) = some u := by
  obtain ⟨ao, c, e, hc, hm, hx⟩ := h
  intro j u hj
  have hjl : j < xs.length := by
    apply Classical.byContradiction
    intro hc'
    simp [hc'] at hj
  obtain ⟨b, o, e2, hb, hcell⟩ := hx j hjl
  simp only [Value.slice.injEq] at e
  obtain ⟨rfl, _, _⟩ := e
  simp only [Option.some.injEq] at e2
  subst e2
  have : (⟨b, o, none⟩ : Addr).add j = ⟨b, o + j, none⟩ := by simp [Addr.add]
  rw [this, hcell]
  simp [hjl] at hj ⊢
  exact hj
set_option maxHeartbeats 400000 in
theorem tclone_any {v : Value} {xs : List Int} {w : World} (h : Sl .u64 w v xs) (hmx : xs.length ≤ 17000000000000) :
    Calls Tryz.prog 87 #[v] w (RetSl .u64 w xs) := by
  have h' := h
  obtain ⟨ao, cap, rfl, hcap, hmax, hc⟩ := h
  have hnil := fun wx : World => Lib.run_eql_slice_nil (P := Tryz.prog) wx 22 62 ao xs.length cap 0 0 Tryz.underlying22
  rcases ao with _ | ad
  · have hx : xs = [] := by
      cases xs with
      | nil => rfl
      | cons x xs => obtain ⟨b, o, e, _⟩ := hc 0 (by simp); cases e
    subst hx
    simp only [Option.isNone_none, List.length_nil] at hnil ⊢
    clear hc hmax h' hmx hcap
    go_enter Tryz.func87, Tryz.ntmps87
    go_wp2
    go_ret
    exact ⟨Below.refl _ _, _, rfl, Sl.nil _ _, Frm.nil _⟩
  · simp only [Option.isNone_some] at hnil
    obtain ⟨i0, hi, hz0, hz1, hz2⟩ := info_parts info_u64
    have hown := World.ownsRow_lit (base := w.heap.size) (e := 62) (size := 1) w #[] 0 (Nat.le_refl _) (Nat.zero_le _) (by rfl)
    have hb : Below w.heap.size w (w.alloc (.cells #[] 62)) := (Below.refl _ _).alloc (Nat.le_refl _) _
    have hn := (h'.below hb).newsT
    have HO := Lib.hid hown
    have HN := Lib.hid hn
    have hone : ∀ u ∈ xs.map (Value.int .u64), u.oneCell' = true := by
      intro u hu
      obtain ⟨a, _, rfl⟩ := List.mem_map.1 hu
      rfl
    have hlen : (xs.map (Value.int .u64)).length = xs.length * 1 := by simp
    have hm1 : 0 + xs.length ≤ maxLen := by unfold maxLen; omega
    have hm2 : (0 + xs.length) * 8 ≤ 140737488355328 := by omega
    have hb0 : w.heap.size ≤ (w.alloc (.cells #[] 62)).heap.size := by simp
    have HB0 := Lib.hid hb0
    have HONE := Lib.hid hone
    have HLEN := Lib.hid hlen
    have HM1 := Lib.hid hm1
    have HM2 := Lib.hid hm2
    clear hn hown hc hmax h' hone hlen hm1 hm2 hb0
    go_enter Tryz.func87, Tryz.ntmps87
    go_wp2_with (at_builtin; refine wpList_append_own _ rfl _ _ 22 rfl w.heap.size 62 i0 (.int .u64 0) 1 8 Tryz.underlying22 hi hz0 hz1 hz2 rfl (by decide) _ _ _ rfl HO.out ad xs.length cap (xs.map (Value.int .u64)) rfl HLEN.out HN.out HONE.out HM1.out HM2.out HB0.out ?_)
    intro v' w1 hown1 hgrow hiff
    have HO1 := Lib.hid hown1
    have hb2 := hb.grown hgrow (by simp) (fun k hk => (HO.out.lt k hk).1)
    clear hiff hown1 hgrow hb HO HN hi hz0 hz1 hz2 hnil
    go_wp2
    go_ret
    exact ⟨hb2, _, rfl, Sl.of_owns (by simpa using HO1.out), fun k hk => (HO1.out.lt k hk).1⟩
set_option maxHeartbeats 400000 in
theorem tcopied_any {L : Nat} {v : Value} {m : Int} {w : World} (h : Num L w v m) (hL : L ≤ 17000000000000) :
    Calls Tryz.prog 60 #[v] w (RetNum L w m) := by
  obtain ⟨xs, a1, a2, a3, rfl, a5⟩ := h
  go_enter Tryz.func60, Tryz.ntmps60
  go_wp2_with fail
  refine (tclone_any a1 (by omega)).mono ?_
  rintro e w1 ⟨hb, v1, rfl, hs, hf⟩
  have HF := Lib.hid hf
  clear hf
  go_wp2_with fail
  refine (cut_num hs a2).mono ?_
  rintro e w2 ⟨v2, rfl, rfl, hn, hob⟩
  have HOB := Lib.hid hob
  clear hob
  go_wp2
  go_ret
  exact ⟨hb, _, rfl, hn.mono a5, Frm.of HF.out HOB.out⟩
end Go.Proofs.YtfhhnfpapgfnmaaGreat

set_option linter.unusedVariables false
set_option linter.unusedSimpArgs false
namespace Go.Proofs.YtfhhnfpapgfnmaaGreat
open Go Go.RowKit

/-- The slice value v holds xs, in a block of the call's own (from number B on), or is nil. -/
def Mine (E : TypeId) (K : IntKind) (B : Nat) (w : World) (v : Value) (xs : List Int) : Prop :=
  (v = .slice none 0 0 ∧ xs = []) ∨
    ∃ g cap cur, v = .slice (some ⟨g, 0, none⟩) xs.length cap ∧ B ≤ g ∧ w.heap[g]? = some (.cells cur E (0, 0)) ∧ xs.length ≤ cap ∧ cap ≤ cur.size ∧ cap ≤ maxLen ∧ cur.toList.take xs.length = xs.map (Value.int K)
section
variable {E : TypeId} {K : IntKind} {B : Nat} {w w' : World} {v : Value} {xs : List Int}
theorem Mine.nil (E : TypeId) (K : IntKind) (B : Nat) (w : World) : Mine E K B w (.slice none 0 0) [] := .inl ⟨rfl, rfl⟩
theorem Mine.sl (h : Mine E K B w v xs) : Sl K w v xs := by
  rcases h with ⟨rfl, rfl⟩ | ⟨g, cap, cur, rfl, hB, hg, hn, hc, hm, ht⟩
  · exact Sl.nil _ _
  · refine ⟨_, cap, rfl, hn, hm, fun i hi => ⟨g, 0, rfl, (Array.getElem?_eq_some_iff.1 hg).1, ?_⟩⟩
    rw [Nat.zero_add, cell_of_row w g i cur E (0, 0) hg]
    have : (cur.toList.take xs.length)[i]? = cur[i]? := by rw [List.getElem?_take, if_pos hi]; simp
    rw [← this, ht]
    simp [hi]
theorem Mine.own (h : Mine E K B w v xs) : ∀ k, v.ownBlock = some k → B ≤ k ∧ k < w.heap.size := by
  intro k hk
  rcases h with ⟨rfl, rfl⟩ | ⟨g, cap, cur, rfl, hB, hg, hn, hc, hm, ht⟩
  · simp [Value.ownBlock] at hk
  · simp [Value.ownBlock] at hk
    subst hk
    exact ⟨hB, (Array.getElem?_eq_some_iff.1 hg).1⟩
theorem Mine.kept {row : Option Nat} (h : Mine E K B w v xs) (hg : w.grownBy w' row) (hne : v.ownBlock = none ∨ v.ownBlock ≠ row) : Mine E K B w' v xs := by
  rcases h with h | ⟨g, cap, cur, rfl, hB, hgg, rest⟩
  · exact .inl h
  · refine .inr ⟨g, cap, cur, rfl, hB, ?_, rest⟩
    rw [hg.block g (Array.getElem?_eq_some_iff.1 hgg).1 (by simpa [Value.ownBlock] using hne)]
    exact hgg
theorem Mine.below (h : Mine E K B w v xs) (hb : Below w.heap.size w w') : Mine E K B w' v xs :=
  h.kept (row := none) ⟨hb.os, hb.tape, hb.output, hb.size, fun i hi _ => hb.block i hi⟩ (by cases hv : v.ownBlock <;> simp)
theorem Mine.alloc (h : Mine E K B w v xs) (o : Obj) : Mine E K B (w.alloc o) v xs := h.kept (World.grownBy_alloc w o none) (by cases hv : v.ownBlock <;> simp)
theorem Mine.lower {B' : Nat} (h : Mine E K B w v xs) (hB : B' ≤ B) : Mine E K B' w v xs := by
  rcases h with h | ⟨g, cap, cur, rfl, hb, rest⟩
  · exact .inl h
  · exact .inr ⟨g, cap, cur, rfl, by omega, rest⟩
/-- A place of the row: its address, its cell, that it may be written; and what is held behind a store. -/
theorem Mine.at (h : Mine E K B w v xs) {i : Nat} (hi : i < xs.length) : ∃ g cap, v = .slice (some ⟨g, 0, none⟩) xs.length cap ∧ B ≤ g ∧ g < w.heap.size ∧ xs.length ≤ cap ∧ cap ≤ maxLen ∧ w.cell? ⟨g, i, none⟩ = some (.int K (xs[i]?.getD 0)) ∧ w.frozen? ⟨g, i, none⟩ = false ∧
    (∀ x, Mine E K B (w.setCell ⟨g, i, none⟩ (.int K x)) v (xs.set i x)) := by
  rcases h with ⟨rfl, rfl⟩ | ⟨g, cap, cur, rfl, hB, hg, hn, hc, hm, ht⟩
  · simp at hi
  · have hcell : w.cell? ⟨g, i, none⟩ = some (.int K (xs[i]?.getD 0)) := by
      rw [cell_of_row w g i cur E (0, 0) hg]
      have : (cur.toList.take xs.length)[i]? = cur[i]? := by rw [List.getElem?_take, if_pos hi]; simp
      rw [← this, ht]
      simp [hi]
    refine ⟨g, cap, rfl, hB, (Array.getElem?_eq_some_iff.1 hg).1, hn, hm, hcell, frozen_of_row w g i cur E hg, fun x => .inr ⟨g, cap, cur.setIfInBounds i (.int K x), by simp, hB, heap_setCell_same w g i cur E _ hg, by simpa using hn, by simpa using hc, hm, ?_⟩⟩
    rw [Array.toList_setIfInBounds, List.length_set, List.take_set, ht, List.map_set]
theorem Mine.of_owns {n : Nat} (h : w.ownsRow B E 1 v n (xs.map (Value.int K))) : Mine E K B w v xs := by
  have hl : xs.length = n := by simpa using h.1
  rcases h.2 with ⟨rfl, h0⟩ | ⟨g, cap, cur, rfl, hg, hh, hn, hm, hc, ht⟩
  · have : xs = [] := by cases xs with | nil => rfl | cons => simp at hl; omega
    exact .inl ⟨rfl, this⟩
  · exact .inr ⟨g, cap, cur, by rw [hl], hg, hh, by omega, by omega, hm, by rw [hl]; simpa using ht⟩
end
/-- append to a slice of the call's own. -/
theorem run_append_mine {P : Program} (w : World) (t ty E : TypeId) (K : IntKind) (bytes : Nat) (ht : P.underlying t = some (.slice E))
    (hinfo : (P.info? E).map (fun i => (i.zero, i.size, i.bytes)) = some (some (.int K 0), 1, bytes)) (B : Nat) (v : Value) (xs : List Int) (hM : Mine E K B w v xs) (hB : B ≤ w.heap.size)
    (a : Addr) (c : Nat) (news : List Int) (hnews : ∀ j u, (news.map (Value.int K))[j]? = some u → w.cell? (a.add j) = some u)
    (hb : (xs.length + news.length) * bytes ≤ 140737488355328) (hm : xs.length + news.length ≤ maxLen) :
    ∃ v' w', (Builtin.append_ #[t, t] ty #[v, .slice (some a) news.length c]).run P w = .ok v' w' ∧ Mine E K B w' v' (xs ++ news) ∧ w.grownBy w' v.ownBlock ∧ (v'.ownBlock = v.ownBlock ∨ Frm w.heap.size v') := by
  obtain ⟨i, hi, hz, hs, hby⟩ := info_parts hinfo
  have hone : ∀ u ∈ news.map (Value.int K), u.oneCell' = true := by
    intro u hu
    obtain ⟨a, _, rfl⟩ := List.mem_map.1 hu
    rfl
  have hl : (news.map (Value.int K)).length = news.length * 1 := by simp
  rcases hM with ⟨rfl, rfl⟩ | ⟨g, cap, cur, rfl, hBg, hg, hn, hc, hcm, htk⟩
  · obtain ⟨v', w', hr, h2, h3, _⟩ := run_append_own (P := P) w w.heap.size t ty E i (.int K 0) 1 bytes ht hi hz hs hby rfl (by decide) (.slice none 0 0) 0 [] (World.ownsRow_nil w w.heap.size E 1) a news.length c (news.map (Value.int K)) hl hnews hone (by simpa using hm) (by simpa using hb) (Nat.le_refl _)
    exact ⟨v', w', hr, (Mine.of_owns (n := 0 + news.length) (by simpa using h2)).lower hB, h3, .inr (fun k hk => (h2.lt k hk).1)⟩
  · by_cases hroom : xs.length + news.length ≤ cap
    · have hfit : xs.length * i.size + (news.map (Value.int K)).length ≤ cur.size := by rw [hs]; simp; omega
      have hr := run_append_room (P := P) w t ty E i ht hi g xs.length cap cur hg a news.length c (news.map (Value.int K)) (by rw [hs]; exact hl) hnews hone hroom hfit
      rw [hs, Nat.mul_one] at hr
      refine ⟨_, _, hr, .inr ⟨g, cap, _, by simp, hBg, setRow_heap w g cur _ E _ hg, by simpa using hroom, ?_, hcm, ?_⟩, ⟨rfl, rfl, rfl, by simp, fun k _ hk => setRow_other w g k _ (fun e => hk (by simp [Value.ownBlock, e]))⟩, .inl rfl⟩
      · simp only [List.size_toArray, List.length_append, List.length_take, List.length_drop, Array.length_toList, List.length_map]
        omega
      · rw [htk, List.length_append, List.map_append]
        have : (xs.map (Value.int K) ++ news.map (Value.int K)).length = xs.length + news.length := by simp
        rw [← this]
        exact List.take_left
    · have holds : ∀ j u, (xs.map (Value.int K))[j]? = some u → w.cell? ((⟨g, 0, none⟩ : Addr).add j) = some u := by
        intro j u hu
        have e : (⟨g, 0, none⟩ : Addr).add j = ⟨g, j, none⟩ := by unfold Addr.add; split <;> simp_all
        rw [e, cell_of_row w g j cur E (0, 0) hg]
        have hj : j < xs.length := by
          apply Classical.byContradiction
          intro hc'
          simp [hc'] at hu
        rw [← htk, List.getElem?_take, if_pos hj] at hu
        simpa using hu
      obtain ⟨v', w', hr, h2, h3⟩ := run_append_arg_grows (P := P) w t ty E i (.int K 0) 1 bytes ht hi hz hs hby rfl (by decide) ⟨g, 0, none⟩ xs.length cap (xs.map (Value.int K)) (by simp) holds a news.length c (news.map (Value.int K)) hl hnews (by omega) hm hb
      refine ⟨v', w', hr, ?_, ⟨h3.os, h3.tape, h3.output, h3.size, fun k hk _ => h3.block k hk (by simp)⟩, .inr (fun k hk => (h2.lt k hk).1)⟩
      exact (Mine.of_owns (n := xs.length + news.length) (by simpa using h2)).lower hB
theorem wpList_append_mine {P : Program} (w : World) {ops : Array Oper} {rest : List Oper} {o : Oper} {a : Act} {Q : Exit → Act → World → Prop} (hgd : o.guard = none) (s x : Operand) (t : TypeId)
    (ho : o.op = .call { callee := .builtin .append, args := #[s, x], argTypes := #[t, t] }) (E : TypeId) (K : IntKind) (bytes : Nat) (ht : P.underlying t = some (.slice E))
    (hinfo : (P.info? E).map (fun i => (i.zero, i.size, i.bytes)) = some (some (.int K 0), 1, bytes)) (B : Nat) (v : Value) (xs : List Int) (hs : a.eval s = v) (hM : Mine E K B w v xs) (hB : B ≤ w.heap.size)
    (ad : Addr) (m c : Nat) (news : List Int) (hx : a.eval x = .slice (some ad) m c) (hl : news.length = m) (hnews : ∀ j u, (news.map (Value.int K))[j]? = some u → w.cell? (ad.add j) = some u)
    (hb : (xs.length + news.length) * bytes ≤ 140737488355328) (hm : xs.length + news.length ≤ maxLen)
    (h : ∀ v' w', Mine E K B w' v' (xs ++ news) → w.grownBy w' v.ownBlock → (v'.ownBlock = v.ownBlock ∨ Frm w.heap.size v') → wpList P ops Q rest (a.put o.dst v') w') : wpList P ops Q (o :: rest) a w := by
  refine wpList_plain hgd fun K' hK => ?_
  subst hl
  obtain ⟨v', w', hrun, r1, r2, r3⟩ := run_append_mine (P := P) w t o.type E K bytes ht hinfo B v xs hM hB ad c news hnews hb hm
  unfold Oper.wp
  simp [execOp, ho, resolve, invoke, builtin, hs, hx, hrun, Result.andThen]
  exact hK _ _ (h v' w' r1 r2 r3)
theorem new_one {K : IntKind} {w : World} {b o : Nat} {x : Int} (h : w.cell? ⟨b, o, none⟩ = some (.int K x)) : ∀ j u, ([x].map (Value.int K))[j]? = some u → w.cell? ((⟨b, o, none⟩ : Addr).add j) = some u := by
  intro j u hu
  cases j with
  | zero => simp at hu; subst hu; rw [← h]; congr 1
  | succ j => simp at hu
end Go.Proofs.YtfhhnfpapgfnmaaGreat

set_option linter.unusedVariables false
set_option linter.unusedSimpArgs false
namespace Go.Proofs.YtfhhnfpapgfnmaaGreat
open Go Go.RowKit
def ScAt (xs ys : List Int) (f s : Int) (k : Nat) (c : Int) : Prop := ys.length = xs.length ∧ Dg.Wf BW ys ∧ 0 ≤ c ∧ c < 18446744073709551616 ∧
  Dg.val BW (ys.take k) + c * BW ^ k = Dg.val BW (xs.take k) * f + s ∧ ∀ i, k ≤ i → ys[i]?.getD 0 = xs[i]?.getD 0
/-- What scale leaves. -/
def ScRet (B : Nat) (w : World) (v : Value) (xs : List Int) (n : Int) (e : Ending) (w' : World) : Prop :=
  ∃ v' ys, e = .returned v' ∧ Mine 62 .u64 B w' v' ys ∧ Dg.Wf BW ys ∧ Dg.val BW ys = n ∧ ys.length ≤ xs.length + 1 ∧ w.grownBy w' v.ownBlock
end Go.Proofs.YtfhhnfpapgfnmaaGreat

set_option linter.unusedVariables false
set_option linter.unusedSimpArgs false
/-! Decimal digits as bytes. No program. -/
namespace Go.Proofs.YtfhhnfpapgfnmaaGreat.Dg

/-- Every byte is a decimal digit. -/
def AllDig (l : List UInt8) : Prop := ∀ c ∈ l, 48 ≤ c.toNat ∧ c.toNat ≤ 57
/-- Is it digits alone, at least one? -/
def isNum (l : List UInt8) : Bool := !l.isEmpty && l.all fun c => decide (48 ≤ c.toNat) && decide (c.toNat ≤ 57)
theorem isNum_iff (l : List UInt8) : isNum l = true ↔ l ≠ [] ∧ AllDig l := by
  unfold isNum AllDig
  simp
theorem isNum_no {l : List UInt8} (i : Nat) (hi : i < l.length) (h : l[i].toNat < 48 ∨ 57 < l[i].toNat) : isNum l = false := by
  apply Bool.eq_false_iff.2
  intro hc
  have := ((isNum_iff l).1 hc).2 l[i] (List.getElem_mem hi)
  omega
/-- The number that the digits spell, the highest one first. -/
def valD (l : List UInt8) : Nat := l.foldl (fun a c => a * 10 + (c.toNat - 48)) 0

theorem valD_from (l : List UInt8) (a : Nat) : l.foldl (fun a c => a * 10 + (c.toNat - 48)) a = a * 10 ^ l.length + valD l := by
  induction l generalizing a with
  | nil => simp [valD]
  | cons c l ih =>
    unfold valD
    simp only [List.foldl_cons, List.length_cons]
    rw [ih, ih (0 * 10 + (c.toNat - 48)), Nat.pow_succ]
    simp only [Nat.zero_mul, Nat.zero_add, Nat.add_mul, Nat.mul_assoc, Nat.mul_comm 10]
    omega
theorem valD_append (a b : List UInt8) : valD (a ++ b) = valD a * 10 ^ b.length + valD b := by
  unfold valD
  rw [List.foldl_append, valD_from]
  rfl
theorem valD_snoc (a : List UInt8) (c : UInt8) : valD (a ++ [c]) = valD a * 10 + (c.toNat - 48) := by rw [valD_append]; simp [valD]
theorem snoc_ind {α : Type} {p : List α → Prop} (h0 : p []) (h1 : ∀ l c, p l → p (l ++ [c])) (l : List α) : p l := by
  have : ∀ r : List α, p r.reverse := by
    intro r
    induction r with
    | nil => exact h0
    | cons c r ih => rw [List.reverse_cons]; exact h1 _ _ ih
  have := this l.reverse
  rwa [List.reverse_reverse] at this
theorem AllDig.left {a b : List UInt8} (h : AllDig (a ++ b)) : AllDig a := fun c hc => h c (by simp [hc])
/-- The digits of n, none for 0; f: at least n. -/
def decF : Nat → Nat → List UInt8
  | 0, _ => []
  | f + 1, n => if n = 0 then [] else decF f (n / 10) ++ [UInt8.ofNat (48 + n % 10)]
/-- The canonical form of a number that is at least 0. -/
def decN (n : Nat) : List UInt8 := if n = 0 then [48] else decF n n
/-- The canonical form of an integer. -/
def decZ (z : Int) : List UInt8 := if z < 0 then 45 :: decN z.natAbs else decN z.natAbs

theorem toNat_dig (d : Nat) (h : d < 10) : (UInt8.ofNat (48 + d)).toNat = 48 + d := by simp [UInt8.toNat_ofNat']; omega
theorem decF_dig (f n : Nat) : AllDig (decF f n) := by
  induction f generalizing n with
  | zero => intro c hc; simp [decF] at hc
  | succ f ih =>
    intro c hc
    unfold decF at hc
    split at hc
    · simp at hc
    · rcases List.mem_append.1 hc with hc | hc
      · exact ih _ c hc
      · obtain rfl := List.mem_singleton.1 hc
        rw [toNat_dig _ (Nat.mod_lt _ (by omega))]
        omega
theorem decF_val (f n : Nat) (h : n ≤ f) : valD (decF f n) = n := by
  induction f generalizing n with
  | zero => obtain rfl : n = 0 := by omega
            rfl
  | succ f ih =>
    unfold decF
    split
    · rename_i h0; subst h0; rfl
    · rw [valD_snoc, ih _ (by omega), toNat_dig _ (Nat.mod_lt _ (by omega))]
      omega
theorem decF_head (f n : Nat) (h : n ≤ f) (h0 : n ≠ 0) : ∃ c t, decF f n = c :: t ∧ c.toNat ≠ 48 := by
  induction f generalizing n with
  | zero => omega
  | succ f ih =>
    unfold decF
    rw [if_neg h0]
    by_cases h10 : n / 10 = 0
    · rw [h10]
      have : decF f 0 = [] := by cases f <;> simp [decF]
      rw [this]
      refine ⟨_, [], rfl, ?_⟩
      rw [toNat_dig _ (Nat.mod_lt _ (by omega))]
      omega
    · obtain ⟨c, t, e, hc⟩ := ih (n / 10) (by omega) h10
      exact ⟨c, t ++ [UInt8.ofNat (48 + n % 10)], by rw [e]; rfl, hc⟩
/-- Digits without a leading zero are what their number is written as. -/
theorem decF_of {l : List UInt8} (h : AllDig l) (hz : ∀ c t, l = c :: t → c.toNat ≠ 48) (f : Nat) (hf : valD l ≤ f) : decF f (valD l) = l := by
  revert h hz f
  refine snoc_ind (p := fun l => AllDig l → (∀ c t, l = c :: t → c.toNat ≠ 48) → ∀ f, valD l ≤ f → decF f (valD l) = l) ?_ ?_ l
  · intro _ _ f _; cases f <;> simp [decF, valD]
  · intro l c ih h hz f hf
    have hc := h c (by simp)
    have hl := AllDig.left h
    have hne : valD (l ++ [c]) ≠ 0 := by
      cases l with
      | nil =>
        have := hz c [] rfl
        simp only [List.nil_append]
        simp [valD]
        omega
      | cons b t =>
        have hb := h b (by simp)
        have hb' := hz b (t ++ [c]) (by simp)
        have e := valD_append [b] (t ++ [c])
        have : valD [b] = b.toNat - 48 := by simp [valD]
        simp only [List.cons_append, List.nil_append] at e ⊢
        rw [e, this]
        have := Nat.mul_le_mul (show 1 ≤ b.toNat - 48 by omega) (Nat.pow_pos (n := (t ++ [c]).length) (show 0 < 10 by omega))
        omega
    rw [valD_snoc] at hne hf ⊢
    cases f with
    | zero => omega
    | succ f =>
      have e1 : (valD l * 10 + (c.toNat - 48)) / 10 = valD l := by omega
      have e2 : (valD l * 10 + (c.toNat - 48)) % 10 = c.toNat - 48 := by omega
      unfold decF
      rw [if_neg hne, e1, e2, ih hl (fun b t e => hz b (t ++ [c]) (by rw [e]; rfl)) f (by omega)]
      congr 2
      apply UInt8.toNat_inj.1
      rw [toNat_dig _ (by omega)]
      omega
theorem decN_of {l : List UInt8} (h : AllDig l) (h0 : l ≠ []) (hz : l = [48] ∨ ∀ c t, l = c :: t → c.toNat ≠ 48) : decN (valD l) = l := by
  rcases hz with rfl | hz
  · rfl
  · unfold decN
    have := decF_of h hz (valD l) (Nat.le_refl _)
    by_cases hv : valD l = 0
    · rw [hv] at this
      simp [decF] at this
      exact absurd (this.symm) (fun e => h0 e.symm)
    · rw [if_neg hv]; exact this
theorem decN_dig (n : Nat) : AllDig (decN n) := by
  unfold decN
  split
  · intro c hc; simp at hc; subst hc; decide
  · exact decF_dig _ _
theorem decN_val (n : Nat) : valD (decN n) = n := by
  unfold decN
  split
  · rename_i h; subst h; rfl
  · exact decF_val _ _ (Nat.le_refl _)
theorem decN_ne (n : Nat) : decN n ≠ [] := by
  unfold decN
  split
  · simp
  · rename_i h
    obtain ⟨c, t, e, _⟩ := decF_head n n (Nat.le_refl _) h
    rw [e]; simp
theorem decN_head (n : Nat) : decN n = [48] ∨ ∀ c t, decN n = c :: t → c.toNat ≠ 48 := by
  unfold decN
  split
  · exact .inl rfl
  · rename_i h
    right
    intro c t e
    obtain ⟨c', t', e', hc⟩ := decF_head n n (Nat.le_refl _) h
    rw [e'] at e
    cases e
    exact hc

/-- The digits of a canonical form. -/
def okDig (l : List UInt8) : Prop := l ≠ [] ∧ AllDig l ∧ (l = [48] ∨ ∀ c t, l = c :: t → c.toNat ≠ 48)
/-- A canonical form of an integer: its sign and its digits. -/
def Canon (s : List UInt8) (neg : Bool) (d : List UInt8) : Prop := okDig d ∧ ((neg = false ∧ s = d) ∨ (neg = true ∧ s = 45 :: d ∧ d ≠ [48]))
def ofSign (neg : Bool) (n : Nat) : Int := if neg then -(n : Int) else n
theorem decZ_canon {s d : List UInt8} {neg : Bool} (h : Canon s neg d) : decZ (ofSign neg (valD d)) = s := by
  obtain ⟨⟨h0, h1, h2⟩, h3⟩ := h
  have e := decN_of h1 h0 h2
  rcases h3 with ⟨rfl, rfl⟩ | ⟨rfl, rfl, hn⟩
  · simp [ofSign, decZ]
    rw [if_neg (by omega)]
    exact e
  · have hv : valD d ≠ 0 := by
      intro hv
      rw [hv] at e
      exact hn (by rw [← e]; rfl)
    simp only [ofSign, if_true, decZ]
    rw [if_pos (by omega), Int.natAbs_neg, Int.natAbs_natCast, e]
theorem canon_decZ (z : Int) : Canon (decZ z) (decide (z < 0)) (decN z.natAbs) := by
  refine ⟨⟨decN_ne _, decN_dig _, decN_head _⟩, ?_⟩
  unfold decZ
  by_cases h : z < 0
  · right
    refine ⟨by simp [h], by rw [if_pos h], fun e => ?_⟩
    have := decN_val z.natAbs
    rw [e] at this
    simp [valD] at this
    omega
  · left; exact ⟨by simp [h], by rw [if_neg h]⟩
theorem decZ_inj {a b : Int} (h : decZ a = decZ b) : a = b := by
  have ha := canon_decZ a
  have hb := canon_decZ b
  have h45 : ∀ n, ∀ t, decN n ≠ 45 :: t := fun n t e => by
    have := decN_dig n 45 (by rw [e]; simp)
    simp at this
  unfold decZ at h
  have hv : ∀ {m n : Nat}, decN m = decN n → m = n := fun {m n} e => by rw [← decN_val m, e, decN_val]
  split at h <;> split at h
  · have := hv (List.cons.inj h).2; omega
  · exact absurd h.symm (h45 _ _)
  · exact absurd h (h45 _ _)
  · have := hv h; omega
/-- The sign is cut off: the rest D. -/
def Cutsign (s : List UInt8) (neg : Bool) (D : List UInt8) : Prop := (neg = true ∧ s = 45 :: D) ∨ (neg = false ∧ s = D ∧ ∀ t, s ≠ 45 :: t)
theorem Cutsign.canon {s D d : List UInt8} {neg neg' : Bool} (h : Cutsign s neg D) (c : Canon s neg' d) : neg' = neg ∧ d = D := by
  rcases h with ⟨rfl, rfl⟩ | ⟨rfl, rfl, h⟩ <;> rcases c with ⟨c1, ⟨rfl, c2⟩ | ⟨rfl, c2, _⟩⟩
  · have := c1.2.1 45 (by rw [← c2]; simp)
    simp at this
  · exact ⟨rfl, (List.cons.inj c2).2.symm⟩
  · exact ⟨rfl, c2.symm⟩
  · exact absurd c2 (h _)
theorem Cutsign.no1 {s D : List UInt8} {neg : Bool} (h : Cutsign s neg D) (hn : isNum D = false) : ∀ neg' d, ¬ Canon s neg' d := fun neg' d c => by
  obtain ⟨rfl, rfl⟩ := h.canon c
  have := (isNum_iff d).2 ⟨c.1.1, c.1.2.1⟩
  rw [hn] at this
  cases this
theorem Cutsign.no2 {s D : List UInt8} {neg : Bool} (h : Cutsign s neg D) {c : UInt8} {t : List UInt8} (e : D = c :: t) (hc : c.toNat = 48) (hs : s ≠ [48]) : ∀ neg' d, ¬ Canon s neg' d := fun neg' d k => by
  obtain ⟨rfl, rfl⟩ := h.canon k
  rcases k.1.2.2 with h48 | h48
  · rcases k.2 with ⟨_, rfl⟩ | ⟨_, _, hne⟩
    · exact hs h48
    · exact hne h48
  · exact h48 c t e hc
theorem Cutsign.yes {s D : List UInt8} {neg : Bool} (h : Cutsign s neg D) (hn : isNum D = true) (hz : (∀ c t, D = c :: t → c.toNat ≠ 48) ∨ s = [48]) : Canon s neg D := by
  obtain ⟨h0, h1⟩ := (isNum_iff D).1 hn
  rcases hz with hz | hz
  · refine ⟨⟨h0, h1, .inr hz⟩, ?_⟩
    rcases h with ⟨rfl, rfl⟩ | ⟨rfl, rfl, _⟩
    · refine .inr ⟨rfl, rfl, ?_⟩
      rintro rfl
      exact hz 48 [] rfl (by decide)
    · exact .inl ⟨rfl, rfl⟩
  · rcases h with ⟨rfl, rfl⟩ | ⟨rfl, rfl, _⟩
    · simp at hz
    · exact ⟨⟨h0, h1, .inl hz⟩, .inl ⟨rfl, rfl⟩⟩
end Go.Proofs.YtfhhnfpapgfnmaaGreat.Dg

set_option linter.unusedVariables false
set_option linter.unusedSimpArgs false
namespace Go.Proofs.YtfhhnfpapgfnmaaGreat
open Go Go.RowKit
end Go.Proofs.YtfhhnfpapgfnmaaGreat

set_option linter.unusedVariables false
set_option linter.unusedSimpArgs false
namespace Go.Proofs.YtfhhnfpapgfnmaaGreat
open Go Go.RowKit
/-- The string of these bytes. -/
def str (l : List UInt8) : Value := .string ⟨l.toArray⟩
/-- What splitSign returns: sign and digits of a canonical form, or that there is none. -/
def SpRet (s : List UInt8) (w : World) (e : Ending) (w' : World) : Prop := w = w' ∧
  ((∃ (D : ByteArray) (neg : Bool), e = .returned (.tuple #[.string D, .bool neg, .bool true]) ∧ Dg.Canon s neg D.data.toList ∧ D.size ≤ s.length) ∨
   (e = .returned (.tuple #[.string ⟨#[]⟩, .bool false, .bool false]) ∧ ∀ neg d, ¬ Dg.Canon s neg d))
end Go.Proofs.YtfhhnfpapgfnmaaGreat

set_option linter.unusedVariables false
set_option linter.unusedSimpArgs false
namespace Go.Proofs.YtfhhnfpapgfnmaaGreat
open Go Go.RowKit
/-- How far readDigits has come: d is left, n of its bytes are next, xs is read. -/
structure RdAt (D d : List UInt8) (n : Nat) (xs : List Int) : Prop where
  dig : Dg.AllDig d
  n1 : 1 ≤ n
  n19 : n ≤ 19
  mod : d = [] ∨ (n ≤ d.length ∧ (d.length - n) % 19 = 0)
  zero : n = 19 ∨ Dg.val BW xs = 0
  eq : Dg.val BW xs * (10 ^ d.length : Nat) + Dg.valD d = Dg.valD D
  len : 19 * xs.length + d.length ≤ D.length + 18
  first : n = 19 ∨ (xs = [] ∧ d.length = D.length)
  wf : Dg.Wf BW xs
def strLen : Value → Nat | .string d => d.size | _ => 0
end Go.Proofs.YtfhhnfpapgfnmaaGreat

set_option linter.unusedVariables false
set_option linter.unusedSimpArgs false
namespace Go.Proofs.YtfhhnfpapgfnmaaGreat
open Go Go.RowKit
theorem growDrew {w w' : World} {r : Option Nat} (h : w.grownBy w' r) : w.grownBy w'.drew r := ⟨h.os, h.tape, h.output, h.size, h.block⟩
/-- Turned from both ends up to i and j. -/
def RvAt (xs ys : List Int) (i j : Nat) : Prop := ys.length = xs.length ∧ ∀ t, t < xs.length → ys[t]?.getD 0 = if i ≤ t ∧ t ≤ j then xs[t]?.getD 0 else xs[xs.length - 1 - t]?.getD 0
theorem RvAt.next {xs ys : List Int} {i j : Nat} {x y : Int} (h : RvAt xs ys i j) (hij : i < j) (hs : i + j + 1 = xs.length) (hx : x = ys[i]?.getD 0) (hy : y = ys[j]?.getD 0) : RvAt xs ((ys.set i y).set j x) (i + 1) (j - 1) := by
  obtain ⟨hl, ht⟩ := h
  refine ⟨by simpa using hl, fun t htl => ?_⟩
  have hi := ht i (by omega)
  have hj := ht j (by omega)
  rw [if_pos (by omega)] at hi hj
  by_cases e1 : t = j
  · subst e1
    rw [List.getElem?_set_self (by simp; omega), if_neg (by omega)]
    rw [show xs.length - 1 - t = i by omega, ← hi, ← hx]; rfl
  · rw [List.getElem?_set_ne (fun e => e1 e.symm)]
    by_cases e2 : t = i
    · subst e2
      rw [List.getElem?_set_self (by omega), if_neg (by omega)]
      rw [show xs.length - 1 - t = j by omega, ← hj, ← hy]; rfl
    · rw [List.getElem?_set_ne (fun e => e2 e.symm), ht t htl]
      by_cases hm : i ≤ t ∧ t ≤ j
      · rw [if_pos hm, if_pos (by omega)]
      · rw [if_neg hm, if_neg (by omega)]
theorem RvAt.done {xs ys : List Int} {i j : Nat} (h : RvAt xs ys i j) (hij : j ≤ i) (hs : i + j + 1 = xs.length) : ys = xs.reverse := by
  obtain ⟨hl, ht⟩ := h
  apply List.ext_getElem (by simpa using hl)
  intro t h1 h2
  have := ht t (by omega)
  simp only [List.getElem_reverse]
  have h3 : t < xs.length := by omega
  have h4 : xs.length - 1 - t < xs.length := by omega
  rw [List.getElem?_eq_getElem h1] at this
  by_cases hm : i ≤ t ∧ t ≤ j
  · rw [if_pos hm, List.getElem?_eq_getElem h3] at this
    have e : xs.length - 1 - t = t := by omega
    simp only [Option.getD_some] at this
    rw [this]
    congr 1
    exact e.symm
  · rw [if_neg hm, List.getElem?_eq_getElem h4] at this
    simpa using this
/-- Two exchanges in one row. -/
theorem Mine.two {E : TypeId} {K : IntKind} {B : Nat} {w : World} {v : Value} {xs : List Int} (h : Mine E K B w v xs) {i j : Nat} (hi : i < xs.length) (hj : j < xs.length) : ∃ g cap, v = .slice (some ⟨g, 0, none⟩) xs.length cap ∧ B ≤ g ∧ g < w.heap.size ∧ xs.length ≤ cap ∧ cap ≤ maxLen ∧
    w.cell? ⟨g, i, none⟩ = some (.int K (xs[i]?.getD 0)) ∧ w.cell? ⟨g, j, none⟩ = some (.int K (xs[j]?.getD 0)) ∧ w.frozen? ⟨g, i, none⟩ = false ∧ w.frozen? ⟨g, j, none⟩ = false ∧
    (∀ x y, Mine E K B ((w.setCell ⟨g, i, none⟩ (.int K x)).setCell ⟨g, j, none⟩ (.int K y)) v ((xs.set i x).set j y)) := by
  obtain ⟨g, cap, e, h1, h2, h3, h4, h5, h6, h7⟩ := h.at hi
  obtain ⟨g', cap', e', _, _, _, _, k5, k6, k7⟩ := h.at hj
  rw [e] at e'
  simp only [Value.slice.injEq, Option.some.injEq, Addr.mk.injEq, and_true, true_and] at e'
  obtain ⟨rfl, rfl⟩ := e'
  refine ⟨g, cap, e, h1, h2, h3, h4, h5, k5, h6, k6, fun x y => ?_⟩
  obtain ⟨g2, cap2, e2, _, _, _, _, _, _, m7⟩ := (h7 x).at (i := j) (by simpa using hj)
  rw [e] at e2
  simp only [Value.slice.injEq, Option.some.injEq, Addr.mk.injEq, and_true, true_and] at e2
  obtain ⟨rfl, _⟩ := e2
  exact m7 y
def RvRet (B : Nat) (w : World) (v : Value) (xs : List Int) (e : Ending) (w' : World) : Prop := e = .returned (.tuple #[]) ∧ Mine 5 .u8 B w' v xs.reverse ∧ w.grownBy w' v.ownBlock
set_option maxHeartbeats 2000000 in
theorem reverse_any (B : Nat) (v : Value) (xs : List Int) (w : World) (hM : Mine 5 .u8 B w v xs) (h0 : 0 < xs.length) (hmx : xs.length ≤ 140737488355328) :
    Calls Tryz.prog 48 #[v] w (RvRet B w v xs) := by
  obtain ⟨ao, cap, rfl, hcap, hmax, _⟩ := hM.sl
  unfold maxLen at hmax
  have HM := Lib.hid hM
  clear hM
  go_enter Tryz.func48, Tryz.ntmps48
  go_wp2
  go_loopw [2, 3] (fun si sj wr => ∃ (i j : Nat) (ys : List Int), i + j + 1 ≤ xs.length ∧ xs.length ≤ i + j + 1 ∧ si = .int .i64 i ∧ sj = .int .i64 j ∧ Hid (RvAt xs ys i j) ∧ Hid (Mine 5 .u8 B wr (.slice ao xs.length cap) ys) ∧ Hid (w.grownBy wr (Value.slice ao xs.length cap).ownBlock)) (fun _ sj _ => (intOf sj).toNat)
  case atStart => exact ⟨0, xs.length - 1, xs, by omega, by omega, rfl, by congr 1; omega, ⟨rfl, fun t ht => by rw [if_pos (by omega)]⟩, HM.out, tgrowRefl _ _⟩
  case round =>
    obtain ⟨i, j, ys, hs1, hs2, rfl, rfl, hat, hMr, hgr⟩ := hrel
    have HYL := Lib.hid hat.out.1
    by_cases hlt : i < j
    · obtain ⟨g, cap', e, hgB, hgs, hca, hcm, hci, hcj, hfi, hfj, hset⟩ := hMr.out.two (i := i) (j := j) (by have := HYL.out; omega) (by have := HYL.out; omega)
      simp only [Value.slice.injEq] at e
      obtain ⟨rfl, hl', rfl⟩ := e
      clear hl'
      obtain ⟨x, hx⟩ : ∃ x, x = ys[i]?.getD 0 := ⟨_, rfl⟩
      obtain ⟨y, hy⟩ : ∃ y, y = ys[j]?.getD 0 := ⟨_, rfl⟩
      rw [← hx] at hci
      rw [← hy] at hcj
      have HX := Lib.hid hx
      have HY := Lib.hid hy
      have HSET := Lib.hid hset
      have hil : i < xs.length := by omega
      have hjl : j < xs.length := by omega
      clear hx hy hset hcm hca
      go_wp2_with fail
      go_region
      go_wp2
      go_roundw
      case rel => exact ⟨i + 1, j - 1, (ys.set i y).set j x, by omega, by omega, by go_num, by congr 1; omega, hat.out.next hlt (by omega) HX.out HY.out, HSET.out y x, growDrew (tgrowSet (tgrowSet hgr.out _ _) _ _)⟩
      case measure => simp [intOf] <;> omega
    · have he := Lib.hid (hat.out.done (by omega) (by omega))
      go_wp2
      go_end0
      exact ⟨rfl, by rw [← he.out]; exact hMr.out, hgr.out⟩
end Go.Proofs.YtfhhnfpapgfnmaaGreat

set_option linter.unusedVariables false
set_option linter.unusedSimpArgs false
/-! Digits as numbers, the lowest first, and as bytes, the highest first. No program. -/
namespace Go.Proofs.YtfhhnfpapgfnmaaGreat.Dg
/-- The byte of a digit. -/
def byt (d : Int) : UInt8 := UInt8.ofNat (48 + d.toNat)
theorem byt_nat {d : Int} (h0 : 0 ≤ d) (h1 : d < 10) : (byt d).toNat = 48 + d.toNat := toNat_dig _ (by omega)
theorem allDig_map {D : List Int} (h : Wf 10 D) : AllDig (D.map byt) := by
  intro c hc
  obtain ⟨d, hd, rfl⟩ := List.mem_map.1 hc
  have := h d hd
  rw [byt_nat this.1 this.2]
  omega
theorem valD_map {D : List Int} (h : Wf 10 D) : ((valD (D.reverse.map byt) : Nat) : Int) = val 10 D := by
  induction D with
  | nil => rfl
  | cons d D ih =>
    obtain ⟨h0, h1, hw⟩ := h.cons
    rw [List.reverse_cons, List.map_append, List.map_cons, List.map_nil, valD_snoc, byt_nat h0 h1, val_cons, ← ih hw]
    omega
theorem decN_map {D : List Int} (h : Wf 10 D) (hz : Nz D) (hne : D ≠ []) : D.reverse.map byt = decN (val 10 D).toNat := by
  have hv := valD_map h
  rw [← hv, Int.toNat_natCast]
  symm
  apply decN_of (allDig_map (fun x hx => h x (List.mem_reverse.1 hx)))
  · simpa using hne
  · right
    intro c t e
    have hl := hz hne
    have e1 : (D.reverse.map byt).head? = some c := by rw [e]; rfl
    rw [List.head?_map, List.head?_reverse, List.getLast?_eq_some_getLast hne] at e1
    simp at e1
    have hd := h _ (List.getLast_mem hne)
    rw [← e1, byt_nat hd.1 hd.2]
    omega
/-- Digits written so far: D; R is left of N. -/
structure WrAt (N : Int) (D : List Int) (R : Int) : Prop where
  wf : Wf 10 D
  eq : N = val 10 D + 10 ^ D.length * R
  nz : R = 0 → Nz D
  R0 : 0 ≤ R
theorem WrAt.start {N : Int} (h : 0 ≤ N) : WrAt N [] N := ⟨Wf.nil _, by simp [val], fun _ => Nz.nil, h⟩
theorem WrAt.next {N R : Int} {D : List Int} (h : WrAt N D R) (hR : 0 < R) : WrAt N (D ++ [R % 10]) (R / 10) := by
  obtain ⟨hw, he, _, _⟩ := h
  refine ⟨hw.append (Wf.one (by omega) (by omega)), ?_, ?_, by omega⟩
  · rw [val_append, val_one, he, List.length_append, List.length_singleton, Int.pow_succ]
    have : 10 ^ D.length * R = 10 ^ D.length * (R % 10 + 10 * (R / 10)) := by congr 1; omega
    rw [this, Int.mul_add, Int.mul_assoc]
    omega
  · intro h0 hne
    simp
    omega
theorem pow2_le_10 (n : Nat) : (2 : Int) ^ n ≤ 10 ^ n := by
  induction n with
  | zero => simp
  | succ n ih =>
    rw [Int.pow_succ, Int.pow_succ]
    have := pow_pos (show (0 : Int) < 2 by omega) n
    omega
theorem WrAt.len {N R : Int} {D : List Int} {L : Nat} (h : WrAt N D R) (hR : 0 < R) (hN : N < 18446744073709551616 ^ L) : D.length ≤ 64 * L := by
  have h0 := val_nonneg (show (0 : Int) < 10 by omega) h.wf
  have h1 := Int.mul_le_mul_of_nonneg_left (show 1 ≤ R by omega) (Int.le_of_lt (pow_pos (show (0 : Int) < 10 by omega) D.length))
  have h2 := pow2_le_10 D.length
  have h3 := h.eq
  have h4 : (18446744073709551616 : Int) ^ L = 2 ^ (64 * L) := by rw [Int.pow_mul]; rfl
  rw [h4] at hN
  apply Classical.byContradiction
  intro hc
  have := pow_mono (show (0 : Int) < 2 by omega) (show 64 * L ≤ D.length by omega)
  omega
theorem p10_19 : (10 : Int) ^ 19 = 10000000000000000000 := rfl
/-- One digit of the lower part. -/
theorem chunk_next {c m : Int} {i : Nat} (hi : i < 19) (c0 : 0 ≤ c) (c1 : c < 10 ^ (19 - i)) (m0 : 0 ≤ m) :
    (c + 10 ^ (19 - i) * m) % 10 = c % 10 ∧ (c + 10 ^ (19 - i) * m) / 10 = c / 10 + 10 ^ (19 - (i + 1)) * m ∧ c / 10 < 10 ^ (19 - (i + 1)) := by
  have e : (10 : Int) ^ (19 - i) = 10 * 10 ^ (19 - (i + 1)) := by rw [show 19 - i = (19 - (i + 1)) + 1 by omega, Int.pow_succ, Int.mul_comm]
  rw [e] at c1 ⊢
  generalize (10 : Int) ^ (19 - (i + 1)) = p at *
  rw [Int.mul_assoc]
  generalize p * m = q at *
  omega
theorem decF_len (f n : Nat) (h : n ≤ f) (h0 : n ≠ 0) : 10 ^ ((decF f n).length - 1) ≤ n := by
  induction f generalizing n with
  | zero => omega
  | succ f ih =>
    unfold decF
    rw [if_neg h0]
    by_cases h10 : n / 10 = 0
    · rw [h10]
      have : decF f 0 = [] := by cases f <;> simp [decF]
      rw [this]
      simp
      omega
    · have := ih (n / 10) (by omega) h10
      obtain ⟨c, t, e, _⟩ := decF_head f (n / 10) (by omega) h10
      rw [e] at this ⊢
      simp only [List.length_append, List.length_cons, List.length_nil, Nat.add_sub_cancel] at this ⊢
      rw [Nat.pow_succ]
      omega
theorem decN_len {n L : Nat} (h : (n : Int) < 18446744073709551616 ^ L) : (decN n).length ≤ 64 * L + 1 := by
  unfold decN
  split
  · simp
  · rename_i h0
    have h1 := decF_len n n (Nat.le_refl _) h0
    have h4 : (18446744073709551616 : Int) ^ L = 2 ^ (64 * L) := by rw [Int.pow_mul]; rfl
    rw [h4] at h
    have h5 : n < 2 ^ (64 * L) := by
      have : ((2 ^ (64 * L) : Nat) : Int) = 2 ^ (64 * L) := by simp
      omega
    apply Classical.byContradiction
    intro hc
    have h2 : 2 ^ (64 * L) ≤ 2 ^ ((decF n n).length - 1) := Nat.pow_le_pow_right (by omega) (by omega)
    have h3 : 2 ^ ((decF n n).length - 1) ≤ 10 ^ ((decF n n).length - 1) := Nat.pow_le_pow_left (by omega) _
    omega
end Go.Proofs.YtfhhnfpapgfnmaaGreat.Dg

set_option linter.unusedVariables false
set_option linter.unusedSimpArgs false
namespace Go.Proofs.YtfhhnfpapgfnmaaGreat
open Go Go.RowKit
theorem info_u8 : (Tryz.prog.info? 5).map (fun i => (i.zero, i.size, i.bytes)) = some (some (.int .u8 0), 1, 1) := by kernel_rfl
/-- The digits as the numbers of their bytes. -/
def dby (D : List Int) : List Int := D.map (48 + ·)
theorem dby_len (D : List Int) : (dby D).length = D.length := by simp [dby]
theorem dby_snoc (D : List Int) (d : Int) : dby (D ++ [d]) = dby D ++ [48 + d] := by simp [dby]
/-- A row of bytes as a string. -/
theorem bytes_back (w : World) {v : Value} {D : List Int} (h : Sl .u8 w v (dby D)) (hw : Dg.Wf 10 D) (hne : D ≠ []) : (convert 61 9 v).run Tryz.prog w = .ok (str (D.map Dg.byt)) w := by
  obtain ⟨ao, cap, rfl, hc, hm, hx⟩ := h
  have hlen : (dby D).length = D.length := dby_len D
  have h0 : 0 < D.length := List.length_pos_iff.2 hne
  obtain ⟨b, o, rfl, hb, _⟩ := hx 0 (by omega)
  have hl : (D.map Dg.byt).length = (dby D).length := by simp [dby]
  rw [← hl]
  refine run_convert_bytes_back w 61 9 5 ⟨b, o, none⟩ cap (D.map Dg.byt) Tryz.underlying61 Tryz.underlying5 Tryz.underlying9 (fun j hj => ?_)
  have hj' : j < D.length := by simpa using hj
  obtain ⟨b', o', e, _, hcell⟩ := hx j (by omega)
  simp only [Option.some.injEq, Addr.mk.injEq, and_true] at e
  obtain ⟨rfl, rfl⟩ := e
  have : (⟨b, o, none⟩ : Addr).add j = ⟨b, o + j, none⟩ := by simp [Addr.add]
  rw [this, hcell]
  have hd := hw.get j hj'
  simp [dby, hj', Dg.byt_nat hd.1 hd.2]
  omega
/-- What writeDigits returns. -/
def StrRet (w : World) (l : List UInt8) (e : Ending) (w' : World) : Prop := Below w.heap.size w w' ∧ e = .returned (str l)
set_option maxHeartbeats 4000000 in
theorem writeDigits_any {L : Nat} {v : Value} {N : Int} {w : World} (h : Num L w v N) (hL : L ≤ 1073741824) :
    Calls Tryz.prog 23 #[v] w (StrRet w (Dg.decN N.toNat)) := by
  have hN := h
  obtain ⟨xs, a1, a2, a3, a4, a5⟩ := h
  have hN0 : 0 ≤ N := by rw [← a4]; exact Dg.val_nonneg (by decide) a2
  have hNL : N < 18446744073709551616 ^ L := by
    have h1 := Dg.val_lt (show (0 : Int) < BW by decide) a2
    have h2 := Dg.pow_mono (show (0 : Int) < BW by decide) a5
    rw [a4] at h1
    exact Int.lt_of_lt_of_le h1 h2
  have hz : xs = [] ↔ N = 0 := by rw [← a4]; exact (Dg.val_zero_iff (by decide) a2 a3).symm
  obtain ⟨ao, cap, rfl, hc, hm, hx⟩ := a1
  by_cases hne : xs = []
  · have e : N = 0 := hz.1 hne
    have t1 : ((xs.length : Int) == 0) = true := by rw [hne]; rfl
    subst e
    clear hx hz hne a2 a3 a4 hN hNL hm hc
    go_enter Tryz.func23, Tryz.ntmps23
    go_wp2
    go_ret
    exact ⟨Below.refl _ _, rfl⟩
  · have t1 : ((xs.length : Int) == 0) = false := by
      have := List.length_pos_iff.2 hne
      simp
      omega
    have hNp : 0 < N := by
      have : N ≠ 0 := fun e => hne (hz.2 e)
      omega
    have HX := Lib.hid hN
    have HL := Lib.hid hNL
    have hstart := Lib.hid (Dg.WrAt.start hN0)
    clear hx hz hne a2 a3 a4 hN hm hc hNL
    go_enter Tryz.func23, Tryz.ntmps23
    go_wp2
    go_loopg [0, 3, 4, 5] N.toNat (fun k sv sd s4 s5 wr => ∃ (n : Int) (D : List Int), n.toNat ≤ k ∧ D.length ≤ 64 * L + 1 ∧ Hid (Num L wr sv n) ∧ Hid (Mine 5 .u8 w.heap.size wr sd (dby D)) ∧ Hid (Dg.WrAt N D n) ∧ Hid (Below w.heap.size w wr))
    case atStart => exact ⟨N, [], Nat.le_refl _, by simp, HX.out, Mine.nil _ _ _ _, hstart.out, Below.refl _ _⟩
    case round =>
      obtain ⟨n, D, hnk, hDl, hnum, hMd, hwr, hbl⟩ := hrel
      obtain ⟨wo, rfl⟩ : ∃ wo : World, wo = wr := ⟨_, rfl⟩
      have hn0 := hwr.out.R0
      obtain ⟨ws, b1, b2, b3, b4, b5⟩ := hnum.out
      have hwz : ws = [] ↔ n = 0 := by rw [← b4]; exact (Dg.val_zero_iff (by decide) b2 b3).symm
      obtain ⟨ao', cap', rfl, hc', hm', hx'⟩ := b1
      by_cases hne : ws = []
      · have e : n = 0 := hwz.1 hne
        have hl0 : ws.length = 0 := by rw [hne]; rfl
        have hDne : D ≠ [] := by
          rintro rfl
          have := hwr.out.eq
          rw [e] at this
          simp [Dg.val] at this
          omega
        have hDz := Lib.hid (hwr.out.nz e)
        have hDv : Hid (Dg.val 10 D = N) := by have := hwr.out.eq; rw [e] at this; show _ = _; rw [this]; simp
        have hdl : 0 < (dby D).length := by rw [dby_len]; exact List.length_pos_iff.2 hDne
        have HNE := Lib.hid hDne
        have HDW := Lib.hid hwr.out.wf
        have HE := Lib.hid hne
        have HLB := Lib.hid (show (dby D).length ≤ 140737488355328 by rw [dby_len]; omega)
        clear hDne hne hwz hx' hm' hc' b2 b3 b4 b5 e
        go_wp2_with fail
        refine (reverse_any w.heap.size u3 (dby D) _ hMd.out hdl HLB.out).mono ?_
        rintro e w2 ⟨rfl, hM2, hg2⟩
        have hS2 := Lib.hid hM2.sl
        have HB2 := Lib.hid (hbl.out.grown hg2 hbl.out.size (fun k hk => (hMd.out.own k hk).1))
        have hrun := bytes_back w2 (v := u3) (D := D.reverse) (by have := hS2.out; unfold dby at this ⊢; rw [← List.map_reverse] at this; exact this) (fun x hx => HDW.out x (List.mem_reverse.1 hx)) (by have := HNE.out; simpa using this)
        clear hM2 hg2
        go_wp2
        go_ret
        refine ⟨HB2.out, ?_⟩
        rw [← hDv.out, ← Dg.decN_map HDW.out hDz.out HNE.out, List.map_reverse]
        rfl
      · have hnp : 0 < n := by
          have : n ≠ 0 := fun e => hne (hwz.2 e)
          omega
        have hlp : 0 < ws.length := List.length_pos_iff.2 hne
        clear hne hwz hx' hm' hc' b2 b3 b4 b5
        have hdo := Lib.hid (fun k (h : u3.ownBlock = some k) => (hMd.out.own k h).2)
        go_wp2_with fail
        refine (divideByWord_num (L := L) (m := n) (y := 10000000000000000000) hnum.out (by omega) (by omega) (by omega)).mono ?_
        rintro e w2 ⟨v2, c0, rfl, hb2, hnum2, hc0, hfr2⟩
        have hMd2 := Lib.hid (hMd.out.below hb2)
        have hbl2 := Lib.hid (hbl.out.trans (hb2.mono hbl.out.size))
        have hc00 : 0 ≤ c0 := by rw [hc0]; omega
        have hc01 : c0 < 10000000000000000000 := by rw [hc0]; omega
        obtain ⟨m, hm⟩ : ∃ m, m = n / 10000000000000000000 := ⟨_, rfl⟩
        rw [← hm] at hnum2
        have hnm : Hid (n = c0 + 10 ^ 19 * m) := by show n = _; rw [Dg.p10_19, hm, hc0]; omega
        have hm0 : 0 ≤ m := by rw [hm]; omega
        have hmk : m.toNat < n.toNat := by rw [hm]; omega
        obtain ⟨ws2, d1, d2, d3, d4, d5⟩ := hnum2
        have hmz : ws2 = [] ↔ m = 0 := by rw [← d4]; exact (Dg.val_zero_iff (by decide) d2 d3).symm
        have hml : Hid (0 < ws2.length ↔ 0 < m) := by
          constructor
          · intro h
            have : ¬ ws2 = [] := List.length_pos_iff.1 h
            have : m ≠ 0 := fun e => this (hmz.2 e)
            omega
          · intro h
            exact List.length_pos_iff.2 (fun e => by have := hmz.1 e; omega)
        obtain ⟨ao2, cap2, rfl, f1, f2, f3⟩ := d1
        have hnum2 : Hid (Num L w2 (.slice ao2 ws2.length cap2) m) := ⟨ws2, ⟨ao2, cap2, rfl, f1, f2, f3⟩, d2, d3, d4, d5⟩
        have HFR := Lib.hid hfr2
        clear hc0 hm hb2 hmz d2 d3 d4 d5 f1 f2 f3 hfr2
        have hstart2 : Hid (Dg.WrAt N D (c0 + 10 ^ (19 - 0) * m)) := by have := hwr.out; rw [hnm.out] at this; exact this
        have hsep : Hid (∀ k, live (Value.slice ao2 ws2.length cap2) = some k → u3.ownBlock ≠ some k) := fun k h1 h2 => by
          have h3 := HFR.out k (live_own h1)
          have h4 := hdo.out k h2
          omega
        go_wp2
        go_loopw [3, 4, 5] (fun sd s4 s5 wi => ∃ (i : Nat) (c : Int) (D' : List Int), i ≤ 19 ∧ s5 = .int .i64 i ∧ s4 = .int .u64 c ∧ 0 ≤ c ∧ c < 10000000000000000000 ∧ Hid (c < 10 ^ (19 - i)) ∧ D'.length ≤ 64 * L + 1 ∧ Hid (Mine 5 .u8 w.heap.size wi sd (dby D')) ∧ Hid (Dg.WrAt N D' (c + 10 ^ (19 - i) * m)) ∧ Hid (Num L wi (.slice ao2 ws2.length cap2) m) ∧ Hid (∀ k, live (Value.slice ao2 ws2.length cap2) = some k → sd.ownBlock ≠ some k) ∧ Hid (Below w.heap.size w wi)) (fun _ _ s5 _ => 19 - (intOf s5).toNat)
        case atStart => exact ⟨0, c0, D, by omega, rfl, rfl, hc00, hc01, hc01, hDl, hMd2.out, hstart2.out, hnum2.out, hsep.out, hbl2.out⟩
        case round =>
          obtain ⟨i, c, D', hi, rfl, rfl, c0', c1', cb, hDl', hMi, hwi, hnumi, hsepi, hbi⟩ := hrel
          have hwl := hml.out
          by_cases hi19 : i < 19
          · obtain ⟨k1, k2, k3⟩ := Dg.chunk_next (c := c) (m := m) hi19 c0' cb.out hm0
            obtain ⟨d, hd⟩ : ∃ d, c % 10 = d := ⟨_, rfl⟩
            obtain ⟨c2, hc2⟩ : ∃ c2, c / 10 = c2 := ⟨_, rfl⟩
            have hd0 : 0 ≤ d := by omega
            have hd1 : d < 10 := by omega
            have hcc : c2 ≤ c := by omega
            have hcc0 : 0 ≤ c2 := by omega
            rw [hd] at k1
            rw [hc2] at k2
            rw [hc2] at k3
            have hk1 := Lib.hid k1
            have hk2 := Lib.hid k2
            have hk3 := Lib.hid k3
            clear k1 k2 k3
            have hRR : Hid (0 < ws2.length ∨ 0 < c → 0 < c + 10 ^ (19 - i) * m) := fun h => by
              have hp := Dg.pow_pos (show (0 : Int) < 10 by omega) (19 - i)
              have h2 := Int.mul_nonneg (Int.le_of_lt hp) hm0
              rcases h with h | h
              · have h3 := Int.mul_pos hp (hwl.1 h)
                omega
              · omega
            have hlen : 0 < c + 10 ^ (19 - i) * m → D'.length ≤ 64 * L := fun h => hwi.out.len h HL.out
            by_cases hw0 : 0 < ws2.length
            · have hR := hRR.out (.inl hw0)
              have hlen2 := hlen hR
              clear hlen hwl
              have HMa := Lib.hid (hMi.out.alloc (.cells #[.int .u8 (48 + d)] 5))
              have HN := Lib.hid (new_one (K := .u8) (x := 48 + d) (w := wr.alloc (.cells #[.int .u8 (48 + d)] 5)) (b := wr.heap.size) (o := 0) (by exact (Row.new (E := 5) (K := .u8) wr [48 + d]).cell (i := 0) (by simp)))
              have HB := Lib.hid (show w.heap.size ≤ (wr.alloc (.cells #[.int .u8 (48 + d)] 5)).heap.size by have := hbi.out.size; simp; omega)
              have H1 := Lib.hid (show ((dby D').length + [48 + d].length) * 1 ≤ 140737488355328 by rw [dby_len]; simp; omega)
              have H2 := Lib.hid (show (dby D').length + [48 + d].length ≤ maxLen by rw [dby_len]; unfold maxLen; simp; omega)
              have hown2 := Lib.hid (fun k (h : live (Value.slice ao2 ws2.length cap2) = some k) => by
                obtain ⟨zs, z1, z2, z3, z4, z5⟩ := hnumi.out
                exact z1.live_lt h)
              go_wp2_with (at_builtin; refine wpList_append_mine _ rfl _ _ 61 rfl 5 .u8 1 Tryz.underlying61 info_u8 w.heap.size _ (dby D') rfl HMa.out HB.out ⟨wr.heap.size, 0, none⟩ 1 1 [48 + d] rfl rfl HN.out H1.out H2.out ?_)
              intro v' w5 hm5 hg5 hn5
              have HM5 := Lib.hid hm5
              have HG5 := Lib.hid (tgrowTrans (World.grownBy_alloc wr (.cells #[.int .u8 (48 + d)] 5) _) hg5)
              have HN5 := Lib.hid hn5
              clear hm5 hg5 hn5
              go_wp2
              go_roundw
              case rel =>
                refine ⟨i + 1, c2, D' ++ [d], by omega, by go_num, congrArg (Value.int .u64) hc2, by omega, by omega, hk3, by simp; omega, by rw [dby_snoc]; exact HM5.out, ?_, hnumi.out.kept HG5.out (fun k hk e => hsepi.out k hk e), ?_, hbi.out.grown HG5.out hbi.out.size (fun k hk => (hMi.out.own k hk).1)⟩
                · have := hwi.out.next hR
                  rw [hk1.out, hk2.out] at this
                  exact this
                · intro k h1 h2
                  rcases HN5.out with h | h
                  · exact hsepi.out k h1 (by rw [← h]; exact h2)
                  · have h3 := h k h2
                    have h4 := hown2.out k h1
                    have h5 : (wr.alloc (.cells #[.int .u8 (48 + d)] 5)).heap.size = wr.heap.size + 1 := by simp
                    omega
              case measure => simp [intOf]; omega
            · have hw1 : ws2.length = 0 := by omega
              by_cases hcp : 0 < c
              · have hR := hRR.out (.inr hcp)
                have hlen2 := hlen hR
                have HW1 := Lib.hid hw1
                clear hlen hwl hw1
                have HMa := Lib.hid (hMi.out.alloc (.cells #[.int .u8 (48 + d)] 5))
                have HN := Lib.hid (new_one (K := .u8) (x := 48 + d) (w := wr.alloc (.cells #[.int .u8 (48 + d)] 5)) (b := wr.heap.size) (o := 0) (by exact (Row.new (E := 5) (K := .u8) wr [48 + d]).cell (i := 0) (by simp)))
                have HB := Lib.hid (show w.heap.size ≤ (wr.alloc (.cells #[.int .u8 (48 + d)] 5)).heap.size by have := hbi.out.size; simp; omega)
                have H1 := Lib.hid (show ((dby D').length + [48 + d].length) * 1 ≤ 140737488355328 by rw [dby_len]; simp; omega)
                have H2 := Lib.hid (show (dby D').length + [48 + d].length ≤ maxLen by rw [dby_len]; unfold maxLen; simp; omega)
                have hown2 := Lib.hid (fun k (h : live (Value.slice ao2 ws2.length cap2) = some k) => by
                  obtain ⟨zs, z1, z2, z3, z4, z5⟩ := hnumi.out
                  exact z1.live_lt h)
                go_wp2_with (at_builtin; refine wpList_append_mine _ rfl _ _ 61 rfl 5 .u8 1 Tryz.underlying61 info_u8 w.heap.size _ (dby D') rfl HMa.out HB.out ⟨wr.heap.size, 0, none⟩ 1 1 [48 + d] rfl rfl HN.out H1.out H2.out ?_)
                intro v' w5 hm5 hg5 hn5
                have HM5 := Lib.hid hm5
                have HG5 := Lib.hid (tgrowTrans (World.grownBy_alloc wr (.cells #[.int .u8 (48 + d)] 5) _) hg5)
                have HN5 := Lib.hid hn5
                clear hm5 hg5 hn5
                go_wp2
                go_roundw
                case rel =>
                  refine ⟨i + 1, c2, D' ++ [d], by omega, by go_num, congrArg (Value.int .u64) hc2, by omega, by omega, hk3, by simp; omega, by rw [dby_snoc]; exact HM5.out, ?_, hnumi.out.kept HG5.out (fun k hk e => hsepi.out k hk e), ?_, hbi.out.grown HG5.out hbi.out.size (fun k hk => (hMi.out.own k hk).1)⟩
                  · have := hwi.out.next hR
                    rw [hk1.out, hk2.out] at this
                    exact this
                  · intro k h1 h2
                    rcases HN5.out with h | h
                    · exact hsepi.out k h1 (by rw [← h]; exact h2)
                    · have h3 := h k h2
                      have h4 := hown2.out k h1
                      have h5 : (wr.alloc (.cells #[.int .u8 (48 + d)] 5)).heap.size = wr.heap.size + 1 := by simp
                      omega
                case measure => simp [intOf]; omega
              · have hRm : Hid (Dg.WrAt N D' m) := by
                  have h := hwi.out
                  have e1 : m = 0 := by
                    apply Classical.byContradiction
                    intro hc
                    exact hw0 (hwl.2 (by omega))
                  have e2 : c = 0 := by omega
                  rw [e1, e2] at h
                  simp at h
                  rw [e1]
                  exact h
                have HW1 := Lib.hid hw1
                clear hlen hwl hw1
                go_wp2
                go_roundg m.toNat
                case rel => exact ⟨m, D', Nat.le_refl _, hDl', hnumi.out, hMi.out, hRm.out, hbi.out⟩
                case measure => omega
          · have hRm : Hid (Dg.WrAt N D' m) := by
              have h := hwi.out
              obtain rfl : i = 19 := by omega
              have e2 : c = 0 := by have := cb.out; simp at this; omega
              rw [e2] at h
              simp at h
              exact h
            clear hwl
            go_wp2
            go_roundg m.toNat
            case rel => exact ⟨m, D', Nat.le_refl _, hDl', hnumi.out, hMi.out, hRm.out, hbi.out⟩
            case measure => omega
end Go.Proofs.YtfhhnfpapgfnmaaGreat
