/-
  Texts of the proof, merged by program: Rel Raw Chk.
-/
import Derived.Test.YtfhhnfpapgfnmaaZ9
import Derived.Test.YtfhhnfpapgfnmaaZ14
import Derived.Test.YtfhhnfpapgfnmaaZ24
import Derived.Test.YtfhhnfpapgfnmaaZ18
set_option linter.unusedVariables false
set_option linter.unusedSimpArgs false
namespace Go.Proofs.Ytfhhnfpapgfnmaa
open Go Go.RowKit Go.Deep
open FFld (ints)
set_option maxRecDepth 20000 in
set_option maxHeartbeats 1000000 in
theorem relement_any (q p k m : Nat) (a : Int) (w : World) :
    Calls Try.prog 120 #[rfv q p k m, .int .i64 a] w (RB w (.bool (decide (0 ≤ a ∧ a < q)))) := by
  have HX0 : Kept (Bxs w [rbox q p k m] (w.alloc (rbox q p k m))) := ⟨(Bxs.start w).alloc (by simp) _⟩
  obtain ⟨c0, c1, c2, c3⟩ := four_cells HX0.out.b0
  by_cases h0 : 0 ≤ a
  · have hd : decide (a ≥ 0) = true := by simp [h0]
    rw [show decide (0 ≤ a ∧ a < (q : Int)) = decide (a < (q : Int)) by simp [h0]]
    go_enter Try.func120, Try.ntmps120
    go_wp2
    go_ret
    exact ⟨HX0.out.1, rfl⟩
  · have hd : decide (a ≥ 0) = false := by simp; omega
    rw [show decide (0 ≤ a ∧ a < (q : Int)) = false by simp [h0]]
    go_enter Try.func120, Try.ntmps120
    go_wp2
    go_ret
    exact ⟨HX0.out.1, rfl⟩
theorem elsB_next {D : FFld.FD} {xs : List Int} {i : Nat} (h : elsB D (xs.take i) = true) (hi : i < xs.length) : elsB D (xs.take (i + 1)) = decide (0 ≤ xs[i]?.getD 0 ∧ xs[i]?.getD 0 < (D.q : Int)) := by
  unfold elsB at h ⊢
  rw [List.take_add_one, List.all_append, h, List.getElem?_eq_getElem hi]
  simp
theorem elsB_false {D : FFld.FD} {xs : List Int} {i : Nat} (h : elsB D (xs.take i) = false) : elsB D xs = false := by
  unfold elsB at h ⊢
  rw [← List.take_append_drop i xs, List.all_append, h]
  rfl
set_option maxRecDepth 20000 in
set_option maxHeartbeats 4000000 in
theorem relements_any (D : FFld.FD) (v : Value) (xs : List Int) (w : World) (h : Sl .i64 w v xs) :
    Calls Try.prog 70 #[rfv D.q D.p D.k D.m, v] w (RB w (.bool (elsB D xs))) := by
  obtain ⟨ao, cap, rfl, hcap, hmax, hc⟩ := h
  have HX0 : Kept (Bxs w [rbox D.q D.p D.k D.m] (w.alloc (rbox D.q D.p D.k D.m))) := ⟨(Bxs.start w).alloc (by simp) _⟩
  obtain ⟨n, hN⟩ : ∃ n, xs.length = n := ⟨_, rfl⟩
  have HC := Kept.mk hc
  rw [hN] at hcap ⊢
  have HN := Kept.mk hN
  unfold maxLen at hmax
  clear hc hN
  go_enter Try.func70, Try.ntmps70
  go_wp2
  go_loopw [5] (fun iv wr => ∃ (i : Nat), i ≤ n ∧ iv = .int .i64 i ∧ Kept (elsB D (xs.take i) = true) ∧ Kept (Bxs w [rbox D.q D.p D.k D.m] wr)) (fun iv _ => n - (intOf iv).toNat)
  case atStart => exact ⟨0, Nat.zero_le _, rfl, ⟨rfl⟩, HX0⟩
  case round =>
    obtain ⟨i, hin, rfl, hat, hbx⟩ := hrel
    by_cases hlt : i < n
    · obtain ⟨g, o, rfl, hg, hcell⟩ := HC.out i (by rw [HN.out]; exact hlt)
      have HT := Kept.mk (elsB_next hat.out (by rw [HN.out]; exact hlt))
      obtain ⟨a, ha⟩ : ∃ a, xs[i]?.getD 0 = a := ⟨_, rfl⟩
      rw [ha] at hcell HT
      have icell := (hbx.out.1.cell (p := ⟨g, o + i, none⟩) hg).trans hcell
      obtain ⟨i0, i1, i2, i3⟩ := four_cells hbx.out.b0
      have hI := Kept.mk (fun W (hW : Below wr.heap.size wr W) => relement_any D.q D.p D.k D.m a W)
      obtain ⟨t, ht⟩ : ∃ t, decide (0 ≤ a ∧ a < (D.q : Int)) = t := ⟨_, rfl⟩
      rw [ht] at hI HT
      clear ha ht hcell HC
      cases t with
      | true =>
        go_wp2
        go_region_held3 (fun w' => w'.cell? ⟨w.heap.size, 0, none⟩ = some (.int .i64 D.q) ∧ w'.cell? ⟨w.heap.size, 1, none⟩ = some (.int .i64 D.p) ∧ w'.cell? ⟨w.heap.size, 2, none⟩ = some (.int .i64 D.k) ∧ w'.cell? ⟨w.heap.size, 3, none⟩ = some (.int .i64 D.m) ∧ w'.cell? ⟨g, o + i, none⟩ = some (.int .i64 a))
          (first | exact ⟨j0, j1, j2, j3, jc⟩ | exact ⟨i0, i1, i2, i3, icell⟩ | go_keep)
          ((first
            | ((with_reducible refine (hI.out _ ?_).mono ?_); (exact (by first | exact Below.refl _ _ | exact (Below.refl _ _).drew)); rintro e w3 ⟨hb3, rfl⟩; have HB3 := Kept.mk (bstep (show Below wr.heap.size wr _ from (by first | exact Below.refl _ _ | exact (Below.refl _ _).drew)) hb3); have j0 := belowCell HB3.out i0; have j1 := belowCell HB3.out i1; have j2 := belowCell HB3.out i2; have j3 := belowCell HB3.out i3; have jc := belowCell HB3.out icell; clear hb3)))
        have HX3 := Kept.mk (hbx.out.below HB3.out)
        go_wp2
        go_roundw
        case rel => exact ⟨i + 1, by omega, by go_num, HT, HX3⟩
        case measure => simp [intOf] <;> omega
      | false =>
        have HE := Kept.mk (elsB_false HT.out)
        go_wp2
        go_region_held3 (fun w' => w'.cell? ⟨w.heap.size, 0, none⟩ = some (.int .i64 D.q) ∧ w'.cell? ⟨w.heap.size, 1, none⟩ = some (.int .i64 D.p) ∧ w'.cell? ⟨w.heap.size, 2, none⟩ = some (.int .i64 D.k) ∧ w'.cell? ⟨w.heap.size, 3, none⟩ = some (.int .i64 D.m) ∧ w'.cell? ⟨g, o + i, none⟩ = some (.int .i64 a))
          (first | exact ⟨j0, j1, j2, j3, jc⟩ | exact ⟨i0, i1, i2, i3, icell⟩ | go_keep)
          ((first
            | ((with_reducible refine (hI.out _ ?_).mono ?_); (exact (by first | exact Below.refl _ _ | exact (Below.refl _ _).drew)); rintro e w3 ⟨hb3, rfl⟩; have HB3 := Kept.mk (bstep (show Below wr.heap.size wr _ from (by first | exact Below.refl _ _ | exact (Below.refl _ _).drew)) hb3); have j0 := belowCell HB3.out i0; have j1 := belowCell HB3.out i1; have j2 := belowCell HB3.out i2; have j3 := belowCell HB3.out i3; have jc := belowCell HB3.out icell; clear hb3)))
        have HX3 := Kept.mk (hbx.out.below HB3.out)
        go_wp2
        go_ret
        exact ⟨HX3.out.1, by rw [HE.out]; rfl⟩
    · obtain rfl : i = n := by omega
      have HE : Kept (elsB D xs = true) := ⟨by have := hat.out; rw [← HN.out, List.take_length] at this; exact this⟩
      go_wp2
      go_ret
      exact ⟨hbx.out.1, by rw [HE.out]; rfl⟩
end Go.Proofs.Ytfhhnfpapgfnmaa

set_option linter.unusedVariables false
set_option linter.unusedSimpArgs false
namespace Go.Proofs.Ytfhhnfpapgfnmaa
open Go Go.RowKit Go.Deep
open FFld (ints)
/-- append of a slice, of whatever block, to one of the call's own. -/
theorem run_append_sl {P : Program} (w : World) (t ty E : TypeId) (K : IntKind) (bytes : Nat) (ht : P.underlying t = some (.slice E))
    (hinfo : (P.info? E).map (fun i => (i.zero, i.size, i.bytes)) = some (some (.int K 0), 1, bytes)) (B : Nat) (v : Value) (xs : List Int) (hM : Mine E K B w v xs) (hB : B ≤ w.heap.size)
    (u : Value) (ys : List Int) (hu : Sl K w u ys) (hb : (xs.length + ys.length) * bytes ≤ 140737488355328) (hm : xs.length + ys.length ≤ maxLen) :
    ∃ v' w', (Builtin.append_ #[t, t] ty #[v, u]).run P w = .ok v' w' ∧ Mine E K B w' v' (xs ++ ys) ∧ w.grownBy w' v.ownBlock := by
  obtain ⟨ao, cap, rfl, hcap, hmax, hx⟩ := hu
  cases ao with
  | some a =>
    obtain ⟨v', w', h1, h2, h3, _⟩ := run_append_mine (P := P) w t ty E K bytes ht hinfo B v xs hM hB a cap ys (fun j q hj => by
      have hjl : j < ys.length := by
        apply Classical.byContradiction
        intro hc
        simp [hc] at hj
      obtain ⟨b, o, e, _, hcell⟩ := hx j hjl
      obtain rfl := Option.some.inj e
      have e : (⟨b, o, none⟩ : Addr).add j = ⟨b, o + j, none⟩ := by
        unfold Addr.add
        split <;> simp_all
      rw [e, hcell]
      simp [hjl] at hj ⊢
      exact hj) hb hm
    exact ⟨v', w', h1, h2, h3⟩
  | none =>
    have he : ys = [] := by
      cases ys with
      | nil => rfl
      | cons y t =>
        obtain ⟨b, o, e, _⟩ := hx 0 (by simp)
        cases e
    subst he
    obtain ⟨i, hi, hz, hs, hby⟩ := info_parts hinfo
    obtain ⟨ao, c, rfl, hc, _⟩ := hM.sl
    refine ⟨_, w, run_append_nothing w t t ty E i ht hi ao xs.length c hc (.slice none 0 cap) (Src.ofNil w ht cap), ?_, ⟨rfl, rfl, rfl, Nat.le_refl _, fun _ _ _ => rfl⟩⟩
    rw [List.append_nil]
    exact hM
theorem wpList_append_sl {P : Program} (w : World) {ops : Array Oper} {rest : List Oper} {o : Oper} {a : Act} {Q : Exit → Act → World → Prop} (hgd : o.guard = none) (s x : Operand) (t : TypeId)
    (ho : o.op = .call { callee := .builtin .append, args := #[s, x], argTypes := #[t, t] }) (E : TypeId) (K : IntKind) (bytes : Nat) (ht : P.underlying t = some (.slice E))
    (hinfo : (P.info? E).map (fun i => (i.zero, i.size, i.bytes)) = some (some (.int K 0), 1, bytes)) (B : Nat) (v : Value) (xs : List Int) (hs : a.eval s = v) (hM : Mine E K B w v xs) (hB : B ≤ w.heap.size)
    (u : Value) (ys : List Int) (hx : a.eval x = u) (hu : Sl K w u ys)
    (hb : (xs.length + ys.length) * bytes ≤ 140737488355328) (hm : xs.length + ys.length ≤ maxLen)
    (h : ∀ v' w', Mine E K B w' v' (xs ++ ys) → w.grownBy w' v.ownBlock → wpList P ops Q rest (a.put o.dst v') w') : wpList P ops Q (o :: rest) a w := by
  refine wpList_plain hgd fun K' hK => ?_
  obtain ⟨v', w', hrun, r1, r2⟩ := run_append_sl (P := P) w t o.type E K bytes ht hinfo B v xs hM hB u ys hu hb hm
  unfold Oper.wp
  simp [execOp, ho, resolve, invoke, builtin, hs, hx, hrun, Result.andThen]
  exact hK _ _ (h v' w' r1 r2)
theorem wp_append_mine {P : Program} (w : World) {o : Oper} {a : Act} {K' : Act → World → Prop} {Q : Exit → Act → World → Prop} (s x : Operand) (t : TypeId)
    (ho : o.op = .call { callee := .builtin .append, args := #[s, x], argTypes := #[t, t] }) (E : TypeId) (K : IntKind) (bytes : Nat) (ht : P.underlying t = some (.slice E))
    (hinfo : (P.info? E).map (fun i => (i.zero, i.size, i.bytes)) = some (some (.int K 0), 1, bytes)) (B : Nat) (v : Value) (xs : List Int) (hs : a.eval s = v) (hM : Mine E K B w v xs) (hB : B ≤ w.heap.size)
    (ad : Addr) (m c : Nat) (news : List Int) (hx : a.eval x = .slice (some ad) m c) (hl : news.length = m) (hnews : ∀ j u, (news.map (Value.int K))[j]? = some u → w.cell? (ad.add j) = some u)
    (hb : (xs.length + news.length) * bytes ≤ 140737488355328) (hm : xs.length + news.length ≤ maxLen)
    (h : ∀ v' w', Mine E K B w' v' (xs ++ news) → w.grownBy w' v.ownBlock → (v'.ownBlock = v.ownBlock ∨ Frm w.heap.size v') → K' (a.put o.dst v') w') : o.wp P a w K' Q := by
  subst hl
  obtain ⟨v', w', hrun, r1, r2, r3⟩ := run_append_mine (P := P) w t o.type E K bytes ht hinfo B v xs hM hB ad c news hnews hb hm
  unfold Oper.wp execOp
  simp only [ho, resolve, invoke, builtin, Sem.run_bind, Sem.run_pure, Result.andThen_ok, List.map_toArray, List.map_cons, List.map_nil, hs, hx, hrun]
  exact h v' w' r1 r2 r3
/-- At a step of a region that draws its order. -/
theorem step_append_mine {P : Program} (w : World) {ops : Array Oper} {o : Oper} {a : Act} {K' : Act → World → Prop} {Q : Exit → Act → World → Prop} {E' : Prop} (hgd : o.guard = none) (s x : Operand) (t : TypeId)
    (ho : o.op = .call { callee := .builtin .append, args := #[s, x], argTypes := #[t, t] }) (E : TypeId) (K : IntKind) (bytes : Nat) (ht : P.underlying t = some (.slice E))
    (hinfo : (P.info? E).map (fun i => (i.zero, i.size, i.bytes)) = some (some (.int K 0), 1, bytes)) (B : Nat) (v : Value) (xs : List Int) (hs : a.eval s = v) (hM : Mine E K B w v xs) (hB : B ≤ w.heap.size)
    (ad : Addr) (m c : Nat) (news : List Int) (hx : a.eval x = .slice (some ad) m c) (hl : news.length = m) (hnews : ∀ j u, (news.map (Value.int K))[j]? = some u → w.cell? (ad.add j) = some u)
    (hb : (xs.length + news.length) * bytes ≤ 140737488355328) (hm : xs.length + news.length ≤ maxLen)
    (h : ∀ v' w', Mine E K B w' v' (xs ++ news) → w.grownBy w' v.ownBlock → (v'.ownBlock = v.ownBlock ∨ Frm w.heap.size v') → K' (a.put o.dst v') w') :
    if Region.wanted o (yielded ops a.tmps) = true then Oper.wp P o a w K' Q else E' := by
  have hw : Region.wanted o (yielded ops a.tmps) = true := by simp [Region.wanted, hgd]
  rw [if_pos hw]
  exact wp_append_mine w s x t ho E K bytes ht hinfo B v xs hs hM hB ad m c news hx hl hnews hb hm h
/-- The call returns a slice of its own that holds xs. -/
def RetM (w : World) (xs : List Int) (e : Ending) (w' : World) : Prop := Below w.heap.size w w' ∧ ∃ v', e = .returned v' ∧ Mine 3 .i64 w.heap.size w' v' xs
set_option maxRecDepth 20000 in
set_option maxHeartbeats 2000000 in
theorem raw_any (v : Value) (xs : List Int) (most : Nat) (w : World) (h : Sl .i64 w v xs) (hm : most ≤ 1000) :
    Calls Try.prog 62 #[v, .int .i64 most] w (RetM w (xs.take most)) := by
  obtain ⟨ao, cap, rfl, hcap, hmax, hc⟩ := h
  obtain ⟨n, hN⟩ : ∃ n, xs.length = n := ⟨_, rfl⟩
  obtain ⟨k, hk⟩ : ∃ k, min n most = k := ⟨_, rfl⟩
  have hlen : (xs.take most).length = k := by rw [List.length_take, hN, ← hk]; omega
  rw [hN] at hcap ⊢
  have HSL : Kept (Sl .i64 w (.slice ao k cap) (xs.take most)) := ⟨⟨ao, cap, by rw [hlen], by omega, hmax, fun i hi => by
    obtain ⟨b, o, e, hb, hcell⟩ := hc i (by omega)
    exact ⟨b, o, e, hb, by rw [hcell, List.getElem?_take, if_pos (by omega)]⟩⟩⟩
  have em : min (n : Int) (most : Int) = k := by omega
  have hk0 : (0 : Int) ≤ (k : Int) := by omega
  have hk1 : (k : Int) ≤ (cap : Int) := by omega
  have hk2 : k ≤ cap := by omega
  have H1 := Kept.mk (show (([] : List Int).length + (xs.take most).length) * 8 ≤ 140737488355328 by rw [hlen]; simp; omega)
  have H2 := Kept.mk (show ([] : List Int).length + (xs.take most).length ≤ maxLen by rw [hlen]; unfold maxLen; simp; omega)
  unfold maxLen at hmax
  have hc0 := Kept.mk hc
  have HN := Kept.mk hN
  clear hc hN hlen
  cases ao with
  | none =>
    clear H1 H2 HSL em hk0 hk1 hk2
    obtain rfl : xs = [] := by
      cases xs with
      | nil => rfl
      | cons x t => obtain ⟨b, o, e, _⟩ := hc0.out 0 (by simp); cases e
    obtain rfl : n = 0 := by have := HN.out; simp at this; omega
    have hm0 : ¬ (most : Int) < ((0 : Nat) : Int) := by omega
    go_enter Try.func62, Try.ntmps62
    go_wp2
    go_ret
    exact ⟨Below.refl _ _, .slice none 0 0, rfl, by first | exact Mine.nil _ _ _ _ | (rw [List.take_nil]; exact Mine.nil _ _ _ _)⟩
  | some ad =>
    clear hc0 HN
    by_cases hlt : most < n
    · obtain rfl : k = most := by omega
      have hlt' : (k : Int) < (n : Int) := by omega
      clear em
      go_enter Try.func62, Try.ntmps62
      go_wp2_with (at_builtin; refine wpList_append_sl _ rfl _ _ 34 rfl 3 .i64 8 Try.underlying34 info_i64 w.heap.size _ [] rfl (Mine.nil _ _ _ _) (Nat.le_refl _) _ _ rfl HSL.out H1.out H2.out ?_)
      intro v' w5 hm5 hg5
      have HM5 := Kept.mk hm5
      have HB5 := Kept.mk ((Below.refl _ _).grown hg5 (Nat.le_refl _) (fun k hk => by simp [Value.ownBlock] at hk))
      clear hm5 hg5
      go_wp2
      go_ret
      exact ⟨HB5.out, _, rfl, by simpa using HM5.out⟩
    · obtain rfl : k = n := by omega
      have hlt' : ¬ (most : Int) < (k : Int) := by omega
      clear em
      go_enter Try.func62, Try.ntmps62
      go_wp2_with (at_builtin; refine wpList_append_sl _ rfl _ _ 34 rfl 3 .i64 8 Try.underlying34 info_i64 w.heap.size _ [] rfl (Mine.nil _ _ _ _) (Nat.le_refl _) _ _ rfl HSL.out H1.out H2.out ?_)
      intro v' w5 hm5 hg5
      have HM5 := Kept.mk hm5
      have HB5 := Kept.mk ((Below.refl _ _).grown hg5 (Nat.le_refl _) (fun k hk => by simp [Value.ownBlock] at hk))
      clear hm5 hg5
      go_wp2
      go_ret
      exact ⟨HB5.out, _, rfl, by simpa using HM5.out⟩
/-- Any numbers as elements. -/
def redN (D : FFld.FD) (a : Int) : Nat := (a % (D.q : Int)).toNat
theorem redN_int {D : FFld.FD} (hq : 1 ≤ D.q) (a : Int) : ((redN D a : Nat) : Int) = a % (D.q : Int) := by
  have := Int.emod_nonneg a (show (D.q : Int) ≠ 0 by omega)
  unfold redN
  omega
theorem redN_lt {D : FFld.FD} (hq : 1 ≤ D.q) (a : Int) : redN D a < D.q := by
  have := Int.emod_lt_of_pos a (show (0 : Int) < (D.q : Int) by omega)
  have := redN_int hq a
  omega
theorem map_take_next {f : Int → Nat} {xs : List Int} {i : Nat} (h : i < xs.length) : (xs.take (i + 1)).map f = (xs.take i).map f ++ [f (xs[i]?.getD 0)] := by
  rw [List.take_add_one, List.map_append, List.getElem?_eq_getElem h]
  rfl
set_option maxRecDepth 20000 in
set_option maxHeartbeats 4000000 in
theorem list_any {D : FFld.FD} (hD : D.Ok) (v : Value) (xs : List Int) (most : Nat) (w : World) (h : Sl .i64 w v xs) (hb : ∀ x ∈ xs, -9223372036854775808 ≤ x ∧ x ≤ 9223372036854775807) (hm : most ≤ 1000) :
    Calls Try.prog 73 #[rfv D.q D.p D.k D.m, v, .int .i64 most] w (RetM w (ints ((xs.take most).map (redN D)))) := by
  obtain ⟨ao, cap, rfl, hcap, hmax, hc⟩ := h
  have hq6 : D.q ≤ 65536 := hD.pre.small
  have hq1 : 1 ≤ D.q := Nat.le_of_lt hD.pre.pk.one_lt
  have HX0 : Kept (Bxs w [rbox D.q D.p D.k D.m] (w.alloc (rbox D.q D.p D.k D.m))) := ⟨(Bxs.start w).alloc (by simp) _⟩
  obtain ⟨n, hN⟩ : ∃ n, xs.length = n := ⟨_, rfl⟩
  obtain ⟨k, hk⟩ : ∃ k, min n most = k := ⟨_, rfl⟩
  have hkn : k ≤ n := by omega
  have hkm : k ≤ most := by omega
  have HT : Kept (xs.take most = xs.take k) := ⟨by
    rw [← hk]
    by_cases hle : most ≤ n
    · rw [Nat.min_eq_right hle]
    · rw [Nat.min_eq_left (by omega), List.take_of_length_le (by omega), List.take_of_length_le (by omega)]⟩
  have hkk : k < n → k < most → False := by omega
  have HC := Kept.mk hc
  have HBD := Kept.mk hb
  rw [hN] at hcap ⊢
  have HN := Kept.mk hN
  unfold maxLen at hmax
  clear hc hN hb hk
  go_enter Try.func73, Try.ntmps73
  go_wp2
  go_loopw [7, 8] (fun ov iv wr => ∃ (i : Nat) (l : List Nat), i ≤ k ∧ iv = .int .i64 i ∧ l.length = i ∧ Kept ((xs.take i).map (redN D) = l) ∧ Kept (Mine 3 .i64 (w.heap.size + 1) wr ov (ints l)) ∧ Kept (Bxs w [rbox D.q D.p D.k D.m] wr)) (fun _ iv _ => k - (intOf iv).toNat)
  case atStart => exact ⟨0, [], Nat.zero_le _, rfl, rfl, ⟨rfl⟩, ⟨Mine.nil _ _ _ _⟩, HX0⟩
  case round =>
    obtain ⟨i, l, hik, rfl, hll, hat, hmn, hbx⟩ := hrel
    by_cases hlt : i < k
    · have hin : i < n := by omega
      have him : i < most := by omega
      obtain ⟨g, o, rfl, hg, hcell⟩ := HC.out i (by rw [HN.out]; exact hin)
      obtain ⟨a, ha⟩ : ∃ a, xs[i]?.getD 0 = a := ⟨_, rfl⟩
      have hab : -9223372036854775808 ≤ a ∧ a ≤ 9223372036854775807 := by
        rw [← ha, List.getElem?_eq_getElem (by rw [HN.out]; exact hin)]
        exact HBD.out _ (List.getElem_mem _)
      obtain ⟨a0, a1⟩ := hab
      rw [ha] at hcell
      have ic := (hbx.out.1.cell (p := ⟨g, o + i, none⟩) hg).trans hcell
      obtain ⟨i0, i1, i2, i3⟩ := four_cells hbx.out.b0
      obtain ⟨r, hr⟩ : ∃ r, redN D a = r := ⟨_, rfl⟩
      have hI := Kept.mk (fun W => rin_any D.q D.p D.k D.m a W hq1 hq6 a0 a1)
      rw [← redN_int hq1 a, hr] at hI
      have HL : Kept ((xs.take (i + 1)).map (redN D) = l ++ [r]) := ⟨by rw [map_take_next (by rw [HN.out]; exact hin), hat.out, ha, hr]⟩
      obtain ⟨ov0, oc, rfl, _⟩ := hmn.out.sl.form
      rw [FFld.ints_len, hll] at hmn ⊢
      have H1 := Kept.mk (show ((ints l).length + [(r : Int)].length) * 8 ≤ 140737488355328 by rw [FFld.ints_len, hll]; simp; omega)
      have H2 := Kept.mk (show (ints l).length + [(r : Int)].length ≤ maxLen by rw [FFld.ints_len, hll]; unfold maxLen; simp; omega)
      have hg1 : g < w.heap.size + 1 := by omega
      have hr : True := trivial
      clear ha hr hcell HC HBD
      go_wp2
      have hal : ∀ W : World, Below W.heap.size W (W.alloc (.cells #[.int .i64 (r : Int)] 3)) := fun W => (Below.refl _ _).alloc (Nat.le_refl _) _
      go_region_held3 (fun w' => w'.cell? ⟨w.heap.size, 0, none⟩ = some (.int .i64 D.q) ∧ w'.cell? ⟨w.heap.size, 1, none⟩ = some (.int .i64 D.p) ∧ w'.cell? ⟨w.heap.size, 2, none⟩ = some (.int .i64 D.k) ∧ w'.cell? ⟨w.heap.size, 3, none⟩ = some (.int .i64 D.m) ∧ w'.cell? ⟨g, o + i, none⟩ = some (.int .i64 a))
        (first | exact ⟨m0, m1, m2, m3, mc⟩ | exact ⟨k0, k1, k2, k3, kc⟩ | exact ⟨j0, j1, j2, j3, jc⟩ | exact ⟨i0, i1, i2, i3, ic⟩ | go_keep)
        ((first
          | (go_at_call 51; (with_reducible refine (hI.out _).mono ?_); rintro e w3 ⟨hb3, rfl⟩; have HB3 := Kept.mk (bstep (show Below wr.heap.size wr _ from (by first | exact Below.refl _ _ | exact (Below.refl _ _).drew)) hb3); clear hb3; have j0 := belowCell HB3.out i0; have j1 := belowCell HB3.out i1; have j2 := belowCell HB3.out i2; have j3 := belowCell HB3.out i3; have jc := belowCell HB3.out ic; have k0 := belowCell (hal w3) j0; have k1 := belowCell (hal w3) j1; have k2 := belowCell (hal w3) j2; have k3 := belowCell (hal w3) j3; have kc := belowCell (hal w3) jc; have hX3 := hbx.out.below HB3.out; have HM3 := Kept.mk ((hmn.out.below HB3.out).alloc (.cells #[.int .i64 (r : Int)] 3)); have HNW := Kept.mk (new_one (K := .i64) (x := (r : Int)) (w := w3.alloc (.cells #[.int .i64 (r : Int)] 3)) (b := w3.heap.size) (o := 0) (by exact (Row.new (E := 3) (K := .i64) w3 [(r : Int)]).cell (i := 0) (by simp))); have HBB := Kept.mk (show w.heap.size + 1 ≤ (w3.alloc (.cells #[.int .i64 (r : Int)] 3)).heap.size by have := hX3.l1; simp; omega); have HXA := Kept.mk (hX3.below (hal w3)); have HOW := Kept.mk HM3.out.own; have hsx := hX3.l1; clear hX3)
          | ((refine step_append_mine _ (by rfl) _ _ 34 (by rfl) 3 .i64 8 Try.underlying34 info_i64 (w.heap.size + 1) (.slice ov0 i oc) (ints l) (by rfl) HM3.out HBB.out ⟨w3.heap.size, 0, none⟩ 1 1 [(r : Int)] (by rfl) (by rfl) HNW.out H1.out H2.out ?_); intro v' w5 hM5 hg5 hn5; have HM5 := Kept.mk hM5; have m0 := (hg5.cell (a := ⟨w.heap.size, 0, none⟩) k0 (fun e => by have := HOW.out _ e.symm; simp at this; omega)); have m1 := (hg5.cell (a := ⟨w.heap.size, 1, none⟩) k1 (fun e => by have := HOW.out _ e.symm; simp at this; omega)); have m2 := (hg5.cell (a := ⟨w.heap.size, 2, none⟩) k2 (fun e => by have := HOW.out _ e.symm; simp at this; omega)); have m3 := (hg5.cell (a := ⟨w.heap.size, 3, none⟩) k3 (fun e => by have := HOW.out _ e.symm; simp at this; omega)); have mc := (hg5.cell (a := ⟨g, o + i, none⟩) kc (fun e => by have := HOW.out _ e.symm; simp at this; omega)))))
      have HX5 := Kept.mk (HXA.out.grown hg5 (fun j hj => (HOW.out j hj).1))
      go_wp2
      go_roundw
      case rel => exact ⟨i + 1, l ++ [r], by omega, by go_num, by simp [hll], HL, ⟨by rw [FFld.ints_append]; exact HM5.out⟩, HX5⟩
      case measure => simp [intOf] <;> omega
    · obtain rfl : i = k := by omega
      have HE : Kept ((xs.take most).map (redN D) = l) := ⟨by rw [HT.out]; exact hat.out⟩
      have hsz := HX0.out.1.size
      by_cases hin : i < n
      · have him : ¬ i < most := fun h => hkk hin h
        go_wp2
        go_ret
        exact ⟨hbx.out.1, _, rfl, by rw [HE.out]; exact hmn.out.lower (by omega)⟩
      · go_wp2
        go_ret
        exact ⟨hbx.out.1, _, rfl, by rw [HE.out]; exact hmn.out.lower (by omega)⟩
end Go.Proofs.Ytfhhnfpapgfnmaa

set_option linter.unusedVariables false
set_option linter.unusedSimpArgs false
namespace Go.Proofs.Ytfhhnfpapgfnmaa
open Go Go.RowKit Go.Deep
open FFld (ints)
/-- The error of a polynomial. -/
def zlast (xs : List Int) : Bool := decide (0 < xs.length) && decide (xs[xs.length - 1]?.getD 0 = 0)
def cErr (D : FFld.FD) (xs : List Int) : Nat := if 200 < xs.length then 2 else if elsB D xs = true ∧ zlast xs = false then 0 else 1
theorem cErr_le (D : FFld.FD) (xs : List Int) : cErr D xs ≤ 2 := by
  unfold cErr
  repeat' split
  all_goals omega
set_option maxRecDepth 20000 in
set_option maxHeartbeats 4000000 in
theorem fcheck_any {D : FFld.FD} {b : Nat} (v : Value) (xs : List Int) (w : World) (hf : FldB D w b) (h : Sl .i64 w v xs) :
    Calls Try.prog 47 #[.pointer (some ⟨b, 0, none⟩), v] w (fun e w' => w = w' ∧ e = .returned (.int .i64 (cErr D xs : Nat))) := by
  have HA := Kept.mk (areElements_any (D := D) (b := b) v xs w hf h)
  obtain ⟨ao, cap, hv, hcap, hmax, hc⟩ := h
  subst hv
  obtain ⟨n, hN⟩ : ∃ n, xs.length = n := ⟨_, rfl⟩
  have HC := Kept.mk hc
  have hE : cErr D xs = if 200 < n then 2 else if elsB D xs = true ∧ zlast xs = false then 0 else 1 := by unfold cErr; rw [hN]
  have hZ : zlast xs = (decide (0 < n) && decide (xs[n - 1]?.getD 0 = 0)) := by unfold zlast; rw [hN]
  rw [hN] at hcap HA ⊢
  have HN := Kept.mk hN
  unfold maxLen at hmax
  clear hc hN
  by_cases h200 : 200 < n
  · rw [if_pos h200] at hE
    have e1 : decide ((n : Int) > 200) = true := by simp; omega
    rw [hE]
    clear hE hZ HA
    go_enter Try.func47, Try.ntmps47
    go_wp2
    go_ret
    exact ⟨rfl, rfl⟩
  · rw [if_neg h200] at hE
    have e1 : decide ((n : Int) > 200) = false := by simp; omega
    obtain ⟨t, ht⟩ : ∃ t, elsB D xs = t := ⟨_, rfl⟩
    rw [ht] at hE HA
    clear ht
    cases t with
    | false =>
      rw [if_neg (by simp)] at hE
      rw [hE]
      clear hE hZ
      go_enter Try.func47, Try.ntmps47
      go_wp2_with fail
      refine HA.out.mono ?_
      rintro e w2 ⟨rfl, rfl⟩
      go_wp2
      go_ret
      exact ⟨rfl, rfl⟩
    | true =>
      by_cases hn0 : n = 0
      · subst hn0
        have hz : zlast xs = false := by rw [hZ]; rfl
        rw [hz, if_pos (by simp)] at hE
        have e2 : decide (((0 : Nat) : Int) > 0) = false := rfl
        rw [hE]
        clear hE hZ hz
        go_enter Try.func47, Try.ntmps47
        go_wp2_with fail
        refine HA.out.mono ?_
        rintro e w2 ⟨rfl, rfl⟩
        go_wp2
        go_ret
        exact ⟨rfl, rfl⟩
      · obtain ⟨b1, o1, rfl, hb1, hcell⟩ := HC.out (n - 1) (by rw [HN.out]; omega)
        obtain ⟨m, rfl⟩ : ∃ m, n = m + 1 := ⟨n - 1, by omega⟩
        simp only [Nat.add_sub_cancel] at hcell hZ
        obtain ⟨x, hx⟩ : ∃ x, xs[m]?.getD 0 = x := ⟨_, rfl⟩
        rw [hx] at hcell hZ
        have e2 : decide (((m + 1 : Nat) : Int) > 0) = true := by rw [decide_eq_true_eq]; omega
        by_cases hx0 : x = 0
        · have hz : zlast xs = true := by rw [hZ, hx0]; simp
          rw [hz, if_neg (by simp)] at hE
          have e3 : (x == 0) = true := by rw [hx0]; rfl
          rw [hE]
          clear hE hZ hz hx
          go_enter Try.func47, Try.ntmps47
          go_wp2_with fail
          refine HA.out.mono ?_
          rintro e w2 ⟨rfl, rfl⟩
          go_wp2
          go_ret
          exact ⟨rfl, rfl⟩
        · have hz : zlast xs = false := by rw [hZ]; simp [hx0]
          rw [hz, if_pos (by simp)] at hE
          have e3 : (x == 0) = false := by rw [beq_eq_false_iff_ne]; exact hx0
          rw [hE]
          clear hE hZ hz hx hx0
          go_enter Try.func47, Try.ntmps47
          go_wp2_with fail
          refine HA.out.mono ?_
          rintro e w2 ⟨rfl, rfl⟩
          go_wp2
          go_ret
          exact ⟨rfl, rfl⟩
set_option maxRecDepth 20000 in
set_option maxHeartbeats 4000000 in
theorem rcheck_any (D : FFld.FD) (v : Value) (xs : List Int) (w : World)  (h : Sl .i64 w v xs) :
    Calls Try.prog 63 #[rfv D.q D.p D.k D.m, v] w (RB w (.int .i64 (cErr D xs : Nat))) := by
  have HA := Kept.mk (fun W (hW : Below w.heap.size w W) => relements_any D v xs W (h.below hW))
  have HX0 : Kept (Bxs w [rbox D.q D.p D.k D.m] (w.alloc (rbox D.q D.p D.k D.m))) := ⟨(Bxs.start w).alloc (by simp) _⟩
  obtain ⟨c0, c1, c2, c3⟩ := four_cells HX0.out.b0
  obtain ⟨ao, cap, hv, hcap, hmax, hc⟩ := h
  subst hv
  obtain ⟨n, hN⟩ : ∃ n, xs.length = n := ⟨_, rfl⟩
  have HC := Kept.mk hc
  have hE : cErr D xs = if 200 < n then 2 else if elsB D xs = true ∧ zlast xs = false then 0 else 1 := by unfold cErr; rw [hN]
  have hZ : zlast xs = (decide (0 < n) && decide (xs[n - 1]?.getD 0 = 0)) := by unfold zlast; rw [hN]
  rw [hN] at hcap HA ⊢
  have HN := Kept.mk hN
  unfold maxLen at hmax
  clear hc hN
  by_cases h200 : 200 < n
  · rw [if_pos h200] at hE
    have e1 : decide ((n : Int) > 200) = true := by simp; omega
    rw [hE]
    clear hE hZ HA
    go_enter Try.func63, Try.ntmps63
    go_wp2
    go_ret
    exact ⟨HX0.out.1, rfl⟩
  · rw [if_neg h200] at hE
    have e1 : decide ((n : Int) > 200) = false := by simp; omega
    obtain ⟨t, ht⟩ : ∃ t, elsB D xs = t := ⟨_, rfl⟩
    rw [ht] at hE HA
    clear ht
    cases t with
    | false =>
      rw [if_neg (by simp)] at hE
      rw [hE]
      clear hE hZ
      go_enter Try.func63, Try.ntmps63
      go_wp2_with fail
      refine (HA.out _ HX0.out.1).mono ?_
      rintro e w2 ⟨hb2, rfl⟩
      have HX2 := Kept.mk (HX0.out.below hb2)
      clear hb2
      go_wp2
      go_ret
      exact ⟨HX2.out.1, rfl⟩
    | true =>
      by_cases hn0 : n = 0
      · subst hn0
        have hz : zlast xs = false := by rw [hZ]; rfl
        rw [hz, if_pos (by simp)] at hE
        have e2 : decide (((0 : Nat) : Int) > 0) = false := rfl
        rw [hE]
        clear hE hZ hz
        go_enter Try.func63, Try.ntmps63
        go_wp2_with fail
        refine (HA.out _ HX0.out.1).mono ?_
        rintro e w2 ⟨hb2, rfl⟩
        have HX2 := Kept.mk (HX0.out.below hb2)
        clear hb2
        go_wp2
        go_ret
        exact ⟨HX2.out.1, rfl⟩
      · obtain ⟨b1, o1, rfl, hb1, hcell⟩ := HC.out (n - 1) (by rw [HN.out]; omega)
        obtain ⟨m, rfl⟩ : ∃ m, n = m + 1 := ⟨n - 1, by omega⟩
        simp only [Nat.add_sub_cancel] at hcell hZ
        obtain ⟨x, hx⟩ : ∃ x, xs[m]?.getD 0 = x := ⟨_, rfl⟩
        rw [hx] at hcell hZ
        have e2 : decide (((m + 1 : Nat) : Int) > 0) = true := by rw [decide_eq_true_eq]; omega
        by_cases hx0 : x = 0
        · have hz : zlast xs = true := by rw [hZ, hx0]; simp
          rw [hz, if_neg (by simp)] at hE
          have e3 : (x == 0) = true := by rw [hx0]; rfl
          rw [hE]
          clear hE hZ hz hx
          go_enter Try.func63, Try.ntmps63
          go_wp2_with fail
          refine (HA.out _ HX0.out.1).mono ?_
          rintro e w2 ⟨hb2, rfl⟩
          have HX2 := Kept.mk (HX0.out.below hb2)
          clear hb2
          have hcell2 := (HX2.out.1.cell (p := ⟨b1, o1 + m, none⟩) hb1).trans hcell
          go_wp2
          go_ret
          exact ⟨HX2.out.1, rfl⟩
        · have hz : zlast xs = false := by rw [hZ]; simp [hx0]
          rw [hz, if_pos (by simp)] at hE
          have e3 : (x == 0) = false := by rw [beq_eq_false_iff_ne]; exact hx0
          rw [hE]
          clear hE hZ hz hx hx0
          go_enter Try.func63, Try.ntmps63
          go_wp2_with fail
          refine (HA.out _ HX0.out.1).mono ?_
          rintro e w2 ⟨hb2, rfl⟩
          have HX2 := Kept.mk (HX0.out.below hb2)
          clear hb2
          have hcell2 := (HX2.out.1.cell (p := ⟨b1, o1 + m, none⟩) hb1).trans hcell
          go_wp2
          go_ret
          exact ⟨HX2.out.1, rfl⟩
end Go.Proofs.Ytfhhnfpapgfnmaa
