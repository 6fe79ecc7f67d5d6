/-
  Texts of the proof, merged by program: Rel Raw Mro Ech Rea Shp Tam Rne Soa Lca Fmx Dna Sva Svb Plp.
-/
import Derived.Test.YtdnheaafcbihbaaGreatM4
import Derived.Test.YtdnheaafcbihbaaGreatM6
import Derived.Test.YtdnheaafcbihbaaGreatM13
import Derived.Test.YtdnheaafcbihbaaGreatM7
import Derived.Test.YtdnheaafcbihbaaGreatM2
set_option linter.unusedVariables false
set_option linter.unusedSimpArgs false
namespace Go.Proofs.YtdnheaafcbihbaaGreat
open Go Go.RowKit Go.Deep
open FFld (ints)
end Go.Proofs.YtdnheaafcbihbaaGreat

set_option linter.unusedVariables false
set_option linter.unusedSimpArgs false
namespace Go.Proofs.YtdnheaafcbihbaaGreat
open Go Go.RowKit Go.Deep
open FFld (ints)
/-- append of a slice, of whatever block, to one of the call's own. -/
theorem run_append_sl {P : Program} (w : World) (t ty E : TypeId) (K : IntKind) (bytes : Nat) (ht : P.underlying t = some (.slice E))
    (hinfo : (P.info? E).map (fun i => (i.zero, i.size, i.bytes)) = some (some (.int K 0), 1, bytes)) (B : Nat) (v : Value) (xs : List Int) (hM : Mine E K B w v xs) (hB : B ≤ w.heap.size)
    (u : Value) (ys : List Int) (hu : Sl K w u ys) (hb : (xs.length + ys.length) * bytes ≤ 140737488355328) (hm : xs.length + ys.length ≤ maxLen) :
    ∃ v' w', (Builtin.append_ #[t, t] ty #[v, u]).run P w = .ok v' w' ∧ Mine E K B w' v' (xs ++ ys) ∧ w.grownBy w' v.ownBlock := by
  obtain ⟨ao, cap, rfl, hcap, hmax, hx⟩ := hu
  cases ao with
  | some a =>
    obtain ⟨v', w', h1, h2, h3, _⟩ := run_append_mine (P := P) w t ty E K bytes ht hinfo B v xs hM hB a cap ys (fun j q hj => by
      have hjl : j < ys.length := by
        apply Classical.byContradiction
        intro hc
        simp [hc] at hj
      obtain ⟨b, o, e, _, hcell⟩ := hx j hjl
      obtain rfl := Option.some.inj e
      have e : (⟨b, o, none⟩ : Addr).add j = ⟨b, o + j, none⟩ := by
        unfold Addr.add
        split <;> simp_all
      rw [e, hcell]
      simp [hjl] at hj ⊢
      exact hj) hb hm
    exact ⟨v', w', h1, h2, h3⟩
  | none =>
    have he : ys = [] := by
      cases ys with
      | nil => rfl
      | cons y t =>
        obtain ⟨b, o, e, _⟩ := hx 0 (by simp)
        cases e
    subst he
    obtain ⟨i, hi, hz, hs, hby⟩ := info_parts hinfo
    obtain ⟨ao, c, rfl, hc, _⟩ := hM.sl
    refine ⟨_, w, run_append_nothing w t t ty E i ht hi ao xs.length c hc (.slice none 0 cap) (Src.ofNil w ht cap), ?_, ⟨rfl, rfl, rfl, Nat.le_refl _, fun _ _ _ => rfl⟩⟩
    rw [List.append_nil]
    exact hM
theorem wpList_append_sl {P : Program} (w : World) {ops : Array Oper} {rest : List Oper} {o : Oper} {a : Act} {Q : Exit → Act → World → Prop} (hgd : o.guard = none) (s x : Operand) (t : TypeId)
    (ho : o.op = .call { callee := .builtin .append, args := #[s, x], argTypes := #[t, t] }) (E : TypeId) (K : IntKind) (bytes : Nat) (ht : P.underlying t = some (.slice E))
    (hinfo : (P.info? E).map (fun i => (i.zero, i.size, i.bytes)) = some (some (.int K 0), 1, bytes)) (B : Nat) (v : Value) (xs : List Int) (hs : a.eval s = v) (hM : Mine E K B w v xs) (hB : B ≤ w.heap.size)
    (u : Value) (ys : List Int) (hx : a.eval x = u) (hu : Sl K w u ys)
    (hb : (xs.length + ys.length) * bytes ≤ 140737488355328) (hm : xs.length + ys.length ≤ maxLen)
    (h : ∀ v' w', Mine E K B w' v' (xs ++ ys) → w.grownBy w' v.ownBlock → wpList P ops Q rest (a.put o.dst v') w') : wpList P ops Q (o :: rest) a w := by
  refine wpList_plain hgd fun K' hK => ?_
  obtain ⟨v', w', hrun, r1, r2⟩ := run_append_sl (P := P) w t o.type E K bytes ht hinfo B v xs hM hB u ys hu hb hm
  unfold Oper.wp
  simp [execOp, ho, resolve, invoke, builtin, hs, hx, hrun, Result.andThen]
  exact hK _ _ (h v' w' r1 r2)
theorem wp_append_mine {P : Program} (w : World) {o : Oper} {a : Act} {K' : Act → World → Prop} {Q : Exit → Act → World → Prop} (s x : Operand) (t : TypeId)
    (ho : o.op = .call { callee := .builtin .append, args := #[s, x], argTypes := #[t, t] }) (E : TypeId) (K : IntKind) (bytes : Nat) (ht : P.underlying t = some (.slice E))
    (hinfo : (P.info? E).map (fun i => (i.zero, i.size, i.bytes)) = some (some (.int K 0), 1, bytes)) (B : Nat) (v : Value) (xs : List Int) (hs : a.eval s = v) (hM : Mine E K B w v xs) (hB : B ≤ w.heap.size)
    (ad : Addr) (m c : Nat) (news : List Int) (hx : a.eval x = .slice (some ad) m c) (hl : news.length = m) (hnews : ∀ j u, (news.map (Value.int K))[j]? = some u → w.cell? (ad.add j) = some u)
    (hb : (xs.length + news.length) * bytes ≤ 140737488355328) (hm : xs.length + news.length ≤ maxLen)
    (h : ∀ v' w', Mine E K B w' v' (xs ++ news) → w.grownBy w' v.ownBlock → (v'.ownBlock = v.ownBlock ∨ Frm w.heap.size v') → K' (a.put o.dst v') w') : o.wp P a w K' Q := by
  subst hl
  obtain ⟨v', w', hrun, r1, r2, r3⟩ := run_append_mine (P := P) w t o.type E K bytes ht hinfo B v xs hM hB ad c news hnews hb hm
  unfold Oper.wp execOp
  simp only [ho, resolve, invoke, builtin, Sem.run_bind, Sem.run_pure, Result.andThen_ok, List.map_toArray, List.map_cons, List.map_nil, hs, hx, hrun]
  exact h v' w' r1 r2 r3
/-- The call returns a slice of its own that holds xs. -/
def RetM (w : World) (xs : List Int) (e : Ending) (w' : World) : Prop := Below w.heap.size w w' ∧ ∃ v', e = .returned v' ∧ Mine 3 .i64 w.heap.size w' v' xs
/-- Any numbers as elements. -/
def redN (D : FFld.FD) (a : Int) : Nat := (a % (D.q : Int)).toNat
end Go.Proofs.YtdnheaafcbihbaaGreat

set_option linter.unusedVariables false
set_option linter.unusedSimpArgs false
namespace Go.Proofs.YtdnheaafcbihbaaGreat
open Go Go.RowKit Go.Deep
open FFld (ints)
/-- The slice value v holds the values xs, one cell each, in a block of the call's own, or is nil. -/
def OwnV (E : TypeId) (B : Nat) (w : World) (v : Value) (xs : List Value) : Prop :=
  (v = .slice none 0 0 ∧ xs = []) ∨
    ∃ g cap cur, v = .slice (some ⟨g, 0, none⟩) xs.length cap ∧ B ≤ g ∧ w.heap[g]? = some (.cells cur E (0, 0)) ∧ xs.length ≤ cap ∧ cap ≤ cur.size ∧ cap ≤ maxLen ∧ cur.toList.take xs.length = xs
section
variable {E : TypeId} {B : Nat} {w w' : World} {v : Value} {xs : List Value}
theorem OwnV.nil (E : TypeId) (B : Nat) (w : World) : OwnV E B w (.slice none 0 0) [] := .inl ⟨rfl, rfl⟩
theorem OwnV.own (h : OwnV E B w v xs) : ∀ k, v.ownBlock = some k → B ≤ k ∧ k < w.heap.size := by
  intro k hk
  rcases h with ⟨rfl, rfl⟩ | ⟨g, cap, cur, rfl, hB, hg, hn, hc, hm, ht⟩
  · simp [Value.ownBlock] at hk
  · simp [Value.ownBlock] at hk
    subst hk
    exact ⟨hB, (Array.getElem?_eq_some_iff.1 hg).1⟩
theorem OwnV.kept {row : Option Nat} (h : OwnV E B w v xs) (hg : w.grownBy w' row) (hne : v.ownBlock = none ∨ v.ownBlock ≠ row) : OwnV E B w' v xs := by
  rcases h with h | ⟨g, cap, cur, rfl, hB, hgg, rest⟩
  · exact .inl h
  · refine .inr ⟨g, cap, cur, rfl, hB, ?_, rest⟩
    rw [hg.block g (Array.getElem?_eq_some_iff.1 hgg).1 (by simpa [Value.ownBlock] using hne)]
    exact hgg
theorem OwnV.below (h : OwnV E B w v xs) (hb : Below w.heap.size w w') : OwnV E B w' v xs :=
  h.kept (row := none) (growBelow hb) (by cases hv : v.ownBlock <;> simp)
theorem OwnV.lower {B' : Nat} (h : OwnV E B w v xs) (hB : B' ≤ B) : OwnV E B' w v xs := by
  rcases h with h | ⟨g, cap, cur, rfl, hb, rest⟩
  · exact .inl h
  · exact .inr ⟨g, cap, cur, rfl, by omega, rest⟩
theorem OwnV.of_owns {n : Nat} (h : w.ownsRow B E 1 v n xs) : OwnV E B w v xs := by
  have hl : xs.length = n := by simpa using h.1
  rcases h.2 with ⟨rfl, h0⟩ | ⟨g, cap, cur, rfl, hg, hh, hn, hm, hc, ht⟩
  · have : xs = [] := by cases xs with | nil => rfl | cons => simp at hl; omega
    exact .inl ⟨rfl, this⟩
  · exact .inr ⟨g, cap, cur, by rw [hl], hg, hh, by omega, by omega, hm, by rw [hl]; simpa using ht⟩
theorem OwnV.cell (h : OwnV E B w v xs) {i : Nat} (hi : i < xs.length) : ∃ g cap, v = .slice (some ⟨g, 0, none⟩) xs.length cap ∧ g < w.heap.size ∧ w.cell? ⟨g, i, none⟩ = some (xs[i]?.getD (.int .i64 0)) := by
  rcases h with ⟨rfl, rfl⟩ | ⟨g, cap, cur, rfl, hB, hg, hn, hc, hm, ht⟩
  · simp at hi
  · refine ⟨g, cap, rfl, (Array.getElem?_eq_some_iff.1 hg).1, ?_⟩
    rw [cell_of_row w g i cur E (0, 0) hg]
    have : (cur.toList.take xs.length)[i]? = cur[i]? := by rw [List.getElem?_take, if_pos hi]; simp
    rw [← this, ht]
    simp [hi]
theorem OwnV.form (h : OwnV E B w v xs) : ∃ ao cap, v = .slice ao xs.length cap ∧ xs.length ≤ cap ∧ cap ≤ maxLen := by
  rcases h with ⟨rfl, rfl⟩ | ⟨g, cap, cur, rfl, hB, hg, hn, hc, hm, ht⟩
  · exact ⟨none, 0, rfl, Nat.le_refl _, Nat.zero_le _⟩
  · exact ⟨_, cap, rfl, hn, hm⟩
end
theorem add_zero' (g j : Nat) : (⟨g, 0, none⟩ : Addr).add j = ⟨g, j, none⟩ := by unfold Addr.add; split <;> simp_all
theorem run_append_v {P : Program} (w : World) (t ty E : TypeId) (z : Value) (bytes : Nat) (ht : P.underlying t = some (.slice E))
    (hinfo : (P.info? E).map (fun i => (i.zero, i.size, i.bytes)) = some (some z, 1, bytes)) (hz1 : z.cells.size = 1) (B : Nat) (v : Value) (xs : List Value) (hM : OwnV E B w v xs) (hB : B ≤ w.heap.size)
    (a : Addr) (c : Nat) (news : List Value) (hnews : ∀ j u, news[j]? = some u → w.cell? (a.add j) = some u) (hone : ∀ u ∈ news, u.oneCell' = true)
    (hb : (xs.length + news.length) * bytes ≤ 140737488355328) (hm : xs.length + news.length ≤ maxLen) :
    ∃ v' w', (Builtin.append_ #[t, t] ty #[v, .slice (some a) news.length c]).run P w = .ok v' w' ∧ OwnV E B w' v' (xs ++ news) ∧ w.grownBy w' v.ownBlock ∧ (v'.ownBlock = v.ownBlock ∨ Frm w.heap.size v') := by
  obtain ⟨i, hi, hz, hs, hby⟩ := info_parts hinfo
  have hl : news.length = news.length * 1 := by simp
  rcases hM with ⟨rfl, rfl⟩ | ⟨g, cap, cur, rfl, hBg, hg, hn, hc, hcm, htk⟩
  · obtain ⟨v', w', hr, h2, h3, _⟩ := run_append_own (P := P) w w.heap.size t ty E i z 1 bytes ht hi hz hs hby hz1 (by decide) (.slice none 0 0) 0 [] (World.ownsRow_nil w w.heap.size E 1) a news.length c news hl hnews hone (by simpa using hm) (by simpa using hb) (Nat.le_refl _)
    exact ⟨v', w', hr, (OwnV.of_owns (n := 0 + news.length) (by simpa using h2)).lower hB, h3, .inr (fun k hk => (h2.lt k hk).1)⟩
  · by_cases hroom : xs.length + news.length ≤ cap
    · have hfit : xs.length * i.size + news.length ≤ cur.size := by rw [hs]; simp; omega
      have hr := run_append_room (P := P) w t ty E i ht hi g xs.length cap cur hg a news.length c news (by rw [hs]; exact hl) hnews hone hroom hfit
      rw [hs, Nat.mul_one] at hr
      refine ⟨_, _, hr, .inr ⟨g, cap, _, by simp, hBg, setRow_heap w g cur _ E _ hg, by simpa using hroom, ?_, hcm, ?_⟩, ⟨rfl, rfl, rfl, by simp, fun k _ hk => setRow_other w g k _ (fun e => hk (by simp [Value.ownBlock, e]))⟩, .inl rfl⟩
      · simp only [List.size_toArray, List.length_append, List.length_take, List.length_drop, Array.length_toList]
        omega
      · rw [htk, List.length_append]
        have : (xs ++ news).length = xs.length + news.length := by simp
        rw [← this]
        exact List.take_left
    · have holds : ∀ j u, xs[j]? = some u → w.cell? ((⟨g, 0, none⟩ : Addr).add j) = some u := by
        intro j u hu
        have e : (⟨g, 0, none⟩ : Addr).add j = ⟨g, j, none⟩ := add_zero' g j
        rw [e, cell_of_row w g j cur E (0, 0) hg]
        have hj : j < xs.length := by
          apply Classical.byContradiction
          intro hc'
          simp [hc'] at hu
        rw [← htk, List.getElem?_take, if_pos hj] at hu
        simpa using hu
      obtain ⟨v', w', hr, h2, h3⟩ := run_append_arg_grows (P := P) w t ty E i z 1 bytes ht hi hz hs hby hz1 (by decide) ⟨g, 0, none⟩ xs.length cap xs (by simp) holds a news.length c news hl hnews (by omega) hm hb
      refine ⟨v', w', hr, ?_, ⟨h3.os, h3.tape, h3.output, h3.size, fun k hk _ => h3.block k hk (by simp)⟩, .inr (fun k hk => (h2.lt k hk).1)⟩
      exact (OwnV.of_owns (n := xs.length + news.length) (by simpa using h2)).lower hB
theorem wpList_append_v {P : Program} (w : World) {ops : Array Oper} {rest : List Oper} {o : Oper} {a : Act} {Q : Exit → Act → World → Prop} (hgd : o.guard = none) (s x : Operand) (t : TypeId)
    (ho : o.op = .call { callee := .builtin .append, args := #[s, x], argTypes := #[t, t] }) (E : TypeId) (z : Value) (bytes : Nat) (ht : P.underlying t = some (.slice E))
    (hinfo : (P.info? E).map (fun i => (i.zero, i.size, i.bytes)) = some (some z, 1, bytes)) (hz1 : z.cells.size = 1) (B : Nat) (v : Value) (xs : List Value) (hs : a.eval s = v) (hM : OwnV E B w v xs) (hB : B ≤ w.heap.size)
    (ad : Addr) (m c : Nat) (news : List Value) (hx : a.eval x = .slice (some ad) m c) (hl : news.length = m) (hnews : ∀ j u, news[j]? = some u → w.cell? (ad.add j) = some u) (hone : ∀ u ∈ news, u.oneCell' = true)
    (hb : (xs.length + news.length) * bytes ≤ 140737488355328) (hm : xs.length + news.length ≤ maxLen)
    (h : ∀ v' w', OwnV E B w' v' (xs ++ news) → w.grownBy w' v.ownBlock → (v'.ownBlock = v.ownBlock ∨ Frm w.heap.size v') → wpList P ops Q rest (a.put o.dst v') w') : wpList P ops Q (o :: rest) a w := by
  refine wpList_plain hgd fun K' hK => ?_
  subst hl
  obtain ⟨v', w', hrun, r1, r2, r3⟩ := run_append_v (P := P) w t o.type E z bytes ht hinfo hz1 B v xs hM hB ad c news hnews hone hb hm
  unfold Oper.wp
  simp [execOp, ho, resolve, invoke, builtin, hs, hx, hrun, Result.andThen]
  exact hK _ _ (h v' w' r1 r2 r3)
theorem wpList_append_w {P : Program} (w : World) {ops : Array Oper} {rest : List Oper} {o : Oper} {a : Act} {Q : Exit → Act → World → Prop} (hgd : o.guard = none) (s x : Operand) (t : TypeId)
    (ho : o.op = .call { callee := .builtin .append, args := #[s, x], argTypes := #[t, t] }) (E : TypeId) (z : Value) (bytes : Nat) (ht : P.underlying t = some (.slice E))
    (hinfo : (P.info? E).map (fun i => (i.zero, i.size, i.bytes)) = some (some z, 1, bytes)) (hz1 : z.cells.size = 1) (B : Nat) (v : Value) (xs : List Value) (hs : a.eval s = v) (hM : OwnV E B w v xs) (hB : B ≤ w.heap.size)
    (ad : Addr) (c : Nat) (nv : Value) (hx : a.eval x = .slice (some ad) 1 c) (hnews : ∀ j u, ([nv])[j]? = some u → w.cell? (ad.add j) = some u) (hone : nv.oneCell' = true)
    (n : Nat) (hn : xs.length = n) (hb : (n + 1) * bytes ≤ 140737488355328) (hm : n + 1 ≤ 1000000)
    (h : ∀ v' w', OwnV E B w' v' (xs ++ [nv]) → w.grownBy w' v.ownBlock → (v'.ownBlock = v.ownBlock ∨ Frm w.heap.size v') → wpList P ops Q rest (a.put o.dst v') w') : wpList P ops Q (o :: rest) a w :=
  wpList_append_v w hgd s x t ho E z bytes ht hinfo hz1 B v xs hs hM hB ad 1 c [nv] hx rfl hnews (fun u hu => by obtain rfl := List.mem_singleton.1 hu; exact hone) (by rw [hn]; exact hb) (by rw [hn]; unfold maxLen; simp; omega) h
/-- The slice value v holds the rows L (values and what they hold): it and each of them lie in a block of their own. -/
structure Rws (B : Nat) (w : World) (v : Value) (L : List (Value × List Int)) : Prop where
  own : OwnV 22 B w v (L.map (·.1))
  ok : ∀ r ∈ L, Mine 3 .i64 B w r.1 r.2
  ne : ∀ r ∈ L, ∀ g, r.1.ownBlock = some g → v.ownBlock ≠ some g
theorem Rws.nil (B : Nat) (w : World) : Rws B w (.slice none 0 0) [] := ⟨OwnV.nil _ _ _, by simp, by simp⟩
theorem Rws.below {B : Nat} {w w' : World} {v : Value} {L : List (Value × List Int)} (h : Rws B w v L) (hb : Below w.heap.size w w') : Rws B w' v L :=
  ⟨h.own.below hb, fun r hr => (h.ok r hr).below hb, h.ne⟩
theorem Mine.one {E : TypeId} {K : IntKind} {B : Nat} {w : World} {v : Value} {xs : List Int} (h : Mine E K B w v xs) : v.oneCell' = true := by
  obtain ⟨ao, c, rfl, _⟩ := h.sl
  rfl
/-- A row more. -/
theorem Rws.push {B : Nat} {w w' : World} {v v' rv : Value} {L : List (Value × List Int)} {xs : List Int} (h : Rws B w v L) (hr : Mine 3 .i64 B w rv xs) (hne : ∀ g, rv.ownBlock = some g → v.ownBlock ≠ some g)
    (ho : OwnV 22 B w' v' (L.map (·.1) ++ [rv])) (hg : w.grownBy w' v.ownBlock) (hv : v'.ownBlock = v.ownBlock ∨ Frm w.heap.size v') : Rws B w' v' (L ++ [(rv, xs)]) := by
  have all : ∀ s ∈ L ++ [(rv, xs)], Mine 3 .i64 B w s.1 s.2 ∧ ∀ g, s.1.ownBlock = some g → v.ownBlock ≠ some g := fun s hs => by
    rcases List.mem_append.1 hs with h1 | h1
    · exact ⟨h.ok s h1, h.ne s h1⟩
    · obtain rfl := List.mem_singleton.1 h1
      exact ⟨hr, hne⟩
  refine ⟨by rw [List.map_append]; exact ho, fun s hs => (all s hs).1.kept hg ?_, fun s hs g hgb e => ?_⟩
  · cases hb : s.1.ownBlock with
    | none => exact .inl rfl
    | some g => exact .inr (fun e => (all s hs).2 g hb e.symm)
  · rcases hv with h1 | h1
    · rw [h1] at e
      exact (all s hs).2 g hgb e
    · have := h1 g e
      have := ((all s hs).1.own g hgb).2
      omega
theorem Rws.sls {B : Nat} {w : World} {v : Value} {L : List (Value × List Int)} (h : Rws B w v L) : ∃ ao cap, v = .slice ao L.length cap ∧ L.length ≤ cap ∧ cap ≤ maxLen ∧ Sls w ao (L.map (·.2)) := by
  obtain ⟨ao, cap, e, h1, h2⟩ := h.own.form
  rw [List.length_map] at e h1
  refine ⟨ao, cap, e, h1, h2, fun i hi => ?_⟩
  have hi' : i < L.length := by simpa using hi
  obtain ⟨g, c, e2, hg, hcell⟩ := h.own.cell (i := i) (by simpa using hi')
  rw [e] at e2
  simp only [Value.slice.injEq] at e2
  obtain ⟨rfl, _, _⟩ := e2
  refine ⟨g, 0, (L[i]'hi').1, rfl, hg, ?_, ?_⟩
  · rw [Nat.zero_add, hcell]
    simp [hi']
  · have := (h.ok _ (List.getElem_mem hi')).sl
    simpa [hi'] using this
theorem rows_one {W : World} {rv : Value} : ∀ j u, ([rv])[j]? = some u → (W.alloc (.cells #[rv] 22)).cell? ((⟨W.heap.size, 0, none⟩ : Addr).add j) = some u := by
  intro j u hu
  cases j with
  | zero =>
    simp at hu
    subst hu
    have e : (⟨W.heap.size, 0, none⟩ : Addr).add 0 = ⟨W.heap.size, 0, none⟩ := by simp [Addr.add]
    rw [e, cell_of_row _ W.heap.size 0 _ _ (0, 0) (heap_alloc_new W _)]
    rfl
  | succ j => simp at hu
/-- What a call returns that returns rows of its own. -/
def RetR (w : World) (rows : List (List Int)) (e : Ending) (w' : World) : Prop := Below w.heap.size w w' ∧ ∃ v L, e = .returned v ∧ Rws w.heap.size w' v L ∧ L.map (·.2) = rows
/-- The first rows and columns. -/
def cutR (rows : List (List Int)) (most : Nat) : List (List Int) := (rows.take most).map (·.take most)
theorem map_take_next' {α β : Type} {f : α → β} {xs : List α} {i : Nat} {d : α} (h : i < xs.length) : (xs.take (i + 1)).map f = (xs.take i).map f ++ [f (xs[i]?.getD d)] := by
  rw [List.take_add_one, List.map_append, List.getElem?_eq_getElem h]
  rfl
end Go.Proofs.YtdnheaafcbihbaaGreat

set_option linter.unusedVariables false
set_option linter.unusedSimpArgs false
namespace Go.Proofs.YtdnheaafcbihbaaGreat
open Go Go.RowKit Go.Deep
open FFld (ints)
/-- What Echelon returns. -/
def EcRet (s : FFld.ESt) (w : World) (e : Ending) (w' : World) : Prop := Below w.heap.size w w' ∧ ∃ G, e = .returned (.tuple #[.slice (some ⟨G, 0, none⟩) s.cols.length s.cols.length, .int .i64 0]) ∧ Sls w' (some ⟨G, 0, none⟩) ((s.A.take s.cols.length).map ints)
/-- What Solve returns. -/
def SlRet (D : FFld.FD) (s : FFld.ESt) (bl : List Nat) (wd n : Nat) (w : World) (e : Ending) (w' : World) : Prop := Below w.heap.size w w' ∧
  ((∃ i, s.cols.length ≤ i ∧ i < n ∧ sopV D s bl i ≠ 0 ∧ e = .returned (.tuple #[.slice none 0 0, .int .i64 4])) ∨
   ((∀ j, s.cols.length ≤ j → j < n → sopV D s bl j = 0) ∧ ∃ vx, e = .returned (.tuple #[vx, .int .i64 0]) ∧ Sl .i64 w' vx (ints (solF D s bl wd s.cols.length))))
end Go.Proofs.YtdnheaafcbihbaaGreat

set_option linter.unusedVariables false
set_option linter.unusedSimpArgs false
namespace Go.Proofs.YtdnheaafcbihbaaGreat
namespace FFld
/-- What the reference takes off a row is what the program adds to it. -/
theorem take_off {D : FD} (h : PK D.p D.k D.m) {t y : Nat} (ht : t < D.p ^ D.k) (hy : y < D.p ^ D.k) : pscl D.p D.k (D.p - 1) (pmul D.p D.k D.m t D.k y) = pmul D.p D.k D.m y D.k (negF D t) := by
  unfold negF
  rw [pmul_comm h _ _ hy (pscl_lt h _ _), pmul_scl h]
end FFld
open Go Go.RowKit Go.Deep
open FFld (ints)
/-- The rows lie in blocks of their own. -/
def DisR (L : List (Value × List Int)) : Prop := ∀ (i j g : Nat), L[i]?.bind (fun r => r.1.ownBlock) = some g → L[j]?.bind (fun r => r.1.ownBlock) = some g → i = j
/-- Block G holds the headers of n rows of wd elements each, the row i in the block H i. -/
structure Mat (B : Nat) (w : World) (G n wd : Nat) (H C : Nat → Nat) (A : List (List Nat)) : Prop where
  len : A.length = n
  hdr : ∃ cur, w.heap[G]? = some (.cells cur 22 (0, 0)) ∧ ∀ i, i < n → cur[i]? = some (.slice (some ⟨H i, 0, none⟩) wd (C i))
  row : ∀ i, i < n → Wv w (H i) (FFld.rowAt A i)
  wid : ∀ i, i < n → (FFld.rowAt A i).length = wd
  cap : ∀ i, i < n → wd ≤ C i ∧ C i ≤ maxLen
  low : ∀ i, i < n → B ≤ H i ∧ H i ≠ G
  dis : ∀ i j, i < n → j < n → H i = H j → i = j
  gB : B ≤ G
section
variable {B : Nat} {w w' : World} {G n wd : Nat} {H C : Nat → Nat} {A : List (List Nat)}
def swapN (i j k : Nat) : Nat := if k = j then i else if k = i then j else k
end
def hdB (v : Value) : Nat := v.ownBlock.getD 0
def hdC : Value → Nat | .slice _ _ c => c | _ => 0
def valAt (L : List (Value × List Int)) (i : Nat) : Value := (L[i]?.getD (.slice none 0 0, [])).1
end Go.Proofs.YtdnheaafcbihbaaGreat

set_option linter.unusedVariables false
set_option linter.unusedSimpArgs false
namespace Go.Proofs.YtdnheaafcbihbaaGreat
open Go Go.RowKit Go.Deep
open FFld (ints)
end Go.Proofs.YtdnheaafcbihbaaGreat

set_option linter.unusedVariables false
set_option linter.unusedSimpArgs false
namespace Go.Proofs.YtdnheaafcbihbaaGreat
open Go Go.RowKit Go.Deep
open FFld (ints)
/-- A row of elements, made of any numbers. -/
def tamE (D : FFld.FD) (r : List Int) (c : Nat) : Nat := if c < r.length then redN D (r[c]?.getD 0) else 0
def tamR (D : FFld.FD) (r : List Int) (wd : Nat) : List Nat := (List.range wd).map (tamE D r)
def tamM (D : FFld.FD) (rows : List (List Int)) (most : Nat) : List (List Nat) := (rows.take most).map fun r => tamR D r (min (rlen rows 0) most)
end Go.Proofs.YtdnheaafcbihbaaGreat

set_option linter.unusedVariables false
set_option linter.unusedSimpArgs false
namespace Go.Proofs.YtdnheaafcbihbaaGreat
open Go Go.RowKit
open FFld (ints)
theorem four_set {w : World} {g : Nat} {a b c d : Value} {T : TypeId} (h : w.heap[g]? = some (.cells #[a, b, c, d] T (0, 0))) (a' b' c' d' : Value) :
    ((((w.setCell ⟨g, 0, none⟩ a').setCell ⟨g, 1, none⟩ b').setCell ⟨g, 2, none⟩ c').setCell ⟨g, 3, none⟩ d').heap[g]? = some (.cells #[a', b', c', d'] T (0, 0)) := by
  have h1 := heap_setCell_same w g 0 _ T a' h
  have h2 := heap_setCell_same _ g 1 _ T b' h1
  have h3 := heap_setCell_same _ g 2 _ T c' h2
  have h4 := heap_setCell_same _ g 3 _ T d' h3
  simpa using h4
theorem four_frz {w : World} {g : Nat} {a b c d : Value} {T : TypeId} (h : w.heap[g]? = some (.cells #[a, b, c, d] T (0, 0))) :
    w.frozen? ⟨g, 0, none⟩ = false ∧ w.frozen? ⟨g, 1, none⟩ = false ∧ w.frozen? ⟨g, 2, none⟩ = false ∧ w.frozen? ⟨g, 3, none⟩ = false :=
  ⟨frozen_of_row w g 0 _ T h, frozen_of_row w g 1 _ T h, frozen_of_row w g 2 _ T h, frozen_of_row w g 3 _ T h⟩
theorem four_end {w W : World} {g : Nat} {a b c d : Value} {T : TypeId} (h : W.heap[g]? = some (.cells #[a, b, c, d] T (0, 0))) (hb : Below w.heap.size w W) (hg : w.heap.size ≤ g) (a' b' c' d' : Value) :
    Below w.heap.size w ((((W.setCell ⟨g, 0, none⟩ a').setCell ⟨g, 1, none⟩ b').setCell ⟨g, 2, none⟩ c').setCell ⟨g, 3, none⟩ d') ∧
    ((((W.setCell ⟨g, 0, none⟩ a').setCell ⟨g, 1, none⟩ b').setCell ⟨g, 2, none⟩ c').setCell ⟨g, 3, none⟩ d').cell? ⟨g, 0, none⟩ = some a' ∧
    ((((W.setCell ⟨g, 0, none⟩ a').setCell ⟨g, 1, none⟩ b').setCell ⟨g, 2, none⟩ c').setCell ⟨g, 3, none⟩ d').cell? ⟨g, 1, none⟩ = some b' ∧
    ((((W.setCell ⟨g, 0, none⟩ a').setCell ⟨g, 1, none⟩ b').setCell ⟨g, 2, none⟩ c').setCell ⟨g, 3, none⟩ d').cell? ⟨g, 2, none⟩ = some c' ∧
    ((((W.setCell ⟨g, 0, none⟩ a').setCell ⟨g, 1, none⟩ b').setCell ⟨g, 2, none⟩ c').setCell ⟨g, 3, none⟩ d').cell? ⟨g, 3, none⟩ = some d' :=
  ⟨(((hb.setCell (p := ⟨g, 0, none⟩) hg _).setCell (p := ⟨g, 1, none⟩) hg _).setCell (p := ⟨g, 2, none⟩) hg _).setCell (p := ⟨g, 3, none⟩) hg _, four_cells (four_set h a' b' c' d')⟩
abbrev rzero : Value := .agg #[.int .i64 0, .int .i64 0, .int .i64 0, .int .i64 0]
abbrev rzbox : Obj := .cells #[.int .i64 0, .int .i64 0, .int .i64 0, .int .i64 0] 47
/-- What New returns: the field, or none. -/
def RnRet (q : Int) (w : World) (e : Ending) (w' : World) : Prop := Below w.heap.size w w' ∧ ((∃ D : FFld.FD, D.Ok ∧ q = D.q ∧ e = .returned (.tuple #[rfv D.q D.p D.k D.m, .bool true])) ∨ (¬ FFld.Fit q ∧ e = .returned (.tuple #[rzero, .bool false])))
set_option maxRecDepth 20000 in
set_option maxHeartbeats 4000000 in
theorem rnew_any (q : Int) (w : World) (hr0 : -9223372036854775808 ≤ q) (hr1 : q ≤ 9223372036854775807) :
    Calls Tryz.prog 31 #[.int .i64 q] w (RnRet q w) := by
  have HX0 : Kept (Bxs w [rzbox] (w.alloc rzbox)) := ⟨(Bxs.start w).alloc (by simp) _⟩
  by_cases hin : 2 ≤ q ∧ q ≤ 65536
  · obtain ⟨n0, rfl⟩ : ∃ n0 : Nat, q = n0 := ⟨q.toNat, by omega⟩
    have h2 : 2 ≤ n0 := by omega
    have h6 : n0 ≤ 65536 := by omega
    clear hin hr0 hr1
    go_enter Tryz.func31, Tryz.ntmps31
    go_wp2
    go_loopw [4] (fun pv wr => ∃ (p : Nat), 2 ≤ p ∧ p ≤ n0 ∧ pv = .int .i64 p ∧ Kept (∀ i, 2 ≤ i → i < p → ¬ i ∣ n0) ∧ w.alloc rzbox = wr) (fun pv _ => n0 - (intOf pv).toNat)
    case atStart => exact ⟨2, Nat.le_refl _, h2, rfl, ⟨fun i h1 h2 => by omega⟩, rfl⟩
    case round =>
      obtain ⟨p, hp2, hpn, rfl, hno, rfl⟩ := hrel
      obtain ⟨s, hs⟩ : ∃ s, n0 % p = s := ⟨_, rfl⟩
      have es : (n0 : Int) % p = s := by rw [← hs]; rfl
      by_cases hs0 : s = 0
      · subst hs0
        have hd : p ∣ n0 := Nat.dvd_of_mod_eq_zero hs
        have hpr := FFld.prime_least hp2 hd hno.out
        have HPR := Kept.mk hpr
        have HD := Kept.mk hd
        have ez : (((0 : Nat) : Int) != 0) = false := rfl
        clear hs hd hpr hno
        go_wp2
        go_loopw [5, 6] (fun kv nv wr => ∃ (k n : Nat), 1 ≤ n ∧ n ≤ 65536 ∧ k ≤ 16 ∧ kv = .int .i64 k ∧ nv = .int .i64 n ∧ Kept (n * p ^ k = n0) ∧ w.alloc rzbox = wr) (fun _ nv _ => (intOf nv).toNat)
        case atStart => exact ⟨0, n0, by omega, h6, by omega, rfl, rfl, ⟨by simp⟩, rfl⟩
        case round =>
          obtain ⟨k, n, hn1, hn6, hk16, rfl, rfl, hnk, rfl⟩ := hrel
          by_cases h1 : 1 < n
          · obtain ⟨s, hs⟩ : ∃ s, n % p = s := ⟨_, rfl⟩
            obtain ⟨n', hn'⟩ : ∃ n', n / p = n' := ⟨_, rfl⟩
            have es : (n : Int) % p = s := by rw [← hs]; rfl
            have en : (n : Int) / p = n' := by rw [← hn']; rfl
            by_cases hs0 : s = 0
            · subst hs0
              have ez : (((0 : Nat) : Int) != 0) = false := rfl
              have hnn : n = p * n' := by rw [← hn']; exact (Nat.mul_div_cancel' (Nat.dvd_of_mod_eq_zero hs)).symm
              have hlt : n' < n := by rw [← hn']; exact Nat.div_lt_self (by omega) hp2
              have hn'1 : 1 ≤ n' := by
                rcases Nat.eq_zero_or_pos n' with h | h
                · subst h; omega
                · exact h
              have HNK : Kept (n' * p ^ (k + 1) = n0) := ⟨by rw [← hnk.out, hnn, Nat.pow_succ, Nat.mul_comm p n', Nat.mul_assoc, Nat.mul_comm p]⟩
              have hk15 : k + 1 ≤ 16 := by
                have h3 : p ^ (k + 1) ≤ n0 := by rw [← HNK.out]; exact Nat.le_mul_of_pos_left _ hn'1
                rcases Nat.lt_or_ge 16 (k + 1) with h | h
                · have h4 : 2 ^ 17 ≤ p ^ (k + 1) := Nat.le_trans (Nat.pow_le_pow_right (by omega) h) (Nat.pow_le_pow_left hp2 _)
                  rw [show (2 : Nat) ^ 17 = 131072 from rfl] at h4
                  generalize p ^ (k + 1) = z at *
                  omega
                · exact h
              clear hs hn' hnn hnk
              go_wp2
              go_roundw
              case rel => exact ⟨k + 1, n', hn'1, by omega, hk15, by go_num, rfl, HNK, trivial⟩
              case measure => simp [intOf] <;> omega
            · have ez : ((s : Int) != 0) = true := by rw [bne_iff_ne]; omega
              have hnf : Kept (¬ FFld.Fit (n0 : Int)) := ⟨FFld.Fit.no (by rw [hnk.out]) HPR.out (by rw [hnk.out]; exact HD.out) h1 (fun h => hs0 (by rw [← hs]; exact Nat.mod_eq_zero_of_dvd h))⟩
              obtain ⟨f0, f1, f2, f3⟩ := four_frz HX0.out.b0
              obtain ⟨c0, c1, c2, c3⟩ := four_cells HX0.out.b0
              clear hs hn' hnk hs0
              go_wp2
              exact bodyPost_ret (v := .tuple #[rzero, .bool false]) (by simp [results, Tryz.results31, go_sem, c0, c1, c2, c3]) rfl ⟨HX0.out.1, .inr ⟨hnf.out, rfl⟩⟩
          · obtain rfl : n = 1 := by omega
            have hqk : p ^ k = n0 := by have := hnk.out; rw [Nat.one_mul] at this; exact this
            have hk1 : 1 ≤ k := by
              rcases Nat.eq_zero_or_pos k with h | h
              · subst h; rw [Nat.pow_zero] at hqk; omega
              · exact h
            obtain ⟨m, g, hD⟩ := FFld.FD.exists p k HPR.out hk1 (by rw [hqk]; exact h6)
            have hq : (⟨p, k, m, g⟩ : FFld.FD).q = n0 := hqk
            have HQK := Kept.mk hqk
            have HDD := Kept.mk hD
            have HQQ := Kept.mk hq
            obtain ⟨f0, f1, f2, f3⟩ := four_frz HX0.out.b0
            clear hnk hqk hq
            by_cases hk1' : k = 1
            · subst hk1'
              have hm : m = p := hD.pre.mod1 rfl
              have ek : (((1 : Nat) : Int) == 1) = true := rfl
              have HB : Kept (Bxs w [rbox n0 p 1 p] (w.alloc (rbox n0 p 1 p))) := ⟨(Bxs.start w).alloc (by simp) _⟩
              obtain ⟨e0, e1, e2, e3⟩ := four_cells HB.out.b0
              have HM := Kept.mk hm
              clear hD hm
              go_wp2
              exact bodyPost_ret (v := .tuple #[rfv n0 p 1 p, .bool true]) (by simp [results, Tryz.results31, go_sem, e0, e1, e2, e3]) rfl ⟨HB.out.1, .inl ⟨_, HDD.out, by rw [HQQ.out], by rw [HQQ.out]; show _ = Ending.returned (.tuple #[rfv n0 p 1 m, .bool true]); rw [HM.out]⟩⟩
            · have hk2 : 2 ≤ k := by omega
              have ek : ((k : Int) == 1) = false := by rw [beq_eq_false_iff_ne]; omega
              have hpq : p ^ k ≤ 65536 := by have := HQK.out; omega
              have hqm : n0 ≤ m := by have := (hD.pre.mod2 hk2).1; rw [HQQ.out] at this; exact this
              have hm2 : m < 131072 := by have := (hD.pre.mod2 hk2).2.1; rw [HQQ.out] at this; have e : m < 2 * n0 := this; omega
              have hp256 : p ≤ 256 := by
                rcases Nat.lt_or_ge 256 p with h | h
                · have h3 : p ^ 2 ≤ p ^ k := Nat.pow_le_pow_right (by omega) hk2
                  have h4 := nmul_le (A := p) (B := p) (a := 257) (b := 257) h h
                  rw [Nat.pow_two] at h3
                  omega
                · exact h
              have hpk1 : p ^ (k + 1) ≤ 1099511627776 := by
                rw [Nat.pow_succ]
                exact Nat.le_trans (nmul_le (A := 65536) (B := 256) hpq hp256) (by omega)
              have hmk1 : 131072 ≤ p ^ (k + 1) ∨ 2 * n0 ≤ p ^ (k + 1) := .inr (by rw [Nat.pow_succ', HQK.out]; exact Nat.mul_le_mul_right _ hp2)
              have hRest := Kept.mk (fun W (c x d : Nat) (hd : 1 ≤ d) (hd2 : 2 * d ≤ k) (hc : c ≤ m) (h1 : p ^ d ≤ x) (h2 : x < 2 * p ^ d) => rrest_any c x p d (k + 1) W hp2 (by omega) hd (by
                have := (hD.pre.mod2 hk2).2.1
                rw [HQQ.out] at this
                have e : m < 2 * n0 := this
                have e2 : 2 * n0 ≤ p ^ (k + 1) := by rw [Nat.pow_succ', HQK.out]; exact Nat.mul_le_mul_right _ hp2
                omega) h1 h2 hpk1 (by
                have := Nat.pow_le_pow_right (n := p) (by omega) (show d ≤ k by omega)
                omega))
              have HIS := Kept.mk (fun (c : Nat) (h1 : n0 ≤ c) (hc : c ≤ m) (hi : FFld.Irr p k c) => FFld.FD.Ok.mod_is hD hk2 (c := c) (by rw [HQQ.out]; exact h1) hc hi)
              have HNOT := Kept.mk (fun (c : Nat) (hc : c ≤ m) (hi : ¬ FFld.Irr p k c) => FFld.FD.Ok.mod_not hD hk2 (c := c) hc hi)
              have hk17 : k ≤ 17 := by omega
              have hpd := Kept.mk (fun (d : Nat) (hd : 2 * d ≤ k) => show p ^ d ≤ 256 from by
                rcases Nat.lt_or_ge 256 (p ^ d) with h | h
                · have h3 : p ^ (2 * d) ≤ p ^ k := Nat.pow_le_pow_right (by omega) hd
                  have h4 := nmul_le (A := p ^ d) (B := p ^ d) (a := 257) (b := 257) h h
                  rw [Nat.two_mul, Nat.pow_add] at h3
                  generalize p ^ d * p ^ d = z at *
                  omega
                · exact h)
              have hk16' := hk16
              clear hD hmk1 hpk1 hpq
              go_wp2
              go_loopw [7] (fun mv wr => ∃ (c : Nat), n0 ≤ c ∧ c ≤ m ∧ mv = .int .i64 c ∧ Kept (Bxs w [rzbox] wr)) (fun mv _ => m - (intOf mv).toNat)
              case atStart => exact ⟨n0, Nat.le_refl _, hqm, rfl, HX0⟩
              case round =>
                obtain ⟨c, hc0, hcm, rfl, hbx⟩ := hrel
                go_wp2
                go_loopw [8, 9, 10] (fun ov fv dv wr => ∃ (ok : Bool) (f d : Nat), ov = .bool ok ∧ fv = .int .i64 f ∧ dv = .int .i64 d ∧ 1 ≤ d ∧ d ≤ 17 ∧ f ≤ 65536 ∧ Kept (ok = true → f = p ^ d) ∧ Kept (FFld.DvAt_ p k c d f ok) ∧ Kept (Bxs w [rzbox] wr)) (fun _ _ dv _ => 18 - (intOf dv).toNat)
                case atStart => exact ⟨true, p, 1, rfl, rfl, rfl, Nat.le_refl _, by omega, by omega, ⟨fun _ => (Nat.pow_one p).symm⟩, ⟨by have := FFld.DvAt_.start p k c; rw [Nat.pow_one] at this; exact this⟩, hbx⟩
                case round =>
                  obtain ⟨ok, f, d, rfl, rfl, rfl, hd1, hd17, hf6, hfp, hat, hbx⟩ := hrel
                  cases ok with
                  | false =>
                    have hN := HNOT.out c hcm hat.out
                    by_cases hlt : 2 * d ≤ k
                    · go_wp2
                      go_roundw
                      case rel => exact ⟨c + 1, by omega, hN, by go_num, hbx⟩
                      case measure => simp [intOf] <;> omega
                    · go_wp2
                      go_roundw
                      case rel => exact ⟨c + 1, by omega, hN, by go_num, hbx⟩
                      case measure => simp [intOf] <;> omega
                  | true =>
                    have hfe := hfp.out rfl
                    by_cases hlt : 2 * d ≤ k
                    · have hf256 : f ≤ 256 := by rw [hfe]; exact hpd.out d hlt
                      have HFE := Kept.mk hfe
                      obtain ⟨f', hf'⟩ : ∃ f', f * p = f' := ⟨_, rfl⟩
                      have hf'e : f' = p ^ (d + 1) := by rw [← hf', hfe, Nat.pow_succ]
                      have hf'6 : f' ≤ 65536 := by
                        rw [hf'e]
                        exact Nat.le_trans (Nat.pow_le_pow_right (by omega) (show d + 1 ≤ k by omega)) (by rw [HQK.out]; exact h6)
                      have ef : wrap64 ((f : Int) * p) = f' := wmul hf' (by omega)
                      have HF' := Kept.mk hf'e
                      clear hfe hf' hf'e
                      go_wp2
                      go_loopw [8, 11] (fun ov xv wr => ∃ (ok : Bool) (x : Nat), ov = .bool ok ∧ xv = .int .i64 x ∧ f ≤ x ∧ x ≤ 600 ∧ Kept (ok = true → x ≤ 2 * f) ∧ Kept (FFld.DvAt_ p k c d x ok) ∧ Kept (Bxs w [rzbox] wr)) (fun _ xv _ => 601 - (intOf xv).toNat)
                      case atStart => exact ⟨true, f, rfl, rfl, Nat.le_refl _, by omega, ⟨fun _ => by omega⟩, hat, hbx⟩
                      case round =>
                        obtain ⟨ok, x, rfl, rfl, hfx, hx6, hx2, hat, hbx⟩ := hrel
                        cases ok with
                        | false =>
                          by_cases hxl : x < 2 * f
                          · go_wp2
                            go_roundw
                            case rel => exact ⟨false, f', d + 1, rfl, congrArg (Value.int .i64) ef, by go_num, by omega, by omega, hf'6, ⟨fun h => by cases h⟩, hat, hbx⟩
                            case measure => simp [intOf] <;> omega
                          · go_wp2
                            go_roundw
                            case rel => exact ⟨false, f', d + 1, rfl, congrArg (Value.int .i64) ef, by go_num, by omega, by omega, hf'6, ⟨fun h => by cases h⟩, hat, hbx⟩
                            case measure => simp [intOf] <;> omega
                        | true =>
                          have hx2' := hx2.out rfl
                          by_cases hxl : x < 2 * f
                          · obtain ⟨v, hv⟩ : ∃ v, FFld.pmul p d x 1 (k + 1) c = v := ⟨_, rfl⟩
                            have hC := Kept.mk (fun W => hRest.out W c x d hd1 hlt hcm (by rw [← HFE.out]; exact hfx) (by rw [← HFE.out]; exact hxl))
                            rw [hv] at hC
                            by_cases hv0 : v = 0
                            · subst hv0
                              have HD2 := Kept.mk (FFld.DvAt_.fail hd1 hlt (by rw [← HFE.out]; exact hfx) (by rw [← HFE.out]; exact hxl) hv (x + 1))
                              have ev : (((0 : Nat) : Int) != 0) = false := rfl
                              clear hv
                              go_wp2_with fail
                              refine (hC.out _).mono ?_
                              rintro e w3 ⟨hb3, rfl⟩
                              have HX3 := Kept.mk (hbx.out.below hb3)
                              clear hb3
                              go_wp2
                              go_roundw
                              case rel => exact ⟨false, x + 1, rfl, by go_num, by omega, by omega, ⟨fun h => by cases h⟩, HD2, HX3⟩
                              case measure => simp [intOf] <;> omega
                            · have HD2 := Kept.mk (hat.out.next (by rw [hv]; exact hv0))
                              have ev : ((v : Int) != 0) = true := by rw [bne_iff_ne]; omega
                              clear hv hv0
                              go_wp2_with fail
                              refine (hC.out _).mono ?_
                              rintro e w3 ⟨hb3, rfl⟩
                              have HX3 := Kept.mk (hbx.out.below hb3)
                              clear hb3
                              go_wp2
                              go_roundw
                              case rel => exact ⟨true, x + 1, rfl, by go_num, by omega, by omega, ⟨fun _ => by omega⟩, HD2, HX3⟩
                              case measure => simp [intOf] <;> omega
                          · obtain rfl : x = 2 * f := by omega
                            have HD2 : Kept (FFld.DvAt_ p k c (d + 1) (p ^ (d + 1)) true) := ⟨by have := hat.out; rw [HFE.out] at this; exact this.row⟩
                            rw [← HF'.out] at HD2
                            go_wp2
                            go_roundw
                            case rel => exact ⟨true, f', d + 1, rfl, congrArg (Value.int .i64) ef, by go_num, by omega, by omega, hf'6, ⟨fun _ => HF'.out⟩, HD2, hbx⟩
                            case measure => simp [intOf] <;> omega
                    · have hI := HIS.out c hc0 hcm (hat.out.done (by omega))
                      obtain ⟨f0, f1, f2, f3⟩ := four_frz hbx.out.b0
                      obtain ⟨c0, c1, c2, c3⟩ := four_cells hbx.out.b0
                      obtain ⟨hb, e0, e1, e2, e3⟩ := four_end hbx.out.b0 hbx.out.1 (Nat.le_refl _) (.int .i64 n0) (.int .i64 p) (.int .i64 k) (.int .i64 c)
                      have HB := Kept.mk hb
                      have HI := Kept.mk hI
                      clear hb hI hfe
                      go_wp2
                      exact bodyPost_ret (v := .tuple #[rfv n0 p k c, .bool true]) (by simp [results, Tryz.results31, go_sem, e0, e1, e2, e3]) rfl ⟨HB.out, .inl ⟨_, HDD.out, by rw [HQQ.out], by rw [HQQ.out]; show _ = Ending.returned (.tuple #[rfv n0 p k m, .bool true]); rw [HI.out]⟩⟩
      · have hlt : p + 1 ≤ n0 := by
          rcases Nat.lt_or_ge p n0 with h | h
          · exact h
          · have : p = n0 := by omega
            subst this
            rw [Nat.mod_self] at hs
            omega
        have HNO := Kept.mk (show ∀ i, 2 ≤ i → i < p + 1 → ¬ i ∣ n0 from fun i h1 h2 hdv => by
          by_cases e : i = p
          · subst e; rw [Nat.mod_eq_zero_of_dvd hdv] at hs; omega
          · exact hno.out i h1 (by omega) hdv)
        have ez : ((s : Int) != 0) = true := by rw [bne_iff_ne]; omega
        clear hs hs0
        go_wp2
        go_roundw
        case rel => exact ⟨p + 1, by omega, hlt, by go_num, HNO, trivial⟩
        case measure => simp [intOf] <;> omega
  · have hnf : Kept (¬ FFld.Fit q) := ⟨fun h => hin h.range⟩
    obtain ⟨f0, f1, f2, f3⟩ := four_frz HX0.out.b0
    obtain ⟨c0, c1, c2, c3⟩ := four_cells HX0.out.b0
    have htest : q < 2 ∨ (¬ q < 2 ∧ 65536 < q) := by omega
    clear hin
    go_enter Tryz.func31, Tryz.ntmps31
    rcases htest with h | ⟨h, h'⟩
    all_goals
      go_wp2
      exact bodyPost_ret (v := .tuple #[rzero, .bool false]) (by simp [results, Tryz.results31, go_sem, c0, c1, c2, c3]) rfl ⟨HX0.out.1, .inr ⟨hnf.out, rfl⟩⟩
end Go.Proofs.YtdnheaafcbihbaaGreat

set_option linter.unusedVariables false
set_option linter.unusedSimpArgs false
namespace Go.Proofs.YtdnheaafcbihbaaGreat
open Go Go.RowKit Go.Deep
open FFld (ints)
/-- What some returns: a field, by both, of an order up to most or 27. -/
def SoRet (most : Int) (w : World) (e : Ending) (w' : World) : Prop := Below w.heap.size w w' ∧ ∃ (D : FFld.FD) (b : Nat), D.Ok ∧ ((D.q : Int) ≤ most ∨ D.q ≤ 27) ∧ w.heap.size ≤ b ∧ FldB D w' b ∧ e = .returned (.tuple #[.pointer (some ⟨b, 0, none⟩), rfv D.q D.p D.k D.m])
def smL : List Nat := [2, 3, 4, 5, 7, 8, 9, 11, 13, 16, 25, 27]
theorem Row.grown {E : TypeId} {K : IntKind} {w w' : World} {g k : Nat} {xs : List Int} (h : Row E K w g xs) (hg : w.grownBy w' (some k)) (hne : g ≠ k) : Row E K w' g xs := (hg.block _ h.lt (by simpa using hne)).trans h
end Go.Proofs.YtdnheaafcbihbaaGreat

set_option linter.unusedVariables false
set_option linter.unusedSimpArgs false
namespace Go.Proofs.YtdnheaafcbihbaaGreat
open Go Go.RowKit Go.Deep
open FFld (ints)
end Go.Proofs.YtdnheaafcbihbaaGreat

set_option linter.unusedVariables false
set_option linter.unusedSimpArgs false
namespace Go.Proofs.YtdnheaafcbihbaaGreat
open Go Go.RowKit Go.Deep
open FFld (ints)
end Go.Proofs.YtdnheaafcbihbaaGreat

set_option linter.unusedVariables false
set_option linter.unusedSimpArgs false
namespace Go.Proofs.YtdnheaafcbihbaaGreat
open Go Go.RowKit Go.Deep
open FFld (ints)
namespace FFld
theorem addmF_at {D : FD} (xs : List Nat) (s : Nat) (q : List Nat) (c : Nat) : ∀ (j i : Nat), i < j → s + j ≤ xs.length → (addmF D xs s q c j)[s + i]?.getD 0 = padd D.p D.k (xs[s + i]?.getD 0) (pmul D.p D.k D.m (q[i]?.getD 0) D.k c)
  | 0, i, h, _ => by omega
  | j + 1, i, h, hl => by
    simp only [addmF]
    by_cases e : i = j
    · subst e
      rw [List.getElem?_set_self (by rw [addmF_len]; omega), addmF_old D xs s q c i (s + i) (.inr (Nat.le_refl _))]
      rfl
    · rw [List.getElem?_set_ne (by omega)]
      exact addmF_at xs s q c j i (by omega) (by omega)
end FFld
/-- The sum of the first i rows, each times an element. -/
def totF (D : FFld.FD) (rows : List (List Nat)) (ul : List Nat) (wd : Nat) : Nat → List Nat
  | 0 => List.replicate wd 0
  | i + 1 => FFld.addm D (totF D rows ul wd i) 0 (FFld.rowAt rows i) (ul[i]?.getD 0)
/-- Its element in the column c. -/
def colS (D : FFld.FD) (rows : List (List Nat)) (ul : List Nat) (c : Nat) : Nat → Nat
  | 0 => 0
  | i + 1 => FFld.padd D.p D.k (colS D rows ul c i) (FFld.pmul D.p D.k D.m (ul[i]?.getD 0) D.k (FFld.cellAt rows i c))
/-- w denies m x = b. -/
def dnB (D : FFld.FD) (rows : List (List Nat)) (ul bl : List Nat) (wd n : Nat) : Bool := decide ((∀ c, c < wd → colS D rows ul c n = 0) ∧ sopF D ul bl n ≠ 0)
end Go.Proofs.YtdnheaafcbihbaaGreat

set_option linter.unusedVariables false
set_option linter.unusedSimpArgs false
namespace Go.Proofs.YtdnheaafcbihbaaGreat
namespace FFld
section
variable {D : FD} (hk : PK D.p D.k D.m)
include hk
theorem mul_swap {a b c : Nat} (ha : a < D.p ^ D.k) (hb : b < D.p ^ D.k) (hc : c < D.p ^ D.k) : pmul D.p D.k D.m (pmul D.p D.k D.m a D.k c) D.k b = pmul D.p D.k D.m (pmul D.p D.k D.m a D.k b) D.k c := by
  rw [pmul_assoc hk _ _ _ ha hc hb, pmul_comm hk _ _ hc hb, ← pmul_assoc hk _ _ _ ha hb hc]
/-- The column c of A is the record times b. -/
def Trk (D : FD) (N n c : Nat) (bl : List Nat) (A R : List (List Nat)) : Prop := ∀ i, i < N → cellAt A i c = sopF D (rowAt R i) bl n
end
section
variable {D : FD} {N n W c : Nat} {bl : List Nat} {A R : List (List Nat)}
end
end FFld
end Go.Proofs.YtdnheaafcbihbaaGreat

set_option linter.unusedVariables false
set_option linter.unusedSimpArgs false
namespace Go.Proofs.YtdnheaafcbihbaaGreat
namespace FFld
theorem ext_getD {l m : List Nat} (h : l.length = m.length) (he : ∀ i, i < l.length → l[i]?.getD 0 = m[i]?.getD 0) : l = m := by
  apply List.ext_getElem h
  intro i h1 h2
  have := he i h1
  rw [List.getElem?_eq_getElem h1, List.getElem?_eq_getElem h2] at this
  exact this
theorem take_getD {l : List Nat} {wd i : Nat} (hi : i < wd) : (l.take wd)[i]?.getD 0 = l[i]?.getD 0 := by rw [List.getElem?_take, if_pos hi]
/-- The second elimination is the first one with columns more at its end. -/
structure Tru (wd : Nat) (s s' : ESt) : Prop where
  cols : s'.cols = s.cols
  rcd : s'.R = s.R
  len : s'.A.length = s.A.length
  row : ∀ i, rowAt s.A i = (rowAt s'.A i).take wd
/-- The first c columns are in echelon form. -/
structure Ecf (N c : Nat) (s : ESt) : Prop where
  low : ∀ i, i < s.cols.length → s.cols[i]?.getD 0 < c ∧ cellAt s.A i (s.cols[i]?.getD 0) = 1 ∧ ∀ c', c' < s.cols[i]?.getD 0 → cellAt s.A i c' = 0
  zero : ∀ i, s.cols.length ≤ i → i < N → ∀ c', c' < c → cellAt s.A i c' = 0
end FFld
end Go.Proofs.YtdnheaafcbihbaaGreat

set_option linter.unusedVariables false
set_option linter.unusedSimpArgs false
namespace Go.Proofs.YtdnheaafcbihbaaGreat
namespace FFld
/-- How long a list is without the zeros at its end, of its first n elements. -/
def trmN (l : List Nat) : Nat → Nat
  | 0 => 0
  | n + 1 => if l[n]?.getD 0 = 0 then trmN l n else n + 1
def trm (l : List Nat) : List Nat := l.take (trmN l l.length)
theorem trmN_le (l : List Nat) : ∀ n, trmN l n ≤ n
  | 0 => Nat.le_refl _
  | n + 1 => by
    simp only [trmN]
    split
    · have := trmN_le l n
      omega
    · omega
theorem trmN_is {l : List Nat} {n : Nat} (hz : ∀ i, n ≤ i → l[i]?.getD 0 = 0) (ht : n = 0 ∨ l[n - 1]?.getD 0 ≠ 0) : ∀ d, trmN l (n + d) = n
  | 0 => by
    rcases ht with rfl | ht
    · rfl
    · cases n with
      | zero => rfl
      | succ m =>
        simp only [Nat.add_zero, trmN]
        rw [if_neg (by simpa using ht)]
  | d + 1 => by
    rw [← Nat.add_assoc]
    simp only [trmN]
    rw [if_pos (hz _ (by omega))]
    exact trmN_is hz ht d
theorem trm_is {l : List Nat} {n : Nat} (hn : n ≤ l.length) (hz : ∀ i, n ≤ i → l[i]?.getD 0 = 0) (ht : n = 0 ∨ l[n - 1]?.getD 0 ≠ 0) : trm l = l.take n := by
  unfold trm
  obtain ⟨d, hd⟩ : ∃ d, l.length = n + d := ⟨l.length - n, by omega⟩
  rw [hd, trmN_is hz ht d]
theorem trmN_top (l : List Nat) : ∀ n, trmN l n = 0 ∨ l[trmN l n - 1]?.getD 0 ≠ 0
  | 0 => .inl rfl
  | n + 1 => by
    simp only [trmN]
    split
    · exact trmN_top l n
    · rename_i h
      exact .inr (by simpa using h)
theorem trmN_zero (l : List Nat) : ∀ n i, trmN l n ≤ i → i < n → l[i]?.getD 0 = 0
  | 0, i, _, h => by omega
  | n + 1, i, h1, h2 => by
    simp only [trmN] at h1
    split at h1
    · rename_i e
      by_cases e2 : i = n
      · rw [e2]; exact e
      · exact trmN_zero l n i h1 (by omega)
    · omega
/-- A polynomial: no zero at its end. -/
def Tz (l : List Nat) : Prop := l.length = 0 ∨ l[l.length - 1]?.getD 0 ≠ 0
theorem trm_len (l : List Nat) : (trm l).length = trmN l l.length := by
  unfold trm
  rw [List.length_take]
  have := trmN_le l l.length
  omega
theorem trm_tz (l : List Nat) : Tz (trm l) := by
  unfold Tz
  rw [trm_len]
  rcases trmN_top l l.length with h | h
  · exact .inl h
  · by_cases h0 : trmN l l.length = 0
    · exact .inl h0
    · right
      unfold trm
      rw [take_getD (by omega)]
      exact h
theorem trm_self {l : List Nat} (h : Tz l) : trm l = l := by
  rw [trm_is (n := l.length) (Nat.le_refl _) (fun i hi => by rw [List.getElem?_eq_none hi]; rfl) h, List.take_of_length_le (Nat.le_refl _)]
theorem trm_lt {q : Nat} {l : List Nat} (h : ∀ a ∈ l, a < q) : ∀ a ∈ trm l, a < q := fun a ha => h a (List.mem_of_mem_take ha)
/-- The quotient and the rest. -/
def quoF (D : FD) (ql : List Nat) (inv : Nat) (pl : List Nat) : List Nat := if pl.length < ql.length then [] else (List.range (pl.length + 1 - ql.length)).map fun i => divQ D ql inv (pl.length + 1 - ql.length) pl (pl.length + 1 - ql.length - 1 - i)
def rstF (D : FD) (ql : List Nat) (inv : Nat) (pl : List Nat) : List Nat := if pl.length < ql.length then pl else trm (divF D ql inv (pl.length + 1 - ql.length) pl (pl.length + 1 - ql.length))
theorem quoF_len (D : FD) (ql : List Nat) (inv : Nat) (pl : List Nat) : (quoF D ql inv pl).length ≤ pl.length + 1 - ql.length := by
  unfold quoF
  split
  · exact Nat.zero_le _
  · simp
theorem rstF_lt {D : FD} (hk : PK D.p D.k D.m) (ql : List Nat) (inv : Nat) {pl : List Nat} (hp : ∀ a ∈ pl, a < D.p ^ D.k) : ∀ a ∈ rstF D ql inv pl, a < D.p ^ D.k := by
  unfold rstF
  split
  · exact hp
  · exact trm_lt (divF_lt hk _ _ _ _ hp)
theorem rstF_tz (D : FD) (ql : List Nat) (inv : Nat) {pl : List Nat} (hp : Tz pl) : Tz (rstF D ql inv pl) := by
  unfold rstF
  split
  · exact hp
  · exact trm_tz _
theorem addm_at (D : FD) (xs : List Nat) (s : Nat) (q : List Nat) (c : Nat) {i : Nat} (hi : i < q.length) (hl : s + q.length ≤ xs.length) : (addm D xs s q c)[s + i]?.getD 0 = padd D.p D.k (xs[s + i]?.getD 0) (pmul D.p D.k D.m (q[i]?.getD 0) D.k c) := by
  unfold addm
  exact addmF_at (D := D) xs s q c q.length i hi hl
section
variable {D : FD} (hD : D.Ok) {ql pl : List Nat} {inv n : Nat}
include hD
/-- A step takes the top away. -/
theorem div_top (hq : ∀ a ∈ ql, a < D.p ^ D.k) (hp : ∀ a ∈ pl, a < D.p ^ D.k) (hn : n + ql.length = pl.length + 1) (h1 : 1 ≤ ql.length) (h0 : ql[ql.length - 1]?.getD 0 ≠ 0) (hi : inv = ppow hD.pre.pk (ql[ql.length - 1]?.getD 0) (D.q - 2)) {t : Nat} (ht : t < n)
    (hz : ∀ j, n - 1 - t + ql.length ≤ j → (divF D ql inv n pl t)[j]?.getD 0 = 0) : ∀ j, n - 1 - t + (ql.length - 1) ≤ j → (divF D ql inv n pl (t + 1))[j]?.getD 0 = 0 := fun j hj => by
  have hk := hD.pre.pk
  have hx := divF_lt hk ql inv n t hp
  have hl := divF_len D ql inv n pl t
  have hiq : inv < D.p ^ D.k := by rw [hi]; exact ppow_lt hk _ _
  show (addm D (divF D ql inv n pl t) (n - 1 - t) ql (pscl D.p D.k (D.p - 1) (divQ D ql inv n pl t)))[j]?.getD 0 = 0
  by_cases e : j = n - 1 - t + (ql.length - 1)
  · subst e
    rw [addm_at D _ _ _ _ (by omega) (by omega)]
    have htop : (divF D ql inv n pl t)[n - 1 - t + (ql.length - 1)]?.getD 0 < D.p ^ D.k := getD_lt (Nat.pow_pos hk.p0) hx _
    have hqt : ql[ql.length - 1]?.getD 0 < D.p ^ D.k := getD_lt (Nat.pow_pos hk.p0) hq _
    unfold divQ
    generalize (divF D ql inv n pl t)[n - 1 - t + (ql.length - 1)]?.getD 0 = x at *
    generalize ql[ql.length - 1]?.getD 0 = y at *
    have e1 : pmul D.p D.k D.m y D.k (pscl D.p D.k (D.p - 1) (pmul D.p D.k D.m x D.k inv)) = pscl D.p D.k (D.p - 1) (pmul D.p D.k D.m (pmul D.p D.k D.m x D.k y) D.k inv) := by
      have := take_off hk (t := pmul D.p D.k D.m x D.k inv) (y := y) (pmul_lt hk _ _ _) hqt
      unfold negF at this
      rw [← this, mul_swap hk htop hqt hiq]
    rw [e1, hi, hD.div_mul htop hqt h0]
    exact padd_neg hk x
  · have := addmF_old D (divF D ql inv n pl t) (n - 1 - t) ql (pscl D.p D.k (D.p - 1) (divQ D ql inv n pl t)) ql.length j (.inr (by omega))
    unfold addm
    rw [this]
    exact hz j (by omega)
end
end FFld
end Go.Proofs.YtdnheaafcbihbaaGreat
