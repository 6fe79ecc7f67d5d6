import Derived.Test.YtfhhnfpapgfnmaaZChk
import Derived.Test.YtfhhnfpapgfnmaaZ25
set_option linter.unusedVariables false
set_option linter.unusedSimpArgs false
namespace Go.Proofs.Ytfhhnfpapgfnmaa
open Go Go.RowKit Go.Deep
open FFld (ints)
/-- The slice value v holds the values xs, one cell each, in a block of the call's own, or is nil. -/
def OwnV (E : TypeId) (B : Nat) (w : World) (v : Value) (xs : List Value) : Prop :=
  (v = .slice none 0 0 ∧ xs = []) ∨
    ∃ g cap cur, v = .slice (some ⟨g, 0, none⟩) xs.length cap ∧ B ≤ g ∧ w.heap[g]? = some (.cells cur E (0, 0)) ∧ xs.length ≤ cap ∧ cap ≤ cur.size ∧ cap ≤ maxLen ∧ cur.toList.take xs.length = xs
section
variable {E : TypeId} {B : Nat} {w w' : World} {v : Value} {xs : List Value}
theorem OwnV.nil (E : TypeId) (B : Nat) (w : World) : OwnV E B w (.slice none 0 0) [] := .inl ⟨rfl, rfl⟩
theorem OwnV.own (h : OwnV E B w v xs) : ∀ k, v.ownBlock = some k → B ≤ k ∧ k < w.heap.size := by
  intro k hk
  rcases h with ⟨rfl, rfl⟩ | ⟨g, cap, cur, rfl, hB, hg, hn, hc, hm, ht⟩
  · simp [Value.ownBlock] at hk
  · simp [Value.ownBlock] at hk
    subst hk
    exact ⟨hB, (Array.getElem?_eq_some_iff.1 hg).1⟩
theorem OwnV.kept {row : Option Nat} (h : OwnV E B w v xs) (hg : w.grownBy w' row) (hne : v.ownBlock = none ∨ v.ownBlock ≠ row) : OwnV E B w' v xs := by
  rcases h with h | ⟨g, cap, cur, rfl, hB, hgg, rest⟩
  · exact .inl h
  · refine .inr ⟨g, cap, cur, rfl, hB, ?_, rest⟩
    rw [hg.block g (Array.getElem?_eq_some_iff.1 hgg).1 (by simpa [Value.ownBlock] using hne)]
    exact hgg
theorem OwnV.below (h : OwnV E B w v xs) (hb : Below w.heap.size w w') : OwnV E B w' v xs :=
  h.kept (row := none) (growBelow hb) (by cases hv : v.ownBlock <;> simp)
theorem OwnV.lower {B' : Nat} (h : OwnV E B w v xs) (hB : B' ≤ B) : OwnV E B' w v xs := by
  rcases h with h | ⟨g, cap, cur, rfl, hb, rest⟩
  · exact .inl h
  · exact .inr ⟨g, cap, cur, rfl, by omega, rest⟩
theorem OwnV.of_owns {n : Nat} (h : w.ownsRow B E 1 v n xs) : OwnV E B w v xs := by
  have hl : xs.length = n := by simpa using h.1
  rcases h.2 with ⟨rfl, h0⟩ | ⟨g, cap, cur, rfl, hg, hh, hn, hm, hc, ht⟩
  · have : xs = [] := by cases xs with | nil => rfl | cons => simp at hl; omega
    exact .inl ⟨rfl, this⟩
  · exact .inr ⟨g, cap, cur, by rw [hl], hg, hh, by omega, by omega, hm, by rw [hl]; simpa using ht⟩
theorem OwnV.cell (h : OwnV E B w v xs) {i : Nat} (hi : i < xs.length) : ∃ g cap, v = .slice (some ⟨g, 0, none⟩) xs.length cap ∧ g < w.heap.size ∧ w.cell? ⟨g, i, none⟩ = some (xs[i]?.getD (.int .i64 0)) := by
  rcases h with ⟨rfl, rfl⟩ | ⟨g, cap, cur, rfl, hB, hg, hn, hc, hm, ht⟩
  · simp at hi
  · refine ⟨g, cap, rfl, (Array.getElem?_eq_some_iff.1 hg).1, ?_⟩
    rw [cell_of_row w g i cur E (0, 0) hg]
    have : (cur.toList.take xs.length)[i]? = cur[i]? := by rw [List.getElem?_take, if_pos hi]; simp
    rw [← this, ht]
    simp [hi]
theorem OwnV.form (h : OwnV E B w v xs) : ∃ ao cap, v = .slice ao xs.length cap ∧ xs.length ≤ cap ∧ cap ≤ maxLen := by
  rcases h with ⟨rfl, rfl⟩ | ⟨g, cap, cur, rfl, hB, hg, hn, hc, hm, ht⟩
  · exact ⟨none, 0, rfl, Nat.le_refl _, Nat.zero_le _⟩
  · exact ⟨_, cap, rfl, hn, hm⟩
end
theorem add_zero' (g j : Nat) : (⟨g, 0, none⟩ : Addr).add j = ⟨g, j, none⟩ := by unfold Addr.add; split <;> simp_all
theorem run_append_v {P : Program} (w : World) (t ty E : TypeId) (z : Value) (bytes : Nat) (ht : P.underlying t = some (.slice E))
    (hinfo : (P.info? E).map (fun i => (i.zero, i.size, i.bytes)) = some (some z, 1, bytes)) (hz1 : z.cells.size = 1) (B : Nat) (v : Value) (xs : List Value) (hM : OwnV E B w v xs) (hB : B ≤ w.heap.size)
    (a : Addr) (c : Nat) (news : List Value) (hnews : ∀ j u, news[j]? = some u → w.cell? (a.add j) = some u) (hone : ∀ u ∈ news, u.oneCell' = true)
    (hb : (xs.length + news.length) * bytes ≤ 140737488355328) (hm : xs.length + news.length ≤ maxLen) :
    ∃ v' w', (Builtin.append_ #[t, t] ty #[v, .slice (some a) news.length c]).run P w = .ok v' w' ∧ OwnV E B w' v' (xs ++ news) ∧ w.grownBy w' v.ownBlock ∧ (v'.ownBlock = v.ownBlock ∨ Frm w.heap.size v') := by
  obtain ⟨i, hi, hz, hs, hby⟩ := info_parts hinfo
  have hl : news.length = news.length * 1 := by simp
  rcases hM with ⟨rfl, rfl⟩ | ⟨g, cap, cur, rfl, hBg, hg, hn, hc, hcm, htk⟩
  · obtain ⟨v', w', hr, h2, h3, _⟩ := run_append_own (P := P) w w.heap.size t ty E i z 1 bytes ht hi hz hs hby hz1 (by decide) (.slice none 0 0) 0 [] (World.ownsRow_nil w w.heap.size E 1) a news.length c news hl hnews hone (by simpa using hm) (by simpa using hb) (Nat.le_refl _)
    exact ⟨v', w', hr, (OwnV.of_owns (n := 0 + news.length) (by simpa using h2)).lower hB, h3, .inr (fun k hk => (h2.lt k hk).1)⟩
  · by_cases hroom : xs.length + news.length ≤ cap
    · have hfit : xs.length * i.size + news.length ≤ cur.size := by rw [hs]; simp; omega
      have hr := run_append_room (P := P) w t ty E i ht hi g xs.length cap cur hg a news.length c news (by rw [hs]; exact hl) hnews hone hroom hfit
      rw [hs, Nat.mul_one] at hr
      refine ⟨_, _, hr, .inr ⟨g, cap, _, by simp, hBg, setRow_heap w g cur _ E _ hg, by simpa using hroom, ?_, hcm, ?_⟩, ⟨rfl, rfl, rfl, by simp, fun k _ hk => setRow_other w g k _ (fun e => hk (by simp [Value.ownBlock, e]))⟩, .inl rfl⟩
      · simp only [List.size_toArray, List.length_append, List.length_take, List.length_drop, Array.length_toList]
        omega
      · rw [htk, List.length_append]
        have : (xs ++ news).length = xs.length + news.length := by simp
        rw [← this]
        exact List.take_left
    · have holds : ∀ j u, xs[j]? = some u → w.cell? ((⟨g, 0, none⟩ : Addr).add j) = some u := by
        intro j u hu
        have e : (⟨g, 0, none⟩ : Addr).add j = ⟨g, j, none⟩ := add_zero' g j
        rw [e, cell_of_row w g j cur E (0, 0) hg]
        have hj : j < xs.length := by
          apply Classical.byContradiction
          intro hc'
          simp [hc'] at hu
        rw [← htk, List.getElem?_take, if_pos hj] at hu
        simpa using hu
      obtain ⟨v', w', hr, h2, h3⟩ := run_append_arg_grows (P := P) w t ty E i z 1 bytes ht hi hz hs hby hz1 (by decide) ⟨g, 0, none⟩ xs.length cap xs (by simp) holds a news.length c news hl hnews (by omega) hm hb
      refine ⟨v', w', hr, ?_, ⟨h3.os, h3.tape, h3.output, h3.size, fun k hk _ => h3.block k hk (by simp)⟩, .inr (fun k hk => (h2.lt k hk).1)⟩
      exact (OwnV.of_owns (n := xs.length + news.length) (by simpa using h2)).lower hB
theorem wpList_append_v {P : Program} (w : World) {ops : Array Oper} {rest : List Oper} {o : Oper} {a : Act} {Q : Exit → Act → World → Prop} (hgd : o.guard = none) (s x : Operand) (t : TypeId)
    (ho : o.op = .call { callee := .builtin .append, args := #[s, x], argTypes := #[t, t] }) (E : TypeId) (z : Value) (bytes : Nat) (ht : P.underlying t = some (.slice E))
    (hinfo : (P.info? E).map (fun i => (i.zero, i.size, i.bytes)) = some (some z, 1, bytes)) (hz1 : z.cells.size = 1) (B : Nat) (v : Value) (xs : List Value) (hs : a.eval s = v) (hM : OwnV E B w v xs) (hB : B ≤ w.heap.size)
    (ad : Addr) (m c : Nat) (news : List Value) (hx : a.eval x = .slice (some ad) m c) (hl : news.length = m) (hnews : ∀ j u, news[j]? = some u → w.cell? (ad.add j) = some u) (hone : ∀ u ∈ news, u.oneCell' = true)
    (hb : (xs.length + news.length) * bytes ≤ 140737488355328) (hm : xs.length + news.length ≤ maxLen)
    (h : ∀ v' w', OwnV E B w' v' (xs ++ news) → w.grownBy w' v.ownBlock → (v'.ownBlock = v.ownBlock ∨ Frm w.heap.size v') → wpList P ops Q rest (a.put o.dst v') w') : wpList P ops Q (o :: rest) a w := by
  refine wpList_plain hgd fun K' hK => ?_
  subst hl
  obtain ⟨v', w', hrun, r1, r2, r3⟩ := run_append_v (P := P) w t o.type E z bytes ht hinfo hz1 B v xs hM hB ad c news hnews hone hb hm
  unfold Oper.wp
  simp [execOp, ho, resolve, invoke, builtin, hs, hx, hrun, Result.andThen]
  exact hK _ _ (h v' w' r1 r2 r3)
theorem wpList_append_w {P : Program} (w : World) {ops : Array Oper} {rest : List Oper} {o : Oper} {a : Act} {Q : Exit → Act → World → Prop} (hgd : o.guard = none) (s x : Operand) (t : TypeId)
    (ho : o.op = .call { callee := .builtin .append, args := #[s, x], argTypes := #[t, t] }) (E : TypeId) (z : Value) (bytes : Nat) (ht : P.underlying t = some (.slice E))
    (hinfo : (P.info? E).map (fun i => (i.zero, i.size, i.bytes)) = some (some z, 1, bytes)) (hz1 : z.cells.size = 1) (B : Nat) (v : Value) (xs : List Value) (hs : a.eval s = v) (hM : OwnV E B w v xs) (hB : B ≤ w.heap.size)
    (ad : Addr) (c : Nat) (nv : Value) (hx : a.eval x = .slice (some ad) 1 c) (hnews : ∀ j u, ([nv])[j]? = some u → w.cell? (ad.add j) = some u) (hone : nv.oneCell' = true)
    (n : Nat) (hn : xs.length = n) (hb : (n + 1) * bytes ≤ 140737488355328) (hm : n + 1 ≤ 1000000)
    (h : ∀ v' w', OwnV E B w' v' (xs ++ [nv]) → w.grownBy w' v.ownBlock → (v'.ownBlock = v.ownBlock ∨ Frm w.heap.size v') → wpList P ops Q rest (a.put o.dst v') w') : wpList P ops Q (o :: rest) a w :=
  wpList_append_v w hgd s x t ho E z bytes ht hinfo hz1 B v xs hs hM hB ad 1 c [nv] hx rfl hnews (fun u hu => by obtain rfl := List.mem_singleton.1 hu; exact hone) (by rw [hn]; exact hb) (by rw [hn]; unfold maxLen; simp; omega) h
/-- The slice value v holds the rows L (values and what they hold): it and each of them lie in a block of their own. -/
structure Rws (B : Nat) (w : World) (v : Value) (L : List (Value × List Int)) : Prop where
  own : OwnV 34 B w v (L.map (·.1))
  ok : ∀ r ∈ L, Mine 3 .i64 B w r.1 r.2
  ne : ∀ r ∈ L, ∀ g, r.1.ownBlock = some g → v.ownBlock ≠ some g
theorem Rws.nil (B : Nat) (w : World) : Rws B w (.slice none 0 0) [] := ⟨OwnV.nil _ _ _, by simp, by simp⟩
theorem Rws.below {B : Nat} {w w' : World} {v : Value} {L : List (Value × List Int)} (h : Rws B w v L) (hb : Below w.heap.size w w') : Rws B w' v L :=
  ⟨h.own.below hb, fun r hr => (h.ok r hr).below hb, h.ne⟩
theorem Rws.lower {B B' : Nat} {w : World} {v : Value} {L : List (Value × List Int)} (h : Rws B w v L) (hB : B' ≤ B) : Rws B' w v L := ⟨h.own.lower hB, fun r hr => (h.ok r hr).lower hB, h.ne⟩
theorem Mine.one {E : TypeId} {K : IntKind} {B : Nat} {w : World} {v : Value} {xs : List Int} (h : Mine E K B w v xs) : v.oneCell' = true := by
  obtain ⟨ao, c, rfl, _⟩ := h.sl
  rfl
/-- A row more. -/
theorem Rws.push {B : Nat} {w w' : World} {v v' rv : Value} {L : List (Value × List Int)} {xs : List Int} (h : Rws B w v L) (hr : Mine 3 .i64 B w rv xs) (hne : ∀ g, rv.ownBlock = some g → v.ownBlock ≠ some g)
    (ho : OwnV 34 B w' v' (L.map (·.1) ++ [rv])) (hg : w.grownBy w' v.ownBlock) (hv : v'.ownBlock = v.ownBlock ∨ Frm w.heap.size v') : Rws B w' v' (L ++ [(rv, xs)]) := by
  have all : ∀ s ∈ L ++ [(rv, xs)], Mine 3 .i64 B w s.1 s.2 ∧ ∀ g, s.1.ownBlock = some g → v.ownBlock ≠ some g := fun s hs => by
    rcases List.mem_append.1 hs with h1 | h1
    · exact ⟨h.ok s h1, h.ne s h1⟩
    · obtain rfl := List.mem_singleton.1 h1
      exact ⟨hr, hne⟩
  refine ⟨by rw [List.map_append]; exact ho, fun s hs => (all s hs).1.kept hg ?_, fun s hs g hgb e => ?_⟩
  · cases hb : s.1.ownBlock with
    | none => exact .inl rfl
    | some g => exact .inr (fun e => (all s hs).2 g hb e.symm)
  · rcases hv with h1 | h1
    · rw [h1] at e
      exact (all s hs).2 g hgb e
    · have := h1 g e
      have := ((all s hs).1.own g hgb).2
      omega
theorem Rws.sls {B : Nat} {w : World} {v : Value} {L : List (Value × List Int)} (h : Rws B w v L) : ∃ ao cap, v = .slice ao L.length cap ∧ L.length ≤ cap ∧ cap ≤ maxLen ∧ Sls w ao (L.map (·.2)) := by
  obtain ⟨ao, cap, e, h1, h2⟩ := h.own.form
  rw [List.length_map] at e h1
  refine ⟨ao, cap, e, h1, h2, fun i hi => ?_⟩
  have hi' : i < L.length := by simpa using hi
  obtain ⟨g, c, e2, hg, hcell⟩ := h.own.cell (i := i) (by simpa using hi')
  rw [e] at e2
  simp only [Value.slice.injEq] at e2
  obtain ⟨rfl, _, _⟩ := e2
  refine ⟨g, 0, (L[i]'hi').1, rfl, hg, ?_, ?_⟩
  · rw [Nat.zero_add, hcell]
    simp [hi']
  · have := (h.ok _ (List.getElem_mem hi')).sl
    simpa [hi'] using this
theorem rows_one {W : World} {rv : Value} : ∀ j u, ([rv])[j]? = some u → (W.alloc (.cells #[rv] 34)).cell? ((⟨W.heap.size, 0, none⟩ : Addr).add j) = some u := by
  intro j u hu
  cases j with
  | zero =>
    simp at hu
    subst hu
    have e : (⟨W.heap.size, 0, none⟩ : Addr).add 0 = ⟨W.heap.size, 0, none⟩ := by simp [Addr.add]
    rw [e, cell_of_row _ W.heap.size 0 _ _ (0, 0) (heap_alloc_new W _)]
    rfl
  | succ j => simp at hu
/-- What a call returns that returns rows of its own. -/
def RetR (w : World) (rows : List (List Int)) (e : Ending) (w' : World) : Prop := Below w.heap.size w w' ∧ ∃ v L, e = .returned v ∧ Rws w.heap.size w' v L ∧ L.map (·.2) = rows
/-- The first rows and columns. -/
def cutR (rows : List (List Int)) (most : Nat) : List (List Int) := (rows.take most).map (·.take most)
theorem min_len (n most : Nat) : (n ≤ most → min n most = n) ∧ (most ≤ n → min n most = most) := ⟨Nat.min_eq_left, Nat.min_eq_right⟩
theorem map_take_next' {α β : Type} {f : α → β} {xs : List α} {i : Nat} {d : α} (h : i < xs.length) : (xs.take (i + 1)).map f = (xs.take i).map f ++ [f (xs[i]?.getD d)] := by
  rw [List.take_add_one, List.map_append, List.getElem?_eq_getElem h]
  rfl
set_option maxRecDepth 20000 in
set_option maxHeartbeats 4000000 in
theorem matrix_any (ao : Option Addr) (rows : List (List Int)) (cap most : Nat) (w : World) (hcap : rows.length ≤ cap) (hmax : cap ≤ maxLen) (h : Sls w ao rows) (hm : most ≤ 1000) :
    Calls Try.prog 74 #[.slice ao rows.length cap, .int .i64 most] w (RetR w (cutR rows most)) := by
  obtain ⟨n, hN⟩ : ∃ n, rows.length = n := ⟨_, rfl⟩
  obtain ⟨k, hk⟩ : ∃ k, min n most = k := ⟨_, rfl⟩
  have hkn : k ≤ n := by omega
  have hkm : k ≤ most := by omega
  have HT : Kept (cutR rows most = (rows.take k).map (·.take most)) := ⟨by
    unfold cutR
    rw [← hk]
    by_cases hle : most ≤ n
    · rw [Nat.min_eq_right hle]
    · rw [Nat.min_eq_left (by omega), List.take_of_length_le (by omega), List.take_of_length_le (by omega)]⟩
  have hkk : k < n → k < most → False := by omega
  have HC := Kept.mk h
  rw [hN] at hcap ⊢
  have HN := Kept.mk hN
  unfold maxLen at hmax
  clear h hN hk
  go_enter Try.func74, Try.ntmps74
  go_wp2
  go_loopw [5, 6] (fun ov iv wr => ∃ (i : Nat) (L : List (Value × List Int)), i ≤ k ∧ iv = .int .i64 i ∧ L.length = i ∧ Kept ((rows.take i).map (·.take most) = L.map (·.2)) ∧ Kept (Rws w.heap.size wr ov L) ∧ Kept (Below w.heap.size w wr)) (fun _ iv _ => k - (intOf iv).toNat)
  case atStart => exact ⟨0, [], Nat.zero_le _, rfl, rfl, ⟨rfl⟩, ⟨Rws.nil _ _⟩, ⟨Below.refl _ _⟩⟩
  case round =>
    obtain ⟨i, L, hik, rfl, hll, hat, hrw, hbw⟩ := hrel
    by_cases hlt : i < k
    · have hin : i < n := by omega
      have him : i < most := by omega
      obtain ⟨g, o, rv, rfl, hg, hcell, hsl⟩ := (HC.out.below hbw.out) i (by rw [HN.out]; exact hin)
      have HL : Kept ((rows.take (i + 1)).map (·.take most) = L.map (·.2) ++ [(rows[i]?.getD []).take most]) := ⟨by rw [map_take_next' (d := []) (by rw [HN.out]; exact hin), hat.out]⟩
      obtain ⟨xs, hxs⟩ : ∃ xs, rows[i]?.getD [] = xs := ⟨_, rfl⟩
      rw [hxs] at hsl HL
      have HSL := Kept.mk hsl
      obtain ⟨ao1, cap1, rfl, hc1, hm1⟩ := hsl.form
      obtain ⟨nx, hnx⟩ : ∃ n, xs.length = n := ⟨_, rfl⟩
      rw [hnx] at HSL hcell hc1
      obtain ⟨ov0, oc, rfl, hoc, hom⟩ := hrw.out.own.form
      rw [List.length_map, hll] at hoc hrw ⊢
      clear hxs hsl hnx
      go_wp2_with fail
      refine (raw_any _ xs most _ HSL.out hm).mono ?_
      rintro e w3 ⟨hb3, vr, rfl, hmr⟩
      obtain ⟨vra, vrc, rfl, hvc, hvm⟩ := hmr.sl.form
      obtain ⟨nk, hnk⟩ : ∃ nk, (xs.take most).length = nk := ⟨_, rfl⟩
      rw [hnk] at hmr hvc ⊢
      obtain ⟨vr, hvr⟩ : ∃ v, Value.slice vra nk vrc = v := ⟨_, rfl⟩
      rw [hvr] at hmr
      clear hnk
      have HW3 := Kept.mk (hrw.out.below hb3)
      have HB3 := Kept.mk (bstep hbw.out hb3)
      have hsz := hbw.out.size
      have hsz3 := hb3.size
      have HMR := Kept.mk (hmr.lower hsz)
      have HNE : Kept (∀ g, vr.ownBlock = some g → (Value.slice ov0 i oc).ownBlock ≠ some g) := ⟨fun g hgb e => by
        have h1 := (hmr.own g hgb).1
        have h2 := (hrw.out.own.own g e).2
        omega⟩
      have hal : Below w3.heap.size w3 (w3.alloc (.cells #[vr] 34)) := (Below.refl _ _).alloc (Nat.le_refl _) _
      have HW4 := Kept.mk (HW3.out.below hal)
      have HB4 := Kept.mk (bstep HB3.out hal)
      have HM4 := Kept.mk (HMR.out.below hal)
      have HON := Kept.mk HW4.out.own
      have HNW := Kept.mk (rows_one (W := w3) (rv := vr))
      have H0 := Kept.mk HMR.out.one
      have H1 : Kept ((L.map (·.1)).length = i) := ⟨by rw [List.length_map, hll]⟩
      have HBB : Kept (w.heap.size ≤ (w3.alloc (.cells #[vr] 34)).heap.size) := ⟨by simp; omega⟩
      clear hb3 hmr hal hsz hsz3 HW3 HB3 hcell hbw hrw HMR
      subst hvr
      go_wp2_with (at_builtin; refine wpList_append_w _ rfl _ _ 49 (by rfl) 34 (.slice none 0 0) 24 Try.underlying49 info_rows (by rfl) w.heap.size (.slice ov0 i oc) (L.map (·.1)) (by rfl) HON.out HBB.out ⟨w3.heap.size, 0, none⟩ 1 (.slice vra nk vrc) (by rfl) HNW.out H0.out i H1.out (by omega) (by omega) ?_)
      intro v' w5 ho5 hg5 hv5
      have HR5 := Kept.mk (HW4.out.push HM4.out HNE.out ho5 hg5 (by simpa using hv5))
      have hown := HON.out.own
      have HB5 := Kept.mk (HB4.out.grown hg5 HBB.out (fun j hj => (hown j hj).1))
      clear ho5 hg5 hv5 hown
      go_wp2
      go_roundw
      case rel => exact ⟨i + 1, L ++ [(.slice vra nk vrc, xs.take most)], by omega, by go_num, by simp [hll], ⟨by rw [HL.out, List.map_append]; rfl⟩, HR5, HB5⟩
      case measure => simp [intOf] <;> omega
    · obtain rfl : i = k := by omega
      have HE : Kept (L.map (·.2) = cutR rows most) := ⟨by rw [HT.out]; exact hat.out.symm⟩
      by_cases hin : i < n
      · have him : ¬ i < most := fun h => hkk hin h
        go_wp2
        go_ret
        exact ⟨hbw.out, _, L, rfl, hrw.out, HE.out⟩
      · go_wp2
        go_ret
        exact ⟨hbw.out, _, L, rfl, hrw.out, HE.out⟩
end Go.Proofs.Ytfhhnfpapgfnmaa
