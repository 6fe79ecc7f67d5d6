/-
  Texts of the proof, merged by program: Cnp Apd Rcx.
-/
import Derived.Test.YtdnheaafcbihbaaGreatV21
import Derived.Test.YtdnheaafcbihbaaGreatV15
import Derived.WalkMore
set_option linter.unusedVariables false
set_option linter.unusedSimpArgs false
namespace Go.Proofs.YtdnheaafcbihbaaGreat
open Go Go.RowKit Go.Deep
open FFld (ints)
/-- A polynomial whose word is within the radius. -/
structure Near (D : FFld.FD) (xs ys : List Nat) (k t : Nat) (P : List Nat) : Prop where
  lt : ∀ a ∈ P, a < D.p ^ D.k
  tz : FFld.Tz P
  len : P.length ≤ k
  dis : disF (ints (FFld.valsF D P xs xs.length)) (ints ys) xs.length ≤ t
def sameL (xs ys : List Int) (n : Nat) : List Nat := (List.range n).filter fun j => decide (xs[j]?.getD 0 = ys[j]?.getD 0)
theorem same_len (xs ys : List Int) : ∀ n, (sameL xs ys n).length + disF xs ys n = n
  | 0 => rfl
  | n + 1 => by
    have ih := same_len xs ys n
    unfold sameL at ih ⊢
    rw [List.range_succ, List.filter_append, List.filter_cons, List.filter_nil, disF, List.length_append]
    by_cases h : xs[n]?.getD 0 = ys[n]?.getD 0
    · rw [if_pos (decide_eq_true h), if_pos h]
      simp only [List.length_cons, List.length_nil]
      omega
    · rw [if_neg (by simpa using h), if_neg h]
      simp only [List.length_nil]
      omega
theorem vals_get {D : FFld.FD} (P xs : List Nat) {j : Nat} (hj : j < xs.length) : (FFld.valsF D P xs xs.length)[j]?.getD 0 = FFld.hornF D (FFld.trm P) (xs[j]?.getD 0) (FFld.trm P).length := by
  unfold FFld.valsF
  rw [List.getElem?_map, List.getElem?_range hj]
  simp [hj]
theorem vals_ev {D : FFld.FD} (hD : D.Ok) {P xs : List Nat} (hP : ∀ a ∈ P, a < D.p ^ D.k) (tP : FFld.Tz P) (hx : ∀ a ∈ xs, a < D.p ^ D.k) {j : Nat} (hj : j < xs.length) : FFld.toE hD.pre.pk ((FFld.valsF D P xs xs.length)[j]?.getD 0) = FFld.evE hD P (FFld.plE hD xs j) := by
  rw [vals_get P xs hj, FFld.trm_self tP]
  exact FFld.horn_ev hD hP (FFld.at_lt hD hx j)
theorem gao_near {D : FFld.FD} (hD : D.Ok) {xs ys bf Q el E P : List Nat} {n k t : Nat} (g : FFld.GaoOk hD xs ys n bf Q el E) (lx : xs.length = n) (hx : ∀ a ∈ xs, a < D.p ^ D.k) (hd : ∀ i j, j < i → i < n → xs[i]?.getD 0 ≠ xs[j]?.getD 0) (lQ : Q.length + t ≤ n) (lb : n < bf.length + t) (hk : 2 * t + k ≤ n) (hN : Near D xs ys k t P) : FFld.quoF D E (FFld.invT D hD.pre.pk E) Q = P ∧ FFld.rstF D E (FFld.invT D hD.pre.pk E) Q = [] := by
  have h1 := g.len
  have h2 := g.up
  have h3 := hN.len
  have h4 := same_len (ints (FFld.valsF D P xs xs.length)) (ints ys) n
  have h5 := hN.dis
  rw [lx] at h4 h5
  refine FFld.near hD (xs := xs) (ys := ys) (n := n) (t := t) g.nlt g.elt hN.lt g.tn g.te hN.tz hx (by omega) (fun a b ha hb hab => ?_) lQ (by omega) g.ev2 (sameL (ints (FFld.valsF D P xs n)) (ints ys) n) (List.Pairwise.filter _ List.nodup_range) (fun j hj => ?_) (by omega) (fun j hj => ?_)
  · rcases Nat.lt_or_ge a b with h | h
    · exact (hd b a h hb).symm
    · exact hd a b (by omega) ha
  · exact List.mem_range.1 (List.mem_filter.1 hj).1
  · obtain ⟨h6, h7⟩ := List.mem_filter.1 hj
    have h8 := of_decide_eq_true h7
    rw [FFld.ints_get, FFld.ints_get] at h8
    have h9 := vals_ev hD hN.lt hN.tz hx (j := j) (by rw [lx]; exact List.mem_range.1 h6)
    rw [← h9, lx]
    unfold FFld.plE
    exact congrArg _ (Int.ofNat.inj h8)
theorem near_good {D : FFld.FD} (hD : D.Ok) {xs ys bf Q el E P : List Nat} {n k t : Nat} (g : FFld.GaoOk hD xs ys n bf Q el E) (lx : xs.length = n) (hx : ∀ a ∈ xs, a < D.p ^ D.k) (hd : ∀ i j, j < i → i < n → xs[i]?.getD 0 ≠ xs[j]?.getD 0) (lQ : Q.length + t ≤ n) (lb : n < bf.length + t) (hk : 2 * t + k ≤ n) (hN : Near D xs ys k t P) : Good D xs ys (FFld.quoF D E (FFld.invT D hD.pre.pk E) Q) (FFld.rstF D E (FFld.invT D hD.pre.pk E) Q) k t := by
  obtain ⟨h1, h2⟩ := gao_near hD g lx hx hd lQ lb hk hN
  rw [h1, h2]
  exact ⟨rfl, hN.len, hN.dis⟩
theorem good_near {D : FFld.FD} (hD : D.Ok) {xs ys bf Q el E : List Nat} {n k t : Nat} (g : FFld.GaoOk hD xs ys n bf Q el E) (h : Good D xs ys (FFld.quoF D E (FFld.invT D hD.pre.pk E) Q) (FFld.rstF D E (FFld.invT D hD.pre.pk E) Q) k t) : Near D xs ys k t (FFld.quoF D E (FFld.invT D hD.pre.pk E) Q) := by
  have h2 := g.up
  refine ⟨FFld.quoF_lt hD.pre.pk _ _ _, FFld.quo_tz hD g.elt g.nlt (by omega) ?_ g.tn, h.2.1, h.2.2⟩
  rcases g.te with h1 | h1
  · omega
  · exact h1
/-! The places that are kept. -/
theorem dif_get {es : List Int} {m i j : Nat} (h : difB es m = true) (hj : j < i) (hi : i < m) : es[i]?.getD 0 ≠ es[j]?.getD 0 := fun e => by
  have h1 := difB_no hj hi e
  rw [h1] at h
  cases h
theorem nodup_dif {es : List Int} {m : Nat} (h : difB es m = true) (hm : es.length = m) : es.Nodup := by
  refine List.pairwise_iff_getElem.2 fun i j hi hj hij e => ?_
  have h1 := dif_get h hij (by omega)
  rw [List.getElem?_eq_getElem hi, List.getElem?_eq_getElem hj] at h1
  exact h1 e.symm
theorem nodup_get {L : List Nat} (h : L.Nodup) {i j : Nat} (hj : j < i) (hi : i < L.length) : L[i]?.getD 0 ≠ L[j]?.getD 0 := by
  have h1 := List.pairwise_iff_getElem.1 h j i (by omega) hi hj
  rw [List.getElem?_eq_getElem hi, List.getElem?_eq_getElem (show j < L.length by omega)]
  exact fun e => h1 e.symm
theorem one_out (a : Nat) : ∀ (L : List Nat), L.Nodup → a ∈ L → (L.filter fun j : Nat => decide ((a : Int) ≠ (j : Int))).length + 1 = L.length
  | [], _, h => (by cases h)
  | b :: L, hn, h => by
    obtain ⟨h1, h2⟩ := List.nodup_cons.1 hn
    rw [List.filter_cons]
    by_cases e : b = a
    · subst e
      have hF : (L.filter fun j : Nat => decide ((b : Int) ≠ (j : Int))) = L := List.filter_eq_self.2 (fun j hj => decide_eq_true (fun e => h1 (by have e' : b = j := Int.ofNat.inj e; exact e' ▸ hj)))
      rw [if_neg (by simp), hF]
      rfl
    · rw [if_pos (decide_eq_true (p := ((a : Int) ≠ (b : Int))) (fun e' => e (Int.ofNat.inj e').symm))]
      have h3 := one_out a L h2 (by
        rcases List.mem_cons.1 h with h4 | h4
        · exact absurd h4.symm e
        · exact h4)
      simp only [List.length_cons]
      omega
theorem filter_out (n : Nat) : ∀ (es : List Int), es.Nodup → (∀ e ∈ es, 0 ≤ e ∧ e < n) → ((List.range n).filter fun j : Nat => es.all fun e => decide (e ≠ (j : Int))).length + es.length = n
  | [], _, _ => by
    have hF : ((List.range n).filter fun j : Nat => ([] : List Int).all fun e => decide (e ≠ (j : Int))) = List.range n := List.filter_eq_self.2 (fun _ _ => rfl)
    rw [hF]
    simp
  | e :: es, hn, hb => by
    obtain ⟨h1, h2⟩ := List.nodup_cons.1 hn
    have ih := filter_out n es h2 fun x hx => hb x (List.mem_cons_of_mem _ hx)
    obtain ⟨h3, h4⟩ := hb e (List.mem_cons_self ..)
    obtain ⟨a, rfl⟩ := Int.eq_ofNat_of_zero_le h3
    have h5 := one_out a ((List.range n).filter fun j : Nat => es.all fun e => decide (e ≠ (j : Int))) (List.Pairwise.filter _ List.nodup_range) (by
      rw [List.mem_filter]
      refine ⟨List.mem_range.2 (by omega), ?_⟩
      rw [List.all_eq_true]
      exact fun x hx => decide_eq_true fun ex => h1 (ex ▸ hx))
    rw [List.filter_filter] at h5
    simp only [List.all_cons, List.length_cons]
    omega
theorem kp_len {es : List Int} {n m : Nat} (hb : belB n es = true) (hd : difB es m = true) (hm : es.length = m) : (kpF es n).length + m = n := by
  have h := filter_out n es (nodup_dif hd hm) fun e he => by
    have := List.all_eq_true.1 hb e he
    exact of_decide_eq_true this
  rw [hm] at h
  exact h
theorem kp_nodup (es : List Int) (n : Nat) : (kpF es n).Nodup := List.Pairwise.filter _ List.nodup_range
theorem kp_lt {es : List Int} {n j : Nat} (h : j ∈ kpF es n) : j < n := List.mem_range.1 (List.mem_filter.1 h).1
theorem kp_nil (n : Nat) : kpF [] n = List.range n := by
  unfold kpF
  rw [List.filter_eq_self]
  intro a _
  rfl
/-- What is kept of a list. -/
def kpL (es : List Int) (n : Nat) (xs : List Nat) : List Nat := (kpF es n).map fun j => xs[j]?.getD 0
theorem kpL_len (es : List Int) (n : Nat) (xs : List Nat) : (kpL es n xs).length = (kpF es n).length := List.length_map ..
theorem kpL_lt {q : Nat} {es : List Int} {n : Nat} {xs : List Nat} (lx : xs.length = n) (h : ∀ a ∈ xs, a < q) : ∀ a ∈ kpL es n xs, a < q := fun a ha => by
  obtain ⟨j, hj, rfl⟩ := List.mem_map.1 ha
  exact h _ (FFld.get_mem (by rw [lx]; exact kp_lt hj))
theorem kpL_dif {es : List Int} {n : Nat} {xs : List Nat} (hd : ∀ i j, j < i → i < n → xs[i]?.getD 0 ≠ xs[j]?.getD 0) : ∀ i j, j < i → i < (kpL es n xs).length → (kpL es n xs)[i]?.getD 0 ≠ (kpL es n xs)[j]?.getD 0 := by
  have hnd : (kpL es n xs).Nodup := by
    unfold kpL
    have h1 := kp_nodup es n
    have h2 : ∀ j ∈ kpF es n, j < n := fun j hj => kp_lt hj
    generalize kpF es n = L at h1 h2
    induction L with
    | nil => exact List.nodup_nil
    | cons a L ih =>
      rw [List.map_cons, List.nodup_cons]
      obtain ⟨h3, h4⟩ := List.nodup_cons.1 h1
      refine ⟨fun hm => ?_, ih h4 fun j hj => h2 j (List.mem_cons_of_mem _ hj)⟩
      obtain ⟨b, hb, e⟩ := List.mem_map.1 hm
      have ha := h2 a (List.mem_cons_self ..)
      have hb' := h2 b (List.mem_cons_of_mem _ hb)
      rcases Nat.lt_trichotomy a b with h | h | h
      · exact hd b a h hb' e
      · exact h3 (h ▸ hb)
      · exact hd a b h ha e.symm
  exact fun i j hj hi => nodup_get hnd hj hi
/-- A valid code. -/
structure CodeV (D : FFld.FD) (xs : List Nat) (n k : Nat) : Prop where
  len : xs.length = n
  n64 : n ≤ 64
  k1 : 1 ≤ k
  kn : k ≤ n
  lt : ∀ a ∈ xs, a < D.p ^ D.k
  dif : ∀ i j, j < i → i < n → xs[i]?.getD 0 ≠ xs[j]?.getD 0
  chk : chkE (D.q : Int) (ints xs) k = 0
theorem CodeV.of {D : FFld.FD} (hD : D.Ok) {xs : List Nat} {n k : Nat} (lx : xs.length = n) (n64 : n ≤ 64) (k1 : 1 ≤ k) (kn : k ≤ n) (hx : ∀ a ∈ xs, a < D.p ^ D.k) (hd : difB (ints xs) n = true) : CodeV D xs n k := by
  refine ⟨lx, n64, k1, kn, hx, fun i j hj hi e => dif_get hd hj hi (by rw [FFld.ints_get, FFld.ints_get, e]), ?_⟩
  unfold chkE
  rw [FFld.ints_len, lx, if_pos ⟨D, hD, rfl⟩, if_neg (by omega), if_neg]
  rw [bel_ints hx, hd]
  simp
  omega
end Go.Proofs.YtdnheaafcbihbaaGreat

set_option linter.unusedVariables false
namespace Go.Proofs.YtdnheaafcbihbaaGreat
open Go Go.RowKit Go.Deep
/-- append to a slice of one's own, in a region that draws: the result's parts have names. -/
theorem wp_append_parts {P : Program} (w : World) {o : Oper} {a : Act} {K' : Act → World → Prop} {Q : Exit → Act → World → Prop} (s x : Operand) (t : TypeId)
    (ho : o.op = .call { callee := .builtin .append, args := #[s, x], argTypes := #[t, t] }) (E : TypeId) (K : IntKind) (bytes : Nat) (ht : P.underlying t = some (.slice E))
    (hinfo : (P.info? E).map (fun i => (i.zero, i.size, i.bytes)) = some (some (.int K 0), 1, bytes)) (B : Nat) (v : Value) (xs : List Int) (hs : a.eval s = v) (hM : Mine E K B w v xs) (hB : B ≤ w.heap.size)
    (ad : Addr) (m c : Nat) (news : List Int) (hx : a.eval x = .slice (some ad) m c) (hl : news.length = m) (hnews : ∀ j u, (news.map (Value.int K))[j]? = some u → w.cell? (ad.add j) = some u)
    (hb : (xs.length + news.length) * bytes ≤ 140737488355328) (hm : xs.length + news.length ≤ maxLen)
    (h : ∀ va nv vc w', (xs ++ news).length = nv → Mine E K B w' (.slice va nv vc) (xs ++ news) → w.grownBy w' v.ownBlock → ((Value.slice va nv vc).ownBlock = v.ownBlock ∨ Frm w.heap.size (.slice va nv vc)) → K' (a.put o.dst (.slice va nv vc)) w') : o.wp P a w K' Q := by
  refine wp_append_mine w s x t ho E K bytes ht hinfo B v xs hs hM hB ad m c news hx hl hnews hb hm ?_
  intro v' w' h1 h2 h3
  obtain ⟨va, vc, rfl, _⟩ := h1.sl
  exact h va _ vc w' rfl h1 h2 h3
/-- The same in a region that does not. -/
theorem wpList_append_parts {P : Program} (w : World) {ops : Array Oper} {rest : List Oper} {o : Oper} {a : Act} {Q : Exit → Act → World → Prop} (hgd : o.guard = none) (s x : Operand) (t : TypeId)
    (ho : o.op = .call { callee := .builtin .append, args := #[s, x], argTypes := #[t, t] }) (E : TypeId) (K : IntKind) (bytes : Nat) (ht : P.underlying t = some (.slice E))
    (hinfo : (P.info? E).map (fun i => (i.zero, i.size, i.bytes)) = some (some (.int K 0), 1, bytes)) (B : Nat) (v : Value) (xs : List Int) (hs : a.eval s = v) (hM : Mine E K B w v xs) (hB : B ≤ w.heap.size)
    (ad : Addr) (m c : Nat) (news : List Int) (hx : a.eval x = .slice (some ad) m c) (hl : news.length = m) (hnews : ∀ j u, (news.map (Value.int K))[j]? = some u → w.cell? (ad.add j) = some u)
    (hb : (xs.length + news.length) * bytes ≤ 140737488355328) (hm : xs.length + news.length ≤ maxLen)
    (h : ∀ va nv vc w', (xs ++ news).length = nv → Mine E K B w' (.slice va nv vc) (xs ++ news) → w.grownBy w' v.ownBlock → ((Value.slice va nv vc).ownBlock = v.ownBlock ∨ Frm w.heap.size (.slice va nv vc)) → wpList P ops Q rest (a.put o.dst (.slice va nv vc)) w') : wpList P ops Q (o :: rest) a w := by
  refine wpList_append_mine w hgd s x t ho E K bytes ht hinfo B v xs hs hM hB ad m c news hx hl hnews hb hm ?_
  intro v' w' h1 h2 h3
  obtain ⟨va, vc, rfl, _⟩ := h1.sl
  exact h va _ vc w' rfl h1 h2 h3
end Go.Proofs.YtdnheaafcbihbaaGreat

set_option linter.unusedVariables false
set_option linter.unusedSimpArgs false
namespace Go.Proofs.YtdnheaafcbihbaaGreat
open Go Go.RowKit Go.Deep
open FFld (ints)
theorem Sl.news_ {w : World} {ao : Option Addr} {n cap : Nat} {xs : List Int} (h : Sl .i64 w (.slice ao n cap) xs) (i : Nat) (hi : i < xs.length) : ∃ b o, ao = some ⟨b, o, none⟩ ∧ b < w.heap.size ∧ w.cell? ⟨b, o + i, none⟩ = some (.int .i64 (xs[i]?.getD 0)) := by
  obtain ⟨ao', cap', e, hc, hm, hx⟩ := h
  simp only [Value.slice.injEq] at e
  obtain ⟨rfl, _, _⟩ := e
  exact hx i hi
theorem kpF_le (es : List Int) (i : Nat) : (kpF es i).length ≤ i := by
  unfold kpF
  exact Nat.le_trans (List.length_filter_le _ _) (by simp)
/-- The result's box, which is not the field's, is written. -/
theorem FldB.res5 {D : FFld.FD} {W W' : World} {b g : Nat} (h : FldB D W b) (hz : W.heap[g]? = some rczb) (hg : W.grownBy W' (some g)) : FldB D W' b := by
  obtain ⟨h, ar, ms, ml, h1, h2, h3, h4⟩ := h
  have hbg : b ≠ g := fun e => by
    subst e
    rw [hz] at h1
    have := congrArg (fun o : Option Obj => match o with | some (.cells a _ _) => a.size | _ => 0) h1
    simp at this
  refine ⟨h, ar, ms, ml, (hg.block _ (Array.getElem?_eq_some_iff.1 h1).1 (by simpa using hbg)).trans h1, ?_, ?_, h4⟩
  · rcases h2 with hv | ⟨k2, gP, gL, q1, q, P, L, e, r1, r2, rest⟩
    · exact .inl hv
    · have ty : ∀ x xs, Row 252 .u16 W x xs → x ≠ g := fun x xs hr e => by
        subst e
        unfold Row at hr
        rw [hz] at hr
        have := congrArg (fun o : Option Obj => match o with | some (.cells _ t _) => t | _ => 0) hr
        have h9 : (119 : TypeId) = 252 := this
        exact absurd h9 (by decide)
      exact .inr ⟨k2, gP, gL, q1, q, P, L, e, r1.grown hg (ty _ _ r1), r2.grown hg (ty _ _ r2), rest⟩
  · refine h3.kept hg (fun k hk e => ?_)
    cases e
    obtain ⟨ao, cap, rfl, hc, hm, hx⟩ := h3
    by_cases hl : ml = []
    · subst hl
      cases ao <;> simp [live, ints] at hk
    · have hpos : 0 < ml.length := List.length_pos_iff.2 hl
      obtain ⟨b', o, rfl, hb', hcell⟩ := hx (ml.length - 1) (by rw [FFld.ints_len]; omega)
      have hk' := live_own hk
      simp [Value.ownBlock] at hk'
      subst hk'
      rw [FFld.ints_get, cell_of_row W b' _ _ _ (0, 0) hz] at hcell
      have hlast : ml[ml.length - 1]?.getD 0 ≠ 0 := fun e => h4.nz (by
        rw [List.getLast?_eq_getElem?, List.getElem?_eq_getElem (by omega)]
        rw [List.getElem?_eq_getElem (by omega)] at e
        simpa using e)
      generalize ml[ml.length - 1]?.getD 0 = z at hcell hlast
      generalize o + (ml.length - 1) = n at hcell
      have : n = 0 ∨ n = 1 ∨ n = 2 ∨ n = 3 ∨ n = 4 ∨ 5 ≤ n := by omega
      rcases this with rfl | rfl | rfl | rfl | rfl | h4
      · simp at hcell
      · simp at hcell
      · simp at hcell
      · simp at hcell; omega
      · simp at hcell; omega
      · rw [Array.getElem?_eq_none (by simpa using h4)] at hcell
        cases hcell
def ReRet {D : FFld.FD} (hD : D.Ok) (k rad : Nat) (P W : List Nat) (w : World) (e : Ending) (w' : World) : Prop := Below w.heap.size w w' ∧ ∃ (b : Nat) (pv ev : Value), e = .returned (.tuple #[rcv b pv ev k rad, .int .i64 0]) ∧ FldB D w' b ∧ Sl .i64 w' pv (ints P) ∧ Sl .i64 w' ev (ints W)
set_option maxRecDepth 20000 in
set_option maxHeartbeats 8000000 in
theorem creceive_ok {D : FFld.FD} (hD : D.Ok) (ax aw ae : Option Addr) (cx cw ce n m k : Nat) (xs ws : List Nat) (es : List Int) (w : World) (hx : Sl .i64 w (.slice ax n cx) (ints xs)) (hw : Sl .i64 w (.slice aw n cw) (ints ws)) (he : Sl .i64 w (.slice ae m ce) es) (lx : xs.length = n) (lw : ws.length = n) (le : es.length = m) (hxq : ∀ a ∈ xs, a < D.p ^ D.k) (hwq : ∀ a ∈ ws, a < D.p ^ D.k) (hchk : chkE D.q (ints xs) k = 0) (hk1 : 1 ≤ k) (hkm : m + k ≤ n) (hn : n ≤ 64) (hb : belB n es = true) (hd : difB es m = true) :
    Calls Tryz.prog 90 #[cdv D.q ax n cx k, .slice aw n cw, .slice ae m ce] w (ReRet hD k ((n - m - k) / 2) ((kpF es n).map fun j => xs[j]?.getD 0) ((kpF es n).map fun j => ws[j]?.getD 0) w) := by
  have hq6 : D.p ^ D.k ≤ 65536 := hD.pre.small
  have hq0 : D.q = D.p ^ D.k := rfl
  have HX0 : Kept (Bxs w [cdbox D.q ax n cx k, rczb] ((w.alloc (cdbox D.q ax n cx k)).alloc rczb)) := ⟨((Bxs.start w).alloc (by simp) _).alloc (by simp) _⟩
  have HCK : Kept (∀ W, Below w.heap.size w W → Calls Tryz.prog 21 #[cdv D.q ax n cx k] W (RB W (.int .i64 0))) := ⟨fun W hW => by
    have h := ccheck_any (D.q : Int) k ax cx (ints xs) W (by rw [FFld.ints_len, lx]; exact hx.below hW) (by omega) (by omega) (by omega) (by omega)
    rw [hchk, FFld.ints_len, lx] at h
    exact h⟩
  have HB1 : Kept (∀ W, Below w.heap.size w W → Calls Tryz.prog 85 #[.int .i64 D.q, .slice aw n cw] W (fun e w' => W = w' ∧ e = .returned (.bool true))) := ⟨fun W hW => by
    have h := careBelow_any (D.q : Int) _ (ints ws) W (hw.below hW)
    rw [bel_ints hwq] at h
    exact h⟩
  have HB2 : Kept (∀ W, Below w.heap.size w W → Calls Tryz.prog 85 #[.int .i64 n, .slice ae m ce] W (fun e w' => W = w' ∧ e = .returned (.bool true))) := ⟨fun W hW => by
    have h := careBelow_any (n : Int) _ es W (he.below hW)
    rw [hb] at h
    exact h⟩
  have HD1 : Kept (∀ W, Below w.heap.size w W → Calls Tryz.prog 86 #[.slice ae m ce] W (fun e w' => W = w' ∧ e = .returned (.bool true))) := ⟨fun W hW => by
    have h := careDifferent_any _ es W (he.below hW)
    rw [le, hd] at h
    exact h⟩
  have HNW := Kept.mk (fun W => fnew_any (D.q : Int) W (by omega) (by omega))
  have HD := Kept.mk hD
  have HXS := Kept.mk hx
  have HWS := Kept.mk hw
  have HES := Kept.mk he
  have HLX := Kept.mk lx
  have HLW := Kept.mk lw
  have HLE := Kept.mk le
  obtain ⟨q, hq⟩ : ∃ q, D.q = q := ⟨_, rfl⟩
  have HQ := Kept.mk hq
  rw [hq] at HX0 HCK HB1 HNW ⊢
  obtain ⟨rad, hrad⟩ : ∃ r, (n - m - k) / 2 = r := ⟨_, rfl⟩
  have er1 : (n : Int) - (m : Int) - (k : Int) = ((n - m - k : Nat) : Int) := by omega
  have er2 : ((n - m - k : Nat) : Int).tdiv 2 = rad := by rw [Int.tdiv_eq_ediv_of_nonneg (by omega)]; omega
  have er3 : (n : Int) - (k : Int) = ((n - k : Nat) : Int) := by omega
  have er4 : (n : Int) - (m : Int) = ((n - m : Nat) : Int) := by omega
  have er5 : ((n - m : Nat) : Int) - (k : Int) = ((n - m - k : Nat) : Int) := by omega
  have er6 : ((n - m - k : Nat) : Int) / 2 = rad := by omega
  have g1 : ((n : Int) != (n : Int)) = false := by simp
  have g2 : decide (((n - k : Nat) : Int) < (m : Int)) = false := decide_eq_false (by omega)
  rw [hrad]
  have hq6' : q ≤ 65536 := by omega
  clear hx hw he lx lw le hxq hwq hchk hb hd hq hq0 hrad
  go_enter Tryz.func90, Tryz.ntmps90
  obtain ⟨c0, c1, c2, _⟩ := three_cells HX0.out.b0
  go_wp2_with fail
  go_step3
  go_wp2_with fail
  have hbx := HX0.out.1
  (with_reducible refine (HCK.out _ hbx).mono ?_)
  rintro e w1 ⟨hb1, rfl⟩
  have HX1 := Kept.mk (HX0.out.below hb1)
  clear hb1 c0 c1 c2 HCK hbx
  have hbx := HX1.out.1
  obtain ⟨c0, c1, c2, _⟩ := three_cells HX1.out.b0
  go_wp2_with fail
  (with_reducible refine (HB1.out _ hbx).mono ?_)
  rintro e w2 ⟨rfl, rfl⟩
  go_wp2_with fail
  (with_reducible refine (HB2.out _ hbx).mono ?_)
  rintro e w2 ⟨rfl, rfl⟩
  go_wp2_with fail
  (with_reducible refine (HD1.out _ hbx).mono ?_)
  rintro e w2 ⟨rfl, rfl⟩
  go_wp2_with fail
  (with_reducible refine (HNW.out _).mono ?_)
  rintro e w2 ⟨hb2, ⟨D', b, hq', hle, rfl, hf⟩ | ⟨hno, rfl⟩⟩
  · obtain rfl : D' = D := FFld.FD.uniq hf.ok HD.out (by have := HQ.out; omega)
    have HX2 := Kept.mk (HX1.out.below hb2)
    have HF2 := Kept.mk hf
    clear hb2 hf hq' hle hbx HB1 HB2 HD1 HNW c0 c1 c2
    obtain ⟨c0, c1, c2, _⟩ := three_cells HX2.out.b0
    have hal : Below w2.heap.size w2 (w2.alloc (rcbox b nilv nilv k rad)) := (Below.refl _ _).alloc (Nat.le_refl _) _
    have HRC : Kept (RcAt b (w2.heap.size + 1) w2.heap.size k rad nilv nilv ((kpF es 0).map fun j => xs[j]?.getD 0) ((kpF es 0).map fun j => ws[j]?.getD 0) (w2.alloc (rcbox b nilv nilv k rad))) := ⟨⟨heap_alloc_new w2 _, Mine.nil _ _ _ _, Mine.nil _ _ _ _, fun j hj => (by simp [Value.ownBlock] at hj), by omega⟩⟩
    have HX3 := Kept.mk (HX2.out.below hal)
    have HBL := Kept.mk hal
    clear hal
    go_wp2
    obtain ⟨g, hg⟩ : ∃ x, w2.heap.size = x := ⟨_, rfl⟩
    have hgw : w.heap.size + 1 < g := by have := HX2.out.2.1; simp at this; omega
    obtain ⟨W3, hW3⟩ : ∃ W, w2.alloc (rcbox b nilv nilv k rad) = W := ⟨_, rfl⟩
    rw [hW3] at HRC HX3 HBL
    try rw [hW3]
    have HG2 := Kept.mk hg
    rw [hg] at HRC HBL
    try rw [hg]
    clear hW3 hg c0 c1 c2 HX3
    go_step3
    go_wp2
    go_loopw [79] (fun iv wr => ∃ (i : Nat) (pv ev : Value), i ≤ n ∧ iv = .int .i64 i ∧ Kept (RcAt b (g + 1) g k rad pv ev ((kpF es i).map fun j => xs[j]?.getD 0) ((kpF es i).map fun j => ws[j]?.getD 0) wr) ∧ Kept (Below g w2 wr)) (fun iv _ => n - (intOf iv).toNat)
    case atStart => exact ⟨0, _, _, Nat.zero_le _, rfl, HRC, HBL⟩
    case round =>
      clear HRC HBL
      obtain ⟨i, pv, ev, hin, rfl, hrc, hb2⟩ := hrel
      have hbx := Kept.mk (HX2.out.below (show Below w2.heap.size w2 wr by rw [HG2.out]; exact hb2.out))
      have hbl := hbx.out.1
      by_cases hlt : i < n
      · obtain ⟨aw', cw', e, hcw, hmw, hxw⟩ := HWS.out.below hbl
        simp only [Value.slice.injEq] at e
        obtain ⟨rfl, e2, rfl⟩ := e
        clear e2
        obtain ⟨bw, ow, rfl, hbw, hcell⟩ := hxw i (by rw [FFld.ints_len, HLW.out]; exact hlt)
        rw [FFld.ints_get] at hcell
        rw [FFld.ints_len, HLW.out] at hcw
        obtain ⟨wv, hwv⟩ : ∃ x, ws[i]?.getD 0 = x := ⟨_, rfl⟩
        rw [hwv] at hcell
        have HWV := Kept.mk hwv
        unfold maxLen at hmw
        obtain ⟨ae', ce', e, hce, hme, hxe⟩ := HES.out.below hbl
        simp only [Value.slice.injEq] at e
        obtain ⟨rfl, e2, rfl⟩ := e
        clear e2 hwv hxw
        rw [HLE.out] at hce
        have HXE := Kept.mk hxe
        unfold maxLen at hme
        clear hxe
        go_wp2
        go_loopw [86] (fun jv wv' => ∃ (j : Nat), j ≤ m ∧ jv = .int .i64 j ∧ Kept (∀ a, a < j → es[a]?.getD 0 ≠ (i : Int)) ∧ wr = wv') (fun jv _ => m - (intOf jv).toNat)
        case atStart => exact ⟨0, Nat.zero_le _, rfl, ⟨fun a ha => absurd ha (Nat.not_lt_zero _)⟩, rfl⟩
        case round =>
          obtain ⟨j, hjm, rfl, hall, rfl⟩ := hrel
          by_cases hj : j < m
          · obtain ⟨be, oe, rfl, hbe, hce2⟩ := HXE.out j (by rw [HLE.out]; exact hj)
            obtain ⟨ev2, hev⟩ : ∃ x, es[j]?.getD 0 = x := ⟨_, rfl⟩
            rw [hev] at hce2
            have HEV := Kept.mk hev
            clear hev
            by_cases heq : ev2 = (i : Int)
            · have e0 : (ev2 == (i : Int)) = true := beq_iff_eq.2 heq
              have HK : Kept (kpF es (i + 1) = kpF es i) := ⟨by
                rw [kpF_next, if_neg]
                intro hc
                rw [List.all_eq_true] at hc
                have := hc (es[j]?.getD 0) (FFld.get_mem (by rw [HLE.out]; exact hj))
                rw [HEV.out] at this
                simp [heq] at this⟩
              go_wp2
              go_roundw
              case rel => exact ⟨i + 1, pv, ev, by omega, by go_num, by rw [HK.out]; exact hrc, hb2⟩
              case measure => simp [intOf] <;> omega
            · have e0 : (ev2 == (i : Int)) = false := beq_eq_false_iff_ne.2 heq
              have HA : Kept (∀ a, a < j + 1 → es[a]?.getD 0 ≠ (i : Int)) := ⟨fun a ha => by
                by_cases e : a = j
                · rw [e, HEV.out]; exact heq
                · exact hall.out a (by omega)⟩
              go_wp2
              go_roundw
              case rel => exact ⟨j + 1, by omega, by go_num, HA, trivial⟩
              case measure => simp [intOf] <;> omega
          · obtain rfl : j = m := by omega
            have HK : Kept (kpF es (i + 1) = kpF es i ++ [i]) := ⟨by
              rw [kpF_next, if_pos]
              rw [List.all_eq_true]
              intro x hx
              obtain ⟨a, ha, rfl⟩ := List.getElem_of_mem hx
              have := hall.out a (by rw [← HLE.out]; exact ha)
              rw [List.getElem?_eq_getElem ha] at this
              exact decide_eq_true this⟩
            obtain ⟨c0, c1, c2, _⟩ := three_cells hbx.out.b0
            obtain ⟨ax', cx', e, hcx, hmx, hxp⟩ := HXS.out.below hbl
            simp only [Value.slice.injEq] at e
            obtain ⟨rfl, e2, rfl⟩ := e
            clear e2
            obtain ⟨bx, ox, rfl, hbx0, hpc⟩ := (HXS.out.news_ i (by rw [FFld.ints_len, HLX.out]; exact hlt))
            rw [FFld.ints_get] at hpc
            rw [FFld.ints_len, HLX.out] at hcx
            obtain ⟨x, hxv⟩ : ∃ y, xs[i]?.getD 0 = y := ⟨_, rfl⟩
            rw [hxv] at hpc
            have HXV := Kept.mk hxv
            have p0 := belowCell hbl hpc
            unfold maxLen at hmx
            obtain ⟨pa, pc, rfl, _, _⟩ := hrc.out.pm.sl.form
            obtain ⟨np, hnp⟩ : ∃ y, (ints ((kpF es i).map fun j => xs[j]?.getD 0)).length = y := ⟨_, rfl⟩
            have HNP := Kept.mk hnp
            have hnp64 : np ≤ 64 := by rw [← hnp, FFld.ints_len, List.length_map]; have := kpF_le es i; omega
            rw [hnp] at hrc
            try rw [hnp]
            obtain ⟨ea, ec, rfl, _, _⟩ := hrc.out.em.sl.form
            obtain ⟨ne, hne⟩ : ∃ y, (ints ((kpF es i).map fun j => ws[j]?.getD 0)).length = y := ⟨_, rfl⟩
            have HNE := Kept.mk hne
            have hne64 : ne ≤ 64 := by rw [← hne, FFld.ints_len, List.length_map]; have := kpF_le es i; omega
            rw [hne] at hrc
            try rw [hne]
            clear hne
            have hgl := hrc.out.gB
            have hsz := hbl.size
            have hgs : g < wr.heap.size := (Array.getElem?_eq_some_iff.1 hrc.out.box).1
            have hal : Below wr.heap.size wr ((wr.alloc (.cells #[.int .i64 (x : Nat)] 3)).drew) := ((Below.refl _ _).alloc (Nat.le_refl _) _).drew
            have HRA := Kept.mk (hrc.out.below hal)
            have HBA := Kept.mk (hb2.out.trans (hal.mono (Nat.le_of_lt hgs)))
            have HNW : Kept (∀ j u, ([((x : Nat) : Int)].map (Value.int .i64))[j]? = some u → ((wr.alloc (.cells #[.int .i64 (x : Nat)] 3)).drew).cell? ((⟨wr.heap.size, 0, none⟩ : Addr).add j) = some u) := ⟨new_one (K := .i64) (x := ((x : Nat) : Int)) (b := wr.heap.size) (o := 0) (by exact (Row.new (E := 3) (K := .i64) wr [((x : Nat) : Int)]).cell (i := 0) (by simp))⟩
            have HBB : Kept (g + 1 ≤ ((wr.alloc (.cells #[.int .i64 (x : Nat)] 3)).drew).heap.size) := ⟨by have := hal.size; omega⟩
            have H1 := Kept.mk (show ((ints ((kpF es i).map fun j => xs[j]?.getD 0)).length + [((x : Nat) : Int)].length) * 8 ≤ 140737488355328 by rw [HNP.out]; simp; omega)
            have H2 := Kept.mk (show (ints ((kpF es i).map fun j => xs[j]?.getD 0)).length + [((x : Nat) : Int)].length ≤ maxLen by rw [HNP.out]; unfold maxLen; simp; omega)
            have HMA := Kept.mk HRA.out.pm
            have a1 := belowCell hal c1
            have a2 := belowCell hal p0
            obtain ⟨u0, u1, u2, u3, u4⟩ := five_cells_ hrc.out.box
            have u1a := belowCell hal u1
            clear hnp hpc hxp hxv hcell
            go_upto_region 19 with fail
            refine wp_region_held_drew (S := fun w' => w'.cell? ⟨w.heap.size, 1, none⟩ = some (.slice (some ⟨bx, ox, none⟩) n cx) ∧ w'.cell? ⟨bx, ox + i, none⟩ = some (.int .i64 (x : Nat))) (by kernel_rfl) ⟨c1, p0⟩ (fun hHeld => ?_)
            refine wpAnyH_take (i := 0) (v := ?_) rfl (by kernel_rfl) (by kernel_rfl) (by kernel_rfl) (fun _ _ _ h => h) (Or.inl ⟨by rfl, ?_⟩) (by assumption) ?_
            rotate_left
            · (intro w hSw; (try dsimp only at hSw); go_simp; (try with_reducible rfl))
            try simp only [Act.put, List.getElem_toArray, List.getElem_cons_succ, List.getElem_cons_zero, List.setIfInBounds_toArray, List.set_cons_zero, List.set_cons_succ]
            refine wpAnyH_take (i := 2) (v := ?_) rfl (by kernel_rfl) (by kernel_rfl) (by kernel_rfl) (fun _ _ _ h => h) (Or.inl ⟨by rfl, ?_⟩) (by assumption) ?_
            rotate_left
            · (intro w hSw; (try dsimp only at hSw); go_simp; (try with_reducible rfl))
            try simp only [Act.put, List.getElem_toArray, List.getElem_cons_succ, List.getElem_cons_zero, List.setIfInBounds_toArray, List.set_cons_zero, List.set_cons_succ]
            refine wpAnyH_take (i := 3) (v := ?_) rfl (by kernel_rfl) (by kernel_rfl) (by kernel_rfl) (fun _ _ _ h => h) (Or.inl ⟨by rfl, ?_⟩) (by assumption) ?_
            rotate_left
            · (intro w hSw; (try dsimp only at hSw); go_simp; (try with_reducible rfl))
            try simp only [Act.put, List.getElem_toArray, List.getElem_cons_succ, List.getElem_cons_zero, List.setIfInBounds_toArray, List.set_cons_zero, List.set_cons_succ]
            refine wpAnyH_take (i := 4) (v := ?_) rfl (by kernel_rfl) (by kernel_rfl) (by kernel_rfl) (fun _ _ _ h => h) (Or.inl ⟨by rfl, ?_⟩) (by assumption) ?_
            rotate_left
            · (intro w hSw; (try dsimp only at hSw); go_simp; (try with_reducible rfl))
            try simp only [Act.put, List.getElem_toArray, List.getElem_cons_succ, List.getElem_cons_zero, List.setIfInBounds_toArray, List.set_cons_zero, List.set_cons_succ]
            refine wpAnyH_take (i := 5) (v := ?_) rfl (by kernel_rfl) (by kernel_rfl) (by kernel_rfl) (fun _ _ _ h => h) (Or.inl ⟨by rfl, ?_⟩) (by assumption) ?_
            rotate_left
            · (intro w hSw; (try dsimp only at hSw); go_simp; (try with_reducible rfl))
            try simp only [Act.put, List.getElem_toArray, List.getElem_cons_succ, List.getElem_cons_zero, List.setIfInBounds_toArray, List.set_cons_zero, List.set_cons_succ]
            refine wpAnyH_take (i := 6) (v := ?_) rfl (by kernel_rfl) (by kernel_rfl) (by kernel_rfl) (fun _ _ _ h => h) (Or.inl ⟨by rfl, ?_⟩) (by assumption) ?_
            rotate_left
            · (intro w hSw; (try dsimp only at hSw); go_simp; (try with_reducible rfl))
            try simp only [Act.put, List.getElem_toArray, List.getElem_cons_succ, List.getElem_cons_zero, List.setIfInBounds_toArray, List.set_cons_zero, List.set_cons_succ]
            refine wpAnyH_ready (rs := [1, 7]) (by kernel_rfl) (by simp) ?_
            refine AllReadyH.cons rfl (fun K hK => ?_) (AllReadyH.cons rfl (fun K hK => ?_) AllReadyH.nil)
            · go_simp
              refine hK.out _ _ ⟨c1, p0⟩ (fun hHeld => ?_)
              clear hK K
              try simp only [Act.put, List.getElem_toArray, List.getElem_cons_succ, List.getElem_cons_zero, List.setIfInBounds_toArray, List.set_cons_zero, List.set_cons_succ]
              refine wpAnyH_ready (rs := [7]) (by kernel_rfl) (by simp) ?_
              refine (AllReadyH.cons rfl (fun K hK => ?_) AllReadyH.nil)
              go_simp
              refine hK.out _ _ ⟨a1, a2⟩ (fun hHeld => ?_)
              clear hK K
              try simp only [Act.put, List.getElem_toArray, List.getElem_cons_succ, List.getElem_cons_zero, List.setIfInBounds_toArray, List.set_cons_zero, List.set_cons_succ]
              obtain ⟨W5, hW5⟩ : ∃ W, (wr.alloc (.cells #[.int .i64 (x : Nat)] 3)).drew = W := ⟨_, rfl⟩
              rw [hW5] at hal HRA HBA HNW HBB HMA a1 a2 u1a ⊢
              clear hW5
              refine wpAnyH_ready (rs := [8]) (by kernel_rfl) (by simp) ?_
              refine (AllReadyH.cons rfl (fun K hK => ?_) AllReadyH.nil)
              simp only [Act.put, List.getElem_toArray, List.getElem_cons_succ, List.getElem_cons_zero, List.setIfInBounds_toArray, List.set_cons_zero, List.set_cons_succ]
              rw [if_pos (by simp [Region.wanted])]
              refine wp_append_parts _ _ _ 22 (by rfl) 3 .i64 8 Tryz.underlying22 info_i64 (g + 1) (.slice pa np pc) (ints ((kpF es i).map fun j => xs[j]?.getD 0)) (by rfl) HMA.out HBB.out ⟨wr.heap.size, 0, none⟩ 1 1 [((x : Nat) : Int)] (by rfl) (by rfl) HNW.out H1.out H2.out ?_
              intro va nv vc w5 hlv hm5 hg5 hn5
              have hown := HMA.out.own
              have HRC := Kept.mk (HRA.out.point (x := x) (by rw [FFld.ints_append]; exact hm5) hg5 hn5)
              have HLV := Kept.mk hlv
              have b1 := hg5.cell (a := ⟨w.heap.size, 1, none⟩) a1 (fun e => by have := (hown w.heap.size e.symm).1; omega)
              have b2 := hg5.cell (a := ⟨bx, ox + i, none⟩) a2 (fun e => by have := (hown bx e.symm).1; omega)
              have hbox5 := (hg5.block g (Array.getElem?_eq_some_iff.1 HRA.out.box).1 (fun e => by have := (hown g e.symm).1; omega)).trans HRA.out.box
              obtain ⟨v0, v1, v2, v3, v4⟩ := five_cells_ hbox5
              obtain ⟨f0, f1, f2, f3, f4⟩ := five_free hbox5
              have HB5 := Kept.mk (HBA.out.grown hg5 (by have := HBB.out; omega) (fun j hj => by have := (hown j hj).1; omega))
              clear hlv hm5 hg5 hn5 hown hbox5
              refine hK.out _ _ ⟨b1, b2⟩ (fun hHeld => ?_)
              clear hK K
              try simp only [Act.put, List.getElem_toArray, List.getElem_cons_succ, List.getElem_cons_zero, List.setIfInBounds_toArray, List.set_cons_zero, List.set_cons_succ]
              refine wpAnyH_take (i := 9) (v := ?_) rfl (by kernel_rfl) (by kernel_rfl) (by kernel_rfl) (fun _ _ _ h => h) (Or.inl ⟨by rfl, ?_⟩) (by assumption) ?_
              rotate_left
              · (intro w hSw; (try dsimp only at hSw); go_simp; (try with_reducible rfl))
              try simp only [Act.put, List.getElem_toArray, List.getElem_cons_succ, List.getElem_cons_zero, List.setIfInBounds_toArray, List.set_cons_zero, List.set_cons_succ]
              refine wpAnyH_ready (rs := [10]) (by kernel_rfl) (by simp) ?_
              refine (AllReadyH.cons rfl (fun K hK => ?_) AllReadyH.nil)
              go_simp
              have d1 := (World.cell?_of_block (heap_setCell_other w5 ⟨g, 1, none⟩ w.heap.size (.slice va nv vc) (by simp; omega))).trans b1
              have d2 := (World.cell?_of_block (heap_setCell_other w5 ⟨g, 1, none⟩ bx (.slice va nv vc) (by simp; omega))).trans b2
              refine hK.out _ _ ⟨d1, d2⟩ (fun hHeld => ?_)
              clear hK K
              try simp only [Act.put, List.getElem_toArray, List.getElem_cons_succ, List.getElem_cons_zero, List.setIfInBounds_toArray, List.set_cons_zero, List.set_cons_succ]
              refine wpAnyH_done (by kernel_rfl) ?_ _
              have HB6 := Kept.mk (HB5.out.setCell (p := ⟨g, 1, none⟩) (by simp) (.slice va nv vc))
              obtain ⟨W6, hW6⟩ : ∃ W, w5.setCell ⟨g, 1, none⟩ (.slice va nv vc) = W := ⟨_, rfl⟩
              rw [hW6] at HRC HB6 ⊢
              clear hW6 d1 d2 b1 b2 v0 v1 v2 v3 v4 f0 f1 f2 f3 f4 HB5 HRA HBA HNW HBB HMA a1 a2 u1a u0 u1 u2 u3 u4 H1 H2 hal c0 c1 c2 p0
              have hal : Below W6.heap.size W6 (W6.alloc (.cells #[.int .i64 (wv : Nat)] 3)) := (Below.refl _ _).alloc (Nat.le_refl _) _
              have HRB := Kept.mk (HRC.out.below hal)
              have HME := Kept.mk HRB.out.em
              have HNW : Kept (∀ j u, ([((wv : Nat) : Int)].map (Value.int .i64))[j]? = some u → (W6.alloc (.cells #[.int .i64 (wv : Nat)] 3)).cell? ((⟨W6.heap.size, 0, none⟩ : Addr).add j) = some u) := ⟨new_one (K := .i64) (x := ((wv : Nat) : Int)) (b := W6.heap.size) (o := 0) (by exact (Row.new (E := 3) (K := .i64) W6 [((wv : Nat) : Int)]).cell (i := 0) (by simp))⟩
              have hgs6 : g < W6.heap.size := (Array.getElem?_eq_some_iff.1 HRC.out.box).1
              have HBB : Kept (g + 1 ≤ (W6.alloc (.cells #[.int .i64 (wv : Nat)] 3)).heap.size) := ⟨by have := hal.size; omega⟩
              have H1 := Kept.mk (show ((ints ((kpF es i).map fun j => ws[j]?.getD 0)).length + [((wv : Nat) : Int)].length) * 8 ≤ 140737488355328 by rw [HNE.out]; simp; omega)
              have H2 := Kept.mk (show (ints ((kpF es i).map fun j => ws[j]?.getD 0)).length + [((wv : Nat) : Int)].length ≤ maxLen by rw [HNE.out]; unfold maxLen; simp; omega)
              have HB7 := Kept.mk (HB6.out.trans (hal.mono (Nat.le_of_lt hgs6)))
              obtain ⟨u0, u1, u2, u3, u4⟩ := five_cells_ HRC.out.box
              clear hal
              go_wp2_with (at_builtin; refine wpList_append_parts _ rfl _ _ 22 (by rfl) 3 .i64 8 Tryz.underlying22 info_i64 (g + 1) (.slice ea ne ec) (ints ((kpF es i).map fun j => ws[j]?.getD 0)) (by rfl) HME.out HBB.out ⟨W6.heap.size, 0, none⟩ 1 1 [((wv : Nat) : Int)] (by rfl) rfl HNW.out H1.out H2.out ?_)
              intro va2 nv2 vc2 w7 hlv2 hm7 hg7 hn7
              have hown := HME.out.own
              have HRC2 := Kept.mk (HRB.out.element (x := wv) (by rw [FFld.ints_append]; exact hm7) hg7 (by simpa using hn7))
              have hbox7 := (hg7.block g (Array.getElem?_eq_some_iff.1 HRB.out.box).1 (fun e => by have := (hown g e.symm).1; omega)).trans HRB.out.box
              obtain ⟨v0, v1, v2, v3, v4⟩ := five_cells_ hbox7
              obtain ⟨f0, f1, f2, f3, f4⟩ := five_free hbox7
              have HB8 := Kept.mk ((HB7.out.grown hg7 (by have := HBB.out; omega) (fun j hj => by have := (hown j hj).1; omega)).setCell (p := ⟨g, 2, none⟩) (by simp) (.slice va2 nv2 vc2))
              clear hlv2 hm7 hg7 hn7 hown hbox7 u0 u1 u2 u3 u4 HRB HME
              go_wp2
              go_roundw
              case rel => exact ⟨i + 1, _, _, by omega, by go_num, by rw [HK.out, List.map_append, List.map_append, List.map_cons, List.map_nil, List.map_cons, List.map_nil, HXV.out, HWV.out]; exact HRC2, HB8⟩
              case measure => simp [intOf] <;> omega
            · go_simp
              refine hK.out _ _ ⟨a1, a2⟩ (fun hHeld => ?_)
              clear hK K
              try simp only [Act.put, List.getElem_toArray, List.getElem_cons_succ, List.getElem_cons_zero, List.setIfInBounds_toArray, List.set_cons_zero, List.set_cons_succ]
              refine wpAnyH_ready (rs := [1]) (by kernel_rfl) (by simp) ?_
              refine (AllReadyH.cons rfl (fun K hK => ?_) AllReadyH.nil)
              go_simp
              refine hK.out _ _ ⟨a1, a2⟩ (fun hHeld => ?_)
              clear hK K
              try simp only [Act.put, List.getElem_toArray, List.getElem_cons_succ, List.getElem_cons_zero, List.setIfInBounds_toArray, List.set_cons_zero, List.set_cons_succ]
              obtain ⟨W5, hW5⟩ : ∃ W, (wr.alloc (.cells #[.int .i64 (x : Nat)] 3)).drew = W := ⟨_, rfl⟩
              rw [hW5] at hal HRA HBA HNW HBB HMA a1 a2 u1a ⊢
              clear hW5
              refine wpAnyH_ready (rs := [8]) (by kernel_rfl) (by simp) ?_
              refine (AllReadyH.cons rfl (fun K hK => ?_) AllReadyH.nil)
              simp only [Act.put, List.getElem_toArray, List.getElem_cons_succ, List.getElem_cons_zero, List.setIfInBounds_toArray, List.set_cons_zero, List.set_cons_succ]
              rw [if_pos (by simp [Region.wanted])]
              refine wp_append_parts _ _ _ 22 (by rfl) 3 .i64 8 Tryz.underlying22 info_i64 (g + 1) (.slice pa np pc) (ints ((kpF es i).map fun j => xs[j]?.getD 0)) (by rfl) HMA.out HBB.out ⟨wr.heap.size, 0, none⟩ 1 1 [((x : Nat) : Int)] (by rfl) (by rfl) HNW.out H1.out H2.out ?_
              intro va nv vc w5 hlv hm5 hg5 hn5
              have hown := HMA.out.own
              have HRC := Kept.mk (HRA.out.point (x := x) (by rw [FFld.ints_append]; exact hm5) hg5 hn5)
              have HLV := Kept.mk hlv
              have b1 := hg5.cell (a := ⟨w.heap.size, 1, none⟩) a1 (fun e => by have := (hown w.heap.size e.symm).1; omega)
              have b2 := hg5.cell (a := ⟨bx, ox + i, none⟩) a2 (fun e => by have := (hown bx e.symm).1; omega)
              have hbox5 := (hg5.block g (Array.getElem?_eq_some_iff.1 HRA.out.box).1 (fun e => by have := (hown g e.symm).1; omega)).trans HRA.out.box
              obtain ⟨v0, v1, v2, v3, v4⟩ := five_cells_ hbox5
              obtain ⟨f0, f1, f2, f3, f4⟩ := five_free hbox5
              have HB5 := Kept.mk (HBA.out.grown hg5 (by have := HBB.out; omega) (fun j hj => by have := (hown j hj).1; omega))
              clear hlv hm5 hg5 hn5 hown hbox5
              refine hK.out _ _ ⟨b1, b2⟩ (fun hHeld => ?_)
              clear hK K
              try simp only [Act.put, List.getElem_toArray, List.getElem_cons_succ, List.getElem_cons_zero, List.setIfInBounds_toArray, List.set_cons_zero, List.set_cons_succ]
              refine wpAnyH_take (i := 9) (v := ?_) rfl (by kernel_rfl) (by kernel_rfl) (by kernel_rfl) (fun _ _ _ h => h) (Or.inl ⟨by rfl, ?_⟩) (by assumption) ?_
              rotate_left
              · (intro w hSw; (try dsimp only at hSw); go_simp; (try with_reducible rfl))
              try simp only [Act.put, List.getElem_toArray, List.getElem_cons_succ, List.getElem_cons_zero, List.setIfInBounds_toArray, List.set_cons_zero, List.set_cons_succ]
              refine wpAnyH_ready (rs := [10]) (by kernel_rfl) (by simp) ?_
              refine (AllReadyH.cons rfl (fun K hK => ?_) AllReadyH.nil)
              go_simp
              have d1 := (World.cell?_of_block (heap_setCell_other w5 ⟨g, 1, none⟩ w.heap.size (.slice va nv vc) (by simp; omega))).trans b1
              have d2 := (World.cell?_of_block (heap_setCell_other w5 ⟨g, 1, none⟩ bx (.slice va nv vc) (by simp; omega))).trans b2
              refine hK.out _ _ ⟨d1, d2⟩ (fun hHeld => ?_)
              clear hK K
              try simp only [Act.put, List.getElem_toArray, List.getElem_cons_succ, List.getElem_cons_zero, List.setIfInBounds_toArray, List.set_cons_zero, List.set_cons_succ]
              refine wpAnyH_done (by kernel_rfl) ?_ _
              have HB6 := Kept.mk (HB5.out.setCell (p := ⟨g, 1, none⟩) (by simp) (.slice va nv vc))
              obtain ⟨W6, hW6⟩ : ∃ W, w5.setCell ⟨g, 1, none⟩ (.slice va nv vc) = W := ⟨_, rfl⟩
              rw [hW6] at HRC HB6 ⊢
              clear hW6 d1 d2 b1 b2 v0 v1 v2 v3 v4 f0 f1 f2 f3 f4 HB5 HRA HBA HNW HBB HMA a1 a2 u1a u0 u1 u2 u3 u4 H1 H2 hal c0 c1 c2 p0
              have hal : Below W6.heap.size W6 (W6.alloc (.cells #[.int .i64 (wv : Nat)] 3)) := (Below.refl _ _).alloc (Nat.le_refl _) _
              have HRB := Kept.mk (HRC.out.below hal)
              have HME := Kept.mk HRB.out.em
              have HNW : Kept (∀ j u, ([((wv : Nat) : Int)].map (Value.int .i64))[j]? = some u → (W6.alloc (.cells #[.int .i64 (wv : Nat)] 3)).cell? ((⟨W6.heap.size, 0, none⟩ : Addr).add j) = some u) := ⟨new_one (K := .i64) (x := ((wv : Nat) : Int)) (b := W6.heap.size) (o := 0) (by exact (Row.new (E := 3) (K := .i64) W6 [((wv : Nat) : Int)]).cell (i := 0) (by simp))⟩
              have hgs6 : g < W6.heap.size := (Array.getElem?_eq_some_iff.1 HRC.out.box).1
              have HBB : Kept (g + 1 ≤ (W6.alloc (.cells #[.int .i64 (wv : Nat)] 3)).heap.size) := ⟨by have := hal.size; omega⟩
              have H1 := Kept.mk (show ((ints ((kpF es i).map fun j => ws[j]?.getD 0)).length + [((wv : Nat) : Int)].length) * 8 ≤ 140737488355328 by rw [HNE.out]; simp; omega)
              have H2 := Kept.mk (show (ints ((kpF es i).map fun j => ws[j]?.getD 0)).length + [((wv : Nat) : Int)].length ≤ maxLen by rw [HNE.out]; unfold maxLen; simp; omega)
              have HB7 := Kept.mk (HB6.out.trans (hal.mono (Nat.le_of_lt hgs6)))
              obtain ⟨u0, u1, u2, u3, u4⟩ := five_cells_ HRC.out.box
              clear hal
              go_wp2_with (at_builtin; refine wpList_append_parts _ rfl _ _ 22 (by rfl) 3 .i64 8 Tryz.underlying22 info_i64 (g + 1) (.slice ea ne ec) (ints ((kpF es i).map fun j => ws[j]?.getD 0)) (by rfl) HME.out HBB.out ⟨W6.heap.size, 0, none⟩ 1 1 [((wv : Nat) : Int)] (by rfl) rfl HNW.out H1.out H2.out ?_)
              intro va2 nv2 vc2 w7 hlv2 hm7 hg7 hn7
              have hown := HME.out.own
              have HRC2 := Kept.mk (HRB.out.element (x := wv) (by rw [FFld.ints_append]; exact hm7) hg7 (by simpa using hn7))
              have hbox7 := (hg7.block g (Array.getElem?_eq_some_iff.1 HRB.out.box).1 (fun e => by have := (hown g e.symm).1; omega)).trans HRB.out.box
              obtain ⟨v0, v1, v2, v3, v4⟩ := five_cells_ hbox7
              obtain ⟨f0, f1, f2, f3, f4⟩ := five_free hbox7
              have HB8 := Kept.mk ((HB7.out.grown hg7 (by have := HBB.out; omega) (fun j hj => by have := (hown j hj).1; omega)).setCell (p := ⟨g, 2, none⟩) (by simp) (.slice va2 nv2 vc2))
              clear hlv2 hm7 hg7 hn7 hown hbox7 u0 u1 u2 u3 u4 HRB HME
              go_wp2
              go_roundw
              case rel => exact ⟨i + 1, _, _, by omega, by go_num, by rw [HK.out, List.map_append, List.map_append, List.map_cons, List.map_nil, List.map_cons, List.map_nil, HXV.out, HWV.out]; exact HRC2, HB8⟩
              case measure => simp [intOf] <;> omega
      · obtain rfl : i = n := by omega
        have hrc' := hrc.out
        obtain ⟨pa, pc, rfl, _, _⟩ := hrc'.pm.sl.form
        obtain ⟨ea, ec, rfl, _, _⟩ := hrc'.em.sl.form
        have hB1 := hbx.out.b1
        obtain ⟨t0, t1, t2, t3, t4⟩ := five_free hB1
        obtain ⟨y0, y1, y2, y3, y4⟩ := five_cells_ hB1
        obtain ⟨u0, u1, u2, u3, u4⟩ := five_cells_ hrc'.box
        obtain ⟨np, hnp⟩ : ∃ y, (ints ((kpF es i).map fun j => xs[j]?.getD 0)).length = y := ⟨_, rfl⟩
        obtain ⟨ne, hne⟩ : ∃ y, (ints ((kpF es i).map fun j => ws[j]?.getD 0)).length = y := ⟨_, rfl⟩
        rw [hnp, hne] at hrc'
        rw [hnp] at u1
        rw [hne] at u2
        try rw [hnp, hne]
        have hset := five_set_ hB1 (.pointer (some ⟨b, 0, none⟩)) (.slice pa np pc) (.slice ea ne ec) (.int .i64 k) (.int .i64 rad)
        have HSET := Kept.mk hset
        have hgr : wr.grownBy (((((wr.setCell ⟨w.heap.size + 1, 0, none⟩ (.pointer (some ⟨b, 0, none⟩))).setCell ⟨w.heap.size + 1, 1, none⟩ (.slice pa np pc)).setCell ⟨w.heap.size + 1, 2, none⟩ (.slice ea ne ec)).setCell ⟨w.heap.size + 1, 3, none⟩ (.int .i64 k)).setCell ⟨w.heap.size + 1, 4, none⟩ (.int .i64 rad)) (some (w.heap.size + 1)) := growSet (growSet (growSet (growSet (growSet (growRefl _ _) _ _) _ _) _ _) _ _) _ _
        have HB9 := Kept.mk (belowGrow hgr hbl (by omega))
        have HF9 := Kept.mk ((HF2.out.below (show Below w2.heap.size w2 wr by rw [HG2.out]; exact hb2.out)).res5 hB1 hgr)
        have HP9 := Kept.mk (hrc'.pm.sl.kept hgr (fun j hj e => by have := hrc'.pm.own j (live_own hj); cases e; omega))
        have HE9 := Kept.mk (hrc'.em.sl.kept hgr (fun j hj e => by have := hrc'.em.own j (live_own hj); cases e; omega))
        clear hset hgr hrc' hB1 hrc
        go_wp2
        obtain ⟨s0, s1, s2, s3, s4⟩ := five_cells_ HSET.out
        rw [Exit.noGoto_ret]
        exact bodyPost_ret (v := .tuple #[rcv b (.slice pa np pc) (.slice ea ne ec) k rad, .int .i64 0]) (by simp [results, Tryz.results90, go_sem, s0, s1, s2, s3, s4]) rfl ⟨HB9.out, b, _, _, rfl, HF9.out, HP9.out, HE9.out⟩
  · exact absurd ⟨D, HD.out, by have := HQ.out; omega⟩ hno
end Go.Proofs.YtdnheaafcbihbaaGreat
