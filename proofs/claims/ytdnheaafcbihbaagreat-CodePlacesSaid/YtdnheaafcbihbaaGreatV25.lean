/-
  Texts of the proof, merged by program: Lpl.
-/
import Derived.Test.YtdnheaafcbihbaaGreatV24
import Derived.Test.YtdnheaafcbihbaaGreatV22
set_option linter.unusedVariables false
set_option linter.unusedSimpArgs false
namespace Go.Proofs.YtdnheaafcbihbaaGreat
open Go Go.RowKit Go.Deep
open FFld (ints)
/-- What CodePlaces erases: the places that come in, and then the first others. -/
theorem full_nodup {L : List Nat} {m c : Nat} (hn : L.Nodup) (hall : ∀ j, j < m → j ∈ L) (hl : L.length = c) : m ≤ c := by
  have h : (List.range m).Nodup := List.nodup_range
  have hs : ∀ (A B : List Nat), A.Nodup → (∀ x ∈ A, x ∈ B) → A.length ≤ B.length := by
    intro A
    induction A with
    | nil => intro B _ _; exact Nat.zero_le _
    | cons a A ih =>
      intro B hA hB
      obtain ⟨h1, h2⟩ := List.nodup_cons.1 hA
      have hm := hB a (List.mem_cons_self ..)
      have h3 := ih (B.erase a) h2 fun x hx => (List.mem_erase_of_ne (fun (e : x = a) => h1 (e ▸ hx))).2 (hB x (List.mem_cons_of_mem _ hx))
      have h4 := List.length_erase_of_mem hm
      have h5 := List.length_pos_of_mem hm
      simp only [List.length_cons]
      omega
  have := hs (List.range m) L h fun x hx => hall x (List.mem_range.1 hx)
  rw [List.length_range, hl] at this
  exact this
/-- The word that is left. -/
def lftF (L ws : List Nat) (m i : Nat) : List Nat := (List.range m).map fun j => if j < i ∧ j ∉ L then ws[j]?.getD 0 else 0
theorem lftF_len (L ws : List Nat) (m i : Nat) : (lftF L ws m i).length = m := by simp [lftF]
theorem lftF_zero (L ws : List Nat) (m : Nat) : lftF L ws m 0 = List.replicate m 0 := by
  unfold lftF
  refine List.ext_getElem (by simp) fun j h1 h2 => ?_
  simp
theorem lftF_get (L ws : List Nat) {m i j : Nat} (hj : j < m) : (lftF L ws m i)[j]?.getD 0 = if j < i ∧ j ∉ L then ws[j]?.getD 0 else 0 := by
  unfold lftF
  rw [List.getElem?_map, List.getElem?_range hj]
  rfl
theorem lftF_in {L ws : List Nat} {m i : Nat} (hi : i ∈ L) : lftF L ws m (i + 1) = lftF L ws m i := by
  unfold lftF
  refine List.map_congr_left fun j _ => ?_
  by_cases e : j = i
  · subst e
    rw [if_neg (fun h => h.2 hi), if_neg (fun h => h.2 hi)]
  · by_cases h : j ∈ L
    · rw [if_neg (fun h' => h'.2 h), if_neg (fun h' => h'.2 h)]
    · by_cases h2 : j < i
      · rw [if_pos ⟨by omega, h⟩, if_pos ⟨h2, h⟩]
      · rw [if_neg (fun h' => by omega), if_neg (fun h' => h2 h'.1)]
theorem lftF_out {L ws : List Nat} {m i : Nat} (hi : i ∉ L) : (lftF L ws m i).set i (ws[i]?.getD 0) = lftF L ws m (i + 1) := by
  unfold lftF
  refine List.ext_getElem (by simp) fun j h1 h2 => ?_
  have hj : j < m := by simpa using h2
  rw [List.getElem_set]
  split
  · rename_i e
    subst e
    simp [hi]
  · rename_i e
    simp only [List.getElem_map, List.getElem_range]
    by_cases h : j ∈ L
    · simp [h]
    · by_cases h2 : j < i
      · rw [if_pos ⟨h2, h⟩, if_pos ⟨by omega, h⟩]
      · rw [if_neg (fun h' => h2 h'.1), if_neg (fun h' => by omega)]
theorem lftF_lt {q : Nat} (hq : 0 < q) {L ws : List Nat} (hw : ∀ a ∈ ws, a < q) (m i : Nat) : ∀ a ∈ lftF L ws m i, a < q := fun a ha => by
  obtain ⟨j, _, rfl⟩ := List.mem_map.1 ha
  split
  · exact FFld.getD_lt hq hw j
  · exact hq
theorem lftF_kp {L ws : List Nat} {m : Nat} : kpL (ints L) m (lftF L ws m m) = kpL (ints L) m ws := kpL_congr fun j hj => by
  obtain ⟨h1, h2⟩ := kpF_mem.1 hj
  rw [lftF_get L ws h1, if_pos ⟨h1, h2⟩]
set_option maxRecDepth 20000 in
set_option maxHeartbeats 16000000 in
theorem codePlaces_any (o : Int) (ao : Option Addr) (n0 cap : Nat) (k : Int) (ys : List Int) (v1 : Value) (xs1 : List Int) (v2 : Value) (xs2 : List Int) (w : World) (hl : ys.length = n0) (hs : Sl .i64 w (.slice ao n0 cap) ys) (hi : I64s ys) (o0 : -9223372036854775808 ≤ o) (o1 : o ≤ 9223372036854775807) (k0 : -9223372036854775808 ≤ k) (k1 : k ≤ 9223372036854775807) (s1 : Sl .i64 w v1 xs1) (w1 : I64s xs1) (s2 : Sl .i64 w v2 xs2) (w2 : I64s xs2) :
    Calls Tryz.prog 12 #[cdv o ao n0 cap k, v1, v2] w (RB w (.bool true)) := by
  have HX0 : Kept (Bxs w [rcdbox o ao n0 cap k] (w.alloc (rcdbox o ao n0 cap k))) := ⟨(Bxs.start w).alloc (by simp) _⟩
  have HTM : Kept (∀ W, Below w.heap.size w W → Calls Tryz.prog 30 #[cdv o ao n0 cap k, .int .i64 16] W (TaRet 16 W)) := ⟨fun W hW => tame_any o k ao n0 cap 16 ys W hl (hs.below hW) hi o0 o1 k0 k1 (by omega)⟩
  have HAW := Kept.mk (fun W => cawake_any W)
  have HEL0 : Kept (∀ W, Below w.heap.size w W → ∀ q kk : Nat, 1 ≤ q → q ≤ 300 → kk ≤ 16 → Calls Tryz.prog 37 #[.int .i64 q, v1, .int .i64 kk] W (RetP W (elL q xs1 kk) kk)) := ⟨fun W hW q kk hq1 hq3 hk => (elements_any q kk v1 xs1 W (s1.below hW) w1 hq1 (by omega) (by omega)).mono fun e w' h => h.parts (elL_len _ _ _)⟩
  have HPL0 : Kept (∀ W, Below w.heap.size w W → ∀ q most : Nat, 1 ≤ q → q ≤ 16 → most ≤ 16 → Calls Tryz.prog 41 #[v2, .int .i64 q, .int .i64 most] W (RetM W (ints (plF xs2 q most xs2.length)))) := ⟨fun W hW q most hq1 hq3 hm => places_any q most v2 xs2 W (s2.below hW) w2 hq1 (by omega) (by omega)⟩
  clear hl hs hi o0 o1 k0 k1 s1 w1 s2 w2
  go_enter Tryz.func12, Tryz.ntmps12
  obtain ⟨c0, c1, c2, _⟩ := three_cells HX0.out.b0
  have hbx := HX0.out.1
  go_wp2_with fail
  (with_reducible refine (HTM.out _ hbx).mono ?_)
  rintro e w1 ⟨hb1, D, va, m, vc, kk, xs, hD, hq3, hcv, hmm, rfl, hsl⟩
  have HD := Kept.mk hD
  have HCV := Kept.mk hcv
  have hm1 : m ≤ 16 := by omega
  have hkk1 := hcv.k1
  have hkkm := hcv.kn
  have hq1 : 1 ≤ D.q := Nat.le_of_lt hD.pre.pk.one_lt
  have hal : Below w1.heap.size w1 (w1.alloc (rcdbox D.q va m vc kk)) := (Below.refl _ _).alloc (Nat.le_refl _) _
  have hg7 := heap_alloc_new w1 (rcdbox D.q va m vc kk)
  have hbw : Below w.heap.size w (w1.alloc (rcdbox D.q va m vc kk)) := (hbx.trans (hb1.mono hbx.size)).trans (hal.mono (Nat.le_trans hbx.size hb1.size))
  have hsl2 := hsl.below hal
  obtain ⟨g7, hg⟩ : ∃ x, w1.heap.size = x := ⟨_, rfl⟩
  obtain ⟨W2, hW2⟩ : ∃ W, w1.alloc (rcdbox D.q va m vc kk) = W := ⟨_, rfl⟩
  rw [hW2, hg] at hg7
  rw [hW2] at hbw hsl2
  have HG7 := Kept.mk hg7
  have HBW := Kept.mk hbw
  have HSL := Kept.mk hsl2
  obtain ⟨p0, p1, p2, _⟩ := three_cells hg7
  have HGI := Kept.mk (give_any (D.q : Int) (kk : Int) va m vc W2)
  go_upto_region 2 with fail
  try rw [hW2]
  try rw [hg]
  clear hbx hb1 hD hcv hmm hsl hal hg7 hbw hsl2 c0 c1 c2 hW2 hg HX0 HTM
  go_wp2_with fail
  (with_reducible refine HGI.out.mono ?_)
  rintro e w3 ⟨hb3, rfl⟩
  have hal : Below w3.heap.size w3 (w3.alloc (cdbox D.q va m vc kk)) := (Below.refl _ _).alloc (Nat.le_refl _) _
  have hg8 := heap_alloc_new w3 (cdbox D.q va m vc kk)
  have hb4 := bstep hb3 hal
  obtain ⟨g8, hg⟩ : ∃ x, w3.heap.size = x := ⟨_, rfl⟩
  obtain ⟨W4, hW4⟩ : ∃ W, w3.alloc (cdbox D.q va m vc kk) = W := ⟨_, rfl⟩
  rw [hW4, hg] at hg8
  rw [hW4] at hb4
  have HL4 : Kept (LwAt w D va m vc kk xs g7 g8 W4) := ⟨⟨HBW.out.trans (hb4.mono HBW.out.size), (hb4.block _ (Array.getElem?_eq_some_iff.1 HG7.out).1).trans HG7.out, hg8, HSL.out.below hb4⟩⟩
  go_upto_region 3 with fail
  try rw [hW4]
  try rw [hg]
  clear hb3 hal hg8 hb4 hg hW4 p0 p1 p2 HGI HBW HG7 HSL
  obtain ⟨p0, p1, p2, _⟩ := three_cells HL4.out.b7
  obtain ⟨r0, r1, r2, _⟩ := three_cells HL4.out.b8
  obtain ⟨ms, hms⟩ : ∃ l, elL D.q xs1 kk = l := ⟨_, rfl⟩
  have HML : Kept (ms.length = kk) := ⟨by rw [← hms]; exact elL_len _ _ _⟩
  have HMQ : Kept (∀ a ∈ ms, a < D.p ^ D.k) := ⟨by rw [← hms]; exact elL_lt (q := D.q) hq1 _ _⟩
  have HEL : Kept (∀ W, Below w.heap.size w W → Calls Tryz.prog 37 #[.int .i64 D.q, v1, .int .i64 kk] W (RetP W ms kk)) := ⟨fun W hW => by rw [← hms]; exact HEL0.out W hW D.q kk hq1 hq3 (by omega)⟩
  clear hms HEL0
  have HEN : Kept (∀ W ma mc, Below W4.heap.size W4 W → Sl .i64 W (.slice ma kk mc) (ints ms) → Calls Tryz.prog 23 #[cdv D.q va m vc kk, .slice ma kk mc] W (EnRet D xs ms m W)) := ⟨fun W ma mc hW hms => cencode_ok HD.out va ma vc mc m kk xs ms W (HL4.out.sl.below hW) hms HCV.out HML.out HMQ.out⟩
  go_upto_region 4 with fail
  go_region_held3 (fun w' => w'.cell? ⟨g7, 0, none⟩ = some (.int .i64 D.q) ∧ w'.cell? ⟨g7, 2, none⟩ = some (.int .i64 kk) ∧ w'.cell? ⟨g8, 0, none⟩ = some (.int .i64 D.q) ∧ w'.cell? ⟨g8, 1, none⟩ = some (.slice va m vc) ∧ w'.cell? ⟨g8, 2, none⟩ = some (.int .i64 kk))
    (first | exact ⟨l0, l1, l2, l3, l4⟩ | exact ⟨j0, j1, j2, j3, j4⟩ | exact ⟨p0, p2, r0, r1, r2⟩ | go_keep)
    ((first
      | (go_at_call 37; (with_reducible refine (HEL.out _ ?h1).mono ?_); (case h1 => first | exact HL4.out.bel | exact HL4.out.bel.drew); rintro e v1 ⟨hb5, ma, mc, rfl, hms⟩; have HB5 := Kept.mk (bstep (show Below W4.heap.size W4 _ from (by first | exact Below.refl _ _ | exact (Below.refl _ _).drew)) hb5); have j0 := belowCell HB5.out p0; have j1 := belowCell HB5.out p2; have j2 := belowCell HB5.out r0; have j3 := belowCell HB5.out r1; have j4 := belowCell HB5.out r2; have HMS := Kept.mk hms.sl; clear hb5 hms)
      | (go_at_call 23; (with_reducible refine (HEN.out _ _ _ ?h1 ?h2).mono ?_); (case h1 => first | exact HB5.out | exact HB5.out.drew); (case h2 => first | exact HMS.out | exact HMS.out.below (Below.refl _ _).drew); rintro e WV ⟨hb6, wa, wc, rfl, hws⟩; have HB6 := Kept.mk (bstep (show Below W4.heap.size W4 _ from (by first | exact HB5.out | exact HB5.out.drew)) hb6); have l0 := belowCell HB6.out p0; have l1 := belowCell HB6.out p2; have l2 := belowCell HB6.out r0; have l3 := belowCell HB6.out r1; have l4 := belowCell HB6.out r2; have HWS := Kept.mk hws; clear hb6 hws)))
  have HLE := Kept.mk (HL4.out.below HB6.out)
  clear HEN HMS HB5 HB6 p0 p1 p2 r0 r1 r2 j0 j1 j2 j3 j4 l0 l1 l2 l3 l4
  obtain ⟨p0, p1, p2, _⟩ := three_cells HLE.out.b7
  obtain ⟨r0, r1, r2, _⟩ := three_cells HLE.out.b8
  obtain ⟨ws, hws⟩ : ∃ l, FFld.valsF D ms xs m = l := ⟨_, rfl⟩
  have HWQ : Kept (∀ a ∈ ws, a < D.p ^ D.k) := ⟨by
    rw [← hws]
    intro a ha
    unfold FFld.valsF at ha
    obtain ⟨j, _, rfl⟩ := List.mem_map.1 ha
    split
    · exact FFld.hornF_lt HD.out.pre.pk _ _ _
    · exact Nat.pow_pos HD.out.pre.pk.p0⟩
  have HWL : Kept (ws.length = m) := ⟨by rw [← hws, FFld.valsF_len]; exact HCV.out.len⟩
  have HWM := Kept.mk hws
  rw [hws] at HWS
  clear hws
  have e3 : ((m : Int) != (m : Int)) = false := by simp
  have ed : (m : Int) - (kk : Int) = ((m - kk : Nat) : Int) := by omega
  obtain ⟨ps, hps⟩ : ∃ l, plF xs2 m (m - kk) xs2.length = l := ⟨_, rfl⟩
  obtain ⟨c0, hc0⟩ : ∃ x, ps.length = x := ⟨_, rfl⟩
  have HPS : Kept (ps.Nodup ∧ (∀ a ∈ ps, a < m) ∧ ∀ j, j < 0 → j ∈ ps) := ⟨⟨by rw [← hps]; exact plF_nodup _ _ _ _, by rw [← hps]; exact plF_lt (by omega) _ _ _, fun j hj => absurd hj (Nat.not_lt_zero _)⟩⟩
  have hc0m : c0 ≤ m - kk := by rw [← hc0, ← hps]; exact (plF_len _ _ _ _).1
  have HPL : Kept (Calls Tryz.prog 41 #[v2, .int .i64 m, .int .i64 ((m - kk : Nat) : Int)] WV (RetP WV ps c0)) := ⟨(HPL0.out WV HLE.out.bel m (m - kk) (by omega) (by omega) (by omega)).mono fun e w' h => (by rw [hps] at h; exact h.parts hc0)⟩
  clear HPL0 hps hc0
  go_wp2_with fail
  (with_reducible refine HPL.out.mono ?_)
  rintro e w5 ⟨hb5, pa, pc, rfl, hmp⟩
  have HMP := Kept.mk hmp
  have HB5 := Kept.mk hb5
  have HP5 : Kept (ps.length = c0) := ⟨by have h := hmp.sl; obtain ⟨_, _, e, _⟩ := h; simp only [Value.slice.injEq] at e; have := e.2.1; rw [FFld.ints_len] at this; exact this.symm⟩
  have hp5 := HP5.out
  clear hb5 hmp HPL p0 p1 p2 r0 r1 r2
  go_wp2
  go_loopw [12, 13] (fun pv iv wr => ∃ (i c : Nat) (pa : Option Addr) (pc : Nat) (L : List Nat), i ≤ m ∧ iv = .int .i64 i ∧ pv = .slice pa c pc ∧ L.length = c ∧ c ≤ m - kk ∧ Kept (L.Nodup ∧ (∀ a ∈ L, a < m) ∧ ∀ j, j < i → j ∈ L) ∧ Kept (Mine 3 .i64 WV.heap.size wr (.slice pa c pc) (ints L)) ∧ Kept (Below WV.heap.size WV wr)) (fun _ iv _ => m - (intOf iv).toNat)
  case atStart => exact ⟨0, c0, pa, pc, ps, Nat.zero_le _, rfl, rfl, hp5, hc0m, HPS, HMP, HB5⟩
  case round =>
    clear HPS HMP HB5 HP5 hp5
    obtain ⟨i, c, pa, pc, L, hin, rfl, rfl, hlc, hcm, hnd, hmn, hbv⟩ := hrel
    have HLR := Kept.mk (HLE.out.below hbv.out)
    obtain ⟨p0, p1, p2, _⟩ := three_cells HLR.out.b7
    have HLC := Kept.mk hlc
    obtain ⟨_, hpcm⟩ : c ≤ pc ∧ pc ≤ maxLen := by
      obtain ⟨_, _, e, h1, h2, _⟩ := hmn.out.sl
      simp only [Value.slice.injEq] at e
      obtain ⟨_, h3, h4⟩ := e
      rw [← h3, ← h4] at h1
      exact ⟨h1, by rw [h4]; exact h2⟩
    by_cases hlt : i < m
    · by_cases hcl : c < m - kk
      · have HHS := Kept.mk (fun (W : World) (hW : Below wr.heap.size wr W) => rhas_any (.slice pa c pc) (ints L) (i : Int) W (hmn.out.sl.below hW))
        rw [has_ints] at HHS
        by_cases hmem : i ∈ L
        · rw [decide_eq_true hmem] at HHS
          have HN2 : Kept (L.Nodup ∧ (∀ a ∈ L, a < m) ∧ ∀ j, j < i + 1 → j ∈ L) := ⟨⟨hnd.out.1, hnd.out.2.1, fun j hj => by
            rcases Nat.lt_or_ge j i with h | h
            · exact hnd.out.2.2 j h
            · obtain rfl : j = i := by omega
              exact hmem⟩⟩
          clear hmem
          go_wp2_with fail
          (with_reducible refine (HHS.out _ (Below.refl _ _)).mono ?_)
          rintro e w3 ⟨rfl, rfl⟩
          go_wp2
          go_roundw
          case rel => exact ⟨i + 1, c, pa, pc, L, by omega, by go_num, rfl, hlc, hcm, HN2, hmn, hbv⟩
          case measure => simp [intOf] <;> omega
        · rw [decide_eq_false hmem] at HHS
          have HN2 : Kept ((L ++ [i]).Nodup ∧ (∀ a ∈ L ++ [i], a < m) ∧ ∀ j, j < i + 1 → j ∈ L ++ [i]) := ⟨⟨by
            rw [List.nodup_append]
            refine ⟨hnd.out.1, by simp, fun a ha b hb e => ?_⟩
            obtain rfl := List.mem_singleton.1 hb
            exact hmem (e ▸ ha), fun a ha => by
            rcases List.mem_append.1 ha with h | h
            · exact hnd.out.2.1 a h
            · obtain rfl := List.mem_singleton.1 h
              exact hlt, fun j hj => by
            rcases Nat.lt_or_ge j i with h | h
            · exact List.mem_append.2 (.inl (hnd.out.2.2 j h))
            · obtain rfl : j = i := by omega
              exact List.mem_append.2 (.inr (List.mem_singleton.2 rfl))⟩⟩
          clear hmem
          go_wp2_with fail
          (with_reducible refine (HHS.out _ (Below.refl _ _)).mono ?_)
          rintro e w3 ⟨rfl, rfl⟩
          have hal : Below wr.heap.size wr (wr.alloc (.cells #[.int .i64 (i : Nat)] 3)) := (Below.refl _ _).alloc (Nat.le_refl _) _
          have HM3 := Kept.mk (hmn.out.alloc (.cells #[.int .i64 (i : Nat)] 3))
          have HNW := Kept.mk (new_one (K := .i64) (x := ((i : Nat) : Int)) (w := wr.alloc (.cells #[.int .i64 (i : Nat)] 3)) (b := wr.heap.size) (o := 0) (by exact (Row.new (E := 3) (K := .i64) wr [((i : Nat) : Int)]).cell (i := 0) (by simp)))
          have hsz := hbv.out.size
          have HBB := Kept.mk (show WV.heap.size ≤ (wr.alloc (.cells #[.int .i64 (i : Nat)] 3)).heap.size by simp; omega)
          have HBQ := Kept.mk (hbv.out.alloc hsz (.cells #[.int .i64 (i : Nat)] 3))
          have HOW := Kept.mk HM3.out.own
          have H1 := Kept.mk (show ((ints L).length + [((i : Nat) : Int)].length) * 8 ≤ 140737488355328 by rw [FFld.ints_len, hlc]; simp; omega)
          have H2 := Kept.mk (show (ints L).length + [((i : Nat) : Int)].length ≤ maxLen by rw [FFld.ints_len, hlc]; unfold maxLen; simp; omega)
          clear hal
          go_wp2_with (at_builtin; refine wpList_append_parts _ rfl _ _ 22 (by rfl) 3 .i64 8 Tryz.underlying22 info_i64 WV.heap.size (.slice pa c pc) (ints L) (by rfl) HM3.out HBB.out ⟨wr.heap.size, 0, none⟩ 1 1 [((i : Nat) : Int)] (by rfl) rfl HNW.out H1.out H2.out ?_)
          intro va2 nv vc2 w5 hlv hm5 hg5 hn5
          obtain rfl : nv = c + 1 := by rw [← hlv]; simp [hlc, FFld.ints_len]
          have HM5 : Kept (Mine 3 .i64 WV.heap.size w5 (.slice va2 (c + 1) vc2) (ints (L ++ [i]))) := ⟨by rw [FFld.ints_append]; exact hm5⟩
          have HB5 := Kept.mk (HBQ.out.grown hg5 HBB.out (fun j hj => (HOW.out j hj).1))
          clear hlv hm5 hg5 hn5
          go_wp2
          go_roundw
          case rel => exact ⟨i + 1, c + 1, _, _, _, by omega, by go_num, rfl, by simp [hlc], by omega, HN2, HM5, HB5⟩
          case measure => simp [intOf] <;> omega
      · obtain ⟨rfl⟩ : c = m - kk := by omega
        have HWR := Kept.mk (HWS.out.below hbv.out)
        have HLB : Kept (∀ a ∈ L, a < m) := ⟨hnd.out.2.1⟩
        have HES := Kept.mk hmn.out.sl
        have HDF : Kept (difB (ints L) (m - kk) = true) := ⟨by rw [← HLC.out]; exact dif_nodup hnd.out.1⟩
        clear hnd hmn HLE HWS hbv
        obtain ⟨wz, rfl⟩ : ∃ W, W = wr := ⟨_, rfl⟩
        go_wp2_with (at_make; refine wpList_make_zeros _ rfl _ _ 22 rfl 3 .i64 Tryz.underlying22 info_i64 _ _ m rfl rfl (by omega) (by omega) (by omega) ?_)
        intro w6 hrow hbel
        rw [FFld.ints_rep] at hrow
        have HV6 : Kept (Wv w6 wz.heap.size (lftF L ws m 0)) := ⟨by rw [lftF_zero]; exact hrow.wv⟩
        have HB6 := Kept.mk (show Below wz.heap.size wz w6 by simpa using hbel)
        obtain ⟨gv, hgv⟩ : ∃ x, wz.heap.size = x := ⟨_, rfl⟩
        rw [hgv] at HV6
        try rw [hgv]
        have HGV := Kept.mk hgv
        clear hrow hbel hgv
        go_wp2
        go_loopw [15] (fun iv wr => ∃ (i : Nat), i ≤ m ∧ iv = .int .i64 i ∧ Kept (Wv wr gv (lftF L ws m i)) ∧ Kept (Below wz.heap.size wz wr)) (fun iv _ => m - (intOf iv).toNat)
        case atStart => exact ⟨0, Nat.zero_le _, rfl, HV6, HB6⟩
        case round =>
          clear HV6 HB6
          obtain ⟨i, hin, rfl, hwv, hbq⟩ := hrel
          by_cases hlt : i < m
          · have HHS := Kept.mk (fun (W : World) (hW : Below wz.heap.size wz W) => rhas_any (.slice pa (m - kk) pc) (ints L) (i : Int) W (HES.out.below hW))
            rw [has_ints] at HHS
            by_cases hmem : i ∈ L
            · rw [decide_eq_true hmem] at HHS
              have HW2 : Kept (Wv wr gv (lftF L ws m (i + 1))) := ⟨by rw [lftF_in hmem]; exact hwv.out⟩
              clear hmem
              go_wp2_with fail
              (with_reducible refine (HHS.out _ hbq.out).mono ?_)
              rintro e w3 ⟨rfl, rfl⟩
              go_wp2
              go_roundw
              case rel => exact ⟨i + 1, by omega, by go_num, HW2, hbq⟩
              case measure => simp [intOf] <;> omega
            · rw [decide_eq_false hmem] at HHS
              obtain ⟨bw, ow, rfl, hbw, hcell⟩ := (HWR.out.below hbq.out).news_ i (by rw [FFld.ints_len, HWL.out]; exact hlt)
              rw [FFld.ints_get] at hcell
              obtain ⟨x, hx⟩ : ∃ y, ws[i]?.getD 0 = y := ⟨_, rfl⟩
              rw [hx] at hcell
              have hsv := (HWR.out.below hbq.out)
              obtain ⟨hwc1, hwc2⟩ : m ≤ wc ∧ wc ≤ maxLen := by
                obtain ⟨_, _, e, h1, h2, _⟩ := HWR.out
                simp only [Value.slice.injEq] at e
                obtain ⟨_, h3, h4⟩ := e
                rw [← h3, ← h4] at h1
                exact ⟨h1, by rw [h4]; exact h2⟩
              have k0 := hwv.out.cell (i := i) (by rw [lftF_len]; exact hlt)
              have k1 := hwv.out.free i
              have HW2 : Kept (Wv (wr.setCell ⟨gv, i, none⟩ (.int .i64 (x : Nat))) gv (lftF L ws m (i + 1))) := ⟨by rw [← lftF_out hmem, hx]; exact hwv.out.set x⟩
              have HB2 := Kept.mk (hbq.out.setCell (p := ⟨gv, i, none⟩) (by rw [HGV.out]; exact Nat.le_refl _) (.int .i64 (x : Nat)))
              unfold maxLen at hwc2
              clear hmem hx hsv
              go_wp2_with fail
              (with_reducible refine (HHS.out _ hbq.out).mono ?_)
              rintro e w3 ⟨rfl, rfl⟩
              go_wp2
              go_roundw
              case rel => exact ⟨i + 1, by omega, by go_num, HW2, HB2⟩
              case measure => simp [intOf] <;> omega
          · obtain rfl : i = m := by omega
            have HLQ := Kept.mk (HLR.out.below hbq.out)
            have HWQ2 := Kept.mk (HWR.out.below hbq.out)
            obtain ⟨vs, hvs⟩ : ∃ l, lftF L ws i i = l := ⟨_, rfl⟩
            have hwv' := hwv.out
            rw [hvs] at hwv'
            have hvl : vs.length = i := by rw [← hvs]; exact lftF_len _ _ _ _
            have hvq : ∀ a ∈ vs, a < D.p ^ D.k := by rw [← hvs]; exact lftF_lt (Nat.pow_pos HD.out.pre.pk.p0) HWQ.out _ _
            have hkv : kpL (ints L) i vs = kpL (ints L) i ws := by rw [← hvs]; exact lftF_kp
            have hkp := kp_len (bel_lt HLB.out) HDF.out (by rw [FFld.ints_len]; exact HLC.out)
            have ht0 : (i - (i - kk) - kk) / 2 = 0 := by omega
            have hnm : Near D (kpL (ints L) i xs) (kpL (ints L) i ws) kk 0 (FFld.trm ms) := near_msg HCV.out.len HMQ.out HML.out (by rw [HWM.out, disF_self]; exact Nat.le_refl _)
            have hdc := cdecode_any HD.out va (some ⟨gv, 0, none⟩) pa vc i pc i (i - kk) kk xs vs (ints L) wr HLQ.out.sl (hwv'.sl hvl.symm (Nat.le_refl _) (by unfold maxLen; omega)) (HES.out.below hbq.out) HCV.out hvl (by rw [FFld.ints_len]; exact HLC.out) hvq (by omega) (bel_lt HLB.out) HDF.out
            rw [ht0, hkv] at hdc
            have HDC : Kept (Calls Tryz.prog 25 #[cdv D.q va i vc kk, .slice (some ⟨gv, 0, none⟩) i i, .slice pa (i - kk) pc] wr (fun e w' => Below wr.heap.size wr w' ∧ ∃ (da : Option Addr) (dc : Nat), e = .returned (.tuple #[.slice da i dc, .int .i64 0]) ∧ Sl .i64 w' (.slice da i dc) (ints ws))) := ⟨hdc.mono fun e w' h => by
              obtain ⟨hb, ⟨Po, v, hN, rfl, hsv⟩ | ⟨hno, _⟩⟩ := h
              · obtain rfl := near_uniq HD.out (kpL_len _ _ _) (kpL_lt HCV.out.len HCV.out.lt) (by have h := kpL_dif (es := ints L) HCV.out.dif; rw [kpL_len] at h; exact h) (by omega) hN hnm
                rw [HCV.out.len, vals_trm', HWM.out] at hsv
                obtain ⟨da, dc, rfl, _, _⟩ := hsv.form
                rw [FFld.ints_len, HWL.out] at hsv ⊢
                exact ⟨hb, da, dc, rfl, hsv⟩
              · exact absurd hnm (hno _)⟩
            have HBQ := Kept.mk (HLQ.out.bel)
            obtain ⟨r0, r1, r2, _⟩ := three_cells HLQ.out.b8
            clear hwv' hvs hvl hvq hkv hkp ht0 hnm hdc hwv HLQ HDF HLB
            go_wp2_with fail
            (with_reducible refine HDC.out.mono ?_)
            rintro e w8 ⟨hb8, da, dc, rfl, hsd⟩
            have HSM := Kept.mk (same3_eq (.slice da i dc) (.slice wa i wc) (ints ws) w8 hsd (HWQ2.out.below hb8) (by rw [FFld.ints_len, HWL.out]; omega))
            have HB8 := Kept.mk (bstep HBQ.out hb8)
            clear hb8 hsd HDC HBQ HWQ2 r0 r1 r2
            go_wp2_with fail
            (with_reducible refine HSM.out.mono ?_)
            rintro e w9 ⟨hb9, rfl⟩
            have HB9 := Kept.mk (bstep HB8.out hb9)
            clear hb9 HSM HB8
            go_wp2_with fail
            (with_reducible refine (HAW.out _).mono ?_)
            rintro e w10 ⟨hb10, rfl⟩
            have HBZ := Kept.mk (bstep HB9.out hb10)
            clear hb10 HB9
            go_wp2
            go_ret
            exact ⟨HBZ.out, rfl⟩
    · obtain rfl : i = m := by omega
      have := full_nodup hnd.out.1 hnd.out.2.2 hlc
      omega
end Go.Proofs.YtdnheaafcbihbaaGreat
