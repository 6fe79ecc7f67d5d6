/-
  Texts of the proof, merged by program: Lei.
-/
import Derived.Test.YtdnheaafcbihbaaGreatV24
import Derived.Test.YtdnheaafcbihbaaGreatV22
import Derived.Test.YtdnheaafcbihbaaGreatV26
set_option linter.unusedVariables false
set_option linter.unusedSimpArgs false
namespace Go.Proofs.YtdnheaafcbihbaaGreat
open Go Go.RowKit Go.Deep
open FFld (ints)
set_option maxRecDepth 20000 in
set_option maxHeartbeats 16000000 in
theorem codeEither_any (o : Int) (ao : Option Addr) (n0 cap : Nat) (k : Int) (ys : List Int) (v1 : Value) (xs1 : List Int) (v2 : Value) (xs2 : List Int) (w : World) (hl : ys.length = n0) (hs : Sl .i64 w (.slice ao n0 cap) ys) (hi : I64s ys) (o0 : -9223372036854775808 ≤ o) (o1 : o ≤ 9223372036854775807) (k0 : -9223372036854775808 ≤ k) (k1 : k ≤ 9223372036854775807) (s1 : Sl .i64 w v1 xs1) (w1 : I64s xs1) (s2 : Sl .i64 w v2 xs2) (w2 : I64s xs2) :
    Calls Tryz.prog 11 #[cdv o ao n0 cap k, v1, v2] w (RB w (.bool true)) := by
  obtain ⟨a2, c2, rfl, hn2, hm2⟩ := s2.form
  obtain ⟨n2, hn⟩ : ∃ x, xs2.length = x := ⟨_, rfl⟩
  rw [hn] at s2 hn2 ⊢
  have HN2 := Kept.mk hn
  have HS2 := Kept.mk s2
  have HI2 := Kept.mk w2
  unfold maxLen at hm2
  have HX0 : Kept (Bxs w [rcdbox o ao n0 cap k] (w.alloc (rcdbox o ao n0 cap k))) := ⟨(Bxs.start w).alloc (by simp) _⟩
  have HTM : Kept (∀ W, Below w.heap.size w W → Calls Tryz.prog 30 #[cdv o ao n0 cap k, .int .i64 20] W (TaRet 20 W)) := ⟨fun W hW => tame_any o k ao n0 cap 20 ys W hl (hs.below hW) hi o0 o1 k0 k1 (by omega)⟩
  have HAW := Kept.mk (fun W => cawake_any W)
  have HEL0 : Kept (∀ W, Below w.heap.size w W → ∀ q kk : Nat, 1 ≤ q → q ≤ 300 → kk ≤ 20 → Calls Tryz.prog 37 #[.int .i64 q, v1, .int .i64 kk] W (RetP W (elL q xs1 kk) kk)) := ⟨fun W hW q kk hq1 hq3 hk => (elements_any q kk v1 xs1 W (s1.below hW) w1 hq1 (by omega) (by omega)).mono fun e w' h => h.parts (elL_len _ _ _)⟩
  have HPL0 : Kept (∀ W, Below w.heap.size w W → ∀ q most : Nat, 1 ≤ q → q ≤ 20 → most ≤ 20 → Calls Tryz.prog 41 #[.slice a2 n2 c2, .int .i64 q, .int .i64 most] W (RetM W (ints (plF xs2 q most xs2.length)))) := ⟨fun W hW q most hq1 hq3 hm => places_any q most (.slice a2 n2 c2) xs2 W (s2.below hW) w2 hq1 (by omega) (by omega)⟩
  clear hl hs hi o0 o1 k0 k1 s1 w1 s2 w2 hn
  go_enter Tryz.func11, Tryz.ntmps11
  obtain ⟨c0, c1, c2, _⟩ := three_cells HX0.out.b0
  have hbx := HX0.out.1
  go_wp2_with fail
  (with_reducible refine (HTM.out _ hbx).mono ?_)
  rintro e w1 ⟨hb1, D, va, m, vc, kk, xs, hD, hq3, hcv, hmm, rfl, hsl⟩
  have HD := Kept.mk hD
  have HCV := Kept.mk hcv
  have hm1 : m ≤ 20 := by omega
  have hkk1 := hcv.k1
  have hkkm := hcv.kn
  have hq1 : 1 ≤ D.q := Nat.le_of_lt hD.pre.pk.one_lt
  have hal : Below w1.heap.size w1 (w1.alloc (rcdbox D.q va m vc kk)) := (Below.refl _ _).alloc (Nat.le_refl _) _
  have hg7 := heap_alloc_new w1 (rcdbox D.q va m vc kk)
  have hbw : Below w.heap.size w (w1.alloc (rcdbox D.q va m vc kk)) := (hbx.trans (hb1.mono hbx.size)).trans (hal.mono (Nat.le_trans hbx.size hb1.size))
  have hsl2 := hsl.below hal
  obtain ⟨g7, hg⟩ : ∃ x, w1.heap.size = x := ⟨_, rfl⟩
  obtain ⟨W2, hW2⟩ : ∃ W, w1.alloc (rcdbox D.q va m vc kk) = W := ⟨_, rfl⟩
  rw [hW2, hg] at hg7
  rw [hW2] at hbw hsl2
  have HG7 := Kept.mk hg7
  have HBW := Kept.mk hbw
  have HSL := Kept.mk hsl2
  obtain ⟨p0, p1, p2, _⟩ := three_cells hg7
  have HGI := Kept.mk (give_any (D.q : Int) (kk : Int) va m vc W2)
  go_upto_region 2 with fail
  try rw [hW2]
  try rw [hg]
  clear hbx hb1 hD hcv hmm hsl hal hg7 hbw hsl2 c0 c1 c2 hW2 hg HX0 HTM
  go_wp2_with fail
  (with_reducible refine HGI.out.mono ?_)
  rintro e w3 ⟨hb3, rfl⟩
  have hal : Below w3.heap.size w3 (w3.alloc (cdbox D.q va m vc kk)) := (Below.refl _ _).alloc (Nat.le_refl _) _
  have hg8 := heap_alloc_new w3 (cdbox D.q va m vc kk)
  have hb4 := bstep hb3 hal
  obtain ⟨g8, hg⟩ : ∃ x, w3.heap.size = x := ⟨_, rfl⟩
  obtain ⟨W4, hW4⟩ : ∃ W, w3.alloc (cdbox D.q va m vc kk) = W := ⟨_, rfl⟩
  rw [hW4, hg] at hg8
  rw [hW4] at hb4
  have HL4 : Kept (LwAt w D va m vc kk xs g7 g8 W4) := ⟨⟨HBW.out.trans (hb4.mono HBW.out.size), (hb4.block _ (Array.getElem?_eq_some_iff.1 HG7.out).1).trans HG7.out, hg8, HSL.out.below hb4⟩⟩
  go_upto_region 3 with fail
  try rw [hW4]
  try rw [hg]
  clear hb3 hal hg8 hb4 hg hW4 p0 p1 p2 HGI HBW HG7 HSL
  obtain ⟨p0, p1, p2, _⟩ := three_cells HL4.out.b7
  obtain ⟨r0, r1, r2, _⟩ := three_cells HL4.out.b8
  obtain ⟨ms, hms⟩ : ∃ l, elL D.q xs1 kk = l := ⟨_, rfl⟩
  have HML : Kept (ms.length = kk) := ⟨by rw [← hms]; exact elL_len _ _ _⟩
  have HMQ : Kept (∀ a ∈ ms, a < D.p ^ D.k) := ⟨by rw [← hms]; exact elL_lt (q := D.q) hq1 _ _⟩
  have HEL : Kept (∀ W, Below w.heap.size w W → Calls Tryz.prog 37 #[.int .i64 D.q, v1, .int .i64 kk] W (RetP W ms kk)) := ⟨fun W hW => by rw [← hms]; exact HEL0.out W hW D.q kk hq1 hq3 (by omega)⟩
  clear hms HEL0
  have HEN : Kept (∀ W ma mc, Below W4.heap.size W4 W → Sl .i64 W (.slice ma kk mc) (ints ms) → Calls Tryz.prog 23 #[cdv D.q va m vc kk, .slice ma kk mc] W (EnRet D xs ms m W)) := ⟨fun W ma mc hW hms => cencode_ok HD.out va ma vc mc m kk xs ms W (HL4.out.sl.below hW) hms HCV.out HML.out HMQ.out⟩
  go_upto_region 4 with fail
  go_region_held3 (fun w' => w'.cell? ⟨g7, 0, none⟩ = some (.int .i64 D.q) ∧ w'.cell? ⟨g7, 2, none⟩ = some (.int .i64 kk) ∧ w'.cell? ⟨g8, 0, none⟩ = some (.int .i64 D.q) ∧ w'.cell? ⟨g8, 1, none⟩ = some (.slice va m vc) ∧ w'.cell? ⟨g8, 2, none⟩ = some (.int .i64 kk))
    (first | exact ⟨l0, l1, l2, l3, l4⟩ | exact ⟨j0, j1, j2, j3, j4⟩ | exact ⟨p0, p2, r0, r1, r2⟩ | go_keep)
    ((first
      | (go_at_call 37; (with_reducible refine (HEL.out _ ?h1).mono ?_); (case h1 => first | exact HL4.out.bel | exact HL4.out.bel.drew); rintro e v1 ⟨hb5, ma, mc, rfl, hms⟩; have HB5 := Kept.mk (bstep (show Below W4.heap.size W4 _ from (by first | exact Below.refl _ _ | exact (Below.refl _ _).drew)) hb5); have j0 := belowCell HB5.out p0; have j1 := belowCell HB5.out p2; have j2 := belowCell HB5.out r0; have j3 := belowCell HB5.out r1; have j4 := belowCell HB5.out r2; have HMS := Kept.mk hms.sl; clear hb5 hms)
      | (go_at_call 23; (with_reducible refine (HEN.out _ _ _ ?h1 ?h2).mono ?_); (case h1 => first | exact HB5.out | exact HB5.out.drew); (case h2 => first | exact HMS.out | exact HMS.out.below (Below.refl _ _).drew); rintro e WV ⟨hb6, wa, wc, rfl, hws⟩; have HB6 := Kept.mk (bstep (show Below W4.heap.size W4 _ from (by first | exact HB5.out | exact HB5.out.drew)) hb6); have l0 := belowCell HB6.out p0; have l1 := belowCell HB6.out p2; have l2 := belowCell HB6.out r0; have l3 := belowCell HB6.out r1; have l4 := belowCell HB6.out r2; have HWS := Kept.mk hws; clear hb6 hws)))
  have HLE := Kept.mk (HL4.out.below HB6.out)
  clear HEN HMS HB5 HB6 p0 p1 p2 r0 r1 r2 j0 j1 j2 j3 j4 l0 l1 l2 l3 l4
  obtain ⟨p0, p1, p2, _⟩ := three_cells HLE.out.b7
  obtain ⟨r0, r1, r2, _⟩ := three_cells HLE.out.b8
  obtain ⟨ws, hws⟩ : ∃ l, FFld.valsF D ms xs m = l := ⟨_, rfl⟩
  have HWQ : Kept (∀ a ∈ ws, a < D.p ^ D.k) := ⟨by
    rw [← hws]
    intro a ha
    unfold FFld.valsF at ha
    obtain ⟨j, _, rfl⟩ := List.mem_map.1 ha
    split
    · exact FFld.hornF_lt HD.out.pre.pk _ _ _
    · exact Nat.pow_pos HD.out.pre.pk.p0⟩
  have HWL : Kept (ws.length = m) := ⟨by rw [← hws, FFld.valsF_len]; exact HCV.out.len⟩
  have HWM := Kept.mk hws
  rw [hws] at HWS
  clear hws
  have e3 : ((m : Int) != (m : Int)) = false := by simp
  obtain ⟨dd, hdd⟩ : ∃ x, m - kk + 1 = x := ⟨_, rfl⟩
  obtain ⟨mo, hmo, hmo1, hmo2, hmo3⟩ := nmod (q := dd) (by omega) n2
  have u1 : IntKind.u64.wrap (n2 : Int) = n2 := by rw [IntKind.wrap_u64]; omega
  have ed : (m : Int) - (kk : Int) = ((m - kk : Nat) : Int) := by omega
  have u2 : ((m - kk : Nat) : Int) + 1 = dd := by omega
  have u3 : IntKind.u64.wrap (dd : Int) = dd := by rw [IntKind.wrap_u64]; omega
  have u4 : ¬ ((dd : Int) = 0) := by omega
  have u5 : ¬ (dd = 0) := by omega
  have u7 : IntKind.i64.wrap (mo : Int) = mo := wi (by omega) (by omega)
  obtain ⟨L, hL⟩ : ∃ l, plF xs2 m mo xs2.length = l := ⟨_, rfl⟩
  obtain ⟨c, hc⟩ : ∃ x, L.length = x := ⟨_, rfl⟩
  have HLB : Kept (∀ a ∈ L, a < m) := ⟨by rw [← hL]; exact plF_lt (by omega) _ _ _⟩
  have HDF : Kept (difB (ints L) c = true) := ⟨by rw [← hc, ← hL]; exact dif_nodup (plF_nodup _ _ _ _)⟩
  have HLC := Kept.mk hc
  have hcm : c ≤ m - kk := by have h := (plF_len xs2 m mo xs2.length).1; rw [hL, hc] at h; omega
  have HPL : Kept (Calls Tryz.prog 41 #[.slice a2 n2 c2, .int .i64 m, .int .i64 (mo : Nat)] WV (RetP WV L c)) := ⟨(HPL0.out WV HLE.out.bel m mo (by omega) (by omega) (by omega)).mono fun e w' h => (by rw [hL] at h; exact h.parts hc)⟩
  obtain ⟨t0, ht0⟩ : ∃ x, (m - c - kk) / 2 = x := ⟨_, rfl⟩
  have HT0 := Kept.mk ht0
  have r1' : (m : Int) - (c : Int) = ((m - c : Nat) : Int) := by omega
  have r2' : ((m - c : Nat) : Int) - (kk : Int) = ((m - c - kk : Nat) : Int) := by omega
  have r3' : ((m - c - kk : Nat) : Int).tdiv 2 = t0 := by rw [Int.tdiv_eq_ediv_of_nonneg (by omega)]; omega
  have r4' : ((m - c - kk : Nat) : Int) / 2 = t0 := by omega
  clear HPL0 hL hc hmo
  go_wp2_with fail
  (with_reducible refine HPL.out.mono ?_)
  rintro e w5 ⟨hb5, pa, pc, rfl, hmp⟩
  obtain ⟨hpc1, hpcm⟩ : c ≤ pc ∧ pc ≤ maxLen := by
    obtain ⟨_, _, e, h1, h2, _⟩ := hmp.sl
    simp only [Value.slice.injEq] at e
    obtain ⟨_, h3, h4⟩ := e
    rw [← h3, ← h4] at h1
    exact ⟨h1, by rw [h4]; exact h2⟩
  obtain ⟨hwc1, hwc2⟩ : m ≤ wc ∧ wc ≤ maxLen := by
    obtain ⟨_, _, e, h1, h2, _⟩ := HWS.out
    simp only [Value.slice.injEq] at e
    obtain ⟨_, h3, h4⟩ := e
    rw [← h3, ← h4] at h1
    exact ⟨h1, by rw [h4]; exact h2⟩
  have HES := Kept.mk hmp.sl
  have HL5 := Kept.mk (HLE.out.below hb5)
  have HW5 := Kept.mk (HWS.out.below hb5)
  unfold maxLen at hpcm hwc2
  clear hb5 hmp HPL HLE HWS p0 p1 p2 r0 r1 r2
  obtain ⟨p0, p1, p2, _⟩ := three_cells HL5.out.b7
  have H1 := Kept.mk (show (([] : List Int).length + (ints ws).length) * 8 ≤ 140737488355328 by rw [FFld.ints_len, HWL.out]; simp; omega)
  have H2 := Kept.mk (show ([] : List Int).length + (ints ws).length ≤ maxLen by rw [FFld.ints_len, HWL.out]; unfold maxLen; simp; omega)
  obtain ⟨bw, ow, rfl, _, _⟩ := HW5.out.news_ 0 (by rw [FFld.ints_len, HWL.out]; omega)
  have HLW : Kept ((ints ws).length = m) := ⟨by rw [FFld.ints_len, HWL.out]⟩
  go_wp2_with (at_builtin; refine wpList_append_sl _ rfl _ _ 22 rfl 3 .i64 8 Tryz.underlying22 info_i64 w5.heap.size _ [] rfl (Mine.nil _ _ _ _) (Nat.le_refl _) _ _ rfl HW5.out H1.out H2.out ?_)
  intro v' w6 hm6 hg6
  have hm7 : Mine 3 .i64 w5.heap.size w6 v' (ints ws) := by simpa using hm6
  obtain ⟨gv, cv, rfl, hgB, hgl, hcv1, hcv2, _, _⟩ := hm7.at (i := 0) (by rw [HLW.out]; omega)
  rw [HLW.out] at hm7 hcv1
  rw [HLW.out]
  have HV6 := Kept.mk hm7.wv
  have HB6 := Kept.mk ((Below.refl w5.heap.size w5).grown hg6 (Nat.le_refl _) (fun k hk => by simp [Value.ownBlock] at hk))
  have hg7 : g7 < w5.heap.size := (Array.getElem?_eq_some_iff.1 HL5.out.b7).1
  have hq0 : ¬ ((D.q : Int) = 0) := by omega
  have hq00 : ¬ (D.q = 0) := by omega
  unfold maxLen at hcv2
  clear hm6 hg6 hm7 HLW H1 H2
  go_wp2
  go_loopw [15] (fun iv wr => ∃ (i : Nat) (VS : List Nat), i ≤ c ∧ iv = .int .i64 i ∧ VS.length = m ∧ Kept ((∀ a ∈ VS, a < D.p ^ D.k) ∧ ∀ j, j ∉ L → VS[j]?.getD 0 = ws[j]?.getD 0) ∧ Kept (Wv wr gv VS) ∧ Kept (Below w5.heap.size w5 wr)) (fun iv _ => c - (intOf iv).toNat)
  case atStart => exact ⟨0, ws, Nat.zero_le _, rfl, HWL.out, ⟨⟨HWQ.out, fun j _ => rfl⟩⟩, HV6, HB6⟩
  case round =>
    clear HV6 HB6
    obtain ⟨i, VS, hin, rfl, hvl, hvs, hwv, hbq⟩ := hrel
    have pq := belowCell hbq.out p0
    by_cases hlt : i < c
    · obtain ⟨bE, oE, rfl, hbE, hce⟩ := HES.out.news_ i (by rw [FFld.ints_len, HLC.out]; exact hlt)
      rw [FFld.ints_get] at hce
      obtain ⟨e, he⟩ : ∃ y, L[i]?.getD 0 = y := ⟨_, rfl⟩
      have hem : e < m := by rw [← he]; exact HLB.out _ (FFld.get_mem (by rw [HLC.out]; exact hlt))
      have HEL2 : Kept (e ∈ L) := ⟨by rw [← he]; exact FFld.get_mem (by rw [HLC.out]; exact hlt)⟩
      rw [he] at hce
      have pe := belowCell hbq.out hce
      obtain ⟨x, hx⟩ : ∃ y, VS[e]?.getD 0 = y := ⟨_, rfl⟩
      have hxq : x < D.q := by rw [← hx]; exact hvs.out.1 _ (FFld.get_mem (by rw [hvl]; exact hem))
      have k0 := hwv.out.cell (i := e) (by rw [hvl]; exact hem)
      have k1 := hwv.out.free e
      rw [hx] at k0
      obtain ⟨y, _, hyq, hy1', hy2'⟩ := nmod (q := D.q) hq1 (x + i + 1)
      have ex : ((x + i + 1 : Nat) : Int) = (x : Int) + (i : Int) + 1 := by omega
      rw [ex] at hy1' hy2'
      have ew1 : IntKind.i64.wrap ((x : Int) + (i : Int)) = (x : Int) + (i : Int) := wi (by omega) (by omega)
      have ew2 : IntKind.i64.wrap ((x : Int) + (i : Int) + 1) = (x : Int) + (i : Int) + 1 := wi (by omega) (by omega)
      have ew3 : IntKind.i64.wrap (y : Int) = y := wi (by omega) (by omega)
      have HN2 : Kept ((∀ a ∈ VS.set e y, a < D.p ^ D.k) ∧ ∀ j, j ∉ L → (VS.set e y)[j]?.getD 0 = ws[j]?.getD 0) := ⟨⟨set_lt hvs.out.1 hyq, fun j hj => by rw [set_get (fun (e' : j = e) => hj (e' ▸ HEL2.out))]; exact hvs.out.2 j hj⟩⟩
      have HW2 : Kept (Wv (wr.drew.setCell ⟨gv, e, none⟩ (.int .i64 (y : Nat))) gv (VS.set e y)) := ⟨(hwv.out.below (Below.refl _ _).drew).set y⟩
      have HB2 := Kept.mk (hbq.out.drew.setCell (p := ⟨gv, e, none⟩) hgB (.int .i64 (y : Nat)))
      have sd1 := (World.cell?_of_block (a := ⟨bE, oE + i, none⟩) (heap_setCell_other wr.drew ⟨gv, e, none⟩ bE (.int .i64 (y : Nat)) (by simp; omega))).trans (show wr.drew.cell? _ = _ from pe)
      have sd2 := (World.cell?_of_block (a := ⟨g7, 0, none⟩) (heap_setCell_other wr.drew ⟨gv, e, none⟩ g7 (.int .i64 (y : Nat)) (by simp; omega))).trans (show wr.drew.cell? _ = _ from pq)
      clear he hx ex hce hxq hyq
      go_wp2_with fail
      go_upto_region 14 with fail
      refine wp_region_held_drew (S := (fun w' => w'.cell? ⟨bE, oE + i, none⟩ = some (.int .i64 (e : Nat)) ∧ w'.cell? ⟨g7, 0, none⟩ = some (.int .i64 D.q))) (by kernel_rfl) ⟨pe, pq⟩ (fun hHeld => ?_)
      refine wpAnyH_take (i := 0) (v := ?_) rfl (by kernel_rfl) (by kernel_rfl) (by kernel_rfl) (fun _ _ _ h => h) (Or.inl ⟨by rfl, ?_⟩) (by assumption) ?_
      rotate_left
      · (intro w hSw; (try dsimp only at hSw); go_simp; (try with_reducible rfl))
      try simp only [Act.put, List.getElem_toArray, List.getElem_cons_succ, List.getElem_cons_zero, List.setIfInBounds_toArray, List.set_cons_zero, List.set_cons_succ]
      refine wpAnyH_take (i := 1) (v := ?_) rfl (by kernel_rfl) (by kernel_rfl) (by kernel_rfl) (fun _ _ _ h => h) (Or.inl ⟨by rfl, ?_⟩) (by assumption) ?_
      rotate_left
      · (intro w hSw; (try dsimp only at hSw); go_simp; (try with_reducible rfl))
      try simp only [Act.put, List.getElem_toArray, List.getElem_cons_succ, List.getElem_cons_zero, List.setIfInBounds_toArray, List.set_cons_zero, List.set_cons_succ]
      refine wpAnyH_take (i := 2) (v := ?_) rfl (by kernel_rfl) (by kernel_rfl) (by kernel_rfl) (fun _ _ _ h => h) (Or.inl ⟨by rfl, ?_⟩) (by assumption) ?_
      rotate_left
      · (intro w hSw; (try dsimp only at hSw); go_simp; (try with_reducible rfl))
      try simp only [Act.put, List.getElem_toArray, List.getElem_cons_succ, List.getElem_cons_zero, List.setIfInBounds_toArray, List.set_cons_zero, List.set_cons_succ]
      refine wpAnyH_take (i := 3) (v := ?_) rfl (by kernel_rfl) (by kernel_rfl) (by kernel_rfl) (fun _ _ _ h => h) (Or.inl ⟨by rfl, ?_⟩) (by assumption) ?_
      rotate_left
      · (intro w hSw; (try dsimp only at hSw); go_simp; (try with_reducible rfl))
      try simp only [Act.put, List.getElem_toArray, List.getElem_cons_succ, List.getElem_cons_zero, List.setIfInBounds_toArray, List.set_cons_zero, List.set_cons_succ]
      refine wpAnyH_take (i := 4) (v := ?_) rfl (by kernel_rfl) (by kernel_rfl) (by kernel_rfl) (fun _ _ _ h => h) (Or.inl ⟨by rfl, ?_⟩) (by assumption) ?_
      rotate_left
      · (intro w hSw; (try dsimp only at hSw); go_simp; (try with_reducible rfl))
      try simp only [Act.put, List.getElem_toArray, List.getElem_cons_succ, List.getElem_cons_zero, List.setIfInBounds_toArray, List.set_cons_zero, List.set_cons_succ]
      refine wpAnyH_take (i := 5) (v := ?_) rfl (by kernel_rfl) (by kernel_rfl) (by kernel_rfl) (fun _ _ _ h => h) (Or.inl ⟨by rfl, ?_⟩) (by assumption) ?_
      rotate_left
      · (intro w hSw; (try dsimp only at hSw); go_simp; (try with_reducible rfl))
      try simp only [Act.put, List.getElem_toArray, List.getElem_cons_succ, List.getElem_cons_zero, List.setIfInBounds_toArray, List.set_cons_zero, List.set_cons_succ]
      refine wpAnyH_take (i := 6) (v := ?_) rfl (by kernel_rfl) (by kernel_rfl) (by kernel_rfl) (fun _ _ _ h => h) (Or.inl ⟨by rfl, ?_⟩) (by assumption) ?_
      rotate_left
      · (intro w hSw; (try dsimp only at hSw); go_simp; (try with_reducible rfl))
      try simp only [Act.put, List.getElem_toArray, List.getElem_cons_succ, List.getElem_cons_zero, List.setIfInBounds_toArray, List.set_cons_zero, List.set_cons_succ]
      refine wpAnyH_take (i := 7) (v := ?_) rfl (by kernel_rfl) (by kernel_rfl) (by kernel_rfl) (fun _ _ _ h => h) (Or.inl ⟨by rfl, ?_⟩) (by assumption) ?_
      rotate_left
      · (intro w hSw; (try dsimp only at hSw); go_simp; (try with_reducible rfl))
      try simp only [Act.put, List.getElem_toArray, List.getElem_cons_succ, List.getElem_cons_zero, List.setIfInBounds_toArray, List.set_cons_zero, List.set_cons_succ]
      refine wpAnyH_take (i := 8) (v := ?_) rfl (by kernel_rfl) (by kernel_rfl) (by kernel_rfl) (fun _ _ _ h => h) (Or.inl ⟨by rfl, ?_⟩) (by assumption) ?_
      rotate_left
      · (intro w hSw; (try dsimp only at hSw); go_simp; (try with_reducible rfl))
      try simp only [Act.put, List.getElem_toArray, List.getElem_cons_succ, List.getElem_cons_zero, List.setIfInBounds_toArray, List.set_cons_zero, List.set_cons_succ]
      refine wpAnyH_take (i := 9) (v := ?_) rfl (by kernel_rfl) (by kernel_rfl) (by kernel_rfl) (fun _ _ _ h => h) (Or.inl ⟨by rfl, ?_⟩) (by assumption) ?_
      rotate_left
      · (intro w hSw; (try dsimp only at hSw); go_simp; (try with_reducible rfl))
      try simp only [Act.put, List.getElem_toArray, List.getElem_cons_succ, List.getElem_cons_zero, List.setIfInBounds_toArray, List.set_cons_zero, List.set_cons_succ]
      refine wpAnyH_take (i := 10) (v := ?_) rfl (by kernel_rfl) (by kernel_rfl) (by kernel_rfl) (fun _ _ _ h => h) (Or.inl ⟨by rfl, ?_⟩) (by assumption) ?_
      rotate_left
      · (intro w hSw; (try dsimp only at hSw); go_simp; (try with_reducible rfl))
      try simp only [Act.put, List.getElem_toArray, List.getElem_cons_succ, List.getElem_cons_zero, List.setIfInBounds_toArray, List.set_cons_zero, List.set_cons_succ]
      refine wpAnyH_take (i := 12) (v := ?_) rfl (by kernel_rfl) (by kernel_rfl) (by kernel_rfl) (fun _ _ _ h => h) (Or.inl ⟨by rfl, ?_⟩) (by assumption) ?_
      rotate_left
      · (intro w hSw; (try dsimp only at hSw); go_simp; (try with_reducible rfl))
      try simp only [Act.put, List.getElem_toArray, List.getElem_cons_succ, List.getElem_cons_zero, List.setIfInBounds_toArray, List.set_cons_zero, List.set_cons_succ]
      refine wpAnyH_take (i := 15) (v := ?_) rfl (by kernel_rfl) (by kernel_rfl) (by kernel_rfl) (fun _ _ _ h => h) (Or.inl ⟨by rfl, ?_⟩) (by assumption) ?_
      rotate_left
      · (intro w hSw; (try dsimp only at hSw); go_simp; (try with_reducible rfl))
      try simp only [Act.put, List.getElem_toArray, List.getElem_cons_succ, List.getElem_cons_zero, List.setIfInBounds_toArray, List.set_cons_zero, List.set_cons_succ]
      refine wpAnyH_take (i := 16) (v := ?_) rfl (by kernel_rfl) (by kernel_rfl) (by kernel_rfl) (fun _ _ _ h => h) (Or.inl ⟨by rfl, ?_⟩) (by assumption) ?_
      rotate_left
      · (intro w hSw; (try dsimp only at hSw); go_simp; (try with_reducible rfl))
      try simp only [Act.put, List.getElem_toArray, List.getElem_cons_succ, List.getElem_cons_zero, List.setIfInBounds_toArray, List.set_cons_zero, List.set_cons_succ]
      refine wpAnyH_ready (rs := [11]) (by kernel_rfl) (by simp) ?_
      refine (AllReadyH.cons rfl (fun K hK => ?_) AllReadyH.nil)
      go_simp
      refine hK.out _ _ ⟨pe, pq⟩ (fun hHeld => ?_)
      clear hK K
      try simp only [Act.put, List.getElem_toArray, List.getElem_cons_succ, List.getElem_cons_zero, List.setIfInBounds_toArray, List.set_cons_zero, List.set_cons_succ]
      refine wpAnyH_take (i := 13) (v := ?_) rfl (by kernel_rfl) (by kernel_rfl) (by kernel_rfl) (fun _ _ _ h => h) (Or.inl ⟨by rfl, ?_⟩) (by assumption) ?_
      rotate_left
      · (intro w hSw; (try dsimp only at hSw); go_simp; (try with_reducible rfl))
      try simp only [Act.put, List.getElem_toArray, List.getElem_cons_succ, List.getElem_cons_zero, List.setIfInBounds_toArray, List.set_cons_zero, List.set_cons_succ]
      refine wpAnyH_take (i := 14) (v := ?_) rfl (by kernel_rfl) (by kernel_rfl) (by kernel_rfl) (fun _ _ _ h => h) (Or.inl ⟨by rfl, ?_⟩) (by assumption) ?_
      rotate_left
      · (intro w hSw; (try dsimp only at hSw); go_simp; (try with_reducible rfl))
      try simp only [Act.put, List.getElem_toArray, List.getElem_cons_succ, List.getElem_cons_zero, List.setIfInBounds_toArray, List.set_cons_zero, List.set_cons_succ]
      refine wpAnyH_take (i := 17) (v := ?_) rfl (by kernel_rfl) (by kernel_rfl) (by kernel_rfl) (fun _ _ _ h => h) (Or.inl ⟨by rfl, ?_⟩) (by assumption) ?_
      rotate_left
      · (intro w hSw; (try dsimp only at hSw); go_simp; (try with_reducible rfl))
      try simp only [Act.put, List.getElem_toArray, List.getElem_cons_succ, List.getElem_cons_zero, List.setIfInBounds_toArray, List.set_cons_zero, List.set_cons_succ]
      refine wpAnyH_take (i := 18) (v := ?_) rfl (by kernel_rfl) (by kernel_rfl) (by kernel_rfl) (fun _ _ _ h => h) (Or.inl ⟨by rfl, ?_⟩) (by assumption) ?_
      rotate_left
      · (intro w hSw; (try dsimp only at hSw); go_simp; (try with_reducible rfl))
      try simp only [Act.put, List.getElem_toArray, List.getElem_cons_succ, List.getElem_cons_zero, List.setIfInBounds_toArray, List.set_cons_zero, List.set_cons_succ]
      refine wpAnyH_ready (rs := [19]) (by kernel_rfl) (by simp) ?_
      refine (AllReadyH.cons rfl (fun K hK => ?_) AllReadyH.nil)
      go_simp
      refine hK.out _ _ ⟨sd1, sd2⟩ (fun hHeld => ?_)
      clear hK K
      try simp only [Act.put, List.getElem_toArray, List.getElem_cons_succ, List.getElem_cons_zero, List.setIfInBounds_toArray, List.set_cons_zero, List.set_cons_succ]
      refine wpAnyH_done (by kernel_rfl) ?_ _
      go_wp2
      go_roundw
      case rel => exact ⟨i + 1, _, by omega, by go_num, by rw [List.length_set]; exact hvl, HN2, HW2, HB2⟩
      case measure => simp [intOf] <;> omega
    · obtain rfl : i = c := by omega
      have HCN : Kept ((∀ a ∈ VS, a < D.p ^ D.k) ∧ cntF (kpF (ints L) m) ws VS + t0 ≤ t0) := ⟨⟨hvs.out.1, by rw [cnt_none fun j hj => hvs.out.2 j (kpF_mem.1 hj).2]; omega⟩⟩
      obtain ⟨wz, rfl⟩ : ∃ W, W = wr := ⟨_, rfl⟩
      clear hvs pq
      go_wp2
      go_loopw [13, 16] (fun tv iv wr => ∃ (i t : Nat) (VS : List Nat), i ≤ n2 ∧ iv = .int .i64 i ∧ tv = .int .i64 t ∧ t ≤ t0 ∧ VS.length = m ∧ Kept ((∀ a ∈ VS, a < D.p ^ D.k) ∧ cntF (kpF (ints L) m) ws VS + t ≤ t0) ∧ Kept (Wv wr gv VS) ∧ Kept (Below w5.heap.size w5 wr)) (fun _ iv _ => n2 - (intOf iv).toNat)
      case atStart => exact ⟨0, t0, VS, Nat.zero_le _, rfl, rfl, Nat.le_refl _, hvl, HCN, hwv, hbq⟩
      case round =>
        clear HCN hwv hbq hvl VS
        obtain ⟨j, t, VS, hin, rfl, rfl, htt, hvl, hvs, hwv, hbq⟩ := hrel
        have HLr := Kept.mk (HL5.out.below hbq.out)
        obtain ⟨pa0, pa1, pa2, _⟩ := three_cells HLr.out.b7
        by_cases hlt : j < n2
        · by_cases ht1 : 0 < t
          · obtain ⟨id, hid⟩ : ∃ x, n2 - 1 - j = x := ⟨_, rfl⟩
            have ei1 : (n2 : Int) - 1 = ((n2 - 1 : Nat) : Int) := by omega
            have ei2 : ((n2 - 1 : Nat) : Int) - (j : Int) = (id : Int) := by omega
            have hidn : id < n2 := by omega
            obtain ⟨b2, o2, rfl, hb2', hce⟩ := (HS2.out.below HLr.out.bel).news_ id (by rw [HN2.out]; exact hidn)
            obtain ⟨a, ha⟩ : ∃ y, xs2[id]?.getD 0 = y := ⟨_, rfl⟩
            have hab : -9223372036854775808 ≤ a ∧ a ≤ 9223372036854775807 := by
              rw [← ha, List.getElem?_eq_getElem (by rw [HN2.out]; exact hidn)]
              exact HI2.out _ (List.getElem_mem _)
            obtain ⟨a0, a1⟩ := hab
            rw [ha] at hce
            obtain ⟨U, r, hU, hr1, hr2, hrm, _, hUm⟩ := umod_nat m (by omega) a
            have eum : IntKind.u64.wrap (m : Int) = m := by rw [IntKind.wrap_u64]; omega
            have hm0 : ¬ ((m : Int) = 0) := by omega
            have hm00 : ¬ (m = 0) := by omega
            have ewr : IntKind.i64.wrap (r : Int) = r := wi (by omega) (by omega)
            have HHS := Kept.mk (fun (W : World) (hW : Below w5.heap.size w5 W) => rhas_any (.slice pa i pc) (ints L) (r : Int) W (HES.out.below hW))
            rw [has_ints] at HHS
            obtain ⟨x, hx⟩ : ∃ y, VS[r]?.getD 0 = y := ⟨_, rfl⟩
            obtain ⟨z, hz⟩ : ∃ y, ws[r]?.getD 0 = y := ⟨_, rfl⟩
            have hxq : x < D.q := by rw [← hx]; exact hvs.out.1 _ (FFld.get_mem (by rw [hvl]; exact hrm))
            have k0 := hwv.out.cell (i := r) (by rw [hvl]; exact hrm)
            have k1 := hwv.out.free r
            rw [hx] at k0
            obtain ⟨b', o', e', _, hcw⟩ := (HW5.out.below hbq.out).news_ r (by rw [FFld.ints_len, HWL.out]; exact hrm)
            simp only [Option.some.injEq, Addr.mk.injEq, and_true] at e'
            obtain ⟨rfl, rfl⟩ := e'
            rw [FFld.ints_get, hz] at hcw
            have hbwl : bw < w5.heap.size := by
              obtain ⟨b9, o9, e9, h9, _⟩ := HW5.out.news_ r (by rw [FFld.ints_len, HWL.out]; exact hrm)
              simp only [Option.some.injEq, Addr.mk.injEq, and_true] at e9
              obtain ⟨rfl, rfl⟩ := e9
              exact h9
            have HWd : Kept (Wv wr.drew gv VS) := ⟨hwv.out.below (Below.refl _ _).drew⟩
            have HBd := Kept.mk hbq.out.drew
            have HXR : Kept (VS[r]?.getD 0 = x ∧ r < VS.length) := ⟨⟨hx, by rw [hvl]; exact hrm⟩⟩
            clear ha hid hx hz
            by_cases hmem : r ∈ L
            · rw [decide_eq_true hmem] at HHS
              clear hmem
              go_wp2_with fail
              go_upto_region 19 with fail
              refine wp_region_held_drew (S := (fun w' => w'.cell? ⟨gv, r, none⟩ = some (.int .i64 (x : Nat)) ∧ w'.cell? ⟨bw, ow + r, none⟩ = some (.int .i64 (z : Nat)))) (by kernel_rfl) ⟨k0, hcw⟩ (fun hHeld => ?_)
              refine wpAnyH_take (i := 0) (v := ?_) rfl (by kernel_rfl) (by kernel_rfl) (by kernel_rfl) (fun _ _ _ h => h) (Or.inl ⟨by rfl, ?_⟩) (by assumption) ?_
              rotate_left
              · (intro w hSw; (try dsimp only at hSw); go_simp; (try with_reducible rfl))
              try simp only [Act.put, List.getElem_toArray, List.getElem_cons_succ, List.getElem_cons_zero, List.setIfInBounds_toArray, List.set_cons_zero, List.set_cons_succ]
              refine wpAnyH_take (i := 1) (v := ?_) rfl (by kernel_rfl) (by kernel_rfl) (by kernel_rfl) (fun _ _ _ h => h) (Or.inl ⟨by rfl, ?_⟩) (by assumption) ?_
              rotate_left
              · (intro w hSw; (try dsimp only at hSw); go_simp; (try with_reducible rfl))
              try simp only [Act.put, List.getElem_toArray, List.getElem_cons_succ, List.getElem_cons_zero, List.setIfInBounds_toArray, List.set_cons_zero, List.set_cons_succ]
              refine wpAnyH_ready (rs := [2]) (by kernel_rfl) (by simp) ?_
              refine (AllReadyH.cons rfl (fun K hK => ?_) AllReadyH.nil)
              go_simp
              (with_reducible refine (HHS.out _ hbq.out.drew).mono ?_)
              rintro e v3 ⟨rfl, rfl⟩
              refine hK.out _ _ ⟨k0, hcw⟩ (fun hHeld => ?_)
              clear hK K
              try simp only [Act.put, List.getElem_toArray, List.getElem_cons_succ, List.getElem_cons_zero, List.setIfInBounds_toArray, List.set_cons_zero, List.set_cons_succ]
              refine wpAnyH_take (i := 3) (v := ?_) rfl (by kernel_rfl) (by kernel_rfl) (by kernel_rfl) (fun _ _ _ h => h) (Or.inl ⟨by rfl, ?_⟩) (by assumption) ?_
              rotate_left
              · (intro w hSw; (try dsimp only at hSw); go_simp; (try with_reducible rfl))
              try simp only [Act.put, List.getElem_toArray, List.getElem_cons_succ, List.getElem_cons_zero, List.setIfInBounds_toArray, List.set_cons_zero, List.set_cons_succ]
              refine wpAnyH_take (i := 4) (v := ?_) rfl (by kernel_rfl) (by kernel_rfl) (by kernel_rfl) (fun _ _ _ h => h) (Or.inl ⟨by rfl, ?_⟩) (by assumption) ?_
              rotate_left
              · (intro w hSw; (try dsimp only at hSw); go_simp; (try with_reducible rfl))
              try simp only [Act.put, List.getElem_toArray, List.getElem_cons_succ, List.getElem_cons_zero, List.setIfInBounds_toArray, List.set_cons_zero, List.set_cons_succ]
              refine wpAnyH_take (i := 5) (v := undef) rfl (by kernel_rfl) (by kernel_rfl) (by kernel_rfl) (fun _ _ _ h => h) (Or.inr ⟨by rfl, rfl⟩) (by assumption) ?_
              try simp only [Act.put, List.getElem_toArray, List.getElem_cons_succ, List.getElem_cons_zero, List.setIfInBounds_toArray, List.set_cons_zero, List.set_cons_succ]
              refine wpAnyH_take (i := 6) (v := undef) rfl (by kernel_rfl) (by kernel_rfl) (by kernel_rfl) (fun _ _ _ h => h) (Or.inr ⟨by rfl, rfl⟩) (by assumption) ?_
              try simp only [Act.put, List.getElem_toArray, List.getElem_cons_succ, List.getElem_cons_zero, List.setIfInBounds_toArray, List.set_cons_zero, List.set_cons_succ]
              refine wpAnyH_take (i := 7) (v := undef) rfl (by kernel_rfl) (by kernel_rfl) (by kernel_rfl) (fun _ _ _ h => h) (Or.inr ⟨by rfl, rfl⟩) (by assumption) ?_
              try simp only [Act.put, List.getElem_toArray, List.getElem_cons_succ, List.getElem_cons_zero, List.setIfInBounds_toArray, List.set_cons_zero, List.set_cons_succ]
              refine wpAnyH_take (i := 8) (v := undef) rfl (by kernel_rfl) (by kernel_rfl) (by kernel_rfl) (fun _ _ _ h => h) (Or.inr ⟨by rfl, rfl⟩) (by assumption) ?_
              try simp only [Act.put, List.getElem_toArray, List.getElem_cons_succ, List.getElem_cons_zero, List.setIfInBounds_toArray, List.set_cons_zero, List.set_cons_succ]
              refine wpAnyH_take (i := 9) (v := undef) rfl (by kernel_rfl) (by kernel_rfl) (by kernel_rfl) (fun _ _ _ h => h) (Or.inr ⟨by rfl, rfl⟩) (by assumption) ?_
              try simp only [Act.put, List.getElem_toArray, List.getElem_cons_succ, List.getElem_cons_zero, List.setIfInBounds_toArray, List.set_cons_zero, List.set_cons_succ]
              refine wpAnyH_take (i := 10) (v := undef) rfl (by kernel_rfl) (by kernel_rfl) (by kernel_rfl) (fun _ _ _ h => h) (Or.inr ⟨by rfl, rfl⟩) (by assumption) ?_
              try simp only [Act.put, List.getElem_toArray, List.getElem_cons_succ, List.getElem_cons_zero, List.setIfInBounds_toArray, List.set_cons_zero, List.set_cons_succ]
              refine wpAnyH_take (i := 11) (v := undef) rfl (by kernel_rfl) (by kernel_rfl) (by kernel_rfl) (fun _ _ _ h => h) (Or.inr ⟨by rfl, rfl⟩) (by assumption) ?_
              try simp only [Act.put, List.getElem_toArray, List.getElem_cons_succ, List.getElem_cons_zero, List.setIfInBounds_toArray, List.set_cons_zero, List.set_cons_succ]
              refine wpAnyH_take (i := 12) (v := undef) rfl (by kernel_rfl) (by kernel_rfl) (by kernel_rfl) (fun _ _ _ h => h) (Or.inr ⟨by rfl, rfl⟩) (by assumption) ?_
              try simp only [Act.put, List.getElem_toArray, List.getElem_cons_succ, List.getElem_cons_zero, List.setIfInBounds_toArray, List.set_cons_zero, List.set_cons_succ]
              refine wpAnyH_take (i := 13) (v := undef) rfl (by kernel_rfl) (by kernel_rfl) (by kernel_rfl) (fun _ _ _ h => h) (Or.inr ⟨by rfl, rfl⟩) (by assumption) ?_
              try simp only [Act.put, List.getElem_toArray, List.getElem_cons_succ, List.getElem_cons_zero, List.setIfInBounds_toArray, List.set_cons_zero, List.set_cons_succ]
              refine wpAnyH_take (i := 14) (v := ?_) rfl (by kernel_rfl) (by kernel_rfl) (by kernel_rfl) (fun _ _ _ h => h) (Or.inl ⟨by rfl, ?_⟩) (by assumption) ?_
              rotate_left
              · (intro w hSw; (try dsimp only at hSw); go_simp; (try with_reducible rfl))
              try simp only [Act.put, List.getElem_toArray, List.getElem_cons_succ, List.getElem_cons_zero, List.setIfInBounds_toArray, List.set_cons_zero, List.set_cons_succ]
              refine wpAnyH_done (by kernel_rfl) ?_ _
              go_wp2
              go_roundw
              case rel => exact ⟨j + 1, t, VS, by omega, by go_num, rfl, htt, hvl, hvs, HWd, HBd⟩
              case measure => simp [intOf] <;> omega
            · rw [decide_eq_false hmem] at HHS
              clear hmem
              by_cases hxz : x = z
              · subst hxz
                have e0 : ((x : Int) == (x : Int)) = true := by simp
                obtain ⟨q1, hq1'⟩ : ∃ y, D.q - 1 = y := ⟨_, rfl⟩
                have hq2 : 2 ≤ D.q := HD.out.pre.pk.one_lt
                have hq11 : 1 ≤ q1 := by omega
                have eq1 : (D.q : Int) - 1 = (q1 : Int) := by omega
                have eq1w : IntKind.i64.wrap (q1 : Int) = q1 := wi (by omega) (by omega)
                have emx : max (1 : Int) (q1 : Int) = q1 := by omega
                have eq10 : ¬ ((q1 : Int) = 0) := by omega
                have eq100 : ¬ (q1 = 0) := by omega
                obtain ⟨rj, _, hrj, hrj1, hrj2⟩ := nmod (q := q1) hq11 j
                obtain ⟨y, _, hyq, hy1', hy2'⟩ := nmod (q := D.q) hq1 (x + 1 + rj)
                have ex : ((x + 1 + rj : Nat) : Int) = (x : Int) + 1 + (rj : Int) := by omega
                rw [ex] at hy1' hy2'
                have ew1 : IntKind.i64.wrap ((x : Int) + 1) = (x : Int) + 1 := wi (by omega) (by omega)
                have ew2 : IntKind.i64.wrap ((x : Int) + 1 + (rj : Int)) = (x : Int) + 1 + (rj : Int) := wi (by omega) (by omega)
                have ew3 : IntKind.i64.wrap (y : Int) = y := wi (by omega) (by omega)
                have ew4 : IntKind.i64.wrap (rj : Int) = rj := wi (by omega) (by omega)
                have hle1 : (1 : Int) ≤ (q1 : Int) := by omega
                have HQY : Kept (y < D.q) := ⟨hyq⟩
                clear ex hq1'
                go_wp2_with fail
                go_upto_region 19 with fail
                go_region_held3 (fun w' => w'.cell? ⟨gv, r, none⟩ = some (.int .i64 (x : Nat)) ∧ w'.cell? ⟨bw, ow + r, none⟩ = some (.int .i64 (x : Nat)))
                  (first | exact ⟨k0, hcw⟩ | go_keep)
                  ((first
                    | (go_at_call 65; (with_reducible refine (HHS.out _ ?h1).mono ?_); (case h1 => first | exact hbq.out | exact hbq.out.drew); rintro e v3 ⟨rfl, rfl⟩)))
                have kd0 : wr.drew.cell? ⟨gv, r, none⟩ = some (.int .i64 (x : Nat)) := k0
                have kd1 : wr.drew.frozen? ⟨gv, r, none⟩ = false := k1
                have kdw : wr.drew.cell? ⟨bw, ow + r, none⟩ = some (.int .i64 (x : Nat)) := hcw
                have kdq : wr.drew.cell? ⟨g7, 0, none⟩ = some (.int .i64 D.q) := pa0
                obtain ⟨W1, hW1⟩ : ∃ W, wr.drew = W := ⟨_, rfl⟩
                rw [hW1] at HWd HBd kd0 kd1 kdw kdq ⊢
                clear hW1 hwv hbq k0 k1 hcw pa0 pa1 pa2 hce HLr
                have HW2 : Kept (Wv (W1.setCell ⟨gv, r, none⟩ (.int .i64 (y : Nat))).drew gv (VS.set r y)) := ⟨(HWd.out.set y).below (Below.refl _ _).drew⟩
                have HB2 := Kept.mk (HBd.out.setCell (p := ⟨gv, r, none⟩) hgB (.int .i64 (y : Nat))).drew
                have sd2 : (W1.setCell ⟨gv, r, none⟩ (.int .i64 (y : Nat))).drew.cell? ⟨g7, 0, none⟩ = some (.int .i64 D.q) := (World.cell?_of_block (a := ⟨g7, 0, none⟩) (heap_setCell_other W1 ⟨gv, r, none⟩ g7 (.int .i64 (y : Nat)) (by simp; omega))).trans kdq
                have sdw : (W1.setCell ⟨gv, r, none⟩ (.int .i64 (y : Nat))).drew.cell? ⟨bw, ow + r, none⟩ = some (.int .i64 (x : Nat)) := (World.cell?_of_block (a := ⟨bw, ow + r, none⟩) (heap_setCell_other W1 ⟨gv, r, none⟩ bw (.int .i64 (y : Nat)) (by simp; omega))).trans kdw
                go_upto_region 20 with fail
                refine wp_region_held_drew (S := (fun w' => w'.cell? ⟨g7, 0, none⟩ = some (.int .i64 D.q))) (by kernel_rfl) kdq (fun hHeld => ?_)
                refine wpAnyH_take (i := 0) (v := ?_) rfl (by kernel_rfl) (by kernel_rfl) (by kernel_rfl) (fun _ _ _ h => h) (Or.inl ⟨by rfl, ?_⟩) (by assumption) ?_
                rotate_left
                · (intro w hSw; (try dsimp only at hSw); go_simp; (try with_reducible rfl))
                try simp only [Act.put, List.getElem_toArray, List.getElem_cons_succ, List.getElem_cons_zero, List.setIfInBounds_toArray, List.set_cons_zero, List.set_cons_succ]
                refine wpAnyH_take (i := 1) (v := ?_) rfl (by kernel_rfl) (by kernel_rfl) (by kernel_rfl) (fun _ _ _ h => h) (Or.inl ⟨by rfl, ?_⟩) (by assumption) ?_
                rotate_left
                · (intro w hSw; (try dsimp only at hSw); go_simp; (try with_reducible rfl))
                try simp only [Act.put, List.getElem_toArray, List.getElem_cons_succ, List.getElem_cons_zero, List.setIfInBounds_toArray, List.set_cons_zero, List.set_cons_succ]
                refine wpAnyH_take (i := 2) (v := ?_) rfl (by kernel_rfl) (by kernel_rfl) (by kernel_rfl) (fun _ _ _ h => h) (Or.inl ⟨by rfl, ?_⟩) (by assumption) ?_
                rotate_left
                · (intro w hSw; (try dsimp only at hSw); go_simp; (try with_reducible rfl))
                try simp only [Act.put, List.getElem_toArray, List.getElem_cons_succ, List.getElem_cons_zero, List.setIfInBounds_toArray, List.set_cons_zero, List.set_cons_succ]
                refine wpAnyH_take (i := 3) (v := ?_) rfl (by kernel_rfl) (by kernel_rfl) (by kernel_rfl) (fun _ _ _ h => h) (Or.inl ⟨by rfl, ?_⟩) (by assumption) ?_
                rotate_left
                · (intro w hSw; (try dsimp only at hSw); go_simp; (try with_reducible rfl))
                try simp only [Act.put, List.getElem_toArray, List.getElem_cons_succ, List.getElem_cons_zero, List.setIfInBounds_toArray, List.set_cons_zero, List.set_cons_succ]
                refine wpAnyH_take (i := 4) (v := ?_) rfl (by kernel_rfl) (by kernel_rfl) (by kernel_rfl) (fun _ _ _ h => h) (Or.inl ⟨by rfl, ?_⟩) (by assumption) ?_
                rotate_left
                · (intro w hSw; (try dsimp only at hSw); go_simp; (try with_reducible rfl))
                try simp only [Act.put, List.getElem_toArray, List.getElem_cons_succ, List.getElem_cons_zero, List.setIfInBounds_toArray, List.set_cons_zero, List.set_cons_succ]
                refine wpAnyH_take (i := 7) (v := ?_) rfl (by kernel_rfl) (by kernel_rfl) (by kernel_rfl) (fun _ _ _ h => h) (Or.inl ⟨by rfl, ?_⟩) (by assumption) ?_
                rotate_left
                · (intro w hSw; (try dsimp only at hSw); go_simp; (try with_reducible rfl))
                try simp only [Act.put, List.getElem_toArray, List.getElem_cons_succ, List.getElem_cons_zero, List.setIfInBounds_toArray, List.set_cons_zero, List.set_cons_succ]
                refine wpAnyH_take (i := 8) (v := ?_) rfl (by kernel_rfl) (by kernel_rfl) (by kernel_rfl) (fun _ _ _ h => h) (Or.inl ⟨by rfl, ?_⟩) (by assumption) ?_
                rotate_left
                · (intro w hSw; (try dsimp only at hSw); go_simp; (try with_reducible rfl))
                try simp only [Act.put, List.getElem_toArray, List.getElem_cons_succ, List.getElem_cons_zero, List.setIfInBounds_toArray, List.set_cons_zero, List.set_cons_succ]
                refine wpAnyH_take (i := 9) (v := ?_) rfl (by kernel_rfl) (by kernel_rfl) (by kernel_rfl) (fun _ _ _ h => h) (Or.inl ⟨by rfl, ?_⟩) (by assumption) ?_
                rotate_left
                · (intro w hSw; (try dsimp only at hSw); go_simp; (try with_reducible rfl))
                try simp only [Act.put, List.getElem_toArray, List.getElem_cons_succ, List.getElem_cons_zero, List.setIfInBounds_toArray, List.set_cons_zero, List.set_cons_succ]
                refine wpAnyH_take (i := 10) (v := ?_) rfl (by kernel_rfl) (by kernel_rfl) (by kernel_rfl) (fun _ _ _ h => h) (Or.inl ⟨by rfl, ?_⟩) (by assumption) ?_
                rotate_left
                · (intro w hSw; (try dsimp only at hSw); go_simp; (try with_reducible rfl))
                try simp only [Act.put, List.getElem_toArray, List.getElem_cons_succ, List.getElem_cons_zero, List.setIfInBounds_toArray, List.set_cons_zero, List.set_cons_succ]
                refine wpAnyH_take (i := 14) (v := ?_) rfl (by kernel_rfl) (by kernel_rfl) (by kernel_rfl) (fun _ _ _ h => h) (Or.inl ⟨by rfl, ?_⟩) (by assumption) ?_
                rotate_left
                · (intro w hSw; (try dsimp only at hSw); go_simp; (try with_reducible rfl))
                try simp only [Act.put, List.getElem_toArray, List.getElem_cons_succ, List.getElem_cons_zero, List.setIfInBounds_toArray, List.set_cons_zero, List.set_cons_succ]
                refine wpAnyH_take (i := 15) (v := ?_) rfl (by kernel_rfl) (by kernel_rfl) (by kernel_rfl) (fun _ _ _ h => h) (Or.inl ⟨by rfl, ?_⟩) (by assumption) ?_
                rotate_left
                · (intro w hSw; (try dsimp only at hSw); go_simp; (try with_reducible rfl))
                try simp only [Act.put, List.getElem_toArray, List.getElem_cons_succ, List.getElem_cons_zero, List.setIfInBounds_toArray, List.set_cons_zero, List.set_cons_succ]
                refine wpAnyH_take (i := 11) (v := ?_) rfl (by kernel_rfl) (by kernel_rfl) (by kernel_rfl) (fun _ _ _ h => h) (Or.inl ⟨by rfl, ?_⟩) (by assumption) ?_
                rotate_left
                · (intro w hSw; (try dsimp only at hSw); go_simp; (try with_reducible rfl))
                try simp only [Act.put, List.getElem_toArray, List.getElem_cons_succ, List.getElem_cons_zero, List.setIfInBounds_toArray, List.set_cons_zero, List.set_cons_succ]
                refine wpAnyH_take (i := 12) (v := ?_) rfl (by kernel_rfl) (by kernel_rfl) (by kernel_rfl) (fun _ _ _ h => h) (Or.inl ⟨by rfl, ?_⟩) (by assumption) ?_
                rotate_left
                · (intro w hSw; (try dsimp only at hSw); go_simp; (try with_reducible rfl))
                try simp only [Act.put, List.getElem_toArray, List.getElem_cons_succ, List.getElem_cons_zero, List.setIfInBounds_toArray, List.set_cons_zero, List.set_cons_succ]
                refine wpAnyH_ready (rs := [5]) (by kernel_rfl) (by simp) ?_
                refine (AllReadyH.cons rfl (fun K hK => ?_) AllReadyH.nil)
                go_simp
                refine hK.out _ _ kdq (fun hHeld => ?_)
                clear hK K
                try simp only [Act.put, List.getElem_toArray, List.getElem_cons_succ, List.getElem_cons_zero, List.setIfInBounds_toArray, List.set_cons_zero, List.set_cons_succ]
                refine wpAnyH_take (i := 6) (v := ?_) rfl (by kernel_rfl) (by kernel_rfl) (by kernel_rfl) (fun _ _ _ h => h) (Or.inl ⟨by rfl, ?_⟩) (by assumption) ?_
                rotate_left
                · (intro w hSw; (try dsimp only at hSw); go_simp; (try with_reducible rfl))
                try simp only [Act.put, List.getElem_toArray, List.getElem_cons_succ, List.getElem_cons_zero, List.setIfInBounds_toArray, List.set_cons_zero, List.set_cons_succ]
                refine wpAnyH_take (i := 13) (v := ?_) rfl (by kernel_rfl) (by kernel_rfl) (by kernel_rfl) (fun _ _ _ h => h) (Or.inl ⟨by rfl, ?_⟩) (by assumption) ?_
                rotate_left
                · (intro w hSw; (try dsimp only at hSw); go_simp; (try with_reducible rfl))
                try simp only [Act.put, List.getElem_toArray, List.getElem_cons_succ, List.getElem_cons_zero, List.setIfInBounds_toArray, List.set_cons_zero, List.set_cons_succ]
                refine wpAnyH_take (i := 16) (v := ?_) rfl (by kernel_rfl) (by kernel_rfl) (by kernel_rfl) (fun _ _ _ h => h) (Or.inl ⟨by rfl, ?_⟩) (by assumption) ?_
                rotate_left
                · (intro w hSw; (try dsimp only at hSw); go_simp; (try with_reducible rfl))
                try simp only [Act.put, List.getElem_toArray, List.getElem_cons_succ, List.getElem_cons_zero, List.setIfInBounds_toArray, List.set_cons_zero, List.set_cons_succ]
                refine wpAnyH_take (i := 17) (v := ?_) rfl (by kernel_rfl) (by kernel_rfl) (by kernel_rfl) (fun _ _ _ h => h) (Or.inl ⟨by rfl, ?_⟩) (by assumption) ?_
                rotate_left
                · (intro w hSw; (try dsimp only at hSw); go_simp; (try with_reducible rfl))
                try simp only [Act.put, List.getElem_toArray, List.getElem_cons_succ, List.getElem_cons_zero, List.setIfInBounds_toArray, List.set_cons_zero, List.set_cons_succ]
                refine wpAnyH_ready (rs := [18]) (by kernel_rfl) (by simp) ?_
                refine (AllReadyH.cons rfl (fun K hK => ?_) AllReadyH.nil)
                go_simp
                refine hK.out _ _ sd2 (fun hHeld => ?_)
                clear hK K
                try simp only [Act.put, List.getElem_toArray, List.getElem_cons_succ, List.getElem_cons_zero, List.setIfInBounds_toArray, List.set_cons_zero, List.set_cons_succ]
                refine wpAnyH_done (by kernel_rfl) ?_ _
                have HKY : Kept ((VS.set r y)[r]?.getD 0 = y) := ⟨set_got HXR.out.2⟩
                have kv := HW2.out.cell (i := r) (by rw [List.length_set]; exact HXR.out.2)
                rw [HKY.out] at kv
                have HLS : Kept ((VS.set r y).length = m) := ⟨by rw [List.length_set]; exact hvl⟩
                have hls := HLS.out
                obtain ⟨W2, hW2⟩ : ∃ W, (W1.setCell ⟨gv, r, none⟩ (.int .i64 (y : Nat))).drew = W := ⟨_, rfl⟩
                rw [hW2] at HW2 HB2 sdw kv ⊢
                have HW3 : Kept (Wv W2.drew gv (VS.set r y)) := ⟨HW2.out.below (Below.refl _ _).drew⟩
                have HB3 := Kept.mk HB2.out.drew
                clear hW2 kd0 kd1 kdw kdq sd2
                by_cases hyx : y = x
                · subst hyx
                  have e1 : ((y : Int) == (y : Int)) = true := by simp
                  have e2 : ((y : Int) != (y : Int)) = false := by simp
                  have HN3 : Kept ((∀ a ∈ VS.set r y, a < D.p ^ D.k) ∧ cntF (kpF (ints L) m) ws (VS.set r y) + t ≤ t0) := ⟨by rw [set_same HXR.out.1 HXR.out.2]; exact hvs.out⟩
                  go_upto_region 21 with fail
                  go_region_held3 (fun w' => w'.cell? ⟨gv, r, none⟩ = some (.int .i64 (y : Nat)) ∧ w'.cell? ⟨bw, ow + r, none⟩ = some (.int .i64 (y : Nat))) (first | exact ⟨kv, sdw⟩ | go_keep) (fail)
                  go_wp2
                  go_roundw
                  case rel => exact ⟨j + 1, t, _, by omega, by go_num, rfl, htt, hls, HN3, HW3, HB3⟩
                  case measure => simp [intOf] <;> omega
                · have e1 : ((y : Int) == (x : Int)) = false := by rw [beq_eq_false_iff_ne]; omega
                  have e2 : ((y : Int) != (x : Int)) = true := by rw [bne_iff_ne]; omega
                  have etm : (t : Int) - 1 = ((t - 1 : Nat) : Int) := by omega
                  have HN3 : Kept ((∀ a ∈ VS.set r y, a < D.p ^ D.k) ∧ cntF (kpF (ints L) m) ws (VS.set r y) + (t - 1) ≤ t0) := ⟨⟨set_lt hvs.out.1 HQY.out, by have h1 := cnt_set (kp_nodup (ints L) m) ws VS r y; have h2 := hvs.out.2; omega⟩⟩
                  go_upto_region 21 with fail
                  go_region_held3 (fun w' => w'.cell? ⟨gv, r, none⟩ = some (.int .i64 (y : Nat)) ∧ w'.cell? ⟨bw, ow + r, none⟩ = some (.int .i64 (x : Nat))) (first | exact ⟨kv, sdw⟩ | go_keep) (fail)
                  go_wp2
                  go_roundw
                  case rel => exact ⟨j + 1, t - 1, _, by omega, by go_num, by go_num, by omega, hls, HN3, HW3, HB3⟩
                  case measure => simp [intOf] <;> omega
              · have e0 : ((x : Int) == (z : Int)) = false := by rw [beq_eq_false_iff_ne]; omega
                clear hxz
                go_wp2_with fail
                go_upto_region 19 with fail
                go_region_held3 (fun w' => w'.cell? ⟨gv, r, none⟩ = some (.int .i64 (x : Nat)) ∧ w'.cell? ⟨bw, ow + r, none⟩ = some (.int .i64 (z : Nat)))
                  (first | exact ⟨k0, hcw⟩ | go_keep)
                  ((first
                    | (go_at_call 65; (with_reducible refine (HHS.out _ ?h1).mono ?_); (case h1 => first | exact hbq.out | exact hbq.out.drew); rintro e v3 ⟨rfl, rfl⟩)))
                go_wp2
                go_roundw
                case rel => exact ⟨j + 1, t, VS, by omega, by go_num, rfl, htt, hvl, hvs, HWd, HBd⟩
                case measure => simp [intOf] <;> omega
          · obtain rfl : t = 0 := by omega
            have hkp := kp_len (bel_lt HLB.out) HDF.out (by rw [FFld.ints_len]; exact HLC.out)
            have ht0' := HT0.out
            have hnm : Near D (kpL (ints L) m xs) (kpL (ints L) m VS) kk t0 (FFld.trm ms) := near_msg HCV.out.len HMQ.out HML.out (by rw [HWM.out, disF_kp]; have := hvs.out.2; omega)
            have hdc := cdecode_any HD.out va (some ⟨gv, 0, none⟩) pa vc cv pc m i kk xs VS (ints L) wr HLr.out.sl (hwv.out.sl hvl.symm hcv1 (by unfold maxLen; omega)) (HES.out.below hbq.out) HCV.out hvl (by rw [FFld.ints_len]; exact HLC.out) hvs.out.1 (by omega) (bel_lt HLB.out) HDF.out
            rw [ht0'] at hdc
            have HDC : Kept (Calls Tryz.prog 25 #[cdv D.q va m vc kk, .slice (some ⟨gv, 0, none⟩) m cv, .slice pa i pc] wr (fun e w' => Below wr.heap.size wr w' ∧ ∃ (da : Option Addr) (dc : Nat), e = .returned (.tuple #[.slice da m dc, .int .i64 0]) ∧ Sl .i64 w' (.slice da m dc) (ints ws))) := ⟨hdc.mono fun e w' h => by
              obtain ⟨hb, ⟨Po, v, hN, rfl, hsv⟩ | ⟨hno, _⟩⟩ := h
              · obtain rfl := near_uniq HD.out (kpL_len _ _ _) (kpL_lt HCV.out.len HCV.out.lt) (by have h := kpL_dif (es := ints L) HCV.out.dif; rw [kpL_len] at h; exact h) (by omega) hN hnm
                rw [HCV.out.len, vals_trm', HWM.out] at hsv
                obtain ⟨da, dc, rfl, _, _⟩ := hsv.form
                rw [FFld.ints_len, HWL.out] at hsv ⊢
                exact ⟨hb, da, dc, rfl, hsv⟩
              · exact absurd hnm (hno _)⟩
            have HDY : Kept (∀ W, Below wr.heap.size wr W → Calls Tryz.prog 26 #[cdv D.q va m vc kk, .slice (some ⟨gv, 0, none⟩) m cv, .slice pa i pc] W (RB W (.tuple #[.agg #[nilv, nilv], .bool false]))) := ⟨fun W hW => by
              have hdy := cdeny_any HD.out va (some ⟨gv, 0, none⟩) pa vc cv pc m i kk xs VS (ints L) W (HLr.out.sl.below hW) ((hwv.out.sl hvl.symm hcv1 (by unfold maxLen; omega)).below hW) ((HES.out.below hbq.out).below hW) HCV.out hvl (by rw [FFld.ints_len]; exact HLC.out) hvs.out.1 (by omega) (bel_lt HLB.out) HDF.out
              rw [ht0'] at hdy
              refine hdy.mono fun e w' h => ?_
              obtain ⟨hb, ⟨_, _, _, _, _, _, hno, _⟩ | ⟨_, rfl⟩⟩ := h
              · exact absurd hnm (hno _)
              · exact ⟨hb, rfl⟩⟩
            have HWQ2 := Kept.mk (HW5.out.below hbq.out)
            obtain ⟨r0, r1, r2, _⟩ := three_cells HLr.out.b8
            have HBQ := Kept.mk HLr.out.bel
            clear hkp ht0' hnm hdc hvs hwv HES HL5 HW5 HLr pa0 pa1 pa2
            go_wp2_with fail
            (with_reducible refine HDC.out.mono ?_)
            rintro e w8 ⟨hb8, da, dc, rfl, hsd⟩
            have HSD := Kept.mk hsd
            have r0 := belowCell hb8 r0
            have r1 := belowCell hb8 r1
            have r2 := belowCell hb8 r2
            have HB8 := Kept.mk hb8
            clear hb8 hsd HDC
            go_wp2_with fail
            (with_reducible refine (HDY.out _ HB8.out).mono ?_)
            rintro e w9 ⟨hb9, rfl⟩
            have hal : Below w9.heap.size w9 (w9.alloc (fabox nilv nilv)) := (Below.refl _ _).alloc (Nat.le_refl _) _
            have hb10 := bstep hb9 hal
            have HSM := Kept.mk (same3_eq (.slice da m dc) (.slice (some ⟨bw, ow, none⟩) m wc) (ints ws) (w9.alloc (fabox nilv nilv)) (HSD.out.below hb10) (HWQ2.out.below (bstep HB8.out hb10)) (by rw [FFld.ints_len, HWL.out]; omega))
            have HB9 := Kept.mk (HBQ.out.trans ((bstep HB8.out hb10).mono HBQ.out.size))
            clear hb9 hal hb10 HSD HDY HBQ HWQ2 HB8 r0 r1 r2
            go_wp2_with fail
            (with_reducible refine HSM.out.mono ?_)
            rintro e w11 ⟨hb11, rfl⟩
            have HB11 := Kept.mk (bstep HB9.out hb11)
            clear hb11 HSM HB9
            go_wp2_with fail
            (with_reducible refine (HAW.out _).mono ?_)
            rintro e w12 ⟨hb12, rfl⟩
            have HBZ := Kept.mk (bstep HB11.out hb12)
            clear hb12 HB11
            go_wp2
            go_ret
            exact ⟨HBZ.out, rfl⟩
        · obtain rfl : j = n2 := by omega
          have hkp := kp_len (bel_lt HLB.out) HDF.out (by rw [FFld.ints_len]; exact HLC.out)
          have ht0' := HT0.out
          have hnm : Near D (kpL (ints L) m xs) (kpL (ints L) m VS) kk t0 (FFld.trm ms) := near_msg HCV.out.len HMQ.out HML.out (by rw [HWM.out, disF_kp]; have := hvs.out.2; omega)
          have hdc := cdecode_any HD.out va (some ⟨gv, 0, none⟩) pa vc cv pc m i kk xs VS (ints L) wr HLr.out.sl (hwv.out.sl hvl.symm hcv1 (by unfold maxLen; omega)) (HES.out.below hbq.out) HCV.out hvl (by rw [FFld.ints_len]; exact HLC.out) hvs.out.1 (by omega) (bel_lt HLB.out) HDF.out
          rw [ht0'] at hdc
          have HDC : Kept (Calls Tryz.prog 25 #[cdv D.q va m vc kk, .slice (some ⟨gv, 0, none⟩) m cv, .slice pa i pc] wr (fun e w' => Below wr.heap.size wr w' ∧ ∃ (da : Option Addr) (dc : Nat), e = .returned (.tuple #[.slice da m dc, .int .i64 0]) ∧ Sl .i64 w' (.slice da m dc) (ints ws))) := ⟨hdc.mono fun e w' h => by
            obtain ⟨hb, ⟨Po, v, hN, rfl, hsv⟩ | ⟨hno, _⟩⟩ := h
            · obtain rfl := near_uniq HD.out (kpL_len _ _ _) (kpL_lt HCV.out.len HCV.out.lt) (by have h := kpL_dif (es := ints L) HCV.out.dif; rw [kpL_len] at h; exact h) (by omega) hN hnm
              rw [HCV.out.len, vals_trm', HWM.out] at hsv
              obtain ⟨da, dc, rfl, _, _⟩ := hsv.form
              rw [FFld.ints_len, HWL.out] at hsv ⊢
              exact ⟨hb, da, dc, rfl, hsv⟩
            · exact absurd hnm (hno _)⟩
          have HDY : Kept (∀ W, Below wr.heap.size wr W → Calls Tryz.prog 26 #[cdv D.q va m vc kk, .slice (some ⟨gv, 0, none⟩) m cv, .slice pa i pc] W (RB W (.tuple #[.agg #[nilv, nilv], .bool false]))) := ⟨fun W hW => by
            have hdy := cdeny_any HD.out va (some ⟨gv, 0, none⟩) pa vc cv pc m i kk xs VS (ints L) W (HLr.out.sl.below hW) ((hwv.out.sl hvl.symm hcv1 (by unfold maxLen; omega)).below hW) ((HES.out.below hbq.out).below hW) HCV.out hvl (by rw [FFld.ints_len]; exact HLC.out) hvs.out.1 (by omega) (bel_lt HLB.out) HDF.out
            rw [ht0'] at hdy
            refine hdy.mono fun e w' h => ?_
            obtain ⟨hb, ⟨_, _, _, _, _, _, hno, _⟩ | ⟨_, rfl⟩⟩ := h
            · exact absurd hnm (hno _)
            · exact ⟨hb, rfl⟩⟩
          have HWQ2 := Kept.mk (HW5.out.below hbq.out)
          obtain ⟨r0, r1, r2, _⟩ := three_cells HLr.out.b8
          have HBQ := Kept.mk HLr.out.bel
          clear hkp ht0' hnm hdc hvs hwv HES HL5 HW5 HLr pa0 pa1 pa2
          go_wp2_with fail
          (with_reducible refine HDC.out.mono ?_)
          rintro e w8 ⟨hb8, da, dc, rfl, hsd⟩
          have HSD := Kept.mk hsd
          have r0 := belowCell hb8 r0
          have r1 := belowCell hb8 r1
          have r2 := belowCell hb8 r2
          have HB8 := Kept.mk hb8
          clear hb8 hsd HDC
          go_wp2_with fail
          (with_reducible refine (HDY.out _ HB8.out).mono ?_)
          rintro e w9 ⟨hb9, rfl⟩
          have hal : Below w9.heap.size w9 (w9.alloc (fabox nilv nilv)) := (Below.refl _ _).alloc (Nat.le_refl _) _
          have hb10 := bstep hb9 hal
          have HSM := Kept.mk (same3_eq (.slice da m dc) (.slice (some ⟨bw, ow, none⟩) m wc) (ints ws) (w9.alloc (fabox nilv nilv)) (HSD.out.below hb10) (HWQ2.out.below (bstep HB8.out hb10)) (by rw [FFld.ints_len, HWL.out]; omega))
          have HB9 := Kept.mk (HBQ.out.trans ((bstep HB8.out hb10).mono HBQ.out.size))
          clear hb9 hal hb10 HSD HDY HBQ HWQ2 HB8 r0 r1 r2
          go_wp2_with fail
          (with_reducible refine HSM.out.mono ?_)
          rintro e w11 ⟨hb11, rfl⟩
          have HB11 := Kept.mk (bstep HB9.out hb11)
          clear hb11 HSM HB9
          go_wp2_with fail
          (with_reducible refine (HAW.out _).mono ?_)
          rintro e w12 ⟨hb12, rfl⟩
          have HBZ := Kept.mk (bstep HB11.out hb12)
          clear hb12 HB11
          go_wp2
          go_ret
          exact ⟨HBZ.out, rfl⟩
end Go.Proofs.YtdnheaafcbihbaaGreat
