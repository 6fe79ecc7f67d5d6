/-
  Texts of the proof, merged by program: Lmk.
-/
import Derived.Test.YtdnheaafcbihbaaGreatV23
import Derived.Test.YtdnheaafcbihbaaGreatV24
set_option linter.unusedVariables false
set_option linter.unusedSimpArgs false
namespace Go.Proofs.YtdnheaafcbihbaaGreat
open Go Go.RowKit Go.Deep
open FFld (ints)
/-- What the law CodeMakes has in a round. -/
structure MkSt (w : World) (o : Int) (la : Option Addr) (lc ln : Nat) (xs : List Int) (ta : Option Addr) (tc tn : Nat) (ts : List Int) (g9 q p kq m : Nat) (okb : Bool) (W : World) : Prop where
  bel : Below w.heap.size w W
  sl : Sl .i64 W (.slice la ln lc) xs
  ll : xs.length = ln
  l201 : ln ≤ 201
  st : Sl .i64 W (.slice ta tn tc) ts
  lt : ts.length = tn
  t202 : tn ≤ 202
  o0 : -9223372036854775808 ≤ o
  o1 : o ≤ 9223372036854775807
  b9 : W.heap[g9]? = some (rbox q p kq m)
  yes : okb = true → ∃ D : FFld.FD, D.Ok ∧ o = D.q ∧ q = D.q ∧ p = D.p ∧ kq = D.k ∧ m = D.m
  no : okb = false → ¬ FFld.Fit o
theorem MkSt.below {w : World} {o : Int} {la : Option Addr} {lc ln : Nat} {xs : List Int} {ta : Option Addr} {tc tn : Nat} {ts : List Int} {g9 q p kq m : Nat} {okb : Bool} {W W' : World} (h : MkSt w o la lc ln xs ta tc tn ts g9 q p kq m okb W) (hb : Below W.heap.size W W') : MkSt w o la lc ln xs ta tc tn ts g9 q p kq m okb W' :=
  { h with bel := h.bel.trans (hb.mono h.bel.size), sl := h.sl.below hb, st := h.st.below hb, b9 := (hb.block _ (Array.getElem?_eq_some_iff.1 h.b9).1).trans h.b9 }
theorem bel_nats {D : FFld.FD} {xs : List Int} (h : belB (D.q : Int) xs = true) : ∃ l : List Nat, xs = ints l ∧ ∀ a ∈ l, a < D.p ^ D.k := by
  refine ⟨xs.map Int.toNat, ?_, fun a ha => ?_⟩
  · unfold ints belB at *
    rw [List.all_eq_true] at h
    rw [List.map_map]
    have h2 : ∀ x ∈ xs, ((x.toNat : Nat) : Int) = x := fun x hx => by
      have := of_decide_eq_true (h x hx)
      omega
    have h3 : xs.map (fun x => ((x.toNat : Nat) : Int)) = xs := by
      have h4 : xs.map (fun x => ((x.toNat : Nat) : Int)) = xs.map id := List.map_congr_left fun x hx => h2 x hx
      rw [h4, List.map_id]
    exact h3.symm
  · obtain ⟨x, hx, rfl⟩ := List.mem_map.1 ha
    unfold belB at h
    rw [List.all_eq_true] at h
    have := of_decide_eq_true (h x hx)
    have h2 : D.q = D.p ^ D.k := rfl
    omega
set_option maxRecDepth 20000 in
set_option maxHeartbeats 16000000 in
theorem codeMakes_any (a0 : Int) (v1 : Value) (xs1 : List Int) (v2 : Value) (xs2 : List Int) (w : World) (h0 : -9223372036854775808 ≤ a0) (h1 : a0 ≤ 9223372036854775807) (s1 : Sl .i64 w v1 xs1) (w1 : I64s xs1) (s2 : Sl .i64 w v2 xs2) (w2 : I64s xs2) :
    Calls Tryz.prog 9 #[.int .i64 a0, v1, v2] w (RB w (.bool true)) := by
  obtain ⟨a1, c1, rfl, hn1, hm1⟩ := s1.form
  obtain ⟨n1, hn⟩ : ∃ x, xs1.length = x := ⟨_, rfl⟩
  rw [hn] at s1 hn1 ⊢
  obtain ⟨a2, c2, rfl, hn2, hm2⟩ := s2.form
  obtain ⟨n2, hn'⟩ : ∃ x, xs2.length = x := ⟨_, rfl⟩
  rw [hn'] at s2 hn2 ⊢
  unfold maxLen at hm1 hm2
  obtain ⟨l1, hl1e⟩ : ∃ x, min n2 20 = x := ⟨_, rfl⟩
  obtain ⟨l2, hl2e⟩ : ∃ x, min n1 l1 = x := ⟨_, rfl⟩
  have em2 : min (n2 : Int) 20 = l1 := by omega
  have em1 : min (n1 : Int) (l1 : Int) = l2 := by omega
  have hl1 : l1 ≤ 20 := by omega
  have hl2 : l2 ≤ 20 := by omega
  clear hl1e hl2e
  have HI1 := Kept.mk w1
  have HI2 := Kept.mk w2
  have HS1V := Kept.mk s1
  have HS2V := Kept.mk s2
  have HAW := Kept.mk (fun W => cawake_any W)
  have HNW := Kept.mk (fun W o (a : -9223372036854775808 ≤ o) (b : o ≤ 9223372036854775807) => rnew_any o W a b)
  have HOD := Kept.mk (fun W o (a : -9223372036854775808 ≤ o) (b : o ≤ 9223372036854775807) => order3_any o 16 W a b)
  have HEL : Kept (∀ (v : Value) (xs : List Int) (W : World) (q len : Nat), Sl .i64 W v xs → I64s xs → 1 ≤ q → q ≤ 16 → len ≤ 20 → Calls Tryz.prog 37 #[.int .i64 q, v, .int .i64 len] W (RetP W (elL q xs len) len)) := ⟨fun v xs W q len hs hi hq1 hq16 hl => (elements_any q len v xs W hs hi hq1 (by omega) (by omega)).mono fun e w' h => h.parts (elL_len _ _ _)⟩
  have HRW : Kept (∀ (v : Value) (xs : List Int) (W : World) (most : Nat), Sl .i64 W v xs → most ≤ 1000 → Calls Tryz.prog 18 #[v, .int .i64 most] W (fun e w' => Below W.heap.size W w' ∧ ∃ (va : Option Addr) (vc m : Nat), e = .returned (.slice va m vc) ∧ (xs.take most).length = m ∧ m ≤ most ∧ Sl .i64 w' (.slice va m vc) (xs.take most))) := ⟨fun v xs W most hs hm => (raw3_any v xs most W hs hm).mono fun e w' ⟨hb, v', he, hmm⟩ => by
    obtain ⟨va, vc, rfl, _, _⟩ := hmm.sl.form
    exact ⟨hb, va, vc, _, he, rfl, by rw [List.length_take]; omega, hmm.sl⟩⟩
  have HR2 : Kept (Calls Tryz.prog 18 #[.slice a2 n2 c2, .int .i64 201] w (fun e w' => Below w.heap.size w w' ∧ ∃ (va : Option Addr) (vc m : Nat), e = .returned (.slice va m vc) ∧ (xs2.take 201).length = m ∧ m ≤ 201 ∧ Sl .i64 w' (.slice va m vc) (xs2.take 201))) := ⟨HRW.out _ xs2 w 201 s2 (by omega)⟩
  have HR1 : Kept (∀ W, Below w.heap.size w W → Calls Tryz.prog 18 #[.slice a1 n1 c1, .int .i64 202] W (fun e w' => Below W.heap.size W w' ∧ ∃ (va : Option Addr) (vc m : Nat), e = .returned (.slice va m vc) ∧ (xs1.take 202).length = m ∧ m ≤ 202 ∧ Sl .i64 w' (.slice va m vc) (xs1.take 202))) := ⟨fun W hW => HRW.out _ xs1 W 202 (s1.below hW) (by omega)⟩
  have HBDS : Kept (-9223372036854775808 ≤ a0 ∧ a0 ≤ 9223372036854775807) := ⟨⟨h0, h1⟩⟩
  clear s1 w1 s2 w2 hn hn' HRW h0 h1
  go_enter Tryz.func9, Tryz.ntmps9
  go_wp2_with fail
  (with_reducible refine HR2.out.mono ?_)
  rintro e W1 ⟨hb1, la, lc, ln, rfl, hll, hl2, hsl⟩
  have HB1 := Kept.mk hb1
  have HL1 : Kept (Sl .i64 W1 (.slice la ln lc) (xs2.take 201) ∧ (xs2.take 201).length = ln ∧ ln ≤ 201) := ⟨⟨hsl, hll, hl2⟩⟩
  clear hb1 hll hl2 hsl HR2
  go_wp2_with fail
  (with_reducible refine (HR1.out _ HB1.out).mono ?_)
  rintro e W2 ⟨hb2, ta, tc, tn, rfl, htl, ht2, hst⟩
  have HB2 := Kept.mk (bstep HB1.out hb2)
  have HT2 : Kept (Sl .i64 W2 (.slice ta tn tc) (xs1.take 202) ∧ (xs1.take 202).length = tn ∧ tn ≤ 202) := ⟨⟨hst, htl, ht2⟩⟩
  have HL2 : Kept (Sl .i64 W2 (.slice la ln lc) (xs2.take 201) ∧ (xs2.take 201).length = ln ∧ ln ≤ 201) := ⟨⟨HL1.out.1.below hb2, HL1.out.2⟩⟩
  clear hb2 htl ht2 hst HR1 HB1 HL1
  go_wp2_with fail
  (with_reducible refine (HNW.out _ _ HBDS.out.1 HBDS.out.2).mono ?_)
  rintro e W3 ⟨hb3, hor⟩
  obtain ⟨okb, rv, q, p, kq, m, rfl, hrv, hyes, hno⟩ : ∃ (okb : Bool) (rv : Value) (q p kq m : Nat), e = .returned (.tuple #[rv, .bool okb]) ∧ rv = rfv q p kq m ∧ (okb = true → ∃ D : FFld.FD, D.Ok ∧ a0 = D.q ∧ q = D.q ∧ p = D.p ∧ kq = D.k ∧ m = D.m) ∧ (okb = false → ¬ FFld.Fit a0) := by
    rcases hor with ⟨D, hD, hq, rfl⟩ | ⟨hn, rfl⟩
    · exact ⟨true, _, D.q, D.p, D.k, D.m, rfl, rfl, fun _ => ⟨D, hD, hq, rfl, rfl, rfl, rfl⟩, (fun h => by cases h)⟩
    · exact ⟨false, _, 0, 0, 0, 0, rfl, rfl, (fun h => by cases h), fun _ => hn⟩
  subst hrv
  have hal : Below W3.heap.size W3 (W3.alloc (rbox q p kq m)) := (Below.refl _ _).alloc (Nat.le_refl _) _
  have hb4 := bstep hb3 hal
  have HST0 : Kept (MkSt w a0 la lc ln (xs2.take 201) ta tc tn (xs1.take 202) W3.heap.size q p kq m okb (W3.alloc (rbox q p kq m))) := ⟨⟨HB2.out.trans (hb4.mono HB2.out.size), HL2.out.1.below hb4, HL2.out.2.1, HL2.out.2.2, HT2.out.1.below hb4, HT2.out.2.1, HT2.out.2.2, HBDS.out.1, HBDS.out.2, heap_alloc_new W3 _, hyes, hno⟩⟩
  have hg9 : w.heap.size ≤ W3.heap.size := (HB2.out.trans (hb3.mono HB2.out.size)).size
  obtain ⟨g9, hg⟩ : ∃ x, W3.heap.size = x := ⟨_, rfl⟩
  obtain ⟨W5, hW5⟩ : ∃ W, W3.alloc (rbox q p kq m) = W := ⟨_, rfl⟩
  rw [hg, hW5] at HST0
  rw [hg] at hg9
  go_upto_region 4 with fail
  try rw [hW5]
  try rw [hg]
  clear hb3 hor hyes hno hal hb4 hg hW5 HB2 HL2 HT2 HBDS
  go_loopw [0, 7, 8, 10, 11] (fun ov lv tv kv iv wr => ∃ (k : Nat) (o : Int) (la : Option Addr) (lc ln : Nat) (xs : List Int) (ta : Option Addr) (tc tn : Nat) (ts : List Int) (q p kq m : Nat) (okb : Bool), k ≤ 2 ∧ iv = .int .i64 k ∧ ov = .int .i64 o ∧ lv = .slice la ln lc ∧ tv = .slice ta tn tc ∧ kv = .bool okb ∧ Kept (MkSt w o la lc ln xs ta tc tn ts g9 q p kq m okb wr)) (fun _ _ _ _ iv _ => 2 - (intOf iv).toNat)
  case atStart => exact ⟨0, _, _, _, _, _, _, _, _, _, _, _, _, _, _, by omega, rfl, rfl, rfl, rfl, rfl, HST0⟩
  case round =>
    clear HST0
    obtain ⟨k, o, la, lc, ln, xs, ta, tc, tn, ts, q, p, kq, m, okb, hk2, rfl, rfl, rfl, rfl, rfl, hst⟩ := hrel
    by_cases hk : k < 2
    · have hl201 := hst.out.l201
      have ht202 := hst.out.t202
      obtain ⟨b0, b1, b2, b3⟩ := four_cells hst.out.b9
      cases okb with
      | false =>
        have hme : mkE o ts xs = 20 := by unfold mkE; rw [if_neg (hst.out.no rfl)]
        have hmk := cmakes_err o ta la tc lc tn ln ts xs wr hst.out.st hst.out.sl hst.out.lt hst.out.ll hst.out.o0 hst.out.o1 (by omega)
        rw [hme] at hmk
        have HMK : Kept (Calls Tryz.prog 60 #[.int .i64 o, .slice ta tn tc, .slice la ln lc] wr (RB wr (.tuple #[.bool false, .int .i64 20]))) := ⟨hmk⟩
        clear hme hmk
        go_wp2_with fail
        (with_reducible refine HMK.out.mono ?_)
        rintro e w1 ⟨hb1, rfl⟩
        have HST := Kept.mk (hst.out.below hb1)
        clear hb1 hst HMK b0 b1 b2 b3
        go_wp2_with fail
        (with_reducible refine (HOD.out _ _ HST.out.o0 HST.out.o1).mono ?_)
        rintro e w2 ⟨hb2, D2, hD2, hq2, rfl⟩
        have HS2' := Kept.mk (HST.out.below hb2)
        have HD2 := Kept.mk hD2
        have hq16 : D2.q ≤ 16 := by omega
        have hq21 : 1 ≤ D2.q := Nat.le_of_lt hD2.pre.pk.one_lt
        clear hb2 hD2 HST hq2
        go_wp2_with fail
        (with_reducible refine (HNW.out _ (D2.q : Int) (by omega) (by omega)).mono ?_)
        rintro e w3 ⟨hb3, ⟨D', hD', hq', rfl⟩ | ⟨hno, rfl⟩⟩
        · obtain rfl : D' = D2 := FFld.FD.uniq hD' HD2.out (by omega)
          have HS3 := Kept.mk (HS2'.out.below hb3)
          obtain ⟨x0, x1, x2, x3⟩ := four_cells HS3.out.b9
          obtain ⟨y0, y1, y2, y3⟩ := four_frz HS3.out.b9
          have hg4 : w3.grownBy ((((w3.setCell ⟨g9, 0, none⟩ (.int .i64 D'.q)).setCell ⟨g9, 1, none⟩ (.int .i64 D'.p)).setCell ⟨g9, 2, none⟩ (.int .i64 D'.k)).setCell ⟨g9, 3, none⟩ (.int .i64 D'.m)) (some g9) := growSet (growSet (growSet (growSet (growRefl _ _) _ _) _ _) _ _) _ _
          have HB4 := Kept.mk (belowGrow hg4 HS3.out.bel hg9)
          have HG4 := Kept.mk (four_set HS3.out.b9 (.int .i64 D'.q) (.int .i64 D'.p) (.int .i64 D'.k) (.int .i64 D'.m))
          obtain ⟨W4, hW4⟩ : ∃ W, (((w3.setCell ⟨g9, 0, none⟩ (.int .i64 D'.q)).setCell ⟨g9, 1, none⟩ (.int .i64 D'.p)).setCell ⟨g9, 2, none⟩ (.int .i64 D'.k)).setCell ⟨g9, 3, none⟩ (.int .i64 D'.m) = W := ⟨_, rfl⟩
          rw [hW4] at HB4 HG4
          go_upto_region 20 with fail
          try rw [hW4]
          clear hW4 hg4 hb3 hq' hD' HS2' HS3 x0 x1 x2 x3 y0 y1 y2 y3
          have HE2 : Kept (Calls Tryz.prog 37 #[.int .i64 D'.q, .slice a2 n2 c2, .int .i64 (l1 : Nat)] W4 (RetP W4 (elL D'.q xs2 l1) l1)) := ⟨HEL.out (.slice a2 n2 c2) xs2 W4 D'.q l1 (HS2V.out.below HB4.out) HI2.out hq21 hq16 hl1⟩
          have HE1 : Kept (∀ W, Below W4.heap.size W4 W → Calls Tryz.prog 37 #[.int .i64 D'.q, .slice a1 n1 c1, .int .i64 (l2 : Nat)] W (RetP W (elL D'.q xs1 l2) l2)) := ⟨fun W hW => HEL.out (.slice a1 n1 c1) xs1 W D'.q l2 ((HS1V.out.below HB4.out).below hW) HI1.out hq21 hq16 hl2⟩
          go_wp2_with fail
          (with_reducible refine HE2.out.mono ?_)
          rintro e w5 ⟨hb5, la', lc', rfl, hml⟩
          have HML := Kept.mk hml.sl
          have HB5 := Kept.mk hb5
          clear hb5 hml HE2
          go_wp2_with fail
          (with_reducible refine (HE1.out _ HB5.out).mono ?_)
          rintro e w6 ⟨hb6, ta', tc', rfl, hmt⟩
          have HNX : Kept (MkSt w (D'.q : Int) la' lc' l1 (ints (elL D'.q xs2 l1)) ta' tc' l2 (ints (elL D'.q xs1 l2)) g9 D'.q D'.p D'.k D'.m true w6) := ⟨⟨HB4.out.trans ((bstep HB5.out hb6).mono HB4.out.size), HML.out.below hb6, by rw [FFld.ints_len, elL_len], by omega, hmt.sl, by rw [FFld.ints_len, elL_len], by omega, by omega, by omega, ((bstep HB5.out hb6).block _ (Array.getElem?_eq_some_iff.1 HG4.out).1).trans HG4.out, fun _ => ⟨D', HD2.out, rfl, rfl, rfl, rfl, rfl⟩, (fun h => by cases h)⟩⟩
          clear hb6 hmt HML HB5 HE1 HB4 HG4
          go_wp2
          go_roundw
          case rel => exact ⟨k + 1, _, _, _, _, _, _, _, _, _, _, _, _, _, _, by omega, by go_num, rfl, rfl, rfl, rfl, HNX⟩
          case measure => simp [intOf] <;> omega
        · exact absurd ⟨D2, HD2.out, rfl⟩ hno
      | true =>
        obtain ⟨D, hD, rfl, rfl, rfl, rfl, rfl⟩ := hst.out.yes rfl
        have HD := Kept.mk hD
        have hfit : FFld.Fit (D.q : Int) := ⟨D, hD, rfl⟩
        by_cases h200 : 200 < ln
        · have g1 : decide ((200 : Int) < (ln : Int)) = true := decide_eq_true (by omega)
          have hme : mkE (D.q : Int) ts xs = 2 := by
            have h1 := hst.out.ll
            have h2 := hst.out.lt
            unfold mkE
            rw [if_pos hfit, if_pos (by rw [h1]; exact h200)]
          have hmk := cmakes_err (D.q : Int) ta la tc lc tn ln ts xs wr hst.out.st hst.out.sl hst.out.lt hst.out.ll hst.out.o0 hst.out.o1 (by omega)
          rw [hme] at hmk
          have HMK : Kept (Calls Tryz.prog 60 #[.int .i64 D.q, .slice ta tn tc, .slice la ln lc] wr (RB wr (.tuple #[.bool false, .int .i64 2]))) := ⟨hmk⟩
          clear hme hmk
          go_wp2_with fail
          (with_reducible refine HMK.out.mono ?_)
          rintro e w1 ⟨hb1, rfl⟩
          have HST := Kept.mk (hst.out.below hb1)
          clear hb1 hst HMK b0 b1 b2 b3
          obtain ⟨b0, b1, b2, b3⟩ := four_cells HST.out.b9
          go_wp2_with fail
          (with_reducible refine (HOD.out _ _ HST.out.o0 HST.out.o1).mono ?_)
          rintro e w2 ⟨hb2, D2, hD2, hq2, rfl⟩
          have HS2' := Kept.mk (HST.out.below hb2)
          have HD2 := Kept.mk hD2
          have hq16 : D2.q ≤ 16 := by omega
          have hq21 : 1 ≤ D2.q := Nat.le_of_lt hD2.pre.pk.one_lt
          clear hb2 hD2 HST hq2
          go_wp2_with fail
          (with_reducible refine (HNW.out _ (D2.q : Int) (by omega) (by omega)).mono ?_)
          rintro e w3 ⟨hb3, ⟨D', hD', hq', rfl⟩ | ⟨hno, rfl⟩⟩
          · obtain rfl : D' = D2 := FFld.FD.uniq hD' HD2.out (by omega)
            have HS3 := Kept.mk (HS2'.out.below hb3)
            obtain ⟨x0, x1, x2, x3⟩ := four_cells HS3.out.b9
            obtain ⟨y0, y1, y2, y3⟩ := four_frz HS3.out.b9
            have hg4 : w3.grownBy ((((w3.setCell ⟨g9, 0, none⟩ (.int .i64 D'.q)).setCell ⟨g9, 1, none⟩ (.int .i64 D'.p)).setCell ⟨g9, 2, none⟩ (.int .i64 D'.k)).setCell ⟨g9, 3, none⟩ (.int .i64 D'.m)) (some g9) := growSet (growSet (growSet (growSet (growRefl _ _) _ _) _ _) _ _) _ _
            have HB4 := Kept.mk (belowGrow hg4 HS3.out.bel hg9)
            have HG4 := Kept.mk (four_set HS3.out.b9 (.int .i64 D'.q) (.int .i64 D'.p) (.int .i64 D'.k) (.int .i64 D'.m))
            obtain ⟨W4, hW4⟩ : ∃ W, (((w3.setCell ⟨g9, 0, none⟩ (.int .i64 D'.q)).setCell ⟨g9, 1, none⟩ (.int .i64 D'.p)).setCell ⟨g9, 2, none⟩ (.int .i64 D'.k)).setCell ⟨g9, 3, none⟩ (.int .i64 D'.m) = W := ⟨_, rfl⟩
            rw [hW4] at HB4 HG4
            go_upto_region 20 with fail
            try rw [hW4]
            clear hW4 hg4 hb3 hq' hD' HS2' HS3 x0 x1 x2 x3 y0 y1 y2 y3
            have HE2 : Kept (Calls Tryz.prog 37 #[.int .i64 D'.q, .slice a2 n2 c2, .int .i64 (l1 : Nat)] W4 (RetP W4 (elL D'.q xs2 l1) l1)) := ⟨HEL.out (.slice a2 n2 c2) xs2 W4 D'.q l1 (HS2V.out.below HB4.out) HI2.out hq21 hq16 hl1⟩
            have HE1 : Kept (∀ W, Below W4.heap.size W4 W → Calls Tryz.prog 37 #[.int .i64 D'.q, .slice a1 n1 c1, .int .i64 (l2 : Nat)] W (RetP W (elL D'.q xs1 l2) l2)) := ⟨fun W hW => HEL.out (.slice a1 n1 c1) xs1 W D'.q l2 ((HS1V.out.below HB4.out).below hW) HI1.out hq21 hq16 hl2⟩
            go_wp2_with fail
            (with_reducible refine HE2.out.mono ?_)
            rintro e w5 ⟨hb5, la', lc', rfl, hml⟩
            have HML := Kept.mk hml.sl
            have HB5 := Kept.mk hb5
            clear hb5 hml HE2
            go_wp2_with fail
            (with_reducible refine (HE1.out _ HB5.out).mono ?_)
            rintro e w6 ⟨hb6, ta', tc', rfl, hmt⟩
            have HNX : Kept (MkSt w (D'.q : Int) la' lc' l1 (ints (elL D'.q xs2 l1)) ta' tc' l2 (ints (elL D'.q xs1 l2)) g9 D'.q D'.p D'.k D'.m true w6) := ⟨⟨HB4.out.trans ((bstep HB5.out hb6).mono HB4.out.size), HML.out.below hb6, by rw [FFld.ints_len, elL_len], by omega, hmt.sl, by rw [FFld.ints_len, elL_len], by omega, by omega, by omega, ((bstep HB5.out hb6).block _ (Array.getElem?_eq_some_iff.1 HG4.out).1).trans HG4.out, fun _ => ⟨D', HD2.out, rfl, rfl, rfl, rfl, rfl⟩, (fun h => by cases h)⟩⟩
            clear hb6 hmt HML HB5 HE1 HB4 HG4
            go_wp2
            go_roundw
            case rel => exact ⟨k + 1, _, _, _, _, _, _, _, _, _, _, _, _, _, _, by omega, by go_num, rfl, rfl, rfl, rfl, HNX⟩
            case measure => simp [intOf] <;> omega
          · exact absurd ⟨D2, HD2.out, rfl⟩ hno
        · have g1 : decide ((200 : Int) < (ln : Int)) = false := decide_eq_false (by omega)
          by_cases hbl : belB (D.q : Int) xs = true
          · have HEl : Kept (∀ W, Below w.heap.size w W → MkSt w (D.q : Int) la lc ln xs ta tc tn ts g9 D.q D.p D.k D.m true W → Calls Tryz.prog 32 #[rfv D.q D.p D.k D.m, .slice la ln lc] W (RB W (.bool true))) := ⟨fun W _ hW => by
              have h := relements_any D (.slice la ln lc) xs W hW.sl
              rw [els_bel, hbl] at h
              exact h⟩
            by_cases hbt : belB (D.q : Int) ts = true
            · have HEt : Kept (∀ W, Below w.heap.size w W → MkSt w (D.q : Int) la lc ln xs ta tc tn ts g9 D.q D.p D.k D.m true W → Calls Tryz.prog 32 #[rfv D.q D.p D.k D.m, .slice ta tn tc] W (RB W (.bool true))) := ⟨fun W _ hW => by
                have h := relements_any D (.slice ta tn tc) ts W hW.st
                rw [els_bel, hbt] at h
                exact h⟩
              by_cases hle : ln < tn
              · have g2 : decide ((ln : Int) < (tn : Int)) = true := decide_eq_true (by omega)
                have hme : mkE (D.q : Int) ts xs = 1 := by
                  have h1 := hst.out.ll
                  have h2 := hst.out.lt
                  unfold mkE
                  rw [if_pos hfit, if_neg (by rw [h1]; exact h200), if_neg (by rw [hbl]; simp), if_pos (by rw [h1, h2]; exact hle)]
                have hmk := cmakes_err (D.q : Int) ta la tc lc tn ln ts xs wr hst.out.st hst.out.sl hst.out.lt hst.out.ll hst.out.o0 hst.out.o1 (by omega)
                rw [hme] at hmk
                have HMK : Kept (Calls Tryz.prog 60 #[.int .i64 D.q, .slice ta tn tc, .slice la ln lc] wr (RB wr (.tuple #[.bool false, .int .i64 1]))) := ⟨hmk⟩
                clear hme hmk
                go_wp2_with fail
                (with_reducible refine HMK.out.mono ?_)
                rintro e w1 ⟨hb1, rfl⟩
                have HST := Kept.mk (hst.out.below hb1)
                clear hb1 hst HMK b0 b1 b2 b3
                obtain ⟨b0, b1, b2, b3⟩ := four_cells HST.out.b9
                go_wp2_with fail
                (with_reducible refine (HEl.out _ HST.out.bel HST.out).mono ?_)
                rintro e w1 ⟨hb1, rfl⟩
                have HST := Kept.mk (HST.out.below hb1)
                clear hb1 b0 b1 b2 b3
                obtain ⟨b0, b1, b2, b3⟩ := four_cells HST.out.b9
                go_wp2_with fail
                (with_reducible refine (HEt.out _ HST.out.bel HST.out).mono ?_)
                rintro e w1 ⟨hb1, rfl⟩
                have HST := Kept.mk (HST.out.below hb1)
                clear hb1 b0 b1 b2 b3
                obtain ⟨b0, b1, b2, b3⟩ := four_cells HST.out.b9
                go_wp2_with fail
                (with_reducible refine (HOD.out _ _ HST.out.o0 HST.out.o1).mono ?_)
                rintro e w2 ⟨hb2, D2, hD2, hq2, rfl⟩
                have HS2' := Kept.mk (HST.out.below hb2)
                have HD2 := Kept.mk hD2
                have hq16 : D2.q ≤ 16 := by omega
                have hq21 : 1 ≤ D2.q := Nat.le_of_lt hD2.pre.pk.one_lt
                clear hb2 hD2 HST hq2
                go_wp2_with fail
                (with_reducible refine (HNW.out _ (D2.q : Int) (by omega) (by omega)).mono ?_)
                rintro e w3 ⟨hb3, ⟨D', hD', hq', rfl⟩ | ⟨hno, rfl⟩⟩
                · obtain rfl : D' = D2 := FFld.FD.uniq hD' HD2.out (by omega)
                  have HS3 := Kept.mk (HS2'.out.below hb3)
                  obtain ⟨x0, x1, x2, x3⟩ := four_cells HS3.out.b9
                  obtain ⟨y0, y1, y2, y3⟩ := four_frz HS3.out.b9
                  have hg4 : w3.grownBy ((((w3.setCell ⟨g9, 0, none⟩ (.int .i64 D'.q)).setCell ⟨g9, 1, none⟩ (.int .i64 D'.p)).setCell ⟨g9, 2, none⟩ (.int .i64 D'.k)).setCell ⟨g9, 3, none⟩ (.int .i64 D'.m)) (some g9) := growSet (growSet (growSet (growSet (growRefl _ _) _ _) _ _) _ _) _ _
                  have HB4 := Kept.mk (belowGrow hg4 HS3.out.bel hg9)
                  have HG4 := Kept.mk (four_set HS3.out.b9 (.int .i64 D'.q) (.int .i64 D'.p) (.int .i64 D'.k) (.int .i64 D'.m))
                  obtain ⟨W4, hW4⟩ : ∃ W, (((w3.setCell ⟨g9, 0, none⟩ (.int .i64 D'.q)).setCell ⟨g9, 1, none⟩ (.int .i64 D'.p)).setCell ⟨g9, 2, none⟩ (.int .i64 D'.k)).setCell ⟨g9, 3, none⟩ (.int .i64 D'.m) = W := ⟨_, rfl⟩
                  rw [hW4] at HB4 HG4
                  go_upto_region 20 with fail
                  try rw [hW4]
                  clear hW4 hg4 hb3 hq' hD' HS2' HS3 x0 x1 x2 x3 y0 y1 y2 y3
                  have HE2 : Kept (Calls Tryz.prog 37 #[.int .i64 D'.q, .slice a2 n2 c2, .int .i64 (l1 : Nat)] W4 (RetP W4 (elL D'.q xs2 l1) l1)) := ⟨HEL.out (.slice a2 n2 c2) xs2 W4 D'.q l1 (HS2V.out.below HB4.out) HI2.out hq21 hq16 hl1⟩
                  have HE1 : Kept (∀ W, Below W4.heap.size W4 W → Calls Tryz.prog 37 #[.int .i64 D'.q, .slice a1 n1 c1, .int .i64 (l2 : Nat)] W (RetP W (elL D'.q xs1 l2) l2)) := ⟨fun W hW => HEL.out (.slice a1 n1 c1) xs1 W D'.q l2 ((HS1V.out.below HB4.out).below hW) HI1.out hq21 hq16 hl2⟩
                  go_wp2_with fail
                  (with_reducible refine HE2.out.mono ?_)
                  rintro e w5 ⟨hb5, la', lc', rfl, hml⟩
                  have HML := Kept.mk hml.sl
                  have HB5 := Kept.mk hb5
                  clear hb5 hml HE2
                  go_wp2_with fail
                  (with_reducible refine (HE1.out _ HB5.out).mono ?_)
                  rintro e w6 ⟨hb6, ta', tc', rfl, hmt⟩
                  have HNX : Kept (MkSt w (D'.q : Int) la' lc' l1 (ints (elL D'.q xs2 l1)) ta' tc' l2 (ints (elL D'.q xs1 l2)) g9 D'.q D'.p D'.k D'.m true w6) := ⟨⟨HB4.out.trans ((bstep HB5.out hb6).mono HB4.out.size), HML.out.below hb6, by rw [FFld.ints_len, elL_len], by omega, hmt.sl, by rw [FFld.ints_len, elL_len], by omega, by omega, by omega, ((bstep HB5.out hb6).block _ (Array.getElem?_eq_some_iff.1 HG4.out).1).trans HG4.out, fun _ => ⟨D', HD2.out, rfl, rfl, rfl, rfl, rfl⟩, (fun h => by cases h)⟩⟩
                  clear hb6 hmt HML HB5 HE1 HB4 HG4
                  go_wp2
                  go_roundw
                  case rel => exact ⟨k + 1, _, _, _, _, _, _, _, _, _, _, _, _, _, _, by omega, by go_num, rfl, rfl, rfl, rfl, HNX⟩
                  case measure => simp [intOf] <;> omega
                · exact absurd ⟨D2, HD2.out, rfl⟩ hno
              · have g2 : decide ((ln : Int) < (tn : Int)) = false := decide_eq_false (by omega)
                obtain ⟨sl, rfl, hsq⟩ := bel_nats hbl
                obtain ⟨tl, rfl, htq⟩ := bel_nats hbt
                have hsl := hst.out.ll
                have htl := hst.out.lt
                rw [FFld.ints_len] at hsl htl
                have hmk := cmakes_ok hD ta la tc lc tn ln tl sl wr hst.out.st hst.out.sl htl hsl htq hsq (by omega) (by omega)
                have HRM := Kept.mk (fun (W : World) (hW : Below wr.heap.size wr W) => rmakes_any hD ta la tc lc tn ln tl sl W (hst.out.st.below hW) (hst.out.sl.below hW) htl hsl htq hsq (by omega) (by omega))
                obtain ⟨bb, hbb⟩ : ∃ b, mkP D tl sl ln = b := ⟨_, rfl⟩
                rw [hbb] at hmk HRM
                have HMK := Kept.mk hmk
                have e5 : (bb != bb) = false := by cases bb <;> rfl
                have e6 : (bb == bb) = true := by cases bb <;> rfl
                clear hmk hbb hsq htq hsl htl hbl hbt
                go_wp2_with fail
                (with_reducible refine HMK.out.mono ?_)
                rintro e w1 ⟨hb1, rfl⟩
                have HST := Kept.mk (hst.out.below hb1)
                have HRM1 : Kept (∀ W, Below w1.heap.size w1 W → Calls Tryz.prog 61 #[.int .i64 D.q, .slice ta tn tc, .slice la ln lc] W (RB W (.bool bb))) := ⟨fun W hW => HRM.out W (bstep hb1 hW)⟩
                clear hb1 hst HMK b0 b1 b2 b3 HRM
                obtain ⟨b0, b1, b2, b3⟩ := four_cells HST.out.b9
                go_wp2_with fail
                (with_reducible refine (HEl.out _ HST.out.bel HST.out).mono ?_)
                rintro e w8 ⟨hb1, rfl⟩
                have HB8 := Kept.mk (hb1)
                have HST := Kept.mk (HST.out.below hb1)
                clear hb1 b0 b1 b2 b3
                obtain ⟨b0, b1, b2, b3⟩ := four_cells HST.out.b9
                go_wp2_with fail
                (with_reducible refine (HEt.out _ HST.out.bel HST.out).mono ?_)
                rintro e w9 ⟨hb1, rfl⟩
                have HB9 := Kept.mk (bstep HB8.out hb1)
                have HST := Kept.mk (HST.out.below hb1)
                clear hb1 b0 b1 b2 b3
                obtain ⟨b0, b1, b2, b3⟩ := four_cells HST.out.b9
                go_wp2_with fail
                (with_reducible refine (HRM1.out _ HB9.out).mono ?_)
                rintro e w10 ⟨hb1, rfl⟩
                have HST := Kept.mk (HST.out.below hb1)
                clear hb1 b0 b1 b2 b3 HB8 HB9 HRM1
                obtain ⟨b0, b1, b2, b3⟩ := four_cells HST.out.b9
                go_wp2_with fail
                (with_reducible refine (HOD.out _ _ HST.out.o0 HST.out.o1).mono ?_)
                rintro e w2 ⟨hb2, D2, hD2, hq2, rfl⟩
                have HS2' := Kept.mk (HST.out.below hb2)
                have HD2 := Kept.mk hD2
                have hq16 : D2.q ≤ 16 := by omega
                have hq21 : 1 ≤ D2.q := Nat.le_of_lt hD2.pre.pk.one_lt
                clear hb2 hD2 HST hq2
                go_wp2_with fail
                (with_reducible refine (HNW.out _ (D2.q : Int) (by omega) (by omega)).mono ?_)
                rintro e w3 ⟨hb3, ⟨D', hD', hq', rfl⟩ | ⟨hno, rfl⟩⟩
                · obtain rfl : D' = D2 := FFld.FD.uniq hD' HD2.out (by omega)
                  have HS3 := Kept.mk (HS2'.out.below hb3)
                  obtain ⟨x0, x1, x2, x3⟩ := four_cells HS3.out.b9
                  obtain ⟨y0, y1, y2, y3⟩ := four_frz HS3.out.b9
                  have hg4 : w3.grownBy ((((w3.setCell ⟨g9, 0, none⟩ (.int .i64 D'.q)).setCell ⟨g9, 1, none⟩ (.int .i64 D'.p)).setCell ⟨g9, 2, none⟩ (.int .i64 D'.k)).setCell ⟨g9, 3, none⟩ (.int .i64 D'.m)) (some g9) := growSet (growSet (growSet (growSet (growRefl _ _) _ _) _ _) _ _) _ _
                  have HB4 := Kept.mk (belowGrow hg4 HS3.out.bel hg9)
                  have HG4 := Kept.mk (four_set HS3.out.b9 (.int .i64 D'.q) (.int .i64 D'.p) (.int .i64 D'.k) (.int .i64 D'.m))
                  obtain ⟨W4, hW4⟩ : ∃ W, (((w3.setCell ⟨g9, 0, none⟩ (.int .i64 D'.q)).setCell ⟨g9, 1, none⟩ (.int .i64 D'.p)).setCell ⟨g9, 2, none⟩ (.int .i64 D'.k)).setCell ⟨g9, 3, none⟩ (.int .i64 D'.m) = W := ⟨_, rfl⟩
                  rw [hW4] at HB4 HG4
                  go_upto_region 20 with fail
                  try rw [hW4]
                  clear hW4 hg4 hb3 hq' hD' HS2' HS3 x0 x1 x2 x3 y0 y1 y2 y3
                  have HE2 : Kept (Calls Tryz.prog 37 #[.int .i64 D'.q, .slice a2 n2 c2, .int .i64 (l1 : Nat)] W4 (RetP W4 (elL D'.q xs2 l1) l1)) := ⟨HEL.out (.slice a2 n2 c2) xs2 W4 D'.q l1 (HS2V.out.below HB4.out) HI2.out hq21 hq16 hl1⟩
                  have HE1 : Kept (∀ W, Below W4.heap.size W4 W → Calls Tryz.prog 37 #[.int .i64 D'.q, .slice a1 n1 c1, .int .i64 (l2 : Nat)] W (RetP W (elL D'.q xs1 l2) l2)) := ⟨fun W hW => HEL.out (.slice a1 n1 c1) xs1 W D'.q l2 ((HS1V.out.below HB4.out).below hW) HI1.out hq21 hq16 hl2⟩
                  go_wp2_with fail
                  (with_reducible refine HE2.out.mono ?_)
                  rintro e w5 ⟨hb5, la', lc', rfl, hml⟩
                  have HML := Kept.mk hml.sl
                  have HB5 := Kept.mk hb5
                  clear hb5 hml HE2
                  go_wp2_with fail
                  (with_reducible refine (HE1.out _ HB5.out).mono ?_)
                  rintro e w6 ⟨hb6, ta', tc', rfl, hmt⟩
                  have HNX : Kept (MkSt w (D'.q : Int) la' lc' l1 (ints (elL D'.q xs2 l1)) ta' tc' l2 (ints (elL D'.q xs1 l2)) g9 D'.q D'.p D'.k D'.m true w6) := ⟨⟨HB4.out.trans ((bstep HB5.out hb6).mono HB4.out.size), HML.out.below hb6, by rw [FFld.ints_len, elL_len], by omega, hmt.sl, by rw [FFld.ints_len, elL_len], by omega, by omega, by omega, ((bstep HB5.out hb6).block _ (Array.getElem?_eq_some_iff.1 HG4.out).1).trans HG4.out, fun _ => ⟨D', HD2.out, rfl, rfl, rfl, rfl, rfl⟩, (fun h => by cases h)⟩⟩
                  clear hb6 hmt HML HB5 HE1 HB4 HG4
                  go_wp2
                  go_roundw
                  case rel => exact ⟨k + 1, _, _, _, _, _, _, _, _, _, _, _, _, _, _, by omega, by go_num, rfl, rfl, rfl, rfl, HNX⟩
                  case measure => simp [intOf] <;> omega
                · exact absurd ⟨D2, HD2.out, rfl⟩ hno
            · have hbt' : belB (D.q : Int) ts = false := (Bool.not_eq_true _).mp hbt
              have HEt : Kept (∀ W, Below w.heap.size w W → MkSt w (D.q : Int) la lc ln xs ta tc tn ts g9 D.q D.p D.k D.m true W → Calls Tryz.prog 32 #[rfv D.q D.p D.k D.m, .slice ta tn tc] W (RB W (.bool false))) := ⟨fun W _ hW => by
                have h := relements_any D (.slice ta tn tc) ts W hW.st
                rw [els_bel, hbt'] at h
                exact h⟩
              have hme : mkE (D.q : Int) ts xs = 1 := by
                have h1 := hst.out.ll
                have h2 := hst.out.lt
                unfold mkE
                rw [if_pos hfit, if_neg (by rw [h1]; exact h200), if_neg (by rw [hbl]; simp), if_pos hbt', ite_self]
              have hmk := cmakes_err (D.q : Int) ta la tc lc tn ln ts xs wr hst.out.st hst.out.sl hst.out.lt hst.out.ll hst.out.o0 hst.out.o1 (by omega)
              rw [hme] at hmk
              have HMK : Kept (Calls Tryz.prog 60 #[.int .i64 D.q, .slice ta tn tc, .slice la ln lc] wr (RB wr (.tuple #[.bool false, .int .i64 1]))) := ⟨hmk⟩
              clear hme hmk
              go_wp2_with fail
              (with_reducible refine HMK.out.mono ?_)
              rintro e w1 ⟨hb1, rfl⟩
              have HST := Kept.mk (hst.out.below hb1)
              clear hb1 hst HMK b0 b1 b2 b3
              obtain ⟨b0, b1, b2, b3⟩ := four_cells HST.out.b9
              go_wp2_with fail
              (with_reducible refine (HEl.out _ HST.out.bel HST.out).mono ?_)
              rintro e w1 ⟨hb1, rfl⟩
              have HST := Kept.mk (HST.out.below hb1)
              clear hb1 b0 b1 b2 b3
              obtain ⟨b0, b1, b2, b3⟩ := four_cells HST.out.b9
              go_wp2_with fail
              (with_reducible refine (HEt.out _ HST.out.bel HST.out).mono ?_)
              rintro e w1 ⟨hb1, rfl⟩
              have HST := Kept.mk (HST.out.below hb1)
              clear hb1 b0 b1 b2 b3
              obtain ⟨b0, b1, b2, b3⟩ := four_cells HST.out.b9
              go_wp2_with fail
              (with_reducible refine (HOD.out _ _ HST.out.o0 HST.out.o1).mono ?_)
              rintro e w2 ⟨hb2, D2, hD2, hq2, rfl⟩
              have HS2' := Kept.mk (HST.out.below hb2)
              have HD2 := Kept.mk hD2
              have hq16 : D2.q ≤ 16 := by omega
              have hq21 : 1 ≤ D2.q := Nat.le_of_lt hD2.pre.pk.one_lt
              clear hb2 hD2 HST hq2
              go_wp2_with fail
              (with_reducible refine (HNW.out _ (D2.q : Int) (by omega) (by omega)).mono ?_)
              rintro e w3 ⟨hb3, ⟨D', hD', hq', rfl⟩ | ⟨hno, rfl⟩⟩
              · obtain rfl : D' = D2 := FFld.FD.uniq hD' HD2.out (by omega)
                have HS3 := Kept.mk (HS2'.out.below hb3)
                obtain ⟨x0, x1, x2, x3⟩ := four_cells HS3.out.b9
                obtain ⟨y0, y1, y2, y3⟩ := four_frz HS3.out.b9
                have hg4 : w3.grownBy ((((w3.setCell ⟨g9, 0, none⟩ (.int .i64 D'.q)).setCell ⟨g9, 1, none⟩ (.int .i64 D'.p)).setCell ⟨g9, 2, none⟩ (.int .i64 D'.k)).setCell ⟨g9, 3, none⟩ (.int .i64 D'.m)) (some g9) := growSet (growSet (growSet (growSet (growRefl _ _) _ _) _ _) _ _) _ _
                have HB4 := Kept.mk (belowGrow hg4 HS3.out.bel hg9)
                have HG4 := Kept.mk (four_set HS3.out.b9 (.int .i64 D'.q) (.int .i64 D'.p) (.int .i64 D'.k) (.int .i64 D'.m))
                obtain ⟨W4, hW4⟩ : ∃ W, (((w3.setCell ⟨g9, 0, none⟩ (.int .i64 D'.q)).setCell ⟨g9, 1, none⟩ (.int .i64 D'.p)).setCell ⟨g9, 2, none⟩ (.int .i64 D'.k)).setCell ⟨g9, 3, none⟩ (.int .i64 D'.m) = W := ⟨_, rfl⟩
                rw [hW4] at HB4 HG4
                go_upto_region 20 with fail
                try rw [hW4]
                clear hW4 hg4 hb3 hq' hD' HS2' HS3 x0 x1 x2 x3 y0 y1 y2 y3
                have HE2 : Kept (Calls Tryz.prog 37 #[.int .i64 D'.q, .slice a2 n2 c2, .int .i64 (l1 : Nat)] W4 (RetP W4 (elL D'.q xs2 l1) l1)) := ⟨HEL.out (.slice a2 n2 c2) xs2 W4 D'.q l1 (HS2V.out.below HB4.out) HI2.out hq21 hq16 hl1⟩
                have HE1 : Kept (∀ W, Below W4.heap.size W4 W → Calls Tryz.prog 37 #[.int .i64 D'.q, .slice a1 n1 c1, .int .i64 (l2 : Nat)] W (RetP W (elL D'.q xs1 l2) l2)) := ⟨fun W hW => HEL.out (.slice a1 n1 c1) xs1 W D'.q l2 ((HS1V.out.below HB4.out).below hW) HI1.out hq21 hq16 hl2⟩
                go_wp2_with fail
                (with_reducible refine HE2.out.mono ?_)
                rintro e w5 ⟨hb5, la', lc', rfl, hml⟩
                have HML := Kept.mk hml.sl
                have HB5 := Kept.mk hb5
                clear hb5 hml HE2
                go_wp2_with fail
                (with_reducible refine (HE1.out _ HB5.out).mono ?_)
                rintro e w6 ⟨hb6, ta', tc', rfl, hmt⟩
                have HNX : Kept (MkSt w (D'.q : Int) la' lc' l1 (ints (elL D'.q xs2 l1)) ta' tc' l2 (ints (elL D'.q xs1 l2)) g9 D'.q D'.p D'.k D'.m true w6) := ⟨⟨HB4.out.trans ((bstep HB5.out hb6).mono HB4.out.size), HML.out.below hb6, by rw [FFld.ints_len, elL_len], by omega, hmt.sl, by rw [FFld.ints_len, elL_len], by omega, by omega, by omega, ((bstep HB5.out hb6).block _ (Array.getElem?_eq_some_iff.1 HG4.out).1).trans HG4.out, fun _ => ⟨D', HD2.out, rfl, rfl, rfl, rfl, rfl⟩, (fun h => by cases h)⟩⟩
                clear hb6 hmt HML HB5 HE1 HB4 HG4
                go_wp2
                go_roundw
                case rel => exact ⟨k + 1, _, _, _, _, _, _, _, _, _, _, _, _, _, _, by omega, by go_num, rfl, rfl, rfl, rfl, HNX⟩
                case measure => simp [intOf] <;> omega
              · exact absurd ⟨D2, HD2.out, rfl⟩ hno
          · have hbl' : belB (D.q : Int) xs = false := (Bool.not_eq_true _).mp hbl
            have HEl : Kept (∀ W, Below w.heap.size w W → MkSt w (D.q : Int) la lc ln xs ta tc tn ts g9 D.q D.p D.k D.m true W → Calls Tryz.prog 32 #[rfv D.q D.p D.k D.m, .slice la ln lc] W (RB W (.bool false))) := ⟨fun W _ hW => by
              have h := relements_any D (.slice la ln lc) xs W hW.sl
              rw [els_bel, hbl'] at h
              exact h⟩
            have hme : mkE (D.q : Int) ts xs = 1 := by
              have h1 := hst.out.ll
              have h2 := hst.out.lt
              unfold mkE
              rw [if_pos hfit, if_neg (by rw [h1]; exact h200), if_pos hbl']
            have hmk := cmakes_err (D.q : Int) ta la tc lc tn ln ts xs wr hst.out.st hst.out.sl hst.out.lt hst.out.ll hst.out.o0 hst.out.o1 (by omega)
            rw [hme] at hmk
            have HMK : Kept (Calls Tryz.prog 60 #[.int .i64 D.q, .slice ta tn tc, .slice la ln lc] wr (RB wr (.tuple #[.bool false, .int .i64 1]))) := ⟨hmk⟩
            clear hme hmk
            go_wp2_with fail
            (with_reducible refine HMK.out.mono ?_)
            rintro e w1 ⟨hb1, rfl⟩
            have HST := Kept.mk (hst.out.below hb1)
            clear hb1 hst HMK b0 b1 b2 b3
            obtain ⟨b0, b1, b2, b3⟩ := four_cells HST.out.b9
            go_wp2_with fail
            (with_reducible refine (HEl.out _ HST.out.bel HST.out).mono ?_)
            rintro e w1 ⟨hb1, rfl⟩
            have HST := Kept.mk (HST.out.below hb1)
            clear hb1 b0 b1 b2 b3
            obtain ⟨b0, b1, b2, b3⟩ := four_cells HST.out.b9
            go_wp2_with fail
            (with_reducible refine (HOD.out _ _ HST.out.o0 HST.out.o1).mono ?_)
            rintro e w2 ⟨hb2, D2, hD2, hq2, rfl⟩
            have HS2' := Kept.mk (HST.out.below hb2)
            have HD2 := Kept.mk hD2
            have hq16 : D2.q ≤ 16 := by omega
            have hq21 : 1 ≤ D2.q := Nat.le_of_lt hD2.pre.pk.one_lt
            clear hb2 hD2 HST hq2
            go_wp2_with fail
            (with_reducible refine (HNW.out _ (D2.q : Int) (by omega) (by omega)).mono ?_)
            rintro e w3 ⟨hb3, ⟨D', hD', hq', rfl⟩ | ⟨hno, rfl⟩⟩
            · obtain rfl : D' = D2 := FFld.FD.uniq hD' HD2.out (by omega)
              have HS3 := Kept.mk (HS2'.out.below hb3)
              obtain ⟨x0, x1, x2, x3⟩ := four_cells HS3.out.b9
              obtain ⟨y0, y1, y2, y3⟩ := four_frz HS3.out.b9
              have hg4 : w3.grownBy ((((w3.setCell ⟨g9, 0, none⟩ (.int .i64 D'.q)).setCell ⟨g9, 1, none⟩ (.int .i64 D'.p)).setCell ⟨g9, 2, none⟩ (.int .i64 D'.k)).setCell ⟨g9, 3, none⟩ (.int .i64 D'.m)) (some g9) := growSet (growSet (growSet (growSet (growRefl _ _) _ _) _ _) _ _) _ _
              have HB4 := Kept.mk (belowGrow hg4 HS3.out.bel hg9)
              have HG4 := Kept.mk (four_set HS3.out.b9 (.int .i64 D'.q) (.int .i64 D'.p) (.int .i64 D'.k) (.int .i64 D'.m))
              obtain ⟨W4, hW4⟩ : ∃ W, (((w3.setCell ⟨g9, 0, none⟩ (.int .i64 D'.q)).setCell ⟨g9, 1, none⟩ (.int .i64 D'.p)).setCell ⟨g9, 2, none⟩ (.int .i64 D'.k)).setCell ⟨g9, 3, none⟩ (.int .i64 D'.m) = W := ⟨_, rfl⟩
              rw [hW4] at HB4 HG4
              go_upto_region 20 with fail
              try rw [hW4]
              clear hW4 hg4 hb3 hq' hD' HS2' HS3 x0 x1 x2 x3 y0 y1 y2 y3
              have HE2 : Kept (Calls Tryz.prog 37 #[.int .i64 D'.q, .slice a2 n2 c2, .int .i64 (l1 : Nat)] W4 (RetP W4 (elL D'.q xs2 l1) l1)) := ⟨HEL.out (.slice a2 n2 c2) xs2 W4 D'.q l1 (HS2V.out.below HB4.out) HI2.out hq21 hq16 hl1⟩
              have HE1 : Kept (∀ W, Below W4.heap.size W4 W → Calls Tryz.prog 37 #[.int .i64 D'.q, .slice a1 n1 c1, .int .i64 (l2 : Nat)] W (RetP W (elL D'.q xs1 l2) l2)) := ⟨fun W hW => HEL.out (.slice a1 n1 c1) xs1 W D'.q l2 ((HS1V.out.below HB4.out).below hW) HI1.out hq21 hq16 hl2⟩
              go_wp2_with fail
              (with_reducible refine HE2.out.mono ?_)
              rintro e w5 ⟨hb5, la', lc', rfl, hml⟩
              have HML := Kept.mk hml.sl
              have HB5 := Kept.mk hb5
              clear hb5 hml HE2
              go_wp2_with fail
              (with_reducible refine (HE1.out _ HB5.out).mono ?_)
              rintro e w6 ⟨hb6, ta', tc', rfl, hmt⟩
              have HNX : Kept (MkSt w (D'.q : Int) la' lc' l1 (ints (elL D'.q xs2 l1)) ta' tc' l2 (ints (elL D'.q xs1 l2)) g9 D'.q D'.p D'.k D'.m true w6) := ⟨⟨HB4.out.trans ((bstep HB5.out hb6).mono HB4.out.size), HML.out.below hb6, by rw [FFld.ints_len, elL_len], by omega, hmt.sl, by rw [FFld.ints_len, elL_len], by omega, by omega, by omega, ((bstep HB5.out hb6).block _ (Array.getElem?_eq_some_iff.1 HG4.out).1).trans HG4.out, fun _ => ⟨D', HD2.out, rfl, rfl, rfl, rfl, rfl⟩, (fun h => by cases h)⟩⟩
              clear hb6 hmt HML HB5 HE1 HB4 HG4
              go_wp2
              go_roundw
              case rel => exact ⟨k + 1, _, _, _, _, _, _, _, _, _, _, _, _, _, _, by omega, by go_num, rfl, rfl, rfl, rfl, HNX⟩
              case measure => simp [intOf] <;> omega
            · exact absurd ⟨D2, HD2.out, rfl⟩ hno
    · obtain rfl : k = 2 := by omega
      have HBE := Kept.mk hst.out.bel
      clear hst
      go_wp2_with fail
      (with_reducible refine (HAW.out _).mono ?_)
      rintro e w7 ⟨hb7, rfl⟩
      have HB7 := Kept.mk (bstep HBE.out hb7)
      clear hb7
      go_wp2
      go_ret
      exact ⟨HB7.out, rfl⟩
end Go.Proofs.YtdnheaafcbihbaaGreat
