/-
  Texts of the proof, merged by program: Rc3 Rc4 Lck.
-/
import Derived.Test.YtdnheaafcbihbaaGreatV20
import Derived.Test.YtdnheaafcbihbaaGreatV15
import Derived.Test.YtdnheaafcbihbaaGreatV23
set_option linter.unusedVariables false
set_option linter.unusedSimpArgs false
namespace Go.Proofs.YtdnheaafcbihbaaGreat
open Go Go.RowKit Go.Deep
open FFld (ints)
set_option maxRecDepth 20000 in
set_option maxHeartbeats 2000000 in
theorem raw3_any (v : Value) (xs : List Int) (most : Nat) (w : World) (h : Sl .i64 w v xs) (hm : most ≤ 1000) :
    Calls Tryz.prog 18 #[v, .int .i64 most] w (RetM w (xs.take most)) := by
  obtain ⟨ao, cap, rfl, hcap, hmax, hc⟩ := h
  obtain ⟨n, hN⟩ : ∃ n, xs.length = n := ⟨_, rfl⟩
  obtain ⟨k, hk⟩ : ∃ k, min n most = k := ⟨_, rfl⟩
  have hlen : (xs.take most).length = k := by rw [List.length_take, hN, ← hk]; omega
  rw [hN] at hcap ⊢
  have HSL : Kept (Sl .i64 w (.slice ao k cap) (xs.take most)) := ⟨⟨ao, cap, by rw [hlen], by omega, hmax, fun i hi => by
    obtain ⟨b, o, e, hb, hcell⟩ := hc i (by omega)
    exact ⟨b, o, e, hb, by rw [hcell, List.getElem?_take, if_pos (by omega)]⟩⟩⟩
  have em : min (n : Int) (most : Int) = k := by omega
  have hk0 : (0 : Int) ≤ (k : Int) := by omega
  have hk1 : (k : Int) ≤ (cap : Int) := by omega
  have hk2 : k ≤ cap := by omega
  have H1 := Kept.mk (show (([] : List Int).length + (xs.take most).length) * 8 ≤ 140737488355328 by rw [hlen]; simp; omega)
  have H2 := Kept.mk (show ([] : List Int).length + (xs.take most).length ≤ maxLen by rw [hlen]; unfold maxLen; simp; omega)
  unfold maxLen at hmax
  have hc0 := Kept.mk hc
  have HN := Kept.mk hN
  clear hc hN hlen
  cases ao with
  | none =>
    clear H1 H2 HSL em hk0 hk1 hk2
    obtain rfl : xs = [] := by
      cases xs with
      | nil => rfl
      | cons x t => obtain ⟨b, o, e, _⟩ := hc0.out 0 (by simp); cases e
    obtain rfl : n = 0 := by have := HN.out; simp at this; omega
    have hm0 : ¬ (most : Int) < ((0 : Nat) : Int) := by omega
    go_enter Tryz.func18, Tryz.ntmps18
    go_wp2
    go_ret
    exact ⟨Below.refl _ _, .slice none 0 0, rfl, by first | exact Mine.nil _ _ _ _ | (rw [List.take_nil]; exact Mine.nil _ _ _ _)⟩
  | some ad =>
    clear hc0 HN
    by_cases hlt : most < n
    · obtain rfl : k = most := by omega
      have hlt' : (k : Int) < (n : Int) := by omega
      go_enter Tryz.func18, Tryz.ntmps18
      go_wp2_with (at_builtin; refine wpList_append_sl _ rfl _ _ 22 rfl 3 .i64 8 Tryz.underlying22 info_i64 w.heap.size _ [] rfl (Mine.nil _ _ _ _) (Nat.le_refl _) _ _ rfl HSL.out H1.out H2.out ?_)
      intro v' w5 hm5 hg5
      have HM5 := Kept.mk hm5
      have HB5 := Kept.mk ((Below.refl _ _).grown hg5 (Nat.le_refl _) (fun k hk => by simp [Value.ownBlock] at hk))
      clear hm5 hg5
      go_wp2
      go_ret
      exact ⟨HB5.out, _, rfl, by simpa using HM5.out⟩
    · obtain rfl : k = n := by omega
      have hlt' : ¬ (most : Int) < (k : Int) := by omega
      go_enter Tryz.func18, Tryz.ntmps18
      go_wp2_with (at_builtin; refine wpList_append_sl _ rfl _ _ 22 rfl 3 .i64 8 Tryz.underlying22 info_i64 w.heap.size _ [] rfl (Mine.nil _ _ _ _) (Nat.le_refl _) _ _ rfl HSL.out H1.out H2.out ?_)
      intro v' w5 hm5 hg5
      have HM5 := Kept.mk hm5
      have HB5 := Kept.mk ((Below.refl _ _).grown hg5 (Nat.le_refl _) (fun k hk => by simp [Value.ownBlock] at hk))
      clear hm5 hg5
      go_wp2
      go_ret
      exact ⟨HB5.out, _, rfl, by simpa using HM5.out⟩
theorem els_bel (D : FFld.FD) (xs : List Int) : elsB D xs = belB (D.q : Int) xs := rfl
set_option maxRecDepth 20000 in
set_option maxHeartbeats 4000000 in
theorem rtwice_any (v : Value) (xs : List Int) (w : World) (h : Sl .i64 w v xs) :
    Calls Tryz.prog 83 #[v] w (RB w (.bool (!difB xs xs.length))) := by
  obtain ⟨ao, cap, rfl, hcap, hmax, hc⟩ := h
  obtain ⟨n, hN⟩ : ∃ n, xs.length = n := ⟨_, rfl⟩
  have HC := Kept.mk hc
  rw [hN] at hcap HC ⊢
  clear hN
  unfold maxLen at hmax
  clear hc
  go_enter Tryz.func83, Tryz.ntmps83
  go_wp2
  go_loopw [3] (fun iv wr => ∃ (i : Nat), i ≤ n ∧ iv = .int .i64 i ∧ Kept (difB xs i = true) ∧ Kept (Below w.heap.size w wr)) (fun iv _ => n - (intOf iv).toNat)
  case atStart => exact ⟨0, Nat.zero_le _, rfl, ⟨rfl⟩, ⟨Below.refl _ _⟩⟩
  case round =>
    obtain ⟨i, hin, rfl, hat, hbw⟩ := hrel
    by_cases hlt : i < n
    · obtain ⟨g, o, rfl, hg, hcell⟩ := HC.out i hlt
      obtain ⟨a, ha⟩ : ∃ a, xs[i]?.getD 0 = a := ⟨_, rfl⟩
      rw [ha] at hcell
      have HA := Kept.mk ha
      have hic : i ≤ cap := by omega
      clear ha
      go_wp2
      go_loopw [4] (fun jv wr => ∃ (j : Nat), j ≤ i ∧ jv = .int .i64 j ∧ Kept (difAt xs i j = true) ∧ Kept (Below w.heap.size w wr)) (fun jv _ => i - (intOf jv).toNat)
      case atStart => exact ⟨0, Nat.zero_le _, rfl, ⟨rfl⟩, hbw⟩
      case round =>
        obtain ⟨j, hji, rfl, hdj, hbv⟩ := hrel
        by_cases hj : j < i
        · have hjn : j < n := by omega
          obtain ⟨g', o', e', hg', hcell'⟩ := HC.out j (by omega)
          obtain ⟨rfl, rfl⟩ : g = g' ∧ o = o' := by simpa using e'
          clear e'
          obtain ⟨c, hcc⟩ : ∃ c, xs[j]?.getD 0 = c := ⟨_, rfl⟩
          rw [hcc] at hcell'
          have p0 := belowCell hbv.out hcell
          have p1 := belowCell hbv.out hcell'
          by_cases hac : a = c
          · have HE : Kept (difB xs n = false) := ⟨difB_no hj hlt (by rw [HA.out, hcc]; exact hac)⟩
            have e0 : (a == c) = true := beq_iff_eq.2 hac
            clear hcc
            go_wp2
            go_region_held3 (fun w' => w'.cell? ⟨g, o + i, none⟩ = some (.int .i64 a) ∧ w'.cell? ⟨g, o + j, none⟩ = some (.int .i64 c)) (first | exact ⟨p0, p1⟩ | go_keep) (fail)
            go_wp2
            go_ret
            exact ⟨(hbv.out).drew, by rw [HE.out]; rfl⟩
          · have HT : Kept (difAt xs i (j + 1) = true) := ⟨by rw [difAt_succ, hdj.out, HA.out, hcc]; simpa using hac⟩
            have e0 : (a == c) = false := beq_eq_false_iff_ne.2 hac
            have HB := Kept.mk hbv.out.drew
            clear hcc
            go_wp2
            go_region_held3 (fun w' => w'.cell? ⟨g, o + i, none⟩ = some (.int .i64 a) ∧ w'.cell? ⟨g, o + j, none⟩ = some (.int .i64 c)) (first | exact ⟨p0, p1⟩ | go_keep) (fail)
            go_wp2
            go_roundw
            case rel => exact ⟨j + 1, by omega, by go_num, HT, HB⟩
            case measure => simp [intOf] <;> omega
        · obtain rfl : j = i := by omega
          have HT : Kept (difB xs (j + 1) = true) := ⟨by rw [difB_succ, hat.out, hdj.out]; rfl⟩
          go_wp2
          go_roundw
          case rel => exact ⟨j + 1, by omega, by go_num, HT, hbv⟩
          case measure => simp [intOf] <;> omega
    · obtain rfl : i = n := by omega
      go_wp2
      go_ret
      exact ⟨hbw.out, by rw [hat.out]; rfl⟩
end Go.Proofs.YtdnheaafcbihbaaGreat

set_option linter.unusedVariables false
set_option linter.unusedSimpArgs false
namespace Go.Proofs.YtdnheaafcbihbaaGreat
open Go Go.RowKit Go.Deep
open FFld (ints)
abbrev rcdbox (o : Int) (ao : Option Addr) (n cap : Nat) (k : Int) : Obj := .cells #[.int .i64 o, .slice ao n cap, .int .i64 k] 24
set_option maxRecDepth 20000 in
set_option maxHeartbeats 4000000 in
theorem give_any (o k : Int) (ao : Option Addr) (n cap : Nat) (w : World) :
    Calls Tryz.prog 20 #[cdv o ao n cap k] w (RB w (cdv o ao n cap k)) := by
  have HX0 : Kept (Bxs w [rcdbox o ao n cap k, cdbox 0 none 0 0 0] ((w.alloc (rcdbox o ao n cap k)).alloc (cdbox 0 none 0 0 0))) := ⟨((Bxs.start w).alloc (by simp) _).alloc (by simp) _⟩
  have HX1 : Kept (Bxs w [rcdbox o ao n cap k, cdbox o ao n cap k] ((w.alloc (rcdbox o ao n cap k)).alloc (cdbox o ao n cap k))) := ⟨((Bxs.start w).alloc (by simp) _).alloc (by simp) _⟩
  obtain ⟨c0, c1, c2, _⟩ := three_cells HX0.out.b0
  obtain ⟨d0, d1, d2, f0, f1, f2⟩ := three_cells HX0.out.b1
  go_enter Tryz.func20, Tryz.ntmps20
  go_wp2
  obtain ⟨s0, s1, s2, _⟩ := three_cells HX1.out.b1
  exact bodyPost_ret (v := cdv o ao n cap k) (by simp [results, Tryz.results20, go_sem, s0, s1, s2]) rfl ⟨HX1.out.1, rfl⟩
set_option maxRecDepth 20000 in
set_option maxHeartbeats 4000000 in
theorem rccheck_any (o k : Int) (ao : Option Addr) (cap : Nat) (xs : List Int) (w : World) (h : Sl .i64 w (.slice ao xs.length cap) xs) (o0 : -9223372036854775808 ≤ o) (o1 : o ≤ 9223372036854775807) (k0 : -9223372036854775808 ≤ k) (k1 : k ≤ 9223372036854775807) :
    Calls Tryz.prog 19 #[cdv o ao xs.length cap k] w (RB w (.int .i64 (chkE o xs k : Nat))) := by
  have HX0 : Kept (Bxs w [rcdbox o ao xs.length cap k] (w.alloc (rcdbox o ao xs.length cap k))) := ⟨(Bxs.start w).alloc (by simp) _⟩
  have HO := Kept.mk (fun W => rnew_any o W o0 o1)
  have HS := Kept.mk h
  have hm : xs.length ≤ 9223372036854775807 := by
    obtain ⟨_, _, e, h1, h2, _⟩ := h
    unfold maxLen at h2
    omega
  have hnot : ∀ (x : Bool) (w : World), (Op.unary .not (.bool x)).run Tryz.prog w = .ok (.bool (!x)) w := fun _ _ => rfl
  have HC0 : Kept (¬ FFld.Fit o → chkE o xs k = 20) := ⟨fun hn => by unfold chkE; rw [if_neg hn]⟩
  have HC1 : Kept (FFld.Fit o → 64 < xs.length → chkE o xs k = 2) := ⟨fun hn h1 => by unfold chkE; rw [if_pos hn, if_pos h1]⟩
  have HC2 : Kept (FFld.Fit o → ¬ 64 < xs.length → (k < 1 ∨ (xs.length : Int) < k ∨ belB o xs = false ∨ difB xs xs.length = false) → chkE o xs k = 1) := ⟨fun hn h1 h2 => by unfold chkE; rw [if_pos hn, if_neg h1, if_pos h2]⟩
  have HC3 : Kept (FFld.Fit o → ¬ 64 < xs.length → ¬ (k < 1 ∨ (xs.length : Int) < k ∨ belB o xs = false ∨ difB xs xs.length = false) → chkE o xs k = 0) := ⟨fun hn h1 h2 => by unfold chkE; rw [if_pos hn, if_neg h1, if_neg h2]⟩
  obtain ⟨r, hr⟩ : ∃ r, chkE o xs k = r := ⟨_, rfl⟩
  rw [hr] at HC0 HC1 HC2 HC3 ⊢
  obtain ⟨n, hn⟩ : ∃ n, xs.length = n := ⟨_, rfl⟩
  have HN := Kept.mk hn
  rw [hn] at HX0 HS HC1 HC2 HC3 hm ⊢
  clear h hr hn
  go_enter Tryz.func19, Tryz.ntmps19
  obtain ⟨c0, c1, c2, _⟩ := three_cells HX0.out.b0
  go_wp2_with fail
  refine (HO.out _).mono ?_
  rintro e w1 ⟨hb1, ⟨D, hD, hq, rfl⟩ | ⟨hf, rfl⟩⟩
  · have hf : FFld.Fit o := ⟨D, hD, hq⟩
    have HX1 := Kept.mk ((HX0.out.below hb1).below ((Below.refl w1.heap.size w1).alloc (Nat.le_refl _) (rbox D.q D.p D.k D.m)))
    replace HC1 := Kept.mk (HC1.out hf)
    replace HC2 := Kept.mk (HC2.out hf)
    replace HC3 := Kept.mk (HC3.out hf)
    have HS1 := Kept.mk (HS.out.below HX1.out.1)
    have HQ := Kept.mk hq
    clear hb1 hf c0 c1 c2 HC0 HO hq
    obtain ⟨c0, c1, c2, _⟩ := three_cells HX1.out.b0
    obtain ⟨i0, i1, i2, i3⟩ := four_cells (heap_alloc_new w1 (rbox D.q D.p D.k D.m))
    by_cases h64 : 64 < n
    · have d1 : decide ((64 : Int) < n) = true := decide_eq_true (by omega)
      obtain rfl := HC1.out h64
      go_wp2
      go_ret
      exact ⟨HX1.out.1, rfl⟩
    · have d1 : decide ((64 : Int) < n) = false := decide_eq_false (by omega)
      by_cases hk1 : k < 1
      · have d2 : decide (k < 1) = true := decide_eq_true hk1
        obtain rfl := HC2.out h64 (.inl hk1)
        go_wp2
        go_ret
        exact ⟨HX1.out.1, rfl⟩
      · have d2 : decide (k < 1) = false := decide_eq_false hk1
        by_cases hk2 : (n : Int) < k
        · have d3 : decide ((n : Int) < k) = true := decide_eq_true hk2
          obtain rfl := HC2.out h64 (.inr (.inl hk2))
          go_wp2
          go_ret
          exact ⟨HX1.out.1, rfl⟩
        · have d3 : decide ((n : Int) < k) = false := decide_eq_false hk2
          have HA := Kept.mk (relements_any D (.slice ao n cap) xs (w1.alloc (rbox D.q D.p D.k D.m)) HS1.out)
          have HD := Kept.mk (fun W hW => rtwice_any (.slice ao n cap) xs W (HS1.out.below hW))
          rw [els_bel, ← HQ.out] at HA
          rw [HN.out] at HD
          obtain ⟨t, ht⟩ : ∃ t, belB o xs = t := ⟨_, rfl⟩
          obtain ⟨u, hu⟩ : ∃ u, difB xs n = u := ⟨_, rfl⟩
          rw [ht] at HA HC2 HC3
          rw [hu] at HD HC2 HC3
          clear ht hu
          go_wp2_with fail
          (with_reducible refine HA.out.mono ?_)
          rintro e w2 ⟨hb2, rfl⟩
          have HX2 := Kept.mk (HX1.out.below hb2)
          have HD2 := Kept.mk (HD.out w2 hb2)
          clear hb2 c0 c1 c2 HD HA i0 i1 i2 i3
          obtain ⟨c0, c1, c2, _⟩ := three_cells HX2.out.b0
          cases t with
          | false =>
            obtain rfl := HC2.out h64 (.inr (.inr (.inl rfl)))
            go_wp2
            go_ret
            exact ⟨HX2.out.1, rfl⟩
          | true =>
            go_wp2_with fail
            (with_reducible refine HD2.out.mono ?_)
            rintro e w3 ⟨hb3, rfl⟩
            have HX3 := Kept.mk (HX2.out.below hb3)
            clear hb3
            cases u with
            | false =>
              obtain rfl := HC2.out h64 (.inr (.inr (.inr rfl)))
              go_wp2
              go_ret
              exact ⟨HX3.out.1, rfl⟩
            | true =>
              obtain rfl := HC3.out h64 (by rintro (h | h | h | h) <;> first | omega | cases h)
              go_wp2
              go_ret
              exact ⟨HX3.out.1, rfl⟩
  · have HX1 := Kept.mk ((HX0.out.below hb1).below ((Below.refl w1.heap.size w1).alloc (Nat.le_refl _) rzbox))
    obtain rfl := HC0.out hf
    clear hb1 hf c0 c1 c2
    obtain ⟨c0, c1, c2, _⟩ := three_cells HX1.out.b0
    go_wp2
    go_ret
    exact ⟨HX1.out.1, rfl⟩
end Go.Proofs.YtdnheaafcbihbaaGreat

set_option linter.unusedVariables false
set_option linter.unusedSimpArgs false
namespace Go.Proofs.YtdnheaafcbihbaaGreat
open Go Go.RowKit Go.Deep
open FFld (ints)
theorem bxs_bel {w W : World} {os : List Obj} (h : Bxs w os W) : Below w.heap.size w W := h.1
theorem chkE_le (o : Int) (xs : List Int) (k : Int) : chkE o xs k ≤ 20 := by
  unfold chkE
  repeat' split
  all_goals omega
set_option maxRecDepth 20000 in
set_option maxHeartbeats 8000000 in
theorem codeChecks_any (o : Int) (ao : Option Addr) (n cap : Nat) (k : Int) (xs : List Int) (w : World) (hl : xs.length = n) (hs : Sl .i64 w (.slice ao n cap) xs) (hi : I64s xs) (o0 : -9223372036854775808 ≤ o) (o1 : o ≤ 9223372036854775807) (k0 : -9223372036854775808 ≤ k) (k1 : k ≤ 9223372036854775807) :
    Calls Tryz.prog 3 #[cdv o ao n cap k] w (RB w (.bool true)) := by
  have HX0 : Kept (Bxs w [rcdbox o ao n cap k] (w.alloc (rcdbox o ao n cap k))) := ⟨(Bxs.start w).alloc (by simp) _⟩
  have HRW : Kept (∀ W, Below w.heap.size w W → Calls Tryz.prog 18 #[.slice ao n cap, .int .i64 65] W (fun e w' => Below W.heap.size W w' ∧ ∃ (va : Option Addr) (vc m : Nat), e = .returned (.slice va m vc) ∧ (xs.take 65).length = m ∧ Sl .i64 w' (.slice va m vc) (xs.take 65) ∧ ∀ j, live (.slice va m vc) = some j → W.heap.size ≤ j)) := ⟨fun W hW => (raw3_any _ xs 65 W (hs.below hW) (by omega)).mono fun e w' ⟨hb, v, he, hm⟩ => by
    obtain ⟨va, vc, rfl, _, _⟩ := hm.sl.form
    exact ⟨hb, va, vc, _, he, rfl, hm.sl, fun j hj => (hm.own j (live_own hj)).1⟩⟩
  obtain ⟨ys, hys⟩ : ∃ l, xs.take 65 = l := ⟨_, rfl⟩
  rw [hys] at HRW
  have hy65 : ys.length ≤ 65 := by rw [← hys, List.length_take]; omega
  have HLE := Kept.mk hy65
  have HO : Kept ((-9223372036854775808 ≤ o ∧ o ≤ 9223372036854775807) ∧ (-9223372036854775808 ≤ k ∧ k ≤ 9223372036854775807)) := ⟨⟨⟨o0, o1⟩, k0, k1⟩⟩
  clear hl hs hi hys o0 o1 k0 k1 hy65
  go_enter Tryz.func3, Tryz.ntmps3
  obtain ⟨c0, c1, c2, _⟩ := three_cells HX0.out.b0
  have hbx := HX0.out.1
  go_wp2_with fail
  refine wp_region_held_drew (S := (fun w' => w'.cell? ⟨w.heap.size, 0, none⟩ = some (.int .i64 o) ∧ w'.cell? ⟨w.heap.size, 1, none⟩ = some (.slice ao n cap) ∧ w'.cell? ⟨w.heap.size, 2, none⟩ = some (.int .i64 k))) (by kernel_rfl) ⟨c0, c1, c2⟩ (fun hHeld => ?_)
  refine wpAnyH_take (i := 0) (v := ?_) rfl (by kernel_rfl) (by kernel_rfl) (by kernel_rfl) (fun _ _ _ h => h) (Or.inl ⟨by rfl, ?_⟩) (by assumption) ?_
  rotate_left
  · (intro w hSw; (try dsimp only at hSw); go_simp; (try with_reducible rfl))
  try simp only [Act.put, List.getElem_toArray, List.getElem_cons_succ, List.getElem_cons_zero, List.setIfInBounds_toArray, List.set_cons_zero, List.set_cons_succ]
  refine wpAnyH_take (i := 1) (v := ?_) rfl (by kernel_rfl) (by kernel_rfl) (by kernel_rfl) (fun _ _ _ h => h) (Or.inl ⟨by rfl, ?_⟩) (by assumption) ?_
  rotate_left
  · (intro w hSw; (try dsimp only at hSw); go_simp; (try with_reducible rfl))
  try simp only [Act.put, List.getElem_toArray, List.getElem_cons_succ, List.getElem_cons_zero, List.setIfInBounds_toArray, List.set_cons_zero, List.set_cons_succ]
  refine wpAnyH_take (i := 2) (v := ?_) rfl (by kernel_rfl) (by kernel_rfl) (by kernel_rfl) (fun _ _ _ h => h) (Or.inl ⟨by rfl, ?_⟩) (by assumption) ?_
  rotate_left
  · (intro w hSw; (try dsimp only at hSw); go_simp; (try with_reducible rfl))
  try simp only [Act.put, List.getElem_toArray, List.getElem_cons_succ, List.getElem_cons_zero, List.setIfInBounds_toArray, List.set_cons_zero, List.set_cons_succ]
  refine wpAnyH_take (i := 3) (v := ?_) rfl (by kernel_rfl) (by kernel_rfl) (by kernel_rfl) (fun _ _ _ h => h) (Or.inl ⟨by rfl, ?_⟩) (by assumption) ?_
  rotate_left
  · (intro w hSw; (try dsimp only at hSw); go_simp; (try with_reducible rfl))
  try simp only [Act.put, List.getElem_toArray, List.getElem_cons_succ, List.getElem_cons_zero, List.setIfInBounds_toArray, List.set_cons_zero, List.set_cons_succ]
  refine wpAnyH_take (i := 5) (v := ?_) rfl (by kernel_rfl) (by kernel_rfl) (by kernel_rfl) (fun _ _ _ h => h) (Or.inl ⟨by rfl, ?_⟩) (by assumption) ?_
  rotate_left
  · (intro w hSw; (try dsimp only at hSw); go_simp; (try with_reducible rfl))
  try simp only [Act.put, List.getElem_toArray, List.getElem_cons_succ, List.getElem_cons_zero, List.setIfInBounds_toArray, List.set_cons_zero, List.set_cons_succ]
  refine wpAnyH_take (i := 6) (v := ?_) rfl (by kernel_rfl) (by kernel_rfl) (by kernel_rfl) (fun _ _ _ h => h) (Or.inl ⟨by rfl, ?_⟩) (by assumption) ?_
  rotate_left
  · (intro w hSw; (try dsimp only at hSw); go_simp; (try with_reducible rfl))
  try simp only [Act.put, List.getElem_toArray, List.getElem_cons_succ, List.getElem_cons_zero, List.setIfInBounds_toArray, List.set_cons_zero, List.set_cons_succ]
  refine wpAnyH_ready (rs := [4, 8]) (by kernel_rfl) (by simp) ?_
  refine AllReadyH.cons rfl (fun K hK => ?_) (AllReadyH.cons rfl (fun K hK => ?_) AllReadyH.nil)
  · go_simp
    (with_reducible refine (HRW.out _ hbx.drew).mono ?_)
    rintro e v1 ⟨hb1, va, vc, m, rfl, hlm, hsl, hfr⟩
    have d0 := belowCell hb1 (show (w.alloc (rcdbox o ao n cap k)).drew.cell? _ = _ from c0)
    have d1 := belowCell hb1 (show (w.alloc (rcdbox o ao n cap k)).drew.cell? _ = _ from c1)
    have d2 := belowCell hb1 (show (w.alloc (rcdbox o ao n cap k)).drew.cell? _ = _ from c2)
    refine hK.out _ _ ⟨d0, d1, d2⟩ (fun hHeld => ?_)
    clear hK K
    try simp only [Act.put, List.getElem_toArray, List.getElem_cons_succ, List.getElem_cons_zero, List.setIfInBounds_toArray, List.set_cons_zero, List.set_cons_succ]
    refine wpAnyH_take (i := 7) (v := ?_) rfl (by kernel_rfl) (by kernel_rfl) (by kernel_rfl) (fun _ _ _ h => h) (Or.inl ⟨by rfl, ?_⟩) (by assumption) ?_
    rotate_left
    · (intro w hSw; (try dsimp only at hSw); go_simp; (try with_reducible rfl))
    try simp only [Act.put, List.getElem_toArray, List.getElem_cons_succ, List.getElem_cons_zero, List.setIfInBounds_toArray, List.set_cons_zero, List.set_cons_succ]
    refine wpAnyH_ready (rs := [8]) (by kernel_rfl) (by simp) ?_
    refine (AllReadyH.cons rfl (fun K hK => ?_) AllReadyH.nil)
    go_simp
    have hal : Below v1.heap.size v1 (v1.alloc (rcdbox 0 none 0 0 0)) := (Below.refl _ _).alloc (Nat.le_refl _) _
    have e0 := belowCell hal d0
    have e1 := belowCell hal d1
    have e2 := belowCell hal d2
    have hz := heap_alloc_new v1 (rcdbox 0 none 0 0 0)
    refine hK.out _ _ ⟨e0, e1, e2⟩ (fun hHeld => ?_)
    clear hK K
    try simp only [Act.put, List.getElem_toArray, List.getElem_cons_succ, List.getElem_cons_zero, List.setIfInBounds_toArray, List.set_cons_zero, List.set_cons_succ]
    refine wpAnyH_ready (rs := [9]) (by kernel_rfl) (by simp) ?_
    refine (AllReadyH.cons rfl (fun K hK => ?_) AllReadyH.nil)
    obtain ⟨z0, z1, z2, f0, f1, f2⟩ := three_cells hz
    go_simp
    have hal2 : Below v1.heap.size v1 (v1.alloc (rcdbox o va m vc k)) := (Below.refl _ _).alloc (Nat.le_refl _) _
    have HBW := Kept.mk ((hbx.drew.trans (hb1.mono hbx.size)).trans (hal2.mono (by have h1 := hbx.size; have h2 := hb1.size; exact Nat.le_trans h1 h2)))
    have HSL := Kept.mk (hsl.below hal2)
    have HG := Kept.mk (heap_alloc_new v1 (rcdbox o va m vc k))
    have s0 := belowCell hal2 d0
    have s1 := belowCell hal2 d1
    have s2 := belowCell hal2 d2
    obtain ⟨g, hg⟩ : ∃ x, v1.heap.size = x := ⟨_, rfl⟩
    obtain ⟨W2, hW2⟩ : ∃ W, v1.alloc (rcdbox o va m vc k) = W := ⟨_, rfl⟩
    rw [hg, hW2] at HG
    rw [hW2] at HBW HSL s0 s1 s2 ⊢
    try rw [hg]
    clear hg hW2 hal hal2 hz z0 z1 z2 f0 f1 f2 d0 d1 d2 e0 e1 e2 c0 c1 c2 hb1 hsl
    refine hK.out _ _ ⟨s0, s1, s2⟩ (fun hHeld => ?_)
    clear hK K
    try simp only [Act.put, List.getElem_toArray, List.getElem_cons_succ, List.getElem_cons_zero, List.setIfInBounds_toArray, List.set_cons_zero, List.set_cons_succ]
    refine wpAnyH_done (by kernel_rfl) ?_ _
    have HRK : Kept (∀ W, Below W2.heap.size W2 W → Calls Tryz.prog 19 #[cdv o va m vc k] W (RB W (.int .i64 (chkE o ys k : Nat)))) := ⟨fun W hW => by
      have h := rccheck_any o k va vc ys W (by rw [hlm]; exact HSL.out.below hW) HO.out.1.1 HO.out.1.2 HO.out.2.1 HO.out.2.2
      rw [hlm] at h
      exact h⟩
    have HCK : Kept (∀ W, Below W2.heap.size W2 W → Calls Tryz.prog 21 #[cdv o va m vc k] W (RB W (.int .i64 (chkE o ys k : Nat)))) := ⟨fun W hW => by
      have h := ccheck_any o k va vc ys W (by rw [hlm]; exact HSL.out.below hW) HO.out.1.1 HO.out.1.2 HO.out.2.1 HO.out.2.2
      rw [hlm] at h
      exact h⟩
    have hrl := chkE_le o ys k
    have HBD : Kept (∀ W, Below W2.heap.size W2 W → chkE o ys k ≠ 0 → BadC o k va m vc ys (chkE o ys k) W) := ⟨fun W hW hne => ⟨HSL.out.below hW, hlm, HO.out.1.1, HO.out.1.2, HO.out.2.1, HO.out.2.2, rfl, hne⟩⟩
    obtain ⟨r, hr⟩ : ∃ r, chkE o ys k = r := ⟨_, rfl⟩
    rw [hr] at HRK HCK HBD hrl
    have HGV := Kept.mk (fun W => give_any o k va m vc W)
    have HAW := Kept.mk (fun W => cawake_any W)
    have e2 : ((r : Int) == (r : Int)) = true := by simp
    have e3 : ((r : Int) != (r : Int)) = false := by simp
    clear hr hlm HSL HRW HLE HO hbx HX0 s0 s1 s2
    obtain ⟨q0, q1, q2, _⟩ := three_cells HG.out
    go_wp2_with fail
    (with_reducible refine (HRK.out _ (Below.refl _ _)).mono ?_)
    rintro e w3 ⟨hb3, rfl⟩
    have q0 := belowCell hb3 q0
    have q1 := belowCell hb3 q1
    have q2 := belowCell hb3 q2
    go_wp2_with fail
    (with_reducible refine (HGV.out _).mono ?_)
    rintro e w4 ⟨hb4, rfl⟩
    have HB4 := Kept.mk (bstep hb3 hb4)
    have hal : Below w4.heap.size w4 (w4.alloc (cdbox o va m vc k)) := (Below.refl _ _).alloc (Nat.le_refl _) _
    have HG5 := Kept.mk (heap_alloc_new w4 (cdbox o va m vc k))
    have HB5 := Kept.mk (bstep HB4.out hal)
    obtain ⟨p0, p1, p2, _⟩ := three_cells HG5.out
    clear hb3 hb4 hal q0 q1 q2 HG HB4
    go_wp2_with fail
    (with_reducible refine (HCK.out _ HB5.out).mono ?_)
    rintro e w6 ⟨hb6, rfl⟩
    have HB6 := Kept.mk (bstep HB5.out hb6)
    have p0 := belowCell hb6 p0
    have p1 := belowCell hb6 p1
    have p2 := belowCell hb6 p2
    clear hb6 HB5 HG5 HRK HCK
    by_cases hr0 : r = 0
    · subst hr0
      have HBE := Kept.mk (HBW.out.trans (HB6.out.mono HBW.out.size))
      clear HBD
      go_wp2_with fail
      (with_reducible refine (HAW.out _).mono ?_)
      rintro e w7 ⟨hb7, rfl⟩
      have HB7 := Kept.mk (bstep HBE.out hb7)
      clear hb7
      go_wp2
      go_ret
      exact ⟨HB7.out, rfl⟩
    · have e0 : ((r : Int) == 0) = false := by rw [beq_eq_false_iff_ne]; omega
      have HBA : Kept (∀ W, Below W2.heap.size W2 W → BadC o k va m vc ys r W) := ⟨fun W hW => HBD.out W hW hr0⟩
      clear HBD
      go_wp2_with fail
      (with_reducible refine (cencode_bad _ (HBA.out _ HB6.out)).mono ?_)
      rintro e w7 ⟨hb7, rfl⟩
      have HB7 := Kept.mk (bstep HB6.out hb7)
      have p0 := belowCell hb7 p0
      have p1 := belowCell hb7 p1
      have p2 := belowCell hb7 p2
      clear hb7
      go_wp2_with fail
      (with_reducible refine (cmessage_bad _ (HBA.out _ HB7.out)).mono ?_)
      rintro e w8 ⟨hb8, rfl⟩
      have HB8 := Kept.mk (bstep HB7.out hb8)
      have p0 := belowCell hb8 p0
      have p1 := belowCell hb8 p1
      have p2 := belowCell hb8 p2
      clear hb8
      go_wp2_with fail
      (with_reducible refine (cdecode_bad _ (HBA.out _ HB8.out)).mono ?_)
      rintro e w9 ⟨hb9, rfl⟩
      have HB9 := Kept.mk (bstep HB8.out hb9)
      have p0 := belowCell hb9 p0
      have p1 := belowCell hb9 p1
      have p2 := belowCell hb9 p2
      clear hb9
      go_wp2_with fail
      (with_reducible refine (cdeny_bad _ (HBA.out _ HB9.out)).mono ?_)
      rintro e w10 ⟨hb10, rfl⟩
      have HB10 := Kept.mk (bstep HB9.out hb10)
      have p0 := belowCell hb10 p0
      have p1 := belowCell hb10 p1
      have p2 := belowCell hb10 p2
      clear hb10
      have hal : Below w10.heap.size w10 (w10.alloc (fabox nilv nilv)) := (Below.refl _ _).alloc (Nat.le_refl _) _
      have HGF := Kept.mk (heap_alloc_new w10 (fabox nilv nilv))
      have HBF := Kept.mk (bstep HB10.out hal)
      have p0 := belowCell hal p0
      have p1 := belowCell hal p1
      have p2 := belowCell hal p2
      obtain ⟨f0, f1, _, _⟩ := two_cells HGF.out
      clear hal HGF
      go_wp2_with fail
      (with_reducible refine (cwithin_bad _ (HBA.out _ HBF.out)).mono ?_)
      rintro e w11 ⟨hb11, rfl⟩
      have HB11 := Kept.mk (bstep HBF.out hb11)
      have p0 := belowCell hb11 p0
      have p1 := belowCell hb11 p1
      have p2 := belowCell hb11 p2
      have f0 := belowCell hb11 f0
      have f1 := belowCell hb11 f1
      clear hb11
      go_wp2_with fail
      (with_reducible refine (cisWord_bad _ (HBA.out _ HB11.out)).mono ?_)
      rintro e w12 ⟨hb12, rfl⟩
      have HB12 := Kept.mk (bstep HB11.out hb12)
      have p0 := belowCell hb12 p0
      have p1 := belowCell hb12 p1
      have p2 := belowCell hb12 p2
      have f0 := belowCell hb12 f0
      have f1 := belowCell hb12 f1
      clear hb12
      have hal : Below w12.heap.size w12 (w12.alloc (.cells #[.int .i64 1] 3)) := (Below.refl _ _).alloc (Nat.le_refl _) _
      have HBF := Kept.mk (bstep HB12.out hal)
      clear hal
      go_wp2_with fail
      (with_reducible refine (cdenies_bad _ (HBA.out _ HBF.out) _ ⟨_, _, _, rfl⟩).mono ?_)
      rintro e w13 ⟨hb13, rfl⟩
      have HBE := Kept.mk (HBW.out.trans ((bstep HBF.out hb13).mono HBW.out.size))
      clear hb13
      go_wp2_with fail
      (with_reducible refine (HAW.out _).mono ?_)
      rintro e w14 ⟨hb14, rfl⟩
      have HBZ := Kept.mk (bstep HBE.out hb14)
      clear hb14
      go_wp2
      go_ret
      exact ⟨HBZ.out, rfl⟩
  · go_simp
    have HXB := Kept.mk ((HX0.out.alloc (by simp) (rcdbox 0 none 0 0 0)).below (Below.refl _ _).drew)
    have hxs := HXB.out.2.1
    simp at hxs
    obtain ⟨c0, c1, c2, _⟩ := three_cells HXB.out.b0
    refine hK.out _ _ ⟨c0, c1, c2⟩ (fun hHeld => ?_)
    clear hK K
    try simp only [Act.put, List.getElem_toArray, List.getElem_cons_succ, List.getElem_cons_zero, List.setIfInBounds_toArray, List.set_cons_zero, List.set_cons_succ]
    refine wpAnyH_ready (rs := [4]) (by kernel_rfl) (by simp) ?_
    refine (AllReadyH.cons rfl (fun K hK => ?_) AllReadyH.nil)
    go_simp
    (with_reducible refine (HRW.out _ (bxs_bel HXB.out)).mono ?_)
    rintro e v1 ⟨hb1, va, vc, m, rfl, hlm, hsl, hfr⟩
    have d0 := belowCell hb1 c0
    have d1 := belowCell hb1 c1
    have d2 := belowCell hb1 c2
    have hz := (HXB.out.below hb1).b1
    refine hK.out _ _ ⟨d0, d1, d2⟩ (fun hHeld => ?_)
    clear hK K
    try simp only [Act.put, List.getElem_toArray, List.getElem_cons_succ, List.getElem_cons_zero, List.setIfInBounds_toArray, List.set_cons_zero, List.set_cons_succ]
    refine wpAnyH_take (i := 7) (v := ?_) rfl (by kernel_rfl) (by kernel_rfl) (by kernel_rfl) (fun _ _ _ h => h) (Or.inl ⟨by rfl, ?_⟩) (by assumption) ?_
    rotate_left
    · (intro w hSw; (try dsimp only at hSw); go_simp; (try with_reducible rfl))
    try simp only [Act.put, List.getElem_toArray, List.getElem_cons_succ, List.getElem_cons_zero, List.setIfInBounds_toArray, List.set_cons_zero, List.set_cons_succ]
    refine wpAnyH_ready (rs := [9]) (by kernel_rfl) (by simp) ?_
    refine (AllReadyH.cons rfl (fun K hK => ?_) AllReadyH.nil)
    obtain ⟨z0, z1, z2, f0, f1, f2⟩ := three_cells hz
    go_simp
    have hgr : v1.grownBy (((v1.setCell ⟨w.heap.size + 1, 0, none⟩ (.int .i64 o)).setCell ⟨w.heap.size + 1, 1, none⟩ (.slice va m vc)).setCell ⟨w.heap.size + 1, 2, none⟩ (.int .i64 k)) (some (w.heap.size + 1)) := growSet (growSet (growSet (growRefl _ _) _ _) _ _) _ _
    have HBW := Kept.mk (belowGrow hgr (bxs_bel (HXB.out.below hb1)) (by omega))
    have HSL := Kept.mk (hsl.kept hgr (fun j hj e => by have := hfr j hj; simp at this; cases e; omega))
    have HG := Kept.mk (three_set hz (.int .i64 o) (.slice va m vc) (.int .i64 k))
    have s0 := (World.cell?_of_block (a := ⟨w.heap.size, 0, none⟩) (hgr.block w.heap.size (by have := (HXB.out.below hb1).2.1; simp at this; omega) (by simp))).trans d0
    have s1 := (World.cell?_of_block (a := ⟨w.heap.size, 1, none⟩) (hgr.block w.heap.size (by have := (HXB.out.below hb1).2.1; simp at this; omega) (by simp))).trans d1
    have s2 := (World.cell?_of_block (a := ⟨w.heap.size, 2, none⟩) (hgr.block w.heap.size (by have := (HXB.out.below hb1).2.1; simp at this; omega) (by simp))).trans d2
    obtain ⟨W2, hW2⟩ : ∃ W, ((v1.setCell ⟨w.heap.size + 1, 0, none⟩ (.int .i64 o)).setCell ⟨w.heap.size + 1, 1, none⟩ (.slice va m vc)).setCell ⟨w.heap.size + 1, 2, none⟩ (.int .i64 k) = W := ⟨_, rfl⟩
    obtain ⟨g, hg⟩ : ∃ x, w.heap.size + 1 = x := ⟨_, rfl⟩
    rw [hW2] at HG HBW HSL s0 s1 s2 ⊢
    rw [hg] at HG
    try rw [hg]
    clear hW2 hg hgr hz z0 z1 z2 f0 f1 f2 d0 d1 d2 c0 c1 c2 hb1 hsl hfr HXB
    refine hK.out _ _ ⟨s0, s1, s2⟩ (fun hHeld => ?_)
    clear hK K
    try simp only [Act.put, List.getElem_toArray, List.getElem_cons_succ, List.getElem_cons_zero, List.setIfInBounds_toArray, List.set_cons_zero, List.set_cons_succ]
    refine wpAnyH_done (by kernel_rfl) ?_ _
    have HRK : Kept (∀ W, Below W2.heap.size W2 W → Calls Tryz.prog 19 #[cdv o va m vc k] W (RB W (.int .i64 (chkE o ys k : Nat)))) := ⟨fun W hW => by
      have h := rccheck_any o k va vc ys W (by rw [hlm]; exact HSL.out.below hW) HO.out.1.1 HO.out.1.2 HO.out.2.1 HO.out.2.2
      rw [hlm] at h
      exact h⟩
    have HCK : Kept (∀ W, Below W2.heap.size W2 W → Calls Tryz.prog 21 #[cdv o va m vc k] W (RB W (.int .i64 (chkE o ys k : Nat)))) := ⟨fun W hW => by
      have h := ccheck_any o k va vc ys W (by rw [hlm]; exact HSL.out.below hW) HO.out.1.1 HO.out.1.2 HO.out.2.1 HO.out.2.2
      rw [hlm] at h
      exact h⟩
    have hrl := chkE_le o ys k
    have HBD : Kept (∀ W, Below W2.heap.size W2 W → chkE o ys k ≠ 0 → BadC o k va m vc ys (chkE o ys k) W) := ⟨fun W hW hne => ⟨HSL.out.below hW, hlm, HO.out.1.1, HO.out.1.2, HO.out.2.1, HO.out.2.2, rfl, hne⟩⟩
    obtain ⟨r, hr⟩ : ∃ r, chkE o ys k = r := ⟨_, rfl⟩
    rw [hr] at HRK HCK HBD hrl
    have HGV := Kept.mk (fun W => give_any o k va m vc W)
    have HAW := Kept.mk (fun W => cawake_any W)
    have e2 : ((r : Int) == (r : Int)) = true := by simp
    have e3 : ((r : Int) != (r : Int)) = false := by simp
    clear hr hlm HSL HRW HLE HO hbx HX0 s0 s1 s2
    obtain ⟨q0, q1, q2, _⟩ := three_cells HG.out
    go_wp2_with fail
    (with_reducible refine (HRK.out _ (Below.refl _ _)).mono ?_)
    rintro e w3 ⟨hb3, rfl⟩
    have q0 := belowCell hb3 q0
    have q1 := belowCell hb3 q1
    have q2 := belowCell hb3 q2
    go_wp2_with fail
    (with_reducible refine (HGV.out _).mono ?_)
    rintro e w4 ⟨hb4, rfl⟩
    have HB4 := Kept.mk (bstep hb3 hb4)
    have hal : Below w4.heap.size w4 (w4.alloc (cdbox o va m vc k)) := (Below.refl _ _).alloc (Nat.le_refl _) _
    have HG5 := Kept.mk (heap_alloc_new w4 (cdbox o va m vc k))
    have HB5 := Kept.mk (bstep HB4.out hal)
    obtain ⟨p0, p1, p2, _⟩ := three_cells HG5.out
    clear hb3 hb4 hal q0 q1 q2 HG HB4
    go_wp2_with fail
    (with_reducible refine (HCK.out _ HB5.out).mono ?_)
    rintro e w6 ⟨hb6, rfl⟩
    have HB6 := Kept.mk (bstep HB5.out hb6)
    have p0 := belowCell hb6 p0
    have p1 := belowCell hb6 p1
    have p2 := belowCell hb6 p2
    clear hb6 HB5 HG5 HRK HCK
    by_cases hr0 : r = 0
    · subst hr0
      have HBE := Kept.mk (HBW.out.trans (HB6.out.mono HBW.out.size))
      clear HBD
      go_wp2_with fail
      (with_reducible refine (HAW.out _).mono ?_)
      rintro e w7 ⟨hb7, rfl⟩
      have HB7 := Kept.mk (bstep HBE.out hb7)
      clear hb7
      go_wp2
      go_ret
      exact ⟨HB7.out, rfl⟩
    · have e0 : ((r : Int) == 0) = false := by rw [beq_eq_false_iff_ne]; omega
      have HBA : Kept (∀ W, Below W2.heap.size W2 W → BadC o k va m vc ys r W) := ⟨fun W hW => HBD.out W hW hr0⟩
      clear HBD
      go_wp2_with fail
      (with_reducible refine (cencode_bad _ (HBA.out _ HB6.out)).mono ?_)
      rintro e w7 ⟨hb7, rfl⟩
      have HB7 := Kept.mk (bstep HB6.out hb7)
      have p0 := belowCell hb7 p0
      have p1 := belowCell hb7 p1
      have p2 := belowCell hb7 p2
      clear hb7
      go_wp2_with fail
      (with_reducible refine (cmessage_bad _ (HBA.out _ HB7.out)).mono ?_)
      rintro e w8 ⟨hb8, rfl⟩
      have HB8 := Kept.mk (bstep HB7.out hb8)
      have p0 := belowCell hb8 p0
      have p1 := belowCell hb8 p1
      have p2 := belowCell hb8 p2
      clear hb8
      go_wp2_with fail
      (with_reducible refine (cdecode_bad _ (HBA.out _ HB8.out)).mono ?_)
      rintro e w9 ⟨hb9, rfl⟩
      have HB9 := Kept.mk (bstep HB8.out hb9)
      have p0 := belowCell hb9 p0
      have p1 := belowCell hb9 p1
      have p2 := belowCell hb9 p2
      clear hb9
      go_wp2_with fail
      (with_reducible refine (cdeny_bad _ (HBA.out _ HB9.out)).mono ?_)
      rintro e w10 ⟨hb10, rfl⟩
      have HB10 := Kept.mk (bstep HB9.out hb10)
      have p0 := belowCell hb10 p0
      have p1 := belowCell hb10 p1
      have p2 := belowCell hb10 p2
      clear hb10
      have hal : Below w10.heap.size w10 (w10.alloc (fabox nilv nilv)) := (Below.refl _ _).alloc (Nat.le_refl _) _
      have HGF := Kept.mk (heap_alloc_new w10 (fabox nilv nilv))
      have HBF := Kept.mk (bstep HB10.out hal)
      have p0 := belowCell hal p0
      have p1 := belowCell hal p1
      have p2 := belowCell hal p2
      obtain ⟨f0, f1, _, _⟩ := two_cells HGF.out
      clear hal HGF
      go_wp2_with fail
      (with_reducible refine (cwithin_bad _ (HBA.out _ HBF.out)).mono ?_)
      rintro e w11 ⟨hb11, rfl⟩
      have HB11 := Kept.mk (bstep HBF.out hb11)
      have p0 := belowCell hb11 p0
      have p1 := belowCell hb11 p1
      have p2 := belowCell hb11 p2
      have f0 := belowCell hb11 f0
      have f1 := belowCell hb11 f1
      clear hb11
      go_wp2_with fail
      (with_reducible refine (cisWord_bad _ (HBA.out _ HB11.out)).mono ?_)
      rintro e w12 ⟨hb12, rfl⟩
      have HB12 := Kept.mk (bstep HB11.out hb12)
      have p0 := belowCell hb12 p0
      have p1 := belowCell hb12 p1
      have p2 := belowCell hb12 p2
      have f0 := belowCell hb12 f0
      have f1 := belowCell hb12 f1
      clear hb12
      have hal : Below w12.heap.size w12 (w12.alloc (.cells #[.int .i64 1] 3)) := (Below.refl _ _).alloc (Nat.le_refl _) _
      have HBF := Kept.mk (bstep HB12.out hal)
      clear hal
      go_wp2_with fail
      (with_reducible refine (cdenies_bad _ (HBA.out _ HBF.out) _ ⟨_, _, _, rfl⟩).mono ?_)
      rintro e w13 ⟨hb13, rfl⟩
      have HBE := Kept.mk (HBW.out.trans ((bstep HBF.out hb13).mono HBW.out.size))
      clear hb13
      go_wp2_with fail
      (with_reducible refine (HAW.out _).mono ?_)
      rintro e w14 ⟨hb14, rfl⟩
      have HBZ := Kept.mk (bstep HBE.out hb14)
      clear hb14
      go_wp2
      go_ret
      exact ⟨HBZ.out, rfl⟩
end Go.Proofs.YtdnheaafcbihbaaGreat
