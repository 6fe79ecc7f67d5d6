import Derived.Test.YtalahdkhglagpaaGreatDv
import Derived.Test.YtalahdkhglagpaaGreatDp
import Derived.Test.YtalahdkhglagpaaGreatDq
import Derived.Test.YtalahdkhglagpaaGreatOpl
set_option linter.unusedVariables false
set_option linter.unusedSimpArgs false
namespace Go.Proofs.YtalahdkhglagpaaGreat
open Go Go.RowKit Go.Deep
open Dnt
open Dsg (srt srt_perm srt_le)
/-- There is a list of the places. -/
theorem Dnt.Pl.ex {a b : Int} (ha0 : a ≠ 0) (hb0 : b ≠ 0) : ∃ l, Pl a b l := by
  obtain ⟨la, hla⟩ := Pf.ex a.natAbs 2 a.natAbs (by omega) (by omega) (by omega)
  obtain ⟨lb, hlb⟩ := Pf.ex b.natAbs 2 b.natAbs (by omega) (by omega) (by omega)
  have ma := hla.mem (by omega) (by omega) (Rough.two _)
  have mb := hlb.mem (by omega) (by omega) (Rough.two _)
  obtain ⟨zz, hzz⟩ : ∃ zz, ([-1, 2] : List Int) ++ la.map (fun x => (x.1 : Int)) ++ lb.map (fun x => (x.1 : Int)) = zz := ⟨_, rfl⟩
  obtain ⟨h1, h2⟩ := compact_up (srt_le zz) (srt zz).length (Nat.le_refl _)
  refine ⟨_, h1, fun x => ?_⟩
  have hm : (∃ j, ∃ hj : j < (srt zz).length, j < (srt zz).length ∧ x = (srt zz)[j]) ↔ x ∈ zz := by
    rw [← (srt_perm zz).mem_iff]
    constructor
    · rintro ⟨j, hj, _, rfl⟩
      exact List.getElem_mem hj
    · intro hx
      obtain ⟨j, hj, e⟩ := List.getElem_of_mem hx
      exact ⟨j, hj, hj, e.symm⟩
  rw [h2, hm, ← hzz]
  have ma' : ∀ m : Nat, (x = (m : Int) ∧ isPr m ∧ a.natAbs % m = 0) → x ∈ List.map (fun x : Nat × Nat => (x.1 : Int)) la := fun m ⟨e, h3⟩ => by
    obtain ⟨y, hy, hy1⟩ := List.mem_map.1 ((ma m).2 h3)
    exact List.mem_map.2 ⟨y, hy, by rw [e, hy1]⟩
  have mb' : ∀ m : Nat, (x = (m : Int) ∧ isPr m ∧ b.natAbs % m = 0) → x ∈ List.map (fun x : Nat × Nat => (x.1 : Int)) lb := fun m ⟨e, h3⟩ => by
    obtain ⟨y, hy, hy1⟩ := List.mem_map.1 ((mb m).2 h3)
    exact List.mem_map.2 ⟨y, hy, by rw [e, hy1]⟩
  simp only [List.mem_append, List.mem_cons, List.not_mem_nil, or_false]
  constructor
  · rintro (((h | h) | h) | h)
    · exact .inl h
    · exact .inr (.inl h)
    · obtain ⟨y, hy, e⟩ := List.mem_map.1 h
      have h3 := (ma y.1).1 (List.mem_map.2 ⟨y, hy, rfl⟩)
      exact .inr (.inr ⟨y.1, e.symm, h3.1, .inl h3.2⟩)
    · obtain ⟨y, hy, e⟩ := List.mem_map.1 h
      have h3 := (mb y.1).1 (List.mem_map.2 ⟨y, hy, rfl⟩)
      exact .inr (.inr ⟨y.1, e.symm, h3.1, .inr h3.2⟩)
  · rintro (h | h | ⟨m, e, hp, hd | hd⟩)
    · exact .inl (.inl (.inl h))
    · exact .inl (.inl (.inr h))
    · exact .inl (.inr (ma' m ⟨e, hp, hd⟩))
    · exact .inr (mb' m ⟨e, hp, hd⟩)
theorem Dnt.Pl.len2 {a b : Int} {l : List Int} (h : Pl a b l) (ha0 : a ≠ 0) (hb0 : b ≠ 0) (ha : -1000000 ≤ a ∧ a ≤ 1000000) (hb : -1000000 ≤ b ∧ b ≤ 1000000) : l.length ≤ 1000000 := by
  have h1 : ∀ x ∈ l, x = -1 ∨ 2 ≤ x ∧ x < 1000001 := fun x hx => by
    rcases h.ok ha0 hb0 ha hb hx with e | e | e <;> omega
  have key : ∀ (l : List Int) (c : Int), l.Pairwise (· < ·) → (∀ x ∈ l, c ≤ x ∧ x < 1000001) → (l.length : Int) ≤ max 0 (1000001 - c) := by
    intro l
    induction l with
    | nil => intro c _ _; simp; omega
    | cons y t ih =>
      intro c hpw hb
      obtain ⟨h2, h3⟩ := List.pairwise_cons.1 hpw
      have := ih (y + 1) h3 (fun x hx => ⟨by have := h2 x hx; omega, (hb x (List.mem_cons_of_mem _ hx)).2⟩)
      have := hb y List.mem_cons_self
      simp only [List.length_cons]
      omega
  have hu := h.up
  clear h
  match l, hu, h1 with
  | [], _, _ => simp
  | y :: t, hu, h1 =>
    obtain ⟨h2, h3⟩ := List.pairwise_cons.1 hu
    have := key t 2 h3 (fun x hx => by
      have h4 := h2 x hx
      have h5 := h1 y List.mem_cons_self
      have h6 := h1 x (List.mem_cons_of_mem _ hx)
      omega)
    simp only [List.length_cons]
    omega
set_option maxRecDepth 20000 in
set_option maxHeartbeats 4000000 in
theorem placesP_any (a b : Int) (w : World) : Calls Tryz.prog 14 #[.int .i64 a, .int .i64 b] w (fun e w' => Below w.heap.size w w' ∧
    ((rgF a b ≠ 0 ∧ e = .returned (.tuple #[.slice none 0 0, .int .i64 (rgF a b : Nat)])) ∨ (rgF a b = 0 ∧ ∃ l v, Pl a b l ∧ e = .returned (.tuple #[v, .int .i64 0]) ∧ Mine 3 .i64 w.heap.size w' v l))) := by
  have HCE := Kept.mk (fun w => checkEquation_any a b w)
  obtain ⟨r, hr⟩ : ∃ r, rgF a b = r := ⟨_, rfl⟩
  have hrb := rgF_le a b
  rw [hr] at HCE hrb ⊢
  by_cases hr0 : r = 0
  · subst hr0
    obtain ⟨h1, h2, h3, h4⟩ := rgF_zero hr
    obtain ⟨l, hl⟩ := Pl.ex h1 h2
    have HPL := Kept.mk (fun w => places_any a b w h1 h2 h3 h4 l hl)
    have HL := Kept.mk hl
    clear hr h1 h2 h3 h4 hl
    go_enter Tryz.func14, Tryz.ntmps14
    go_wp2_with fail
    refine (HCE.out _).mono ?_
    rintro e w1 ⟨rfl, rfl⟩
    go_wp2_with fail
    refine (HPL.out _).mono ?_
    rintro e w1 ⟨hb1, v, rfl, hm⟩
    obtain ⟨va, vc, rfl, _, _⟩ := hm.sl.form
    have HF := Kept.mk (And.intro hb1 hm)
    clear hb1 hm
    go_wp2
    exact bodyPost_ret (v := .tuple #[.slice va l.length vc, .int .i64 0]) (by simp [results, Tryz.results14, go_sem]) rfl ⟨HF.out.1, .inr ⟨trivial, l, _, HL.out, rfl, HF.out.2⟩⟩
  · have e1 : ((r : Int) != 0) = true := by rw [bne_iff_ne]; omega
    clear hr
    go_enter Tryz.func14, Tryz.ntmps14
    go_wp2_with fail
    refine (HCE.out _).mono ?_
    rintro e w1 ⟨rfl, rfl⟩
    go_wp2
    exact bodyPost_ret (v := .tuple #[.slice none 0 0, .int .i64 r]) (by simp [results, Tryz.results14, go_sem]) rfl ⟨Below.refl _ _, .inl ⟨hr0, rfl⟩⟩
theorem umod_nat2 (q : Nat) (hq : 1 ≤ q) (a : Int) : ∃ U r : Nat, IntKind.u64.wrap a = U ∧ (U : Int) % (q : Int) = r ∧ (U : Int).tmod (q : Int) = r ∧ r < q ∧ (IntKind.u64.wrap a % (q : Int)).toNat = r ∧ U ≤ 18446744073709551615 := by
  have h0 : 0 ≤ IntKind.u64.wrap a ∧ IntKind.u64.wrap a ≤ 18446744073709551615 := by rw [IntKind.wrap_u64]; omega
  obtain ⟨U, hU⟩ : ∃ U : Nat, IntKind.u64.wrap a = U := ⟨(IntKind.u64.wrap a).toNat, by omega⟩
  rw [hU] at h0 ⊢
  have h1 : (U : Int) % (q : Int) = ((U % q : Nat) : Int) := (Int.natCast_emod U q).symm
  refine ⟨U, U % q, rfl, h1, ?_, Nat.mod_lt _ hq, by rw [h1]; rfl, by omega⟩
  rw [Int.tmod_eq_emod_of_nonneg (by omega), h1]
theorem tmod_i64 {a p : Int} (ha : -9223372036854775808 ≤ a ∧ a ≤ 9223372036854775807) (hp : 0 < p ∧ p ≤ 9223372036854775807) : -9223372036854775808 ≤ a.tmod p ∧ a.tmod p ≤ 9223372036854775807 := by
  have h : (a.tmod p).natAbs < p.natAbs := by
    rw [Int.natAbs_tmod]
    exact Nat.mod_lt _ (by omega)
  omega
set_option maxRecDepth 20000 in
set_option maxHeartbeats 8000000 in
theorem designSymbols_any (a b p : Int) (w : World) (ha0 : -9223372036854775808 ≤ a) (ha1 : a ≤ 9223372036854775807) (hb0 : -9223372036854775808 ≤ b) (hb1 : b ≤ 9223372036854775807) (hp0 : -9223372036854775808 ≤ p) (hp1 : p ≤ 9223372036854775807) :
    Calls Tryz.prog 4 #[.int .i64 a, .int .i64 b, .int .i64 p] w (RB w (.bool true)) := by
  have HAW := Kept.mk (fun w => awake_any w)
  have HBD := Kept.mk (And.intro (And.intro ha0 ha1) (And.intro (And.intro hb0 hb1) (And.intro hp0 hp1)))
  clear ha0 ha1 hb0 hb1 hp0 hp1
  go_enter Tryz.func4, Tryz.ntmps4
  go_wp2
  go_loopw [0, 1, 2, 7] (fun av bv pv kv wr => ∃ (a b p : Int) (k : Nat), k ≤ 2 ∧ av = .int .i64 a ∧ bv = .int .i64 b ∧ pv = .int .i64 p ∧ kv = .int .i64 k ∧ Kept ((-9223372036854775808 ≤ a ∧ a ≤ 9223372036854775807) ∧ (-9223372036854775808 ≤ b ∧ b ≤ 9223372036854775807) ∧ (-9223372036854775808 ≤ p ∧ p ≤ 9223372036854775807)) ∧ Kept (Below w.heap.size w wr)) (fun _ _ _ kv _ => 2 - (intOf kv).toNat)
  case atStart => exact ⟨a, b, p, 0, by omega, rfl, rfl, rfl, rfl, HBD, ⟨Below.refl _ _⟩⟩
  case round =>
    obtain ⟨a, b, p, k, hk2, rfl, rfl, rfl, rfl, hbd, hbl⟩ := hrel
    by_cases hlt : k < 2
    · have HS1 := Kept.mk (fun w => symbolP_any a b p w hbd.out.2.2)
      have HP1 := Kept.mk (fun w => placesP_any a b w)
      have HR1 := Kept.mk (fun w => rrange_any a b w)
      obtain ⟨ip, hip⟩ : ∃ t, @decide (plI p) (Classical.propDecidable _) = t := ⟨_, rfl⟩
      have HIP := Kept.mk (fun w => hip ▸ risPlace_any p w hbd.out.2.2.1)
      obtain ⟨a2, ha2⟩ : ∃ x, a.tmod 1000 = x := ⟨_, rfl⟩
      obtain ⟨b2, hb2⟩ : ∃ x, b.tmod 1000 = x := ⟨_, rfl⟩
      have HAB2 : Kept ((-9223372036854775808 ≤ a2 ∧ a2 ≤ 9223372036854775807) ∧ (-9223372036854775808 ≤ b2 ∧ b2 ≤ 9223372036854775807)) := ⟨by rw [← ha2]; exact tmod_i64 hbd.out.1 (by omega), by rw [← hb2]; exact tmod_i64 hbd.out.2.1 (by omega)⟩
      obtain ⟨r, hr⟩ : ∃ r, rgF a b = r := ⟨_, rfl⟩
      have hrb := rgF_le a b
      rw [hr] at HP1 HR1 hrb
      by_cases hr0 : r = 0
      · subst hr0
        obtain ⟨n1, n2, n3, n4⟩ := rgF_zero hr
        by_cases hpl : plI p
        · have HE : smE a b p = 0 := by unfold smE; rw [if_neg (by omega), if_pos hpl]
          have HV : smV a b p = syF a b p := by unfold smV; rw [if_pos HE]
          rw [HE, HV] at HS1
          obtain rfl : true = ip := by rw [← hip]; exact (@decide_eq_true _ (Classical.propDecidable _) hpl).symm
          have HRS := Kept.mk (fun w => rsymbol_any a b p w n1 n2 n3 n4 (plI_ok hpl).1 (plI_ok hpl).2)
          have HRP := Kept.mk (fun l w (hl : Pl a b l) => rplaces_any a b w n1 n2 n3 n4 l hl)
          have HLO := Kept.mk (fun l (hl : Pl a b l) => And.intro (hl.len2 n1 n2 n3 n4) (fun x (hx : x ∈ l) => hl.ok n1 n2 n3 n4 hx))
          obtain ⟨s, hs⟩ : ∃ s, syF a b p = s := ⟨_, rfl⟩
          rw [hs] at HS1 HRS
          have e1 : (s != s) = false := by simp
          clear hr n1 n2 n3 n4 hpl HE HV hs
          go_wp2_with fail
          refine (HS1.out _).mono ?_
          rintro e w2 ⟨hb2', rfl⟩
          have HB2 := Kept.mk (bstep hbl.out hb2')
          clear hb2'
          go_wp2_with fail
          refine (HP1.out _).mono ?_
          rintro e w3 ⟨hb3, ⟨h0, _⟩ | ⟨_, l, v, hl, rfl, hm⟩⟩
          · exact absurd rfl h0
          have HB3 := Kept.mk (bstep HB2.out hb3)
          obtain ⟨la, lc, rfl, _, hlc⟩ := hm.sl.form
          obtain ⟨n, hn⟩ : ∃ n, l.length = n := ⟨_, rfl⟩
          have HM := Kept.mk hm
          have hnb : n ≤ 1000000 := by rw [← hn]; exact (HLO.out l hl).1
          have hn0 : 0 < n := by
            have h2 : (2 : Int) ∈ l := (hl.mem 2).2 (.inr (.inl rfl))
            rw [← hn]
            exact List.length_pos_of_mem h2
          have HRL := Kept.mk (fun w => HRP.out l w hl)
          have HOK := Kept.mk (HLO.out l hl).2
          have HL := Kept.mk hl
          rw [hn] at HM ⊢
          have HN := Kept.mk hn
          clear hb3 hm hl HB2 hn hlc
          go_wp2_with fail
          refine (HR1.out _).mono ?_
          rintro e w4 ⟨rfl, rfl⟩
          go_wp2_with fail
          refine (HRL.out _).mono ?_
          rintro e w5 ⟨hb5, v5, rfl, hm5⟩
          have HSA := Kept.mk (same6_eq _ _ l w5 (HM.out.below hb5).sl hm5.sl (by rw [HN.out]; omega))
          have HB5 := Kept.mk (bstep HB3.out hb5)
          have HM5 := Kept.mk (HM.out.below hb5)
          obtain ⟨va, vc, rfl, _, _⟩ := hm5.sl.form
          rw [HN.out] at HSA ⊢
          clear hb5 hm5
          go_wp2_with fail
          refine HSA.out.mono ?_
          rintro e w6 ⟨hb6, rfl⟩
          have HB6 := Kept.mk (bstep HB5.out hb6)
          have HM6 := Kept.mk (HM5.out.below hb6)
          clear hb6 HB5 HM5 HSA
          go_wp2_with fail
          refine (HIP.out _).mono ?_
          rintro e w7 ⟨rfl, rfl⟩
          go_wp2_with fail
          refine (HRS.out _).mono ?_
          rintro e w8 ⟨rfl, rfl⟩
          obtain ⟨U, q, hU, hq1, hq2, hqn, hq3, hUm⟩ := umod_nat2 n hn0 p
          have eq1 : IntKind.u64.wrap (n : Int) = n := by rw [IntKind.wrap_u64]; omega
          have eq0 : ¬ ((n : Int) = 0) := by omega
          have eq2 : ¬ (n = 0) := by omega
          have w3' : IntKind.i64.wrap (q : Int) = q := wrapB (by omega) (by omega)
          obtain ⟨g, gc, eg, hgB, hgl, _, _, q0, _, _⟩ := HM6.out.at (i := q) (by rw [HN.out]; exact hqn)
          rw [HN.out] at eg
          simp only [Value.slice.injEq] at eg
          obtain ⟨rfl, _, rfl⟩ := eg
          obtain ⟨x, hx⟩ : ∃ x, l[q]?.getD 0 = x := ⟨_, rfl⟩
          have HXB : Kept (-9223372036854775808 ≤ x ∧ x ≤ 9223372036854775807) := ⟨by
            have h1 := HOK.out x (by rw [← hx]; exact get_mem' (by rw [HN.out]; exact hqn))
            rcases h1 with h1 | h1 | h1 <;> omega⟩
          rw [hx] at q0
          clear hx hq3
          go_wp2
          go_roundw
          case rel => exact ⟨a2, b2, x, k + 1, by omega, by first | rfl | rw [ha2], by first | rfl | rw [hb2], rfl, by go_num, ⟨HAB2.out.1, HAB2.out.2, HXB.out⟩, HB6⟩
          case measure => simp [intOf] <;> omega
        · have HE : smE a b p = 1 := by unfold smE; rw [if_neg (by omega), if_neg hpl]
          have HV : smV a b p = 0 := by unfold smV; rw [if_neg (by rw [HE]; omega)]
          rw [HE, HV] at HS1
          obtain rfl : false = ip := by rw [← hip]; exact (@decide_eq_false _ (Classical.propDecidable _) hpl).symm
          have HRP := Kept.mk (fun l w (hl : Pl a b l) => rplaces_any a b w n1 n2 n3 n4 l hl)
          have HLO := Kept.mk (fun l (hl : Pl a b l) => And.intro (hl.len2 n1 n2 n3 n4) (fun x (hx : x ∈ l) => hl.ok n1 n2 n3 n4 hx))
          clear hr n1 n2 n3 n4 hpl HE HV
          go_wp2_with fail
          refine (HS1.out _).mono ?_
          rintro e w2 ⟨hb2', rfl⟩
          have HB2 := Kept.mk (bstep hbl.out hb2')
          clear hb2'
          go_wp2_with fail
          refine (HP1.out _).mono ?_
          rintro e w3 ⟨hb3, ⟨h0, _⟩ | ⟨_, l, v, hl, rfl, hm⟩⟩
          · exact absurd rfl h0
          have HB3 := Kept.mk (bstep HB2.out hb3)
          obtain ⟨la, lc, rfl, _, hlc⟩ := hm.sl.form
          obtain ⟨n, hn⟩ : ∃ n, l.length = n := ⟨_, rfl⟩
          have HM := Kept.mk hm
          have hnb : n ≤ 1000000 := by rw [← hn]; exact (HLO.out l hl).1
          have hn0 : 0 < n := by
            have h2 : (2 : Int) ∈ l := (hl.mem 2).2 (.inr (.inl rfl))
            rw [← hn]
            exact List.length_pos_of_mem h2
          have HRL := Kept.mk (fun w => HRP.out l w hl)
          have HOK := Kept.mk (HLO.out l hl).2
          have HL := Kept.mk hl
          rw [hn] at HM ⊢
          have HN := Kept.mk hn
          clear hb3 hm hl HB2 hn hlc
          go_wp2_with fail
          refine (HR1.out _).mono ?_
          rintro e w4 ⟨rfl, rfl⟩
          go_wp2_with fail
          refine (HRL.out _).mono ?_
          rintro e w5 ⟨hb5, v5, rfl, hm5⟩
          have HSA := Kept.mk (same6_eq _ _ l w5 (HM.out.below hb5).sl hm5.sl (by rw [HN.out]; omega))
          have HB5 := Kept.mk (bstep HB3.out hb5)
          have HM5 := Kept.mk (HM.out.below hb5)
          obtain ⟨va, vc, rfl, _, _⟩ := hm5.sl.form
          rw [HN.out] at HSA ⊢
          clear hb5 hm5
          go_wp2_with fail
          refine HSA.out.mono ?_
          rintro e w6 ⟨hb6, rfl⟩
          have HB6 := Kept.mk (bstep HB5.out hb6)
          have HM6 := Kept.mk (HM5.out.below hb6)
          clear hb6 HB5 HM5 HSA
          go_wp2_with fail
          refine (HIP.out _).mono ?_
          rintro e w7 ⟨rfl, rfl⟩
          obtain ⟨U, q, hU, hq1, hq2, hqn, hq3, hUm⟩ := umod_nat2 n hn0 p
          have eq1 : IntKind.u64.wrap (n : Int) = n := by rw [IntKind.wrap_u64]; omega
          have eq0 : ¬ ((n : Int) = 0) := by omega
          have eq2 : ¬ (n = 0) := by omega
          have w3' : IntKind.i64.wrap (q : Int) = q := wrapB (by omega) (by omega)
          obtain ⟨g, gc, eg, hgB, hgl, _, _, q0, _, _⟩ := HM6.out.at (i := q) (by rw [HN.out]; exact hqn)
          rw [HN.out] at eg
          simp only [Value.slice.injEq] at eg
          obtain ⟨rfl, _, rfl⟩ := eg
          obtain ⟨x, hx⟩ : ∃ x, l[q]?.getD 0 = x := ⟨_, rfl⟩
          have HXB : Kept (-9223372036854775808 ≤ x ∧ x ≤ 9223372036854775807) := ⟨by
            have h1 := HOK.out x (by rw [← hx]; exact get_mem' (by rw [HN.out]; exact hqn))
            rcases h1 with h1 | h1 | h1 <;> omega⟩
          rw [hx] at q0
          clear hx hq3
          go_wp2
          go_roundw
          case rel => exact ⟨a2, b2, x, k + 1, by omega, by first | rfl | rw [ha2], by first | rfl | rw [hb2], rfl, by go_num, ⟨HAB2.out.1, HAB2.out.2, HXB.out⟩, HB6⟩
          case measure => simp [intOf] <;> omega
      · have HE : smE a b p = r := by unfold smE; rw [hr, if_pos hr0]
        have HV : smV a b p = 0 := by unfold smV; rw [if_neg (by rw [HE]; exact hr0)]
        rw [HE, HV] at HS1
        have e1 : ((r : Int) != (r : Int)) = false := by simp
        have e2 : ((r : Int) != 0) = true := by rw [bne_iff_ne]; omega
        have e3 : ((r : Int) == 0) = false := beq_eq_false_iff_ne.2 (by omega)
        clear hr HE HV
        go_wp2_with fail
        refine (HS1.out _).mono ?_
        rintro e w2 ⟨hb2', rfl⟩
        have HB2 := Kept.mk (bstep hbl.out hb2')
        clear hb2'
        go_wp2_with fail
        refine (HP1.out _).mono ?_
        rintro e w3 ⟨hb3, ⟨_, rfl⟩ | ⟨h0, _⟩⟩
        rotate_left
        · exact absurd h0 hr0
        have HB3 := Kept.mk (bstep HB2.out hb3)
        clear hb3 HB2
        go_wp2_with fail
        refine (HR1.out _).mono ?_
        rintro e w4 ⟨rfl, rfl⟩
        go_wp2
        go_roundw
        case rel => exact ⟨a2, b2, 3, k + 1, by omega, by first | rfl | rw [ha2], by first | rfl | rw [hb2], rfl, by go_num, ⟨HAB2.out.1, HAB2.out.2, by omega, by omega⟩, HB3⟩
        case measure => simp [intOf] <;> omega
    · obtain rfl : k = 2 := by omega
      go_wp2_with fail
      refine (HAW.out _).mono ?_
      rintro e w2 ⟨hb2, rfl⟩
      have HB2 := Kept.mk (bstep hbl.out hb2)
      clear hb2
      go_wp2
      go_ret
      exact ⟨HB2.out, rfl⟩
end Go.Proofs.YtalahdkhglagpaaGreat
