import Derived.Test.YtalahdkhglagpaaGreatLss
import Derived.Test.YtalahdkhglagpaaGreatDqd
set_option linter.unusedVariables false
set_option linter.unusedSimpArgs false
namespace Go.Proofs.YtalahdkhglagpaaGreat
open Go Go.RowKit Go.Deep
open Dnt Dqr
theorem Dnt.Pl.pla {a b x : Int} {l : List Int} (hl : Pl a b l) (hx : x ∈ l) : Pla x := by
  rcases (hl.mem x).1 hx with rfl | rfl | ⟨m, rfl, h1, _⟩
  · exact .real
  · exact .two
  · rcases pr_odd h1 with rfl | ho
    · exact .two
    · exact .odd h1 ho
theorem Dnt.Pl.plI {a b x : Int} {l : List Int} (hl : Pl a b l) (ha0 : a ≠ 0) (hb0 : b ≠ 0) (ha : -1000000 ≤ a ∧ a ≤ 1000000) (hb : -1000000 ≤ b ∧ b ≤ 1000000) (hx : x ∈ l) : plI x := by
  have hb := hl.ok ha0 hb0 ha hb hx
  rcases (hl.mem x).1 hx with rfl | rfl | ⟨m, rfl, h1, _⟩
  · exact .inl rfl
  · exact .inr ⟨by omega, by omega, isPr_two⟩
  · have := h1.1
    exact .inr ⟨by rcases hb with h | h | h <;> omega, by omega, by rw [Int.toNat_natCast]; exact h1⟩
theorem Dnt.Pl.head {a b : Int} {l : List Int} (hl : Pl a b l) : 2 ≤ l.length ∧ l[0]?.getD 0 = -1 ∧ l[1]?.getD 0 = 2 := by
  have h1 : (-1 : Int) ∈ l := (hl.mem _).2 (.inl rfl)
  have h2 : (2 : Int) ∈ l := (hl.mem _).2 (.inr (.inl rfl))
  have h3 : ∀ x ∈ l, x = -1 ∨ 2 ≤ x := fun x hx => by
    rcases (hl.mem x).1 hx with h | h | ⟨m, rfl, h, _⟩
    · exact .inl h
    · omega
    · have := h.1; omega
  have hu := hl.up
  clear hl
  match l, h1, h2, h3, hu with
  | [y], h1, h2, _, _ =>
    simp only [List.mem_cons, List.not_mem_nil, or_false] at h1 h2
    omega
  | y :: z :: t, h1, h2, h3, hu =>
    obtain ⟨h4, h5⟩ := List.pairwise_cons.1 hu
    obtain ⟨h6, _⟩ := List.pairwise_cons.1 h5
    have hy := h3 y List.mem_cons_self
    have hz := h3 z (List.mem_cons_of_mem _ List.mem_cons_self)
    have hyz := h4 z List.mem_cons_self
    have ey : y = -1 := by
      rcases List.mem_cons.1 h1 with e | e
      · exact e.symm
      · have := h4 _ e; omega
    have ez : z = 2 := by
      rcases List.mem_cons.1 h2 with e | e
      · omega
      · rcases List.mem_cons.1 e with e | e
        · exact e.symm
        · have := h6 _ e; omega
    exact ⟨by simp, by simp [ey], by simp [ez]⟩
theorem rgF_of {a b : Int} (ha0 : a ≠ 0) (hb0 : b ≠ 0) (ha : -1000000 ≤ a ∧ a ≤ 1000000) (hb : -1000000 ≤ b ∧ b ≤ 1000000) : rgF a b = 0 := by
  unfold rgF
  rw [if_neg (by omega), if_neg (by omega)]
theorem sym_ok (a b x : Int) (w : World) (h : rgF a b = 0) (hp : plI x) : Calls Tryz.prog 13 #[.int .i64 a, .int .i64 b, .int .i64 x] w (RB w (.tuple #[.int .i64 (syF a b x), .int .i64 0])) := by
  have hx : -9223372036854775808 ≤ x ∧ x ≤ 9223372036854775807 := by
    rcases hp with rfl | ⟨h1, h2, _⟩ <;> omega
  have HE : smE a b x = 0 := by unfold smE; rw [if_neg (by omega), if_pos hp]
  have HV : smV a b x = syF a b x := by unfold smV; rw [if_pos HE]
  have := symbolP_any a b x w hx
  rw [HE, HV] at this
  exact this
theorem places_ok (a b : Int) (w : World) (h : rgF a b = 0) : Calls Tryz.prog 14 #[.int .i64 a, .int .i64 b] w (fun e w' => Below w.heap.size w w' ∧ ∃ l v, Pl a b l ∧ e = .returned (.tuple #[v, .int .i64 0]) ∧ Mine 3 .i64 w.heap.size w' v l) :=
  (placesP_any a b w).mono fun e w' ⟨h1, h2⟩ => ⟨h1, h2.elim (fun h3 => absurd h h3.1) (·.2)⟩
theorem prd_snoc {f : Int → Int} : ∀ {l : List Int} {i : Nat}, i < l.length → prd f (l.take (i + 1)) = prd f (l.take i) * f (l[i]?.getD 0)
  | y :: t, 0, h => by simp [prd]
  | y :: t, i + 1, h => by
    have := prd_snoc (f := f) (l := t) (i := i) (by simpa using h)
    simp only [List.take_succ_cons, prd, this, List.getElem?_cons_succ]
    rw [Int.mul_assoc]
theorem mulB6 {x y : Int} (hx : -1000 < x ∧ x < 1000) (hy : -1000 < y ∧ y < 1000) : -1000000 ≤ x * y ∧ x * y ≤ 1000000 := by
  have h := Int.natAbs_mul x y
  have h2 : x.natAbs * y.natAbs ≤ 1000 * 1000 := Nat.mul_le_mul (by omega) (by omega)
  omega
/-- All that is asked of the numbers at the places of a and b. -/
structure Asked (a b c : Int) (l : List Int) : Prop where
  ab : rgF a b = 0
  ba : rgF b a = 0
  neg : rgF a (-a) = 0
  ac : rgF a c = 0
  abc : rgF a (b * c) = 0
  pl : ∀ x ∈ l, plI x
  sym : ∀ x ∈ l, syF b a x = syF a b x
  self : ∀ x ∈ l, syF a (-a) x = 1
  mul : ∀ x ∈ l, syF a (b * c) x = syF a b x * syF a c x
  all : prd (syF a b) l = 1
theorem asked {a b c : Int} {l : List Int} (ha0 : a ≠ 0) (hb0 : b ≠ 0) (hc0 : c ≠ 0) (ha : -1000 < a ∧ a < 1000) (hb : -1000 < b ∧ b < 1000) (hc : -1000 < c ∧ c < 1000) (hl : Pl a b l) : Asked a b c l where
  ab := rgF_of ha0 hb0 (by omega) (by omega)
  ba := rgF_of hb0 ha0 (by omega) (by omega)
  neg := rgF_of ha0 (by omega) (by omega) (by omega)
  ac := rgF_of ha0 hc0 (by omega) (by omega)
  abc := rgF_of ha0 (Int.mul_ne_zero hb0 hc0) (by omega) (mulB6 hb hc)
  pl := fun x hx => hl.plI ha0 hb0 (by omega) (by omega) hx
  sym := fun x hx => sy_symm (hl.pla hx) hb0 ha0
  self := fun x hx => sy_neg (hl.pla hx) ha0
  mul := fun x hx => sy_mul (hl.pla hx) ha0 hb0 hc0
  all := product ha0 hb0 hl
theorem unram_ok {a b p : Int} (ha0 : a ≠ 0) (hb0 : b ≠ 0) (hp : plI p) (h3 : 3 ≤ p) (ha : ¬ a.tmod p = 0) (hb : ¬ b.tmod p = 0) : syF a b p = 1 := by
  obtain ⟨h1, h2⟩ := plI_ok hp
  rcases hp with rfl | ⟨h4, h5, h6⟩
  · omega
  · obtain ⟨n, rfl⟩ : ∃ n : Nat, p = n := ⟨p.toNat, by omega⟩
    rw [Int.toNat_natCast] at h6
    have h7 : ∀ x : Int, ¬ x.tmod (n : Int) = 0 → ¬ x % (n : Int) = 0 := fun x hx h => hx (Int.tmod_eq_zero_of_dvd (Int.dvd_of_emod_eq_zero h))
    exact sy_unram h6 (by have := h2 h3; omega) ha0 hb0 (h7 a ha) (h7 b hb)
set_option maxRecDepth 20000 in
set_option maxHeartbeats 16000000 in
theorem designReciprocity_any (a0 b0 c0 p0 : Int) (w : World) (ha0 : -9223372036854775808 ≤ a0) (ha1 : a0 ≤ 9223372036854775807) (hb0 : -9223372036854775808 ≤ b0) (hb1 : b0 ≤ 9223372036854775807) (hc0 : -9223372036854775808 ≤ c0) (hc1 : c0 ≤ 9223372036854775807) (hp0 : -9223372036854775808 ≤ p0) (hp1 : p0 ≤ 9223372036854775807) :
    Calls Tryz.prog 5 #[.agg #[.int .i64 a0, .int .i64 b0, .int .i64 c0], .int .i64 p0] w (RB w (.bool true)) := by
  have HAW := Kept.mk (fun w => awake_any w)
  have HBA : Kept (Below w.heap.size w (w.alloc (.cells #[.int .i64 a0, .int .i64 b0, .int .i64 c0] 46))) := ⟨(Below.refl _ _).alloc (Nat.le_refl _) _⟩
  obtain ⟨i0, i1, i2, _⟩ := three_cells (heap_alloc_new w (.cells #[.int .i64 a0, .int .i64 b0, .int .i64 c0] 46))
  obtain ⟨a, hA⟩ : ∃ x, a0.tmod 1000 = x := ⟨_, rfl⟩
  obtain ⟨b, hB⟩ : ∃ x, b0.tmod 1000 = x := ⟨_, rfl⟩
  obtain ⟨c, hC⟩ : ∃ x, c0.tmod 1000 = x := ⟨_, rfl⟩
  have HAb : Kept (-1000 < a ∧ a < 1000) := ⟨by rw [← hA]; exact tmod_abs a0 (by omega)⟩
  have HBb : Kept (-1000 < b ∧ b < 1000) := ⟨by rw [← hB]; exact tmod_abs b0 (by omega)⟩
  have HCb : Kept (-1000 < c ∧ c < 1000) := ⟨by rw [← hC]; exact tmod_abs c0 (by omega)⟩
  have HA := Kept.mk hA
  have HB := Kept.mk hB
  have HC := Kept.mk hC
  have HP0 := Kept.mk (And.intro hp0 hp1)
  clear ha0 ha1 hb0 hb1 hc0 hc1 hA hB hC hp0 hp1
  obtain ⟨g, hg⟩ : ∃ g, w.heap.size = g := ⟨_, rfl⟩
  obtain ⟨W1, hW1⟩ : ∃ W, w.alloc (.cells #[.int .i64 a0, .int .i64 b0, .int .i64 c0] 46) = W := ⟨_, rfl⟩
  rw [hW1] at i0 i1 i2 HBA
  have HG := Kept.mk hg
  rw [hg] at i0 i1 i2
  go_enter Tryz.func5, Tryz.ntmps5
  go_wp2
  clear hW1 hg
  go_quiet (fail)
  rw [HA.out, HB.out, HC.out]
  generalize hW2 : W1.drewN _ = W2
  have HB2 : Kept (Below w.heap.size w W2) := ⟨by rw [← hW2]; exact below_drewN HBA.out _⟩
  clear i0 i1 i2 hW2 HBA HA HB HC HG
  by_cases ha0 : a = 0
  · have e1 : (a == 0) = true := beq_iff_eq.2 ha0
    clear ha0
    go_wp2_with fail
    refine (HAW.out _).mono ?_
    rintro e w3 ⟨hb3, rfl⟩
    have HB3 := Kept.mk (bstep HB2.out hb3)
    clear hb3
    go_wp2
    go_ret
    exact ⟨HB3.out, rfl⟩
  by_cases hb0 : b = 0
  · have e1 : (a == 0) = false := beq_eq_false_iff_ne.2 ha0
    have e2 : (b == 0) = true := beq_iff_eq.2 hb0
    clear ha0 hb0
    go_wp2_with fail
    refine (HAW.out _).mono ?_
    rintro e w3 ⟨hb3, rfl⟩
    have HB3 := Kept.mk (bstep HB2.out hb3)
    clear hb3
    go_wp2
    go_ret
    exact ⟨HB3.out, rfl⟩
  by_cases hc0 : c = 0
  · have e1 : (a == 0) = false := beq_eq_false_iff_ne.2 ha0
    have e2 : (b == 0) = false := beq_eq_false_iff_ne.2 hb0
    have e3 : (c == 0) = true := beq_iff_eq.2 hc0
    clear ha0 hb0 hc0
    go_wp2_with fail
    refine (HAW.out _).mono ?_
    rintro e w3 ⟨hb3, rfl⟩
    have HB3 := Kept.mk (bstep HB2.out hb3)
    clear hb3
    go_wp2
    go_ret
    exact ⟨HB3.out, rfl⟩
  have HZ := Kept.mk (And.intro ha0 (And.intro hb0 hc0))
  have HPL := Kept.mk (fun W => places_ok a b W (rgF_of ha0 hb0 (by have := HAb.out; omega) (by have := HBb.out; omega)))
  have e1 : (a == 0) = false := beq_eq_false_iff_ne.2 ha0
  have e2 : (b == 0) = false := beq_eq_false_iff_ne.2 hb0
  have e3 : (c == 0) = false := beq_eq_false_iff_ne.2 hc0
  clear ha0 hb0 hc0
  go_wp2_with fail
  refine (HPL.out _).mono ?_
  rintro e w3 ⟨hb3, l, v, hl, rfl, hm⟩
  have HAK := Kept.mk (asked HZ.out.1 HZ.out.2.1 HZ.out.2.2 HAb.out HBb.out HCb.out hl)
  have HHD := Kept.mk hl.head
  have HB3 := Kept.mk (bstep HB2.out hb3)
  have hlen : l.length ≤ 1000000 := hl.len2 HZ.out.1 HZ.out.2.1 (by have := HAb.out; omega) (by have := HBb.out; omega)
  clear e1 e2 e3 hb3 HPL
  obtain ⟨n, hn⟩ : ∃ n, l.length = n := ⟨_, rfl⟩
  have HN := Kept.mk hn
  have h2n : 2 ≤ n := by rw [← hn]; exact HHD.out.1
  rw [hn] at hlen
  have HM := Kept.mk hm
  obtain ⟨g, gc, rfl, _, _, _, _, q0, _, _⟩ := hm.at (i := 0) (by rw [hn]; omega)
  obtain ⟨g', gc', eg, _, _, _, _, q1, _, _⟩ := hm.at (i := 1) (by rw [hn]; omega)
  obtain ⟨rfl, rfl⟩ : g = g' ∧ gc = gc' := by
    simp only [Value.slice.injEq, Option.some.injEq, Addr.mk.injEq] at eg
    exact ⟨eg.1.1, eg.2.2⟩
  rw [HHD.out.2.1] at q0
  rw [HHD.out.2.2] at q1
  rw [hn] at HM ⊢
  clear hn hm eg hl
  go_wp2
  go_loopw [10, 11] (fun pv iv wr => ∃ (i : Nat) (q : Int), i ≤ n ∧ pv = .int .i64 q ∧ iv = .int .i64 i ∧ (q = 1 ∨ q = -1) ∧ Kept (prd (syF a b) (l.take i) = q) ∧ Kept (Below w3.heap.size w3 wr)) (fun _ iv _ => n - (intOf iv).toNat)
  case atStart => exact ⟨0, 1, by omega, rfl, rfl, .inl rfl, ⟨by simp [prd]⟩, ⟨Below.refl _ _⟩⟩
  case round =>
    obtain ⟨i, q, hin, rfl, rfl, orq, hq, hbl⟩ := hrel
    by_cases hlt : i < n
    · obtain ⟨g5, gc5, eg, _, _, _, _, q0, _, _⟩ := (HM.out.below hbl.out).at (i := i) (by rw [HN.out]; exact hlt)
      obtain rfl : g = g5 := by
        simp only [Value.slice.injEq, Option.some.injEq, Addr.mk.injEq] at eg
        exact eg.1.1
      obtain ⟨x, hx⟩ : ∃ x, l[i]?.getD 0 = x := ⟨_, rfl⟩
      have hxl : x ∈ l := by rw [← hx]; exact get_mem' (by rw [HN.out]; exact hlt)
      have hpl := HAK.out.pl x hxl
      have HS1 := Kept.mk (fun W => sym_ok a b x W HAK.out.ab hpl)
      have HS2 := Kept.mk (fun W => sym_ok b a x W HAK.out.ba hpl)
      have HS3 := Kept.mk (fun W => sym_ok a (-a) x W HAK.out.neg hpl)
      have HS4 := Kept.mk (fun W => sym_ok a c x W HAK.out.ac hpl)
      have HS5 := Kept.mk (fun W => sym_ok a (b * c) x W HAK.out.abc hpl)
      rw [HAK.out.sym x hxl] at HS2
      rw [HAK.out.self x hxl] at HS3
      rw [HAK.out.mul x hxl] at HS5
      have hsn := prd_snoc (f := syF a b) (l := l) (i := i) (by rw [HN.out]; exact hlt)
      obtain ⟨s, hs⟩ : ∃ s, syF a b x = s := ⟨_, rfl⟩
      obtain ⟨u, hu⟩ : ∃ u, syF a c x = u := ⟨_, rfl⟩
      have ors : s = 1 ∨ s = -1 := by rw [← hs]; exact sy_or
      have oru : u = 1 ∨ u = -1 := by rw [← hu]; exact sy_or
      rw [hs] at HS1 HS2 HS5
      rw [hu] at HS4 HS5
      rw [hx, hs, hq.out] at hsn
      have HSN := Kept.mk hsn
      have wn : IntKind.i64.wrap (-a) = -a := wrapB (by have := HAb.out; omega) (by have := HAb.out; omega)
      have wm : IntKind.i64.wrap (b * c) = b * c := by
        have := mulB6 HBb.out HCb.out
        exact wrapB (by omega) (by omega)
      have wi : IntKind.i64.wrap ((i : Int) + 1) = (i : Int) + 1 := wrapB (by omega) (by omega)
      rw [hx] at q0
      clear hx hs hu hsn hxl hpl hq eg
      rcases orq with rfl | rfl <;> rcases ors with rfl | rfl <;> rcases oru with rfl | rfl
      · go_wp2_with fail
        refine (HS1.out _).mono ?_
        rintro e w4 ⟨hb4, rfl⟩
        have q1 := belowCell hb4 q0
        have HB4 := Kept.mk (bstep hbl.out hb4)
        clear hb4 q0 HS1
        go_wp2_with fail
        refine (HS2.out _).mono ?_
        rintro e w5 ⟨hb5, rfl⟩
        have q2 := belowCell hb5 q1
        have HB5 := Kept.mk (bstep HB4.out hb5)
        clear hb5 q1 HS2 HB4
        go_wp2_with fail
        refine (HS3.out _).mono ?_
        rintro e w6 ⟨hb6, rfl⟩
        have q3 := belowCell hb6 q2
        have HB6 := Kept.mk (bstep HB5.out hb6)
        clear hb6 q2 HS3 HB5
        go_wp2_with fail
        refine (HS4.out _).mono ?_
        rintro e w7 ⟨hb7, rfl⟩
        have q4 := belowCell hb7 q3
        have HB7 := Kept.mk (bstep HB6.out hb7)
        clear hb7 q3 HS4 HB6
        go_wp2_with fail
        refine (HS5.out _).mono ?_
        rintro e w8 ⟨hb8, rfl⟩
        have HB8 := Kept.mk (bstep HB7.out hb8)
        clear hb8 q4 HS5 HB7
        go_wp2
        go_roundw
        case rel => exact ⟨i + 1, 1, by omega, by first | rfl | go_num, by go_num, by omega, ⟨HSN.out.trans (by decide)⟩, HB8⟩
        case measure => simp [intOf] <;> omega
      · go_wp2_with fail
        refine (HS1.out _).mono ?_
        rintro e w4 ⟨hb4, rfl⟩
        have q1 := belowCell hb4 q0
        have HB4 := Kept.mk (bstep hbl.out hb4)
        clear hb4 q0 HS1
        go_wp2_with fail
        refine (HS2.out _).mono ?_
        rintro e w5 ⟨hb5, rfl⟩
        have q2 := belowCell hb5 q1
        have HB5 := Kept.mk (bstep HB4.out hb5)
        clear hb5 q1 HS2 HB4
        go_wp2_with fail
        refine (HS3.out _).mono ?_
        rintro e w6 ⟨hb6, rfl⟩
        have q3 := belowCell hb6 q2
        have HB6 := Kept.mk (bstep HB5.out hb6)
        clear hb6 q2 HS3 HB5
        go_wp2_with fail
        refine (HS4.out _).mono ?_
        rintro e w7 ⟨hb7, rfl⟩
        have q4 := belowCell hb7 q3
        have HB7 := Kept.mk (bstep HB6.out hb7)
        clear hb7 q3 HS4 HB6
        go_wp2_with fail
        refine (HS5.out _).mono ?_
        rintro e w8 ⟨hb8, rfl⟩
        have HB8 := Kept.mk (bstep HB7.out hb8)
        clear hb8 q4 HS5 HB7
        go_wp2
        go_roundw
        case rel => exact ⟨i + 1, 1, by omega, by first | rfl | go_num, by go_num, by omega, ⟨HSN.out.trans (by decide)⟩, HB8⟩
        case measure => simp [intOf] <;> omega
      · go_wp2_with fail
        refine (HS1.out _).mono ?_
        rintro e w4 ⟨hb4, rfl⟩
        have q1 := belowCell hb4 q0
        have HB4 := Kept.mk (bstep hbl.out hb4)
        clear hb4 q0 HS1
        go_wp2_with fail
        refine (HS2.out _).mono ?_
        rintro e w5 ⟨hb5, rfl⟩
        have q2 := belowCell hb5 q1
        have HB5 := Kept.mk (bstep HB4.out hb5)
        clear hb5 q1 HS2 HB4
        go_wp2_with fail
        refine (HS3.out _).mono ?_
        rintro e w6 ⟨hb6, rfl⟩
        have q3 := belowCell hb6 q2
        have HB6 := Kept.mk (bstep HB5.out hb6)
        clear hb6 q2 HS3 HB5
        go_wp2_with fail
        refine (HS4.out _).mono ?_
        rintro e w7 ⟨hb7, rfl⟩
        have q4 := belowCell hb7 q3
        have HB7 := Kept.mk (bstep HB6.out hb7)
        clear hb7 q3 HS4 HB6
        go_wp2_with fail
        refine (HS5.out _).mono ?_
        rintro e w8 ⟨hb8, rfl⟩
        have HB8 := Kept.mk (bstep HB7.out hb8)
        clear hb8 q4 HS5 HB7
        go_wp2
        go_roundw
        case rel => exact ⟨i + 1, -1, by omega, by first | rfl | go_num, by go_num, by omega, ⟨HSN.out.trans (by decide)⟩, HB8⟩
        case measure => simp [intOf] <;> omega
      · go_wp2_with fail
        refine (HS1.out _).mono ?_
        rintro e w4 ⟨hb4, rfl⟩
        have q1 := belowCell hb4 q0
        have HB4 := Kept.mk (bstep hbl.out hb4)
        clear hb4 q0 HS1
        go_wp2_with fail
        refine (HS2.out _).mono ?_
        rintro e w5 ⟨hb5, rfl⟩
        have q2 := belowCell hb5 q1
        have HB5 := Kept.mk (bstep HB4.out hb5)
        clear hb5 q1 HS2 HB4
        go_wp2_with fail
        refine (HS3.out _).mono ?_
        rintro e w6 ⟨hb6, rfl⟩
        have q3 := belowCell hb6 q2
        have HB6 := Kept.mk (bstep HB5.out hb6)
        clear hb6 q2 HS3 HB5
        go_wp2_with fail
        refine (HS4.out _).mono ?_
        rintro e w7 ⟨hb7, rfl⟩
        have q4 := belowCell hb7 q3
        have HB7 := Kept.mk (bstep HB6.out hb7)
        clear hb7 q3 HS4 HB6
        go_wp2_with fail
        refine (HS5.out _).mono ?_
        rintro e w8 ⟨hb8, rfl⟩
        have HB8 := Kept.mk (bstep HB7.out hb8)
        clear hb8 q4 HS5 HB7
        go_wp2
        go_roundw
        case rel => exact ⟨i + 1, -1, by omega, by first | rfl | go_num, by go_num, by omega, ⟨HSN.out.trans (by decide)⟩, HB8⟩
        case measure => simp [intOf] <;> omega
      · go_wp2_with fail
        refine (HS1.out _).mono ?_
        rintro e w4 ⟨hb4, rfl⟩
        have q1 := belowCell hb4 q0
        have HB4 := Kept.mk (bstep hbl.out hb4)
        clear hb4 q0 HS1
        go_wp2_with fail
        refine (HS2.out _).mono ?_
        rintro e w5 ⟨hb5, rfl⟩
        have q2 := belowCell hb5 q1
        have HB5 := Kept.mk (bstep HB4.out hb5)
        clear hb5 q1 HS2 HB4
        go_wp2_with fail
        refine (HS3.out _).mono ?_
        rintro e w6 ⟨hb6, rfl⟩
        have q3 := belowCell hb6 q2
        have HB6 := Kept.mk (bstep HB5.out hb6)
        clear hb6 q2 HS3 HB5
        go_wp2_with fail
        refine (HS4.out _).mono ?_
        rintro e w7 ⟨hb7, rfl⟩
        have q4 := belowCell hb7 q3
        have HB7 := Kept.mk (bstep HB6.out hb7)
        clear hb7 q3 HS4 HB6
        go_wp2_with fail
        refine (HS5.out _).mono ?_
        rintro e w8 ⟨hb8, rfl⟩
        have HB8 := Kept.mk (bstep HB7.out hb8)
        clear hb8 q4 HS5 HB7
        go_wp2
        go_roundw
        case rel => exact ⟨i + 1, -1, by omega, by first | rfl | go_num, by go_num, by omega, ⟨HSN.out.trans (by decide)⟩, HB8⟩
        case measure => simp [intOf] <;> omega
      · go_wp2_with fail
        refine (HS1.out _).mono ?_
        rintro e w4 ⟨hb4, rfl⟩
        have q1 := belowCell hb4 q0
        have HB4 := Kept.mk (bstep hbl.out hb4)
        clear hb4 q0 HS1
        go_wp2_with fail
        refine (HS2.out _).mono ?_
        rintro e w5 ⟨hb5, rfl⟩
        have q2 := belowCell hb5 q1
        have HB5 := Kept.mk (bstep HB4.out hb5)
        clear hb5 q1 HS2 HB4
        go_wp2_with fail
        refine (HS3.out _).mono ?_
        rintro e w6 ⟨hb6, rfl⟩
        have q3 := belowCell hb6 q2
        have HB6 := Kept.mk (bstep HB5.out hb6)
        clear hb6 q2 HS3 HB5
        go_wp2_with fail
        refine (HS4.out _).mono ?_
        rintro e w7 ⟨hb7, rfl⟩
        have q4 := belowCell hb7 q3
        have HB7 := Kept.mk (bstep HB6.out hb7)
        clear hb7 q3 HS4 HB6
        go_wp2_with fail
        refine (HS5.out _).mono ?_
        rintro e w8 ⟨hb8, rfl⟩
        have HB8 := Kept.mk (bstep HB7.out hb8)
        clear hb8 q4 HS5 HB7
        go_wp2
        go_roundw
        case rel => exact ⟨i + 1, -1, by omega, by first | rfl | go_num, by go_num, by omega, ⟨HSN.out.trans (by decide)⟩, HB8⟩
        case measure => simp [intOf] <;> omega
      · go_wp2_with fail
        refine (HS1.out _).mono ?_
        rintro e w4 ⟨hb4, rfl⟩
        have q1 := belowCell hb4 q0
        have HB4 := Kept.mk (bstep hbl.out hb4)
        clear hb4 q0 HS1
        go_wp2_with fail
        refine (HS2.out _).mono ?_
        rintro e w5 ⟨hb5, rfl⟩
        have q2 := belowCell hb5 q1
        have HB5 := Kept.mk (bstep HB4.out hb5)
        clear hb5 q1 HS2 HB4
        go_wp2_with fail
        refine (HS3.out _).mono ?_
        rintro e w6 ⟨hb6, rfl⟩
        have q3 := belowCell hb6 q2
        have HB6 := Kept.mk (bstep HB5.out hb6)
        clear hb6 q2 HS3 HB5
        go_wp2_with fail
        refine (HS4.out _).mono ?_
        rintro e w7 ⟨hb7, rfl⟩
        have q4 := belowCell hb7 q3
        have HB7 := Kept.mk (bstep HB6.out hb7)
        clear hb7 q3 HS4 HB6
        go_wp2_with fail
        refine (HS5.out _).mono ?_
        rintro e w8 ⟨hb8, rfl⟩
        have HB8 := Kept.mk (bstep HB7.out hb8)
        clear hb8 q4 HS5 HB7
        go_wp2
        go_roundw
        case rel => exact ⟨i + 1, 1, by omega, by first | rfl | go_num, by go_num, by omega, ⟨HSN.out.trans (by decide)⟩, HB8⟩
        case measure => simp [intOf] <;> omega
      · go_wp2_with fail
        refine (HS1.out _).mono ?_
        rintro e w4 ⟨hb4, rfl⟩
        have q1 := belowCell hb4 q0
        have HB4 := Kept.mk (bstep hbl.out hb4)
        clear hb4 q0 HS1
        go_wp2_with fail
        refine (HS2.out _).mono ?_
        rintro e w5 ⟨hb5, rfl⟩
        have q2 := belowCell hb5 q1
        have HB5 := Kept.mk (bstep HB4.out hb5)
        clear hb5 q1 HS2 HB4
        go_wp2_with fail
        refine (HS3.out _).mono ?_
        rintro e w6 ⟨hb6, rfl⟩
        have q3 := belowCell hb6 q2
        have HB6 := Kept.mk (bstep HB5.out hb6)
        clear hb6 q2 HS3 HB5
        go_wp2_with fail
        refine (HS4.out _).mono ?_
        rintro e w7 ⟨hb7, rfl⟩
        have q4 := belowCell hb7 q3
        have HB7 := Kept.mk (bstep HB6.out hb7)
        clear hb7 q3 HS4 HB6
        go_wp2_with fail
        refine (HS5.out _).mono ?_
        rintro e w8 ⟨hb8, rfl⟩
        have HB8 := Kept.mk (bstep HB7.out hb8)
        clear hb8 q4 HS5 HB7
        go_wp2
        go_roundw
        case rel => exact ⟨i + 1, 1, by omega, by first | rfl | go_num, by go_num, by omega, ⟨HSN.out.trans (by decide)⟩, HB8⟩
        case measure => simp [intOf] <;> omega
    · have hq1 : q = 1 := by
        have h := hq.out
        rw [List.take_of_length_le (by rw [HN.out]; omega)] at h
        rw [← h]
        exact HAK.out.all
      subst hq1
      obtain rfl : i = n := by omega
      have HBZ := Kept.mk (bstep HB3.out hbl.out)
      obtain ⟨U, r, hU, hr1, hr2, hrn, hr3, hUm⟩ := umod_nat2 500 (by omega) p0
      have hr1 : (U : Int) % 500 = r := hr1
      have hr2 : (U : Int).tmod 500 = r := hr2
      have wr0 : IntKind.i64.wrap (r : Int) = r := wrapB (by omega) (by omega)
      have wr1 : IntKind.i64.wrap (2 * (r : Int)) = 2 * r := wrapB (by omega) (by omega)
      have wr2 : IntKind.i64.wrap (3 + 2 * (r : Int)) = 3 + 2 * r := wrapB (by omega) (by omega)
      have hnz : ¬ (3 + 2 * (r : Int) = 0) := by omega
      have H3 : Kept (3 ≤ 3 + 2 * (r : Int)) := ⟨by omega⟩
      obtain ⟨ip, hip⟩ : ∃ t, @decide (plI (3 + 2 * (r : Int))) (Classical.propDecidable _) = t := ⟨_, rfl⟩
      have HIP := Kept.mk (fun w => hip ▸ risPlace_any (3 + 2 * (r : Int)) w (by omega))
      clear hr3 hin orq hq
      by_cases hpl : plI (3 + 2 * (r : Int))
      · obtain rfl : true = ip := by rw [← hip]; exact (@decide_eq_true _ (Classical.propDecidable _) hpl).symm
        obtain ⟨ta, hta⟩ : ∃ t, a.tmod (3 + 2 * (r : Int)) = t := ⟨_, rfl⟩
        by_cases za : ta = 0
        · have f1 : (ta == 0) = true := beq_iff_eq.2 za
          clear za hpl hip
          go_wp2_with fail
          refine (HIP.out _).mono ?_
          rintro e w5 ⟨rfl, rfl⟩
          go_wp2_with fail
          refine (HAW.out _).mono ?_
          rintro e w9 ⟨hb9, rfl⟩
          have HB9 := Kept.mk (bstep HBZ.out hb9)
          clear hb9
          go_wp2
          go_ret
          exact ⟨HB9.out, rfl⟩
        · have f1 : (ta == 0) = false := beq_eq_false_iff_ne.2 za
          obtain ⟨tb, htb⟩ : ∃ t, b.tmod (3 + 2 * (r : Int)) = t := ⟨_, rfl⟩
          by_cases zb : tb = 0
          · have f2 : (tb == 0) = true := beq_iff_eq.2 zb
            clear za zb hpl hip
            go_wp2_with fail
            refine (HIP.out _).mono ?_
            rintro e w5 ⟨rfl, rfl⟩
            go_wp2_with fail
            refine (HAW.out _).mono ?_
            rintro e w9 ⟨hb9, rfl⟩
            have HB9 := Kept.mk (bstep HBZ.out hb9)
            clear hb9
            go_wp2
            go_ret
            exact ⟨HB9.out, rfl⟩
          · have f2 : (tb == 0) = false := beq_eq_false_iff_ne.2 zb
            have HSY := Kept.mk (fun W => sym_ok a b (3 + 2 * (r : Int)) W HAK.out.ab hpl)
            rw [unram_ok HZ.out.1 HZ.out.2.1 hpl H3.out (by rw [hta]; exact za) (by rw [htb]; exact zb)] at HSY
            clear za zb hpl hip
            go_wp2_with fail
            refine (HIP.out _).mono ?_
            rintro e w5 ⟨rfl, rfl⟩
            go_wp2_with fail
            refine (HSY.out _).mono ?_
            rintro e w6 ⟨hb6, rfl⟩
            replace HBZ := Kept.mk (bstep HBZ.out hb6)
            clear hb6
            go_wp2_with fail
            refine (HAW.out _).mono ?_
            rintro e w9 ⟨hb9, rfl⟩
            have HB9 := Kept.mk (bstep HBZ.out hb9)
            clear hb9
            go_wp2
            go_ret
            exact ⟨HB9.out, rfl⟩
      · obtain rfl : false = ip := by rw [← hip]; exact (@decide_eq_false _ (Classical.propDecidable _) hpl).symm
        clear hpl hip
        go_wp2_with fail
        refine (HIP.out _).mono ?_
        rintro e w5 ⟨rfl, rfl⟩
        go_wp2_with fail
        refine (HAW.out _).mono ?_
        rintro e w9 ⟨hb9, rfl⟩
        have HB9 := Kept.mk (bstep HBZ.out hb9)
        clear hb9
        go_wp2
        go_ret
        exact ⟨HB9.out, rfl⟩
end Go.Proofs.YtalahdkhglagpaaGreat
