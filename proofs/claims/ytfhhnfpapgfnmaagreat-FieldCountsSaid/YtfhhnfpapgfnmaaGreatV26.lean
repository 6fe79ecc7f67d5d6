/-
  Texts of the proof, merged by program: Fct.
-/
import Derived.Test.YtfhhnfpapgfnmaaGreatV19
import Derived.Test.YtfhhnfpapgfnmaaGreatV24
import Derived.Test.YtfhhnfpapgfnmaaGreatV22
import Derived.Test.YtfhhnfpapgfnmaaGreatV23
import Derived.Test.YtfhhnfpapgfnmaaGreatV21
import Derived.Test.YtfhhnfpapgfnmaaGreatV4
import Derived.Test.YtfhhnfpapgfnmaaGreatV18
import Derived.Test.YtfhhnfpapgfnmaaGreatV25
set_option linter.unusedVariables false
set_option linter.unusedSimpArgs false
namespace Go.Proofs.YtfhhnfpapgfnmaaGreat
open Go Go.RowKit Go.Deep
/-- The decimal form of a number, read again. -/
theorem rparse_back2 (z : Int) {L : Nat} (h : (Dg.decN z.natAbs).length ≤ 64 * L + 1) (hL : L ≤ 1000000) (w : World) : Calls Tryz.prog 11 #[.string ⟨(Dg.decZ z).toArray⟩] w (fun e w' => Below w.heap.size w w' ∧ ∃ v', e = .returned (.tuple #[v', .bool true]) ∧ ZV (64 * L + 3) w' v' z) := by
  have hl : (Dg.decZ z).length ≤ 64 * L + 2 := by
    unfold Dg.decZ
    split
    · simp only [List.length_cons]; omega
    · omega
  refine (rparse_any _ w (by show (Dg.decZ z).toArray.size ≤ _; simp; omega)).mono ?_
  rintro e w' ⟨hb, ⟨z', v', h1, rfl, hz⟩ | ⟨hno, rfl⟩⟩
  · have h2 : Dg.decZ z = Dg.decZ z' := by simpa using h1
    have h3 := Dg.decZ_inj h2
    subst h3
    refine ⟨hb, v', rfl, hz.mono ?_⟩
    have : (⟨(Dg.decZ z).toArray⟩ : ByteArray).data.toList.length = (Dg.decZ z).length := by simp
    omega
  · exact absurd (by simp) (hno z)
set_option maxRecDepth 20000 in
set_option maxHeartbeats 16000000 in
theorem fieldCounts_any (order degree : Int) (w : World) (o0 : -9223372036854775808 ≤ order) (o1 : order ≤ 9223372036854775807) (d0 : -9223372036854775808 ≤ degree) (d1 : degree ≤ 9223372036854775807) :
    Calls Tryz.prog 3 #[.int .i64 order, .int .i64 degree] w (RB w (.bool true)) := by
  have hnot : ∀ (x : Bool) (w : World), (Op.unary .not (.bool x)).run Tryz.prog w = .ok (.bool (!x)) w := fun _ _ => rfl
  have HAW := Kept.mk (fun W => awake_any W)
  go_enter Tryz.func3, Tryz.ntmps3
  go_wp2
  go_loopw [0, 1, 5] (fun ov dv kv wr => ∃ (t : Nat) (o d : Int), t ≤ 2 ∧ kv = .int .i64 t ∧ ov = .int .i64 o ∧ dv = .int .i64 d ∧ -9223372036854775808 ≤ o ∧ o ≤ 9223372036854775807 ∧ -9223372036854775808 ≤ d ∧ d ≤ 9223372036854775807 ∧ Kept (Below w.heap.size w wr)) (fun _ _ kv _ => 2 - (intOf kv).toNat)
  case atStart => exact ⟨0, order, degree, by omega, rfl, rfl, rfl, o0, o1, d0, d1, ⟨Below.refl _ _⟩⟩
  case round =>
    obtain ⟨t, o, d, ht, rfl, rfl, rfl, o0, o1, d0, d1, HW⟩ := hrel
    by_cases ht2 : t < 2
    · obtain ⟨U, hU⟩ : ∃ U, IntKind.u64.wrap d = U := ⟨_, rfl⟩
      have hU0 : 0 ≤ U ∧ U ≤ 18446744073709551615 := by rw [← hU, IntKind.wrap_u64]; omega
      obtain ⟨hU0, hU1⟩ := hU0
      have hu0 : 0 ≤ U % 12 := by omega
      have hu1 : U % 12 ≤ 11 := by omega
      have HFI := Kept.mk (fun W => firrs_any o d W o0 o1 d0 d1)
      have HRN := Kept.mk (fun W => rnew_any o W o0 o1)
      go_wp2_with fail
      refine (HFI.out _).mono ?_
      rintro e w1 ⟨hb1, hfr⟩
      have HB1 := Kept.mk (bstep HW.out hb1)
      clear hb1
      rcases hfr with ⟨hnf, rfl⟩ | ⟨hf, hdr, rfl⟩ | ⟨hf, q, n, rfl, hq6, rfl, hn1, hn, s1, a1, k1, c1, rfl, hI1⟩
      · have HZ1 : Kept (IntV 1 w1 (.agg #[.bool false, .slice none 0 0]) 0) := ⟨tzeroInt w1⟩
        have hal1 : Below w1.heap.size w1 (w1.alloc (.cells #[.bool false, .slice none 0 0] 24)) := (Below.refl _ _).alloc (Nat.le_refl _) _
        have hx1 : (w1.alloc (.cells #[.bool false, .slice none 0 0] 24)).heap[w1.heap.size]? = some (.cells #[.bool false, .slice none 0 0] 24 (0, 0)) := heap_alloc_new w1 _
        obtain ⟨g6, hg6⟩ : ∃ g, w1.heap.size = g := ⟨_, rfl⟩
        have HI2 := Kept.mk (HZ1.out.below hal1)
        have HB2 := Kept.mk (bstep HB1.out hal1)
        go_wp2_with fail
        obtain ⟨W2, hW2⟩ : ∃ W, w1.alloc (.cells #[.bool false, .slice none 0 0] 24) = W := ⟨_, rfl⟩
        rw [hW2] at HI2 HB2 hx1
        try rw [hW2]
        rw [hg6] at hx1
        try rw [hg6]
        have HX2 := Kept.mk hx1
        clear hg6 hW2 hal1 hx1 HZ1 HB1
        refine (HRN.out _).mono ?_
        rintro e w3 ⟨hb3, ⟨D, hD, hq, rfl⟩ | ⟨hno, rfl⟩⟩
        
        · exact absurd ⟨D, hD, hq⟩ hnf
        · have HI3 := Kept.mk (HI2.out.below hb3)
          have HB3 := Kept.mk (bstep HB2.out hb3)
          have hal3 : Below w3.heap.size w3 (w3.alloc (rzbox)) := (Below.refl _ _).alloc (Nat.le_refl _) _
          have HI4 := Kept.mk (HI3.out.below hal3)
          have HB4 := Kept.mk (bstep HB3.out hal3)
          obtain ⟨p0, p1, _, _⟩ := two_cells ((hal3.block _ (by have := HX2.out; have := (Array.getElem?_eq_some_iff.1 this).1; have := hb3.size; omega)).trans ((hb3.block _ (Array.getElem?_eq_some_iff.1 HX2.out).1).trans HX2.out))
          clear hb3 hal3
          go_wp2_with fail
          refine (sign_any HI4.out).mono ?_
          rintro e w5 ⟨hb5, rfl⟩
          have HB5 := Kept.mk (bstep HB4.out hb5)
          clear hb5 p0 p1
          go_wp2
          go_roundw
          case rel => exact ⟨t + 1, 7, 1 + U % 12, by omega, by go_num, by first | rfl | (congr 1; omega), by first | rfl | (congr 1; omega), by omega, by omega, by omega, by omega, HB5⟩
          case measure => simp [intOf] <;> omega
      · have HZ1 : Kept (IntV 1 w1 (.agg #[.bool false, .slice none 0 0]) 0) := ⟨tzeroInt w1⟩
        have hal1 : Below w1.heap.size w1 (w1.alloc (.cells #[.bool false, .slice none 0 0] 24)) := (Below.refl _ _).alloc (Nat.le_refl _) _
        have hx1 : (w1.alloc (.cells #[.bool false, .slice none 0 0] 24)).heap[w1.heap.size]? = some (.cells #[.bool false, .slice none 0 0] 24 (0, 0)) := heap_alloc_new w1 _
        obtain ⟨g6, hg6⟩ : ∃ g, w1.heap.size = g := ⟨_, rfl⟩
        have HI2 := Kept.mk (HZ1.out.below hal1)
        have HB2 := Kept.mk (bstep HB1.out hal1)
        go_wp2_with fail
        obtain ⟨W2, hW2⟩ : ∃ W, w1.alloc (.cells #[.bool false, .slice none 0 0] 24) = W := ⟨_, rfl⟩
        rw [hW2] at HI2 HB2 hx1
        try rw [hW2]
        rw [hg6] at hx1
        try rw [hg6]
        have HX2 := Kept.mk hx1
        clear hg6 hW2 hal1 hx1 HZ1 HB1
        refine (HRN.out _).mono ?_
        rintro e w3 ⟨hb3, ⟨D, hD, hq, rfl⟩ | ⟨hno, rfl⟩⟩
        
        · rcases hdr with hdr | hdr
          · have HI3 := Kept.mk (HI2.out.below hb3)
            have HB3 := Kept.mk (bstep HB2.out hb3)
            have hal3 : Below w3.heap.size w3 (w3.alloc (rbox D.q D.p D.k D.m)) := (Below.refl _ _).alloc (Nat.le_refl _) _
            have HI4 := Kept.mk (HI3.out.below hal3)
            have HB4 := Kept.mk (bstep HB3.out hal3)
            obtain ⟨p0, p1, _, _⟩ := two_cells ((hal3.block _ (by have := HX2.out; have := (Array.getElem?_eq_some_iff.1 this).1; have := hb3.size; omega)).trans ((hb3.block _ (Array.getElem?_eq_some_iff.1 HX2.out).1).trans HX2.out))
            clear hb3 hal3
            go_wp2_with fail
            refine (sign_any HI4.out).mono ?_
            rintro e w5 ⟨hb5, rfl⟩
            have HB5 := Kept.mk (bstep HB4.out hb5)
            clear hb5 p0 p1
            go_wp2
            go_roundw
            case rel => exact ⟨t + 1, 7, 1 + U % 12, by omega, by go_num, by first | rfl | (congr 1; omega), by first | rfl | (congr 1; omega), by omega, by omega, by omega, by omega, HB5⟩
            case measure => simp [intOf] <;> omega
          · have HI3 := Kept.mk (HI2.out.below hb3)
            have HB3 := Kept.mk (bstep HB2.out hb3)
            have hal3 : Below w3.heap.size w3 (w3.alloc (rbox D.q D.p D.k D.m)) := (Below.refl _ _).alloc (Nat.le_refl _) _
            have HI4 := Kept.mk (HI3.out.below hal3)
            have HB4 := Kept.mk (bstep HB3.out hal3)
            obtain ⟨p0, p1, _, _⟩ := two_cells ((hal3.block _ (by have := HX2.out; have := (Array.getElem?_eq_some_iff.1 this).1; have := hb3.size; omega)).trans ((hb3.block _ (Array.getElem?_eq_some_iff.1 HX2.out).1).trans HX2.out))
            clear hb3 hal3
            go_wp2_with fail
            refine (sign_any HI4.out).mono ?_
            rintro e w5 ⟨hb5, rfl⟩
            have HB5 := Kept.mk (bstep HB4.out hb5)
            clear hb5 p0 p1
            go_wp2
            go_roundw
            case rel => exact ⟨t + 1, 7, 1 + U % 12, by omega, by go_num, by first | rfl | (congr 1; omega), by first | rfl | (congr 1; omega), by omega, by omega, by omega, by omega, HB5⟩
            case measure => simp [intOf] <;> omega
        · exact absurd hf hno
      · obtain ⟨II, hII⟩ : ∃ x, FFld.irrs q n = x := ⟨_, rfl⟩
        rw [hII] at hI1
        have hlen := hI1.len
        have HI1 := Kept.mk hI1
        have HLN := Kept.mk hlen
        clear hI1 hlen
        have hal1 : Below w1.heap.size w1 (w1.alloc (.cells #[.bool s1, .slice a1 k1 c1] 24)) := (Below.refl _ _).alloc (Nat.le_refl _) _
        have hx1 : (w1.alloc (.cells #[.bool s1, .slice a1 k1 c1] 24)).heap[w1.heap.size]? = some (.cells #[.bool s1, .slice a1 k1 c1] 24 (0, 0)) := heap_alloc_new w1 _
        obtain ⟨g6, hg6⟩ : ∃ g, w1.heap.size = g := ⟨_, rfl⟩
        have HI2 := Kept.mk (HI1.out.below hal1)
        have HB2 := Kept.mk (bstep HB1.out hal1)
        go_wp2_with fail
        obtain ⟨W2, hW2⟩ : ∃ W, w1.alloc (.cells #[.bool s1, .slice a1 k1 c1] 24) = W := ⟨_, rfl⟩
        rw [hW2] at HI2 HB2 hx1
        try rw [hW2]
        rw [hg6] at hx1
        try rw [hg6]
        have HX2 := Kept.mk hx1
        clear hg6 hW2 hal1 hx1 HI1 HB1
        refine (HRN.out _).mono ?_
        rintro e w3 ⟨hb3, ⟨D, hD, hq, rfl⟩ | ⟨hno, rfl⟩⟩
        · have HQN : Kept (q = D.q) := ⟨by omega⟩
          have HQ := Kept.mk hq
          clear hq
          have HI3 := Kept.mk (HI2.out.below hb3)
          have HB3 := Kept.mk (bstep HB2.out hb3)
          have hx3 := (hb3.block _ (Array.getElem?_eq_some_iff.1 HX2.out).1).trans HX2.out
          have hal3 : Below w3.heap.size w3 (w3.alloc (rbox D.q D.p D.k D.m)) := (Below.refl _ _).alloc (Nat.le_refl _) _
          have HI4 := Kept.mk (HI3.out.below hal3)
          have HB4 := Kept.mk (bstep HB3.out hal3)
          obtain ⟨i0, i1, _, _⟩ := two_cells ((hal3.block _ (Array.getElem?_eq_some_iff.1 hx3).1).trans hx3)
          obtain ⟨i2, _, _, _⟩ := four_cells (heap_alloc_new w3 (rbox D.q D.p D.k D.m))
          obtain ⟨l, hl⟩ : ∃ l, l = Dg.decZ II := ⟨_, rfl⟩
          have HL := Kept.mk hl
          have t1 : ((⟨l.toArray⟩ : ByteArray).toList == (⟨l.toArray⟩ : ByteArray).toList) = true := by simp
          have g1 : decide ((n : Int) < 1) = false := by rw [decide_eq_false_iff_not]; omega
          have g2 : decide ((40 : Int) < n) = false := by rw [decide_eq_false_iff_not]; omega
          have HRI := Kept.mk (rirrs_any q hq6 n hn1 hn)
          rw [hII] at HRI
          have HII := Kept.mk hII
          clear hb3 hal3 hx3 hl hII hf
          obtain ⟨g8, hg8⟩ : ∃ g, w3.heap.size = g := ⟨_, rfl⟩
          go_upto_region 6 with fail
          obtain ⟨W4, hW4⟩ : ∃ W, w3.alloc (rbox D.q D.p D.k D.m) = W := ⟨_, rfl⟩
          rw [hW4] at HI4 HB4 i0 i1 i2
          try rw [hW4]
          rw [hg8] at i2
          try rw [hg8]
          have hns : W4.heap.size = g8 + 1 := by rw [← hW4, ← hg8]; simp
          clear hW4 hg8
          rw [← HQN.out] at i2
          have HS1 : Kept (∀ W, Below W4.heap.size W4 W → Calls Tryz.prog 7 #[.agg #[.bool s1, .slice a1 k1 c1]] W (RB W (.string ⟨l.toArray⟩))) := ⟨fun W hW => by rw [HL.out]; exact string_any (HI4.out.below hW) (by decide)⟩
          have HS2 : Kept (∀ W, Below W4.heap.size W4 W → Calls Tryz.prog 9 #[.int .i64 q, .int .i64 n] W (RetZ (10000 * n) W II)) := ⟨fun W _ => HRI.out W⟩
          have HS3 : Kept (∀ W v, ZV (10000 * n) W v II → Calls Tryz.prog 8 #[v] W (RB W (.string ⟨l.toArray⟩))) := ⟨fun W v hv => by rw [HL.out]; exact rstr_any hv (by omega)⟩
          go_region_held3 (fun w' => w'.cell? ⟨g6, 0, none⟩ = some (.bool s1) ∧ w'.cell? ⟨g6, 1, none⟩ = some (.slice a1 k1 c1) ∧ w'.cell? ⟨g8, 0, none⟩ = some (.int .i64 q))
            (first | exact ⟨jc0, jc1, jc2⟩ | exact ⟨jb0, jb1, jb2⟩ | exact ⟨ja0, ja1, ja2⟩ | exact ⟨i0, i1, i2⟩ | go_keep)
            ((first
              | (go_at_call 7; (with_reducible refine (HS1.out _ ?h1).mono ?_); (case h1 => exact (by first | exact Below.refl _ _ | exact (Below.refl _ _).drew)); rintro e v1 ⟨hb1, rfl⟩; have hy1 := Kept.mk (bstep (show Below W4.heap.size W4 _ from (by first | exact Below.refl _ _ | exact (Below.refl _ _).drew)) hb1); have ja0 := belowCell hy1.out i0; have ja1 := belowCell hy1.out i1; have ja2 := belowCell hy1.out i2; clear hb1)
              | (go_at_call 9; (with_reducible refine (HS2.out _ ?h1).mono ?_); (case h1 => exact hy1.out); rintro e v2 ⟨hb2, va, rfl, hva⟩; have hy2 := Kept.mk (bstep (show Below W4.heap.size W4 _ from hy1.out) hb2); have jb0 := belowCell hy2.out i0; have jb1 := belowCell hy2.out i1; have jb2 := belowCell hy2.out i2; clear hb2)
              | (go_at_call 8; (with_reducible refine (HS3.out _ _ ?h1).mono ?_); (case h1 => first | exact hva | exact hva.below (Below.refl _ _).drew); rintro e v3 ⟨hb3, rfl⟩; have hy3 := Kept.mk (bstep (show Below W4.heap.size W4 _ from hy2.out) hb3); have jc0 := belowCell hy3.out i0; have jc1 := belowCell hy3.out i1; have jc2 := belowCell hy3.out i2; clear hb3)))
          have HB5 := Kept.mk (bstep HB4.out hy3.out)
          clear HI4 HB4 hy1 hy2 hy3 i0 i1 i2 HS1 HS2 HS3 hva HL t1 HI2 HI3 HB2 HB3 HX2
          clear ja0 ja1 ja2 jb0 jb1 jb2 jc0 jc1 jc2
          have HO0 := Kept.mk (fun W => rof_any 0 W (by omega) (by omega))
          go_wp2_with fail
          refine (HO0.out _).mono ?_
          rintro e w6 ⟨hb6, v6, rfl, hz6⟩
          obtain ⟨s6, sv6, rfl, hs6, hn6⟩ := hz6
          obtain ⟨o6, k6, c6, rfl, _, _⟩ := hn6.form
          have HZ6 : Kept (ZV 64 w6 (.agg #[.bool s6, .slice o6 k6 c6]) (0)) := ⟨⟨_, _, rfl, hs6, hn6⟩⟩
          clear hs6 hn6
          have HB6 := Kept.mk (bstep HB5.out hb6)
          clear hb6 HB5 HO0
          obtain ⟨W7, hW7⟩ : ∃ W, w6.alloc (.cells #[.bool s6, .slice o6 k6 c6] 38) = W := ⟨_, rfl⟩
          have hal : Below w6.heap.size w6 W7 := by rw [← hW7]; exact (Below.refl _ _).alloc (Nat.le_refl _) _
          have HZ7 := Kept.mk ((HZ6.out.below hal).mono (show 64 ≤ 44868 + 1 by omega))
          have HB7 := Kept.mk (bstep HB6.out hal)
          have H10 : Kept (W7.heap[w6.heap.size]? = some (.cells #[.bool s6, .slice o6 k6 c6] 38 (0, 0))) := ⟨by rw [← hW7]; exact heap_alloc_new w6 _⟩
          have hd0 : FFld.dsum (FFld.irrs q) n (1 - 1) = 0 := rfl
          have HZ7' : Kept (ZV (44868 + 1) W7 (.agg #[.bool s6, .slice o6 k6 c6]) (FFld.dsum (FFld.irrs q) n (1 - 1))) := ⟨by rw [hd0]; exact HZ7.out⟩
          obtain ⟨g10, hg10⟩ : ∃ g, w6.heap.size = g := ⟨_, rfl⟩
          have hgw : w.heap.size ≤ g10 := by rw [← hg10]; exact HB6.out.size
          rw [hg10] at H10
          clear HZ6 HZ7 HB6 hal hd0
          go_wp2
          try rw [hW7]
          try rw [hg10]
          clear hW7 hg10
          have HFQ := Kept.mk (fun (m : Nat) (h : m ≤ 40) W => firrs_any (q : Int) (m : Int) W o0 o1 (by omega) (by omega))
          have HOF := Kept.mk (fun (m : Int) (h1 : 0 ≤ m) (h2 : m ≤ 70000) W => rof_any m W (by omega) (by omega))
          go_loopw [11] (fun iv wr => ∃ (i : Nat) (s : Bool) (ro : Option Addr) (rk rc : Nat), 1 ≤ i ∧ i ≤ n + 1 ∧ iv = .int .i64 i ∧ Kept (Below w.heap.size w wr) ∧ Kept (wr.heap[g10]? = some (.cells #[.bool s, .slice ro rk rc] 38 (0, 0))) ∧ Kept (ZV (44868 + i) wr (.agg #[.bool s, .slice ro rk rc]) (FFld.dsum (FFld.irrs q) n (i - 1)))) (fun iv _ => n + 1 - (intOf iv).toNat)
          case atStart => exact ⟨1, s6, o6, k6, c6, Nat.le_refl _, by omega, rfl, HB7, H10, HZ7'⟩
          case round =>
            clear HB7 H10 HZ7'
            obtain ⟨i, s, ro, rk, rc, hi1, hin, rfl, hbw, hb10, hZ⟩ := hrel
            have hgl : g10 < wr.heap.size := (Array.getElem?_eq_some_iff.1 hb10.out).1
            by_cases hlt : i ≤ n
            · obtain ⟨r, hr⟩ : ∃ r, n % i = r := ⟨_, rfl⟩
              have hds := dsum_at (FFld.irrs q) n hi1
              have er1 : (n : Int) % (i : Int) = r := by rw [← hr]; rfl
              have er2 : (n : Int).tmod (i : Int) = r := by rw [Int.tmod_eq_emod_of_nonneg (by omega)]; exact er1
              have hz1 : ¬ ((i : Int) = 0) := by omega
              have hz2 : ¬ (i = 0) := by omega
              have hz3 : ((i : Int) == 0) = false := by rw [beq_eq_false_iff_ne]; omega
              have hle : decide ((i : Int) ≤ n) = true := by rw [decide_eq_true_eq]; omega
              rw [hr] at hds
              by_cases h0 : r = 0
              · have e0 : ((r : Int) != 0) = false := by rw [h0]; rfl
                rw [if_pos h0] at hds
                obtain ⟨fi, hfi⟩ : ∃ x, FFld.irrs q i = x := ⟨_, rfl⟩
                rw [hfi] at hds
                obtain ⟨sm, hsm⟩ : ∃ x, FFld.dsum (FFld.irrs q) n (i - 1) = x := ⟨_, rfl⟩
                have HNX : Kept (FFld.dsum (FFld.irrs q) n (i + 1 - 1) = sm + fi * (i : Int)) := ⟨by rw [Nat.add_sub_cancel, hds, hsm, Int.mul_comm]⟩
                rw [hsm] at hZ
                have HFI := Kept.mk hfi
                clear hr h0 hds hsm hfi
                go_wp2_with fail
                refine (HFQ.out i (by omega) _).mono ?_
                rintro e w8 ⟨hb8, hfr⟩
                have HB8 := Kept.mk hb8
                clear hb8
                rcases hfr with ⟨hnf, rfl⟩ | ⟨hf, hdr, rfl⟩ | ⟨hf, q', i', hqq, hq6', hii, hi1', hi4, s8, a8, k8, c8, rfl, hI8⟩
                · exact absurd ⟨D, hD, HQ.out⟩ hnf
                · omega
                · obtain rfl : q = q' := by omega
                  obtain rfl : i = i' := by omega
                  rw [HFI.out] at hI8
                  have HLN8 := Kept.mk hI8.len
                  have HI8 := Kept.mk hI8
                  clear hI8 hf hqq hii hi1' hi4 hq6'
                  obtain ⟨l8, hl8⟩ : ∃ l, l = Dg.decZ fi := ⟨_, rfl⟩
                  have HL8 := Kept.mk hl8
                  have hal8 : Below w8.heap.size w8 (w8.alloc (.cells #[.bool s8, .slice a8 k8 c8] 24)) := (Below.refl _ _).alloc (Nat.le_refl _) _
                  obtain ⟨p0, p1, _, _⟩ := two_cells (heap_alloc_new w8 (.cells #[.bool s8, .slice a8 k8 c8] 24))
                  have HI9 := Kept.mk (HI8.out.below hal8)
                  have HB9 := Kept.mk (bstep HB8.out hal8)
                  clear hal8 hl8
                  go_wp2_with fail
                  refine (string_any HI9.out (by decide)).mono ?_
                  rintro e w9 ⟨hb9, he9⟩
                  rw [← HL8.out] at he9
                  subst he9
                  have HB10 := Kept.mk (bstep HB9.out hb9)
                  unfold str
                  clear hb9 p0 p1 HI8 HI9 HB8 HB9
                  have HPA := Kept.mk (fun W => rparse_back2 fi (L := 700) HLN8.out (by decide) W)
                  rw [← HL8.out] at HPA
                  go_wp2_with fail
                  refine (HPA.out _).mono ?_
                  rintro e w11 ⟨hb11, v11, rfl, hz11⟩
                  obtain ⟨s11, sv11, rfl, hs11, hn11⟩ := hz11
                  obtain ⟨o11, k11, c11, rfl, _, _⟩ := hn11.form
                  have HZ11 : Kept (ZV (64 * 700 + 3) w11 (.agg #[.bool s11, .slice o11 k11 c11]) (fi)) := ⟨⟨_, _, rfl, hs11, hn11⟩⟩
                  clear hs11 hn11
                  have HB11 := Kept.mk (bstep HB10.out hb11)
                  clear hb11 HB10 HPA HLN8 HL8
                  have hal : Below w11.heap.size w11 (w11.alloc (.cells #[.bool s11, .slice o11 k11 c11] 38)) := (Below.refl _ _).alloc (Nat.le_refl _) _
                  have HZX := Kept.mk (HZ11.out.below hal)
                  have HB12 := Kept.mk (bstep HB11.out hal)
                  have HZS := Kept.mk (hZ.out.below HB12.out)
                  obtain ⟨i0, i1, _, _⟩ := two_cells (heap_alloc_new w11 (.cells #[.bool s11, .slice o11 k11 c11] 38))
                  have hg14l : g10 < w11.heap.size := by have := HB11.out.size; omega
                  have HT10 := Kept.mk ((HB12.out.block _ hgl).trans hb10.out)
                  obtain ⟨z0, z1, y0, y1⟩ := two_cells HT10.out
                  clear hal HZ11 HB11
                  have ez : ((0 : Int) != 0) = false := rfl
                  go_upto_region 17 with fail
                  obtain ⟨W12, hW12⟩ : ∃ W, w11.alloc (.cells #[.bool s11, .slice o11 k11 c11] 38) = W := ⟨_, rfl⟩
                  obtain ⟨g14, hg14⟩ : ∃ g, w11.heap.size = g := ⟨_, rfl⟩
                  rw [hW12] at HZX HB12 HZS i0 i1 HT10 z0 z1 y0 y1
                  try rw [hW12]
                  have hlw : W12.heap.size = g14 + 1 := by rw [← hW12, ← hg14]; simp
                  rw [hg14] at i0 i1 hg14l
                  try rw [hg14]
                  clear hW12 hg14
                  have HOI := Kept.mk (HOF.out i (by omega) (by omega))
                  have hbs : Below wr.heap.size wr W12 := HB12.out
                  have hne : ¬ g14 = g10 := by omega
                  have hne' : ¬ g10 = g14 := by omega
                  refine wp_region_held_drew (S := fun w' => w'.cell? ⟨g14, 0, none⟩ = some (.bool s11) ∧ w'.cell? ⟨g14, 1, none⟩ = some (.slice o11 k11 c11)) (by kernel_rfl) ⟨i0, i1⟩ (fun hHeld => ?_)
                  refine wpAnyH_take (i := 1) (v := ?_) rfl (by kernel_rfl) (by kernel_rfl) (by kernel_rfl) (fun _ _ _ h => h) (Or.inl ⟨by rfl, ?_⟩) (by assumption) ?_
                  rotate_left
                  · (intro w hSw; (try dsimp only at hSw); go_simp; (try with_reducible rfl))
                  try simp only [Act.put, List.getElem_toArray, List.getElem_cons_succ, List.getElem_cons_zero, List.setIfInBounds_toArray, List.set_cons_zero, List.set_cons_succ]
                  refine wpAnyH_take (i := 2) (v := ?_) rfl (by kernel_rfl) (by kernel_rfl) (by kernel_rfl) (fun _ _ _ h => h) (Or.inl ⟨by rfl, ?_⟩) (by assumption) ?_
                  rotate_left
                  · (intro w hSw; (try dsimp only at hSw); go_simp; (try with_reducible rfl))
                  try simp only [Act.put, List.getElem_toArray, List.getElem_cons_succ, List.getElem_cons_zero, List.setIfInBounds_toArray, List.set_cons_zero, List.set_cons_succ]
                  refine wpAnyH_ready (rs := [0, 3]) (by kernel_rfl) (by simp) ?_
                  refine AllReadyH.cons rfl (fun K hK => ?_) (AllReadyH.cons rfl (fun K hK => ?_) AllReadyH.nil)
                  · go_simp
                    refine hK.out _ _ ⟨i0, i1⟩ (fun hHeld => ?_)
                    clear hK K
                    try simp only [Act.put, List.getElem_toArray, List.getElem_cons_succ, List.getElem_cons_zero, List.setIfInBounds_toArray, List.set_cons_zero, List.set_cons_succ]
                    refine wpAnyH_ready (rs := [3]) (by kernel_rfl) (by simp) ?_
                    refine (AllReadyH.cons rfl (fun K hK => ?_) AllReadyH.nil)
                    go_simp
                    refine (HOI.out _).mono ?_
                    rintro e wa ⟨hba, va, rfl, hza⟩
                    have RA : Kept (Below W12.heap.size W12 wa) := ⟨(Below.refl _ _).drew.trans hba⟩
                    obtain ⟨sA, svA, rfl, hsA, hnA⟩ := hza
                    obtain ⟨oA, kA, cA, rfl, _, _⟩ := hnA.form
                    have HZA : Kept (ZV 64 wa (.agg #[.bool sA, .slice oA kA cA]) ((i : Int))) := ⟨⟨_, _, rfl, hsA, hnA⟩⟩
                    clear hsA hnA
                    have a0 := belowCell RA.out i0
                    have za0 := belowCell RA.out z0
                    have za1 := belowCell RA.out z1
                    have a1' := belowCell RA.out i1
                    clear hba
                    refine hK.out _ _ ⟨a0, a1'⟩ (fun hHeld => ?_)
                    clear hK K
                    try simp only [Act.put, List.getElem_toArray, List.getElem_cons_succ, List.getElem_cons_zero, List.setIfInBounds_toArray, List.set_cons_zero, List.set_cons_succ]
                    refine wpAnyH_ready (rs := [4]) (by kernel_rfl) (by simp) ?_
                    refine (AllReadyH.cons rfl (fun K hK => ?_) AllReadyH.nil)
                    go_simp
                    refine (rmulz_any (HZX.out.below RA.out) HZA.out (by omega) (by omega)).mono ?_
                    rintro e wb ⟨hbb, vb, rfl, hzb⟩
                    have RB1 := Kept.mk (bstep RA.out hbb)
                    obtain ⟨sB, svB, rfl, hsB, hnB⟩ := hzb
                    obtain ⟨oB, kB, cB, rfl, _, _⟩ := hnB.form
                    have HZB : Kept (ZV (64 * 700 + 3 + 64) wb (.agg #[.bool sB, .slice oB kB cB]) (fi * (i : Int))) := ⟨⟨_, _, rfl, hsB, hnB⟩⟩
                    clear hsB hnB
                    have b0 := belowCell RB1.out i0
                    have zb0 := belowCell RB1.out z0
                    have zb1 := belowCell RB1.out z1
                    have b1 := belowCell RB1.out i1
                    clear hbb
                    refine hK.out _ _ ⟨b0, b1⟩ (fun hHeld => ?_)
                    clear hK K
                    try simp only [Act.put, List.getElem_toArray, List.getElem_cons_succ, List.getElem_cons_zero, List.setIfInBounds_toArray, List.set_cons_zero, List.set_cons_succ]
                    refine wpAnyH_ready (rs := [5]) (by kernel_rfl) (by simp) ?_
                    refine (AllReadyH.cons rfl (fun K hK => ?_) AllReadyH.nil)
                    go_simp
                    refine (raddz_any (HZS.out.below RB1.out) HZB.out (by omega) (by omega)).mono ?_
                    rintro e wc ⟨hbc, vc, rfl, hzc⟩
                    have RC := Kept.mk (bstep RB1.out hbc)
                    obtain ⟨sC, svC, rfl, hsC, hnC⟩ := hzc
                    obtain ⟨oC, kC, cC, rfl, _, _⟩ := hnC.form
                    have HZC : Kept (ZV (max (44868 + i) (64 * 700 + 3 + 64) + 1) wc (.agg #[.bool sC, .slice oC kC cC]) (sm + fi * (i : Int))) := ⟨⟨_, _, rfl, hsC, hnC⟩⟩
                    clear hsC hnC
                    have d0' := belowCell RC.out i0
                    have d1' := belowCell RC.out i1
                    have hx := (RC.out.block _ (Array.getElem?_eq_some_iff.1 HT10.out).1).trans HT10.out
                    obtain ⟨t0, t1, y0, y1⟩ := two_cells hx
                    have hset := two_set hx (.bool sC) (.slice oC kC cC)
                    have hgr : wc.grownBy ((wc.setCell ⟨g10, 0, none⟩ (.bool sC)).setCell ⟨g10, 1, none⟩ (.slice oC kC cC)) (some g10) := growSet (growSet (growRefl _ _) _ _) _ _
                    have f0 := hgr.cell (a := ⟨g14, 0, none⟩) d0' (by simp; omega)
                    have f1 := hgr.cell (a := ⟨g14, 1, none⟩) d1' (by simp; omega)
                    have HZ4 := Kept.mk ((HZC.out.keep hx (fun i m e => by rcases i with _ | _ | i <;> simp at e) hgr).mono (show max (44868 + i) (64 * 700 + 3 + 64) + 1 ≤ 44868 + (i + 1) by omega))
                    have HB4 := Kept.mk ((((hbw.out.trans ((bstep hbs RC.out).mono hbw.out.size))).setCell (p := ⟨g10, 0, none⟩) hgw (.bool sC)).setCell (p := ⟨g10, 1, none⟩) hgw (.slice oC kC cC))
                    have HS4 := Kept.mk hset
                    clear hbc hset hgr
                    refine hK.out _ _ ⟨d0', d1'⟩ (fun hHeld => ?_)
                    clear hK K
                    try simp only [Act.put, List.getElem_toArray, List.getElem_cons_succ, List.getElem_cons_zero, List.setIfInBounds_toArray, List.set_cons_zero, List.set_cons_succ]
                    refine wpAnyH_ready (rs := [6]) (by kernel_rfl) (by simp) ?_
                    refine (AllReadyH.cons rfl (fun K hK => ?_) AllReadyH.nil)
                    go_simp
                    refine hK.out _ _ ⟨f0, f1⟩ (fun hHeld => ?_)
                    clear hK K
                    try simp only [Act.put, List.getElem_toArray, List.getElem_cons_succ, List.getElem_cons_zero, List.setIfInBounds_toArray, List.set_cons_zero, List.set_cons_succ]
                    refine wpAnyH_done (by kernel_rfl) ?_ _
                    go_wp2
                    go_roundw
                    case rel => exact ⟨i + 1, sC, oC, kC, cC, by omega, by omega, by go_num, HB4, HS4, by rw [HNX.out]; exact HZ4⟩
                    case measure => simp [intOf] <;> omega
                  · go_simp
                    refine (HOI.out _).mono ?_
                    rintro e wa ⟨hba, va, rfl, hza⟩
                    have RA : Kept (Below W12.heap.size W12 wa) := ⟨(Below.refl _ _).drew.trans hba⟩
                    obtain ⟨sA, svA, rfl, hsA, hnA⟩ := hza
                    obtain ⟨oA, kA, cA, rfl, _, _⟩ := hnA.form
                    have HZA : Kept (ZV 64 wa (.agg #[.bool sA, .slice oA kA cA]) ((i : Int))) := ⟨⟨_, _, rfl, hsA, hnA⟩⟩
                    clear hsA hnA
                    have a0 := belowCell RA.out i0
                    have za0 := belowCell RA.out z0
                    have za1 := belowCell RA.out z1
                    have a1' := belowCell RA.out i1
                    clear hba
                    refine hK.out _ _ ⟨a0, a1'⟩ (fun hHeld => ?_)
                    clear hK K
                    try simp only [Act.put, List.getElem_toArray, List.getElem_cons_succ, List.getElem_cons_zero, List.setIfInBounds_toArray, List.set_cons_zero, List.set_cons_succ]
                    refine wpAnyH_ready (rs := [0, 4]) (by kernel_rfl) (by simp) ?_
                    refine AllReadyH.cons rfl (fun K hK => ?_) (AllReadyH.cons rfl (fun K hK => ?_) AllReadyH.nil)
                    · go_simp
                      refine hK.out _ _ ⟨a0, a1'⟩ (fun hHeld => ?_)
                      clear hK K
                      try simp only [Act.put, List.getElem_toArray, List.getElem_cons_succ, List.getElem_cons_zero, List.setIfInBounds_toArray, List.set_cons_zero, List.set_cons_succ]
                      refine wpAnyH_ready (rs := [4]) (by kernel_rfl) (by simp) ?_
                      refine (AllReadyH.cons rfl (fun K hK => ?_) AllReadyH.nil)
                      go_simp
                      refine (rmulz_any (HZX.out.below RA.out) HZA.out (by omega) (by omega)).mono ?_
                      rintro e wb ⟨hbb, vb, rfl, hzb⟩
                      have RB1 := Kept.mk (bstep RA.out hbb)
                      obtain ⟨sB, svB, rfl, hsB, hnB⟩ := hzb
                      obtain ⟨oB, kB, cB, rfl, _, _⟩ := hnB.form
                      have HZB : Kept (ZV (64 * 700 + 3 + 64) wb (.agg #[.bool sB, .slice oB kB cB]) (fi * (i : Int))) := ⟨⟨_, _, rfl, hsB, hnB⟩⟩
                      clear hsB hnB
                      have b0 := belowCell RB1.out i0
                      have zb0 := belowCell RB1.out z0
                      have zb1 := belowCell RB1.out z1
                      have b1 := belowCell RB1.out i1
                      clear hbb
                      refine hK.out _ _ ⟨b0, b1⟩ (fun hHeld => ?_)
                      clear hK K
                      try simp only [Act.put, List.getElem_toArray, List.getElem_cons_succ, List.getElem_cons_zero, List.setIfInBounds_toArray, List.set_cons_zero, List.set_cons_succ]
                      refine wpAnyH_ready (rs := [5]) (by kernel_rfl) (by simp) ?_
                      refine (AllReadyH.cons rfl (fun K hK => ?_) AllReadyH.nil)
                      go_simp
                      refine (raddz_any (HZS.out.below RB1.out) HZB.out (by omega) (by omega)).mono ?_
                      rintro e wc ⟨hbc, vc, rfl, hzc⟩
                      have RC := Kept.mk (bstep RB1.out hbc)
                      obtain ⟨sC, svC, rfl, hsC, hnC⟩ := hzc
                      obtain ⟨oC, kC, cC, rfl, _, _⟩ := hnC.form
                      have HZC : Kept (ZV (max (44868 + i) (64 * 700 + 3 + 64) + 1) wc (.agg #[.bool sC, .slice oC kC cC]) (sm + fi * (i : Int))) := ⟨⟨_, _, rfl, hsC, hnC⟩⟩
                      clear hsC hnC
                      have d0' := belowCell RC.out i0
                      have d1' := belowCell RC.out i1
                      have hx := (RC.out.block _ (Array.getElem?_eq_some_iff.1 HT10.out).1).trans HT10.out
                      obtain ⟨t0, t1, y0, y1⟩ := two_cells hx
                      have hset := two_set hx (.bool sC) (.slice oC kC cC)
                      have hgr : wc.grownBy ((wc.setCell ⟨g10, 0, none⟩ (.bool sC)).setCell ⟨g10, 1, none⟩ (.slice oC kC cC)) (some g10) := growSet (growSet (growRefl _ _) _ _) _ _
                      have f0 := hgr.cell (a := ⟨g14, 0, none⟩) d0' (by simp; omega)
                      have f1 := hgr.cell (a := ⟨g14, 1, none⟩) d1' (by simp; omega)
                      have HZ4 := Kept.mk ((HZC.out.keep hx (fun i m e => by rcases i with _ | _ | i <;> simp at e) hgr).mono (show max (44868 + i) (64 * 700 + 3 + 64) + 1 ≤ 44868 + (i + 1) by omega))
                      have HB4 := Kept.mk ((((hbw.out.trans ((bstep hbs RC.out).mono hbw.out.size))).setCell (p := ⟨g10, 0, none⟩) hgw (.bool sC)).setCell (p := ⟨g10, 1, none⟩) hgw (.slice oC kC cC))
                      have HS4 := Kept.mk hset
                      clear hbc hset hgr
                      refine hK.out _ _ ⟨d0', d1'⟩ (fun hHeld => ?_)
                      clear hK K
                      try simp only [Act.put, List.getElem_toArray, List.getElem_cons_succ, List.getElem_cons_zero, List.setIfInBounds_toArray, List.set_cons_zero, List.set_cons_succ]
                      refine wpAnyH_ready (rs := [6]) (by kernel_rfl) (by simp) ?_
                      refine (AllReadyH.cons rfl (fun K hK => ?_) AllReadyH.nil)
                      go_simp
                      refine hK.out _ _ ⟨f0, f1⟩ (fun hHeld => ?_)
                      clear hK K
                      try simp only [Act.put, List.getElem_toArray, List.getElem_cons_succ, List.getElem_cons_zero, List.setIfInBounds_toArray, List.set_cons_zero, List.set_cons_succ]
                      refine wpAnyH_done (by kernel_rfl) ?_ _
                      go_wp2
                      go_roundw
                      case rel => exact ⟨i + 1, sC, oC, kC, cC, by omega, by omega, by go_num, HB4, HS4, by rw [HNX.out]; exact HZ4⟩
                      case measure => simp [intOf] <;> omega
                    · go_simp
                      refine (rmulz_any (HZX.out.below RA.out) HZA.out (by omega) (by omega)).mono ?_
                      rintro e wb ⟨hbb, vb, rfl, hzb⟩
                      have RB1 := Kept.mk (bstep RA.out hbb)
                      obtain ⟨sB, svB, rfl, hsB, hnB⟩ := hzb
                      obtain ⟨oB, kB, cB, rfl, _, _⟩ := hnB.form
                      have HZB : Kept (ZV (64 * 700 + 3 + 64) wb (.agg #[.bool sB, .slice oB kB cB]) (fi * (i : Int))) := ⟨⟨_, _, rfl, hsB, hnB⟩⟩
                      clear hsB hnB
                      have b0 := belowCell RB1.out i0
                      have zb0 := belowCell RB1.out z0
                      have zb1 := belowCell RB1.out z1
                      have b1 := belowCell RB1.out i1
                      clear hbb
                      refine hK.out _ _ ⟨b0, b1⟩ (fun hHeld => ?_)
                      clear hK K
                      try simp only [Act.put, List.getElem_toArray, List.getElem_cons_succ, List.getElem_cons_zero, List.setIfInBounds_toArray, List.set_cons_zero, List.set_cons_succ]
                      refine wpAnyH_ready (rs := [0]) (by kernel_rfl) (by simp) ?_
                      refine (AllReadyH.cons rfl (fun K hK => ?_) AllReadyH.nil)
                      go_simp
                      refine hK.out _ _ ⟨b0, b1⟩ (fun hHeld => ?_)
                      clear hK K
                      try simp only [Act.put, List.getElem_toArray, List.getElem_cons_succ, List.getElem_cons_zero, List.setIfInBounds_toArray, List.set_cons_zero, List.set_cons_succ]
                      refine wpAnyH_ready (rs := [5]) (by kernel_rfl) (by simp) ?_
                      refine (AllReadyH.cons rfl (fun K hK => ?_) AllReadyH.nil)
                      go_simp
                      refine (raddz_any (HZS.out.below RB1.out) HZB.out (by omega) (by omega)).mono ?_
                      rintro e wc ⟨hbc, vc, rfl, hzc⟩
                      have RC := Kept.mk (bstep RB1.out hbc)
                      obtain ⟨sC, svC, rfl, hsC, hnC⟩ := hzc
                      obtain ⟨oC, kC, cC, rfl, _, _⟩ := hnC.form
                      have HZC : Kept (ZV (max (44868 + i) (64 * 700 + 3 + 64) + 1) wc (.agg #[.bool sC, .slice oC kC cC]) (sm + fi * (i : Int))) := ⟨⟨_, _, rfl, hsC, hnC⟩⟩
                      clear hsC hnC
                      have d0' := belowCell RC.out i0
                      have d1' := belowCell RC.out i1
                      have hx := (RC.out.block _ (Array.getElem?_eq_some_iff.1 HT10.out).1).trans HT10.out
                      obtain ⟨t0, t1, y0, y1⟩ := two_cells hx
                      have hset := two_set hx (.bool sC) (.slice oC kC cC)
                      have hgr : wc.grownBy ((wc.setCell ⟨g10, 0, none⟩ (.bool sC)).setCell ⟨g10, 1, none⟩ (.slice oC kC cC)) (some g10) := growSet (growSet (growRefl _ _) _ _) _ _
                      have f0 := hgr.cell (a := ⟨g14, 0, none⟩) d0' (by simp; omega)
                      have f1 := hgr.cell (a := ⟨g14, 1, none⟩) d1' (by simp; omega)
                      have HZ4 := Kept.mk ((HZC.out.keep hx (fun i m e => by rcases i with _ | _ | i <;> simp at e) hgr).mono (show max (44868 + i) (64 * 700 + 3 + 64) + 1 ≤ 44868 + (i + 1) by omega))
                      have HB4 := Kept.mk ((((hbw.out.trans ((bstep hbs RC.out).mono hbw.out.size))).setCell (p := ⟨g10, 0, none⟩) hgw (.bool sC)).setCell (p := ⟨g10, 1, none⟩) hgw (.slice oC kC cC))
                      have HS4 := Kept.mk hset
                      clear hbc hset hgr
                      refine hK.out _ _ ⟨d0', d1'⟩ (fun hHeld => ?_)
                      clear hK K
                      try simp only [Act.put, List.getElem_toArray, List.getElem_cons_succ, List.getElem_cons_zero, List.setIfInBounds_toArray, List.set_cons_zero, List.set_cons_succ]
                      refine wpAnyH_ready (rs := [6]) (by kernel_rfl) (by simp) ?_
                      refine (AllReadyH.cons rfl (fun K hK => ?_) AllReadyH.nil)
                      go_simp
                      refine hK.out _ _ ⟨f0, f1⟩ (fun hHeld => ?_)
                      clear hK K
                      try simp only [Act.put, List.getElem_toArray, List.getElem_cons_succ, List.getElem_cons_zero, List.setIfInBounds_toArray, List.set_cons_zero, List.set_cons_succ]
                      refine wpAnyH_done (by kernel_rfl) ?_ _
                      go_wp2
                      go_roundw
                      case rel => exact ⟨i + 1, sC, oC, kC, cC, by omega, by omega, by go_num, HB4, HS4, by rw [HNX.out]; exact HZ4⟩
                      case measure => simp [intOf] <;> omega
              · have e0 : ((r : Int) != 0) = true := by rw [bne_iff_ne]; omega
                rw [if_neg h0] at hds
                have HNX : Kept (ZV (44868 + (i + 1)) wr (.agg #[.bool s, .slice ro rk rc]) (FFld.dsum (FFld.irrs q) n (i + 1 - 1))) := ⟨by rw [Nat.add_sub_cancel, hds]; exact hZ.out.mono (by omega)⟩
                clear hr h0 hds
                go_wp2
                go_roundw
                case rel => exact ⟨i + 1, s, ro, rk, rc, by omega, by omega, by go_num, hbw, hb10, HNX⟩
                case measure => simp [intOf] <;> omega
            · obtain rfl : i = n + 1 := by omega
              have hle : decide (((n + 1 : Nat) : Int) ≤ n) = false := by rw [decide_eq_false_iff_not]; omega
              have hle2 : decide ((n : Int) + 1 ≤ n) = false := by rw [decide_eq_false_iff_not]; omega
              have HG := Kept.mk (FFld.gauss q hn1 hn)
              have HZQ : Kept (ZV (44868 + (n + 1)) wr (.agg #[.bool s, .slice ro rk rc]) ((q : Int) ^ n)) := ⟨by rw [← HG.out]; exact hZ.out⟩
              obtain ⟨i0, i1, _, _⟩ := two_cells hb10.out
              clear hZ HG
              obtain ⟨qn, hqn⟩ : ∃ x, (q : Int) ^ n = x := ⟨_, rfl⟩
              have HS1 : Kept (∀ W, Below wr.heap.size wr W → Calls Tryz.prog 10 #[.int .i64 q] W (RetZ 64 W q)) := ⟨fun W _ => HOF.out q (by omega) (by omega) W⟩
              have HS2 : Kept (∀ W v, ZV 64 W v q → Calls Tryz.prog 15 #[v, .int .i64 n] W (RetZ (64 + n * 64) W qn)) := ⟨fun W v hv => by rw [← hqn]; exact rpower_any hv (by omega) (by omega)⟩
              rw [hqn] at HZQ
              have HS3 : Kept (∀ W v, Below wr.heap.size wr W → ZV (64 + n * 64) W v qn → Calls Tryz.prog 14 #[.agg #[.bool s, .slice ro rk rc], v] W (RB W (.int .i64 0))) := ⟨fun W v hW hv => by
                have h := rcmpz_any (HZQ.out.below hW) hv (by omega) (by omega)
                rw [Dg.sg_eq] at h
                exact h⟩
              clear hqn HZQ
              go_upto_region 18 with fail
              go_region_held3 (fun w' => w'.cell? ⟨g10, 0, none⟩ = some (.bool s) ∧ w'.cell? ⟨g10, 1, none⟩ = some (.slice ro rk rc))
                (first | exact ⟨jc0, jc1⟩ | exact ⟨jb0, jb1⟩ | exact ⟨ja0, ja1⟩ | exact ⟨i0, i1⟩ | go_keep)
                ((first
                  | (go_at_call 10; (with_reducible refine (HS1.out _ ?h1).mono ?_); (case h1 => exact (by first | exact Below.refl _ _ | exact (Below.refl _ _).drew)); rintro e v1 ⟨hb1, va, rfl, hva⟩; have hy1 := Kept.mk (bstep (show Below wr.heap.size wr _ from (by first | exact Below.refl _ _ | exact (Below.refl _ _).drew)) hb1); have ja0 := belowCell hy1.out i0; have ja1 := belowCell hy1.out i1; clear hb1)
                  | (go_at_call 15; (with_reducible refine (HS2.out _ _ ?h1).mono ?_); (case h1 => first | exact hva | exact hva.below (Below.refl _ _).drew); rintro e v2 ⟨hb2, vb, rfl, hvb⟩; have hy2 := Kept.mk (bstep (show Below wr.heap.size wr _ from hy1.out) hb2); have jb0 := belowCell hy2.out i0; have jb1 := belowCell hy2.out i1; clear hb2)
                  | (go_at_call 14; (with_reducible refine (HS3.out _ _ ?h1 ?h2).mono ?_); (case h1 => exact hy2.out); (case h2 => first | exact hvb | exact hvb.below (Below.refl _ _).drew); rintro e v3 ⟨hb3, rfl⟩; have hy3 := Kept.mk (bstep (show Below wr.heap.size wr _ from hy2.out) hb3); have jc0 := belowCell hy3.out i0; have jc1 := belowCell hy3.out i1; clear hb3)))
              have HB13 := Kept.mk (bstep hbw.out hy3.out)
              clear hy1 hy2 hy3 HS1 HS2 HS3 hva hvb
              go_wp2
              go_roundw
              case rel => exact ⟨t + 1, 7, 1 + U % 12, by omega, by go_num, by first | rfl | (congr 1; omega), by first | rfl | (congr 1; omega), by omega, by omega, by omega, by omega, HB13⟩
              case measure => simp [intOf] <;> omega
        · exact absurd hf hno
    · obtain rfl : t = 2 := by omega
      go_wp2_with fail
      refine (HAW.out _).mono ?_
      rintro e w9 ⟨hb9, rfl⟩
      have HB9 := Kept.mk (bstep HW.out hb9)
      clear hb9
      go_wp2
      go_ret
      exact ⟨HB9.out, rfl⟩
end Go.Proofs.YtfhhnfpapgfnmaaGreat
