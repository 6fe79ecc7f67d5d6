import Derived.Test.YtblbheilddafbaaGreatDoorZ20
import Derived.Test.YtblbheilddafbaaGreatDoorZ21
import Derived.Test.YtblbheilddafbaaGreatDoorZ22
/-
  Texts of the proof, merged by program: Frm Frmc.
-/
set_option linter.unusedVariables false
set_option linter.unusedSimpArgs false
namespace Go.Proofs.YtblbheilddafbaaGreatDoor
open Go Go.RowKit
set_option maxRecDepth 20000 in
set_option maxHeartbeats 2000000 in
theorem tallyForms_any (n : Int) (w : World) (h0 : -9223372036854775808 ≤ n) (h1 : n ≤ 9223372036854775807) :
    Calls Tryz.prog 4 #[.int .i64 n] w (RetV w (.bool true)) := by
  have hfit : fits64 n = true := by unfold fits64; simp; omega
  have HV := Kept.mk (v64_yes hfit)
  have HFIT := Kept.mk hfit
  have hsm : smallB n.natAbs = true := small_word (by omega)
  have HSM := Kept.mk hsm
  have hz := decZ_len (L := 1) (z := n) (by omega)
  obtain ⟨l, hl⟩ : ∃ l, l = Dg.decZ n := ⟨_, rfl⟩
  rw [← hl] at hz
  have HL := Kept.mk hl
  have t1 : ((⟨l.toArray⟩ : ByteArray).toList == (⟨l.toArray⟩ : ByteArray).toList) = true := by simp
  have t2 : (n == n) = true := by simp
  clear hfit hsm hl
  go_enter Tryz.func4, Tryz.ntmps4
  go_wp2_with fail
  refine (of_any n _ h0 h1).mono ?_
  rintro e w1 ⟨hb1, v1, rfl, hI1⟩
  obtain ⟨s1, u1, rfl, hs1, hn1⟩ := hI1
  obtain ⟨o1, k1, c1, rfl⟩ := hn1.form
  have HB1 := Kept.mk hb1
  have HX1 : Kept (Bxs w1 [.cells #[.bool s1, .slice o1 k1 c1] 30] (w1.alloc (.cells #[.bool s1, .slice o1 k1 c1] 30))) := ⟨(Bxs.start w1).alloc (by simp) _⟩
  have HI1 : Kept (IntV 1 w1 (.agg #[.bool s1, .slice o1 k1 c1]) n) := ⟨⟨_, _, rfl, hs1, hn1⟩⟩
  clear hb1 hs1 hn1
  go_wp2_with fail
  refine (int64_any (HI1.out.below HX1.out.1)).mono ?_
  rintro e w2 ⟨hb2, he2⟩
  rw [HV.out, HFIT.out] at he2
  subst he2
  have HX2 := Kept.mk (HX1.out.below hb2)
  obtain ⟨a0, a1, _⟩ := two_cells HX2.out.b0
  clear hb2
  go_wp2_with fail
  refine (string_any (HI1.out.below HX2.out.1) (by decide)).mono ?_
  rintro e w3 ⟨hb3, he3⟩
  rw [← HL.out] at he3
  subst he3
  have HX3 := Kept.mk (HX2.out.below hb3)
  unfold str
  clear hb3 a0 a1
  go_wp2_with fail
  refine (parse_ok n HSM.out ⟨l.toArray⟩ (by rw [← HL.out]) _ (by show l.toArray.size ≤ _; simp; omega)).mono ?_
  rintro e w4 ⟨hb4, v4, rfl, hI4⟩
  obtain ⟨s4, u4, rfl, hs4, hn4⟩ := hI4
  obtain ⟨o4, k4, c4, rfl⟩ := hn4.form
  have HX4 := Kept.mk (HX3.out.below hb4)
  have HX4' : Kept (Bxs w4 [.cells #[.bool s4, .slice o4 k4 c4] 30] (w4.alloc (.cells #[.bool s4, .slice o4 k4 c4] 30))) := ⟨(Bxs.start w4).alloc (by simp) _⟩
  have HI4 : Kept (IntV 40000 w4 (.agg #[.bool s4, .slice o4 k4 c4]) n) := ⟨⟨_, _, rfl, hs4, hn4⟩⟩
  have HX5 := Kept.mk (HX4.out.below HX4'.out.1)
  obtain ⟨a0, a1, _⟩ := two_cells HX4.out.b0
  have hl4 := HX4.out.l1
  clear hb4 hs4 hn4
  go_wp2_with fail
  refine (string_any (HI1.out.below HX5.out.1) (by decide)).mono ?_
  rintro e w5 ⟨hb5, he5⟩
  rw [← HL.out] at he5
  subst he5
  have HX6 := Kept.mk (HX5.out.below hb5)
  have HY6 := Kept.mk (HX4'.out.below hb5)
  unfold str
  clear hb5 a0 a1
  go_wp2_with fail
  refine (rof_any n _ h0 h1).mono ?_
  rintro e w6 ⟨hb6, v6, rfl, hZ6⟩
  have HX7 := Kept.mk (HX6.out.below hb6)
  have HY7 := Kept.mk (HY6.out.below hb6)
  have HZ6 := Kept.mk hZ6
  clear hb6 hZ6
  go_wp2_with fail
  refine (rstr_any HZ6.out (by decide)).mono ?_
  rintro e w7 ⟨hb7, he7⟩
  rw [← HL.out] at he7
  subst he7
  have HX8 := Kept.mk (HX7.out.below hb7)
  have HY8 := Kept.mk (HY7.out.below hb7)
  unfold str
  obtain ⟨a0, a1, _⟩ := two_cells HX8.out.b0
  obtain ⟨b0, b1, _⟩ := two_cells HY8.out.b0
  clear hb7
  have hcm := cmp_any (HI4.out.below HY8.out.1) (HI1.out.below HX8.out.1)
  rw [Dg.sg_eq] at hcm
  have HCM := Kept.mk hcm
  clear hcm
  go_wp2_with fail
  refine HCM.out.mono ?_
  rintro e w8 ⟨hb8, rfl⟩
  have HX9 := Kept.mk (HX8.out.below hb8)
  clear hb8 a0 a1 b0 b1
  go_wp2_with fail
  refine (awake_any _).mono ?_
  rintro e w9 ⟨hb9, rfl⟩
  have HB9 := Kept.mk (HB1.out.trans ((HX9.out.below hb9).1.mono HB1.out.size))
  clear hb9
  go_wp2
  go_ret
  exact ⟨HB9.out, rfl⟩
end Go.Proofs.YtblbheilddafbaaGreatDoor

set_option linter.unusedVariables false
namespace Go.Proofs.YtblbheilddafbaaGreatDoor.tallyForms
open Go Go.ChangeShapes Go.WideShapes Go.ChangeAt Go.RowKit Go.Proofs.YtblbheilddafbaaGreatDoor
set_option maxRecDepth 100000 in
theorem contract (H : Type) (enc : TypeId × Value → H) (W : World) (base : Nat) (args : Array Value) (ds gs : List (DataW H)) (before : List MemPlace)
    (hval : ∀ (j : Nat) t v, Tryz.f4.params[j]? = some t → args[j]? = some v → Value.okWide Tryz.prog W .any base t v)
    (hW : DataW.Whole enc Tryz.prog Tryz.f4.params.toList Rows.tallyFormsSpec.vars false W args.toList ds gs before) :
    Calls Tryz.prog 4 args W fun e W' => ∃ v, e = .returned v ∧ Rows.tallyFormsSpec.post enc Tryz.prog Tryz.f4 false true false false W args v W' := by
  have hW' := hW
  obtain ⟨p, q, hA0, hV, rfl, hfz, hnd⟩ := hW
  have hA : DataW.TrodAll enc Tryz.prog W 0 (fun _ => true) true Tryz.f4.params.toList args.toList ds p := hA0
  rw [Tryz.params4] at hA hval
  obtain ⟨v0, vs0, d0, ds0, p0, q0, hargs, rfl, rfl, h0, r0⟩ := trodAll_cons hA
  obtain ⟨rfl, rfl, rfl⟩ := trodAll_nil r0
  obtain rfl : args = #[v0] := Array.toList_inj.1 hargs
  obtain ⟨rfl, rfl⟩ := trodVars_none hV
  obtain ⟨a0, rfl, rfl, rfl, w0⟩ := open_int Tryz.underlying2 (hval 0 2 v0 rfl rfl) h0
  clear hA0
  simp only [List.append_nil] at hW'
  have hr := i64_bounds w0
  refine (tallyForms_any a0 W hr.1 hr.2).mono fun e W' ⟨hb, he⟩ => ?_
  subst he
  exact ⟨_, rfl, post_of_below (pa := []) (pv := []) hW' (fun _ _ _ => trodAll_cons_mk (shut_bool Tryz.underlying4 _) trodAll_mk0) (fun _ _ => trodAll_cons_mk (shut_int Tryz.underlying2 w0) trodAll_mk0) (fun _ _ => rfl) rfl
    hb (ok_one (by kernel_rfl) rfl (okWide_bool_mk Tryz.underlying4 _))⟩
end Go.Proofs.YtblbheilddafbaaGreatDoor.tallyForms
