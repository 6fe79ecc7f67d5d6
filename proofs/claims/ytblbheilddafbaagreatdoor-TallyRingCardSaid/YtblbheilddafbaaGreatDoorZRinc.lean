/-
  Texts of the proof, merged by program: Rinw Rinc.
-/
import Derived.Test.YtblbheilddafbaaGreatDoorZRin1
import Derived.Test.YtblbheilddafbaaGreatDoorZRin2
import Derived.Test.YtblbheilddafbaaGreatDoorZRin3
import Derived.Test.YtblbheilddafbaaGreatDoorZRin4
import Derived.Test.YtblbheilddafbaaGreatDoorZRin5
import Derived.Test.YtblbheilddafbaaGreatDoorZ22
import Derived.SizedLaws
import Derived.ChangeMaps5
set_option linter.unusedVariables false
set_option linter.unusedSimpArgs false
namespace Go.Proofs.YtblbheilddafbaaGreatDoor
open Go Go.RowKit
set_option maxRecDepth 20000 in
set_option maxHeartbeats 4000000 in
theorem tallyRing_any (s t u : ByteArray) (w : World) (hs : s.size ≤ 140737488355328) (ht : t.size ≤ 140737488355328) (hu : u.size ≤ 140737488355328) :
    Calls Tryz.prog 15 #[.string s, .string t, .string u] w (RetV w (.bool true)) := by
  by_cases h : ∃ z1 z2 z3, s.data.toList = Dg.decZ z1 ∧ t.data.toList = Dg.decZ z2 ∧ u.data.toList = Dg.decZ z3
  · obtain ⟨z1, z2, z3, e1, e2, e3⟩ := h
    have inj : ∀ a b c, s.data.toList = Dg.decZ a → t.data.toList = Dg.decZ b → u.data.toList = Dg.decZ c → a = z1 ∧ b = z2 ∧ c = z3 := fun a b c h1 h2 h3 =>
      ⟨Dg.decZ_inj (h1.symm.trans e1), Dg.decZ_inj (h2.symm.trans e2), Dg.decZ_inj (h3.symm.trans e3)⟩
    rcases Int.lt_trichotomy z1 z2 with h12 | h12 | h12
    · rcases Int.lt_trichotomy z2 z3 with h23 | h23 | h23
      · exact ring_5 s t u w hs ht hu fun a b c h1 h2 h3 => by obtain ⟨rfl, rfl, rfl⟩ := inj a b c h1 h2 h3; exact ⟨h12, h23⟩
      · exact ring_3 s t u w hs ht hu fun a b c h1 h2 h3 => by obtain ⟨rfl, rfl, rfl⟩ := inj a b c h1 h2 h3; exact ⟨h12, h23⟩
      · exact ring_4 s t u w hs ht hu fun a b c h1 h2 h3 => by obtain ⟨rfl, rfl, rfl⟩ := inj a b c h1 h2 h3; exact ⟨h12, h23⟩
    · exact ring_1 s t u w hs ht hu fun a b c h1 h2 h3 => by obtain ⟨rfl, rfl, rfl⟩ := inj a b c h1 h2 h3; exact h12
    · exact ring_2 s t u w hs ht hu fun a b c h1 h2 h3 => by obtain ⟨rfl, rfl, rfl⟩ := inj a b c h1 h2 h3; exact h12
  · exact ring_1 s t u w hs ht hu fun a b c h1 h2 h3 => absurd ⟨a, b, c, h1, h2, h3⟩ h
end Go.Proofs.YtblbheilddafbaaGreatDoor

set_option linter.unusedVariables false
namespace Go.Proofs.YtblbheilddafbaaGreatDoor.tallyRing
open Go Go.ChangeShapes Go.WideShapes Go.ChangeAt Go.RowKit Go.Proofs.YtblbheilddafbaaGreatDoor
open Go.ChangeMaps (open_string shut_string)
set_option maxRecDepth 100000 in
theorem contract (H : Type) (enc : TypeId × Value → H) (W : World) (base : Nat) (args : Array Value) (ds gs : List (DataW H)) (before : List MemPlace)
    (hval : ∀ (j : Nat) t v, Tryz.f15.params[j]? = some t → args[j]? = some v → Value.okWide Tryz.prog W .any base t v)
    (hW : DataW.Whole enc Tryz.prog Tryz.f15.params.toList Rows.tallyRingSpec.vars false W args.toList ds gs before) (ts : List TypeId) (hsz : (DataW.weightsEach Tryz.prog (Tryz.f15.params.toList ++ ts) (ds ++ gs)).all (· ≤ reachBytes) = true) :
    Calls Tryz.prog 15 args W fun e W' => ∃ v, e = .returned v ∧ Rows.tallyRingSpec.post enc Tryz.prog Tryz.f15 false true false false W args v W' := by
  have hW' := hW
  obtain ⟨p, q, hA0, hV, rfl, hfz, hnd⟩ := hW
  have hA : DataW.TrodAll enc Tryz.prog W 0 (fun _ => true) true Tryz.f15.params.toList args.toList ds p := hA0
  rw [Tryz.params15] at hA hval hsz
  obtain ⟨v0, vs0, d0, ds0, p0, q0, hargs, rfl, rfl, h0, r0⟩ := trodAll_cons hA
  obtain ⟨v1, vs1, d1, ds1, p1, q1, rfl, rfl, rfl, h1, r1⟩ := trodAll_cons r0
  obtain ⟨v2, vs2, d2, ds2, p2, q2, rfl, rfl, rfl, h2, r2⟩ := trodAll_cons r1
  obtain ⟨rfl, rfl, rfl⟩ := trodAll_nil r2
  obtain rfl : args = #[v0, v1, v2] := Array.toList_inj.1 hargs
  obtain ⟨rfl, rfl⟩ := trodVars_none hV
  obtain ⟨a0, rfl, rfl, rfl, w0⟩ := open_string Tryz.underlying9 (hval 0 9 v0 rfl rfl) h0
  obtain ⟨a1, rfl, rfl, rfl, w1⟩ := open_string Tryz.underlying9 (hval 1 9 v1 rfl rfl) h1
  obtain ⟨a2, rfl, rfl, rfl, w2⟩ := open_string Tryz.underlying9 (hval 2 9 v2 rfl rfl) h2
  clear hA0
  simp only [List.append_nil] at hW'
  have hr0 : a0.size ≤ 140737488355328 := by
    have h := sized_string hsz (j := 0) (t := 9) (bytes := a0.data.toList) rfl rfl
    have hl : a0.data.toList.length = a0.size := Array.length_toList
    have hq := reachBytes_lt
    omega
  have hr1 : a1.size ≤ 140737488355328 := by
    have h := sized_string hsz (j := 1) (t := 9) (bytes := a1.data.toList) rfl rfl
    have hl : a1.data.toList.length = a1.size := Array.length_toList
    have hq := reachBytes_lt
    omega
  have hr2 : a2.size ≤ 140737488355328 := by
    have h := sized_string hsz (j := 2) (t := 9) (bytes := a2.data.toList) rfl rfl
    have hl : a2.data.toList.length = a2.size := Array.length_toList
    have hq := reachBytes_lt
    omega
  refine (tallyRing_any a0 a1 a2 W hr0 hr1 hr2).mono fun e W' ⟨hb, he⟩ => ?_
  subst he
  exact ⟨_, rfl, post_of_below (pa := []) (pv := []) hW' (fun _ _ _ => trodAll_cons_mk (shut_bool Tryz.underlying4 _) trodAll_mk0) (fun _ _ => trodAll_cons_mk (shut_string Tryz.underlying9 w0) (trodAll_cons_mk (shut_string Tryz.underlying9 w1) (trodAll_cons_mk (shut_string Tryz.underlying9 w2) trodAll_mk0))) (fun _ _ => rfl) rfl
    hb (ok_one (by kernel_rfl) rfl (okWide_bool_mk Tryz.underlying4 _))⟩
end Go.Proofs.YtblbheilddafbaaGreatDoor.tallyRing
