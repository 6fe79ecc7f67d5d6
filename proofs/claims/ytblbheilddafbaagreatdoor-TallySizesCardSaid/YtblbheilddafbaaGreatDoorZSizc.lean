/-
  Texts of the proof, merged by program: Sizw Sizc.
-/
import Derived.Test.YtblbheilddafbaaGreatDoorZSiz1
import Derived.Test.YtblbheilddafbaaGreatDoorZSiz2
import Derived.Test.YtblbheilddafbaaGreatDoorZSiz3
import Derived.Test.YtblbheilddafbaaGreatDoorZSiz4
import Derived.Test.YtblbheilddafbaaGreatDoorZ22
set_option linter.unusedVariables false
set_option linter.unusedSimpArgs false
namespace Go.Proofs.YtblbheilddafbaaGreatDoor
open Go Go.RowKit
set_option maxRecDepth 20000 in
set_option maxHeartbeats 4000000 in
theorem tallySizes_any (i k : Int) (w : World) (h0 : -9223372036854775808 ≤ i) (h1 : i ≤ 9223372036854775807) (h2 : -9223372036854775808 ≤ k) (h3 : k ≤ 9223372036854775807) :
    Calls Tryz.prog 14 #[.int .i64 i, .int .i64 k] w (RetV w (.bool true)) := by
  obtain ⟨U, hU⟩ : ∃ U, IntKind.u64.wrap i = U := ⟨_, rfl⟩
  obtain ⟨V, hV⟩ : ∃ V, IntKind.u64.wrap k = V := ⟨_, rfl⟩
  have hU0 : 0 ≤ U ∧ U ≤ 18446744073709551615 := by rw [← hU, IntKind.wrap_u64]; omega
  have hV0 : 0 ≤ V ∧ V ≤ 18446744073709551615 := by rw [← hV, IntKind.wrap_u64]; omega
  obtain ⟨hU0, hU1⟩ := hU0
  obtain ⟨hV0, hV1⟩ := hV0
  obtain ⟨m, hm⟩ : ∃ m : Nat, U % 10001 = m := ⟨(U % 10001).toNat, by omega⟩
  obtain ⟨n, hn⟩ : ∃ n : Nat, V % 10001 = n := ⟨(V % 10001).toNat, by omega⟩
  have hm1 : m ≤ 10000 := by omega
  have hn1 : n ≤ 10000 := by omega
  by_cases hm0 : 10000 ≤ m
  · by_cases hn0 : 10000 ≤ n
    · exact sizes_mm i k U V m n w h0 h1 h2 h3 hU hV hU0 hU1 hV0 hV1 hm hn hm1 hn1 hm0 hn0
    · exact sizes_mn i k U V m n w h0 h1 h2 h3 hU hV hU0 hU1 hV0 hV1 hm hn hm1 hn1 hm0 hn0
  · by_cases hn0 : 10000 ≤ n
    · exact sizes_nm i k U V m n w h0 h1 h2 h3 hU hV hU0 hU1 hV0 hV1 hm hn hm1 hn1 hm0 hn0
    · by_cases hmn : m + n < 10000
      · by_cases hm9 : 9999 ≤ m
        · exact sizes_y1 i k U V m n w h0 h1 h2 h3 hU hV hU0 hU1 hV0 hV1 hm hn hm1 hn1 hm0 hn0 hmn hm9
        · exact sizes_y0 i k U V m n w h0 h1 h2 h3 hU hV hU0 hU1 hV0 hV1 hm hn hm1 hn1 hm0 hn0 hmn hm9
      · by_cases hm9 : 9999 ≤ m
        · exact sizes_z1 i k U V m n w h0 h1 h2 h3 hU hV hU0 hU1 hV0 hV1 hm hn hm1 hn1 hm0 hn0 hmn hm9
        · exact sizes_z0 i k U V m n w h0 h1 h2 h3 hU hV hU0 hU1 hV0 hV1 hm hn hm1 hn1 hm0 hn0 hmn hm9
end Go.Proofs.YtblbheilddafbaaGreatDoor

set_option linter.unusedVariables false
namespace Go.Proofs.YtblbheilddafbaaGreatDoor.tallySizes
open Go Go.ChangeShapes Go.WideShapes Go.ChangeAt Go.RowKit Go.Proofs.YtblbheilddafbaaGreatDoor
set_option maxRecDepth 100000 in
theorem contract (H : Type) (enc : TypeId × Value → H) (W : World) (base : Nat) (args : Array Value) (ds gs : List (DataW H)) (before : List MemPlace)
    (hval : ∀ (j : Nat) t v, Tryz.f14.params[j]? = some t → args[j]? = some v → Value.okWide Tryz.prog W .any base t v)
    (hW : DataW.Whole enc Tryz.prog Tryz.f14.params.toList Rows.tallySizesSpec.vars false W args.toList ds gs before) :
    Calls Tryz.prog 14 args W fun e W' => ∃ v, e = .returned v ∧ Rows.tallySizesSpec.post enc Tryz.prog Tryz.f14 false true false false W args v W' := by
  have hW' := hW
  obtain ⟨p, q, hA0, hV, rfl, hfz, hnd⟩ := hW
  have hA : DataW.TrodAll enc Tryz.prog W 0 (fun _ => true) true Tryz.f14.params.toList args.toList ds p := hA0
  rw [Tryz.params14] at hA hval
  obtain ⟨v0, vs0, d0, ds0, p0, q0, hargs, rfl, rfl, h0, r0⟩ := trodAll_cons hA
  obtain ⟨v1, vs1, d1, ds1, p1, q1, rfl, rfl, rfl, h1, r1⟩ := trodAll_cons r0
  obtain ⟨rfl, rfl, rfl⟩ := trodAll_nil r1
  obtain rfl : args = #[v0, v1] := Array.toList_inj.1 hargs
  obtain ⟨rfl, rfl⟩ := trodVars_none hV
  obtain ⟨a0, rfl, rfl, rfl, w0⟩ := open_int Tryz.underlying3 (hval 0 3 v0 rfl rfl) h0
  obtain ⟨a1, rfl, rfl, rfl, w1⟩ := open_int Tryz.underlying3 (hval 1 3 v1 rfl rfl) h1
  clear hA0
  simp only [List.append_nil, List.nil_append] at hW'
  have hr0 := i64_bounds w0
  have hr1 := i64_bounds w1
  refine (tallySizes_any a0 a1 W hr0.1 hr0.2 hr1.1 hr1.2).mono fun e W' ⟨hb, he⟩ => ?_
  subst he
  exact ⟨_, rfl, post_of_below (pa := []) (pv := []) hW' (fun _ _ _ => trodAll_cons_mk (shut_bool Tryz.underlying4 _) trodAll_mk0) (fun _ _ => trodAll_cons_mk (shut_int Tryz.underlying3 w0) (trodAll_cons_mk (shut_int Tryz.underlying3 w1) trodAll_mk0)) (fun _ _ => rfl) rfl
    hb (ok_one (by kernel_rfl) rfl (okWide_bool_mk Tryz.underlying4 _))⟩
end Go.Proofs.YtblbheilddafbaaGreatDoor.tallySizes
