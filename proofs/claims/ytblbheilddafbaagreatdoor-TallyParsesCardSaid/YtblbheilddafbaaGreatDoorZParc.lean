/-
  Texts of the proof, merged by program: Par Parc.
-/
import Derived.Test.YtblbheilddafbaaGreatDoorZRi6
import Derived.Test.YtblbheilddafbaaGreatDoorZ22
import Derived.SizedLaws
import Derived.ChangeMaps5
set_option linter.unusedVariables false
set_option linter.unusedSimpArgs false
namespace Go.Proofs.YtblbheilddafbaaGreatDoor
open Go Go.RowKit
theorem small_12000 : smallB ((TP 12000 : Nat) : Int) = true := by decide +kernel
theorem str_back {t : ByteArray} {z : Int} (h : t.data.toList = Dg.decZ z) : str (Dg.decZ z) = .string t := by
  rw [← h]
  show Value.string ⟨t.data.toList.toArray⟩ = Value.string t
  rw [Array.toArray_toList]
theorem Hz.more {W : World} {g : Nat} {x y : Value} (h : Hz W g x y) (o : Obj) : Hz (W.alloc o) g x y := (heap_alloc_old W o (Array.getElem?_eq_some_iff.1 h).1).trans h
set_option maxRecDepth 20000 in
set_option maxHeartbeats 8000000 in
theorem parses_le (s : ByteArray) (w : World) (hs : s.size ≤ 140737488355328) (hl : (s.size : Int) ≤ 13000) :
    Calls Tryz.prog 3 #[.string s] w (RetV w (.bool true)) := by
  have HW : Kept (Below w.heap.size w w) := ⟨Below.refl _ _⟩
  have hnot : ∀ (x : Bool) (w : World), (Op.unary .not (.bool x)).run Tryz.prog w = .ok (.bool (!x)) w := fun _ _ => rfl
  have hd13 : decide ((13000 : Int) < s.size) = false := decide_eq_false (by omega)
  have hts : s.size ≤ 13000 := by omega
  go_enter Tryz.func3, Tryz.ntmps3
  go_wp2_with fail
  refine (rparse_any s _ (by omega)).mono ?_
  rintro e w1 ⟨hb1, hc1⟩
  replace HW := Kept.mk (HW.out.trans (Below.mono hb1 HW.out.size))
  clear hb1
  rcases hc1 with ⟨z, v1, hz, rfl, hZ1⟩ | ⟨hno, rfl⟩
  · skip
    obtain ⟨s1, u1, rfl, hs1, hn1⟩ := hZ1
    obtain ⟨o1, k1, c1, rfl, _, _⟩ := hn1.form
    have hJ : ZV 13001 w1 (.agg #[.bool s1, .slice o1 k1 c1]) z := ZV.mono ⟨_, _, rfl, hs1, hn1⟩ (by have hq : s.data.toList.length = s.size := Array.length_toList; omega)
    have hal1 : Below w1.heap.size w1 (w1.alloc (.cells #[.bool s1, .slice o1 k1 c1] 25)) := (Below.refl _ _).alloc (Nat.le_refl _) _
    replace HW := Kept.mk (HW.out.trans (Below.mono hal1 HW.out.size))
    have HBx : Kept (Hz (w1.alloc (.cells #[.bool s1, .slice o1 k1 c1] 25)) w1.heap.size (.bool s1) (.slice o1 k1 c1)) := ⟨Hz.new _ _ _ _ rfl⟩
    have HIx := Kept.mk (hJ.below hal1)
    have HZ := Kept.mk hz
    clear hal1 hs1 hn1 hJ hz
    go_wp2_with fail
    refine (parse_any s _ (by omega)).mono ?_
    rintro e w2 ⟨hb2, hc2⟩
    replace HBx := Kept.mk (HBx.out.below hb2)
    replace HIx := Kept.mk (HIx.out.below hb2)
    replace HW := Kept.mk (HW.out.trans (Below.mono hb2 HW.out.size))
    clear hb2
    rcases hc2 with ⟨z', v2, hz', hsm, rfl, hI2⟩ | ⟨z', hz', hsm, rfl⟩ | ⟨hno, _⟩
    · skip
      obtain rfl : z = z' := Dg.decZ_inj (HZ.out.symm.trans hz')
      obtain ⟨s2, u2, rfl, hs2, hn2⟩ := hI2.fit hsm
      obtain ⟨o2, k2, c2, rfl⟩ := hn2.form
      have hK2 : IntV 625 w2 (.agg #[.bool s2, .slice o2 k2 c2]) z := ⟨_, _, rfl, hs2, hn2⟩
      have HSM := Kept.mk hsm
      clear hz' hs2 hn2 hI2 hsm
      have hal3 : Below w2.heap.size w2 (w2.alloc (.cells #[.bool s2, .slice o2 k2 c2] 30)) := (Below.refl _ _).alloc (Nat.le_refl _) _
      replace HBx := Kept.mk (HBx.out.below hal3)
      replace HIx := Kept.mk (HIx.out.below hal3)
      replace HW := Kept.mk (HW.out.trans (Below.mono hal3 HW.out.size))
      have HBa : Kept (Hb (w2.alloc (.cells #[.bool s2, .slice o2 k2 c2] 30)) w2.heap.size (.bool s2) (.slice o2 k2 c2)) := ⟨Hb.new _ _ _ _ rfl⟩
      have HIa : Kept (IntV 625 (w2.alloc (.cells #[.bool s2, .slice o2 k2 c2] 30)) (.agg #[.bool s2, .slice o2 k2 c2]) z) := ⟨hK2.below hal3⟩
      clear hal3 hK2
      by_cases h12 : (s.size : Int) ≤ 12000
      · skip
        have hd12 : decide ((12000 : Int) < s.size) = false := decide_eq_false (by omega)
        clear h12
        obtain ⟨n64, hn64⟩ : ∃ n, v64 z = n := ⟨_, rfl⟩
        obtain ⟨f64, hf64⟩ : ∃ f, fits64 z = f := ⟨_, rfl⟩
        have HN64 := Kept.mk hn64
        have HF64 := Kept.mk hf64
        clear hn64 hf64
        obtain ⟨p5, q5, -, -⟩ := two_cells HBa.out
        go_wp2_with fail
        refine (int64_any HIa.out).mono ?_
        rintro e w4 ⟨hb4, he4⟩
        rw [HN64.out, HF64.out] at he4
        subst he4
        replace HBx := Kept.mk (HBx.out.below hb4)
        replace HIx := Kept.mk (HIx.out.below hb4)
        replace HBa := Kept.mk (HBa.out.below hb4)
        replace HIa := Kept.mk (HIa.out.below hb4)
        replace HW := Kept.mk (HW.out.trans (Below.mono hb4 HW.out.size))
        clear hb4 p5 q5
        obtain ⟨p7, q7, -, -⟩ := two_cells HBx.out
        go_wp2_with fail
        refine (ri64_any HIx.out (by decide)).mono ?_
        rintro e w6 ⟨hb6, he6⟩
        rw [HN64.out, HF64.out] at he6
        subst he6
        replace HBx := Kept.mk (HBx.out.below hb6)
        replace HIx := Kept.mk (HIx.out.below hb6)
        replace HBa := Kept.mk (HBa.out.below hb6)
        replace HIa := Kept.mk (HIa.out.below hb6)
        replace HW := Kept.mk (HW.out.trans (Below.mono hb6 HW.out.size))
        clear hb6 p7 q7
        go_wp2_with fail
        obtain ⟨σ, hσ⟩ : ∃ σ, Dg.sg z 0 = σ := ⟨_, rfl⟩
        have hss : (σ == σ) = true := by simp
        have hnn : (n64 == n64) = true := by simp
        have hff : (f64 == f64) = true := by simp
        have htt : (s.toList == s.toList) = true := by simp
        have HST : Kept (∀ W, Below w6.heap.size w6 W → Calls Tryz.prog 20 #[(.agg #[.bool s2, .slice o2 k2 c2])] W (RetV W (.string s))) := ⟨fun W h => by have hc := string_any (HIa.out.below h) (by decide); rw [← str_back HZ.out]; exact hc⟩
        have HSa : Kept (∀ W, Below w6.heap.size w6 W → Calls Tryz.prog 25 #[(.agg #[.bool s2, .slice o2 k2 c2])] W (RetV W (.int .i64 σ))) := ⟨fun W h => by have hc := sign_any (HIa.out.below h); rw [hσ] at hc; exact hc⟩
        have HSx : Kept (∀ W, Below w6.heap.size w6 W → Calls Tryz.prog 26 #[(.agg #[.bool s1, .slice o1 k1 c1])] W (RetV W (.int .i64 σ))) := ⟨fun W h => by have hc := rsignz_any (HIx.out.below h); rw [hσ] at hc; exact hc⟩
        have HNa : Kept (∀ W, Below w6.heap.size w6 W → Calls Tryz.prog 28 #[(.agg #[.bool s2, .slice o2 k2 c2])] W (RetInt 625 W (-z))) := ⟨fun W h => neg_any (HIa.out.below h) (by decide)⟩
        have HNx : Kept (∀ W, Below w6.heap.size w6 W → Calls Tryz.prog 29 #[(.agg #[.bool s1, .slice o1 k1 c1])] W (RetZ 13001 W (-z))) := ⟨fun W h => rnegz_any (HIx.out.below h)⟩
        have HIS : Kept (∀ W v u, IntV 625 W v (-z) → ZV 13001 W u (-z) → Calls Tryz.prog 27 #[v, u] W (RetV W (.bool true))) := ⟨fun W v u h h' => is_any h h' (by decide) (by decide)⟩
        clear hσ
        obtain ⟨i0a, i1a, -, -⟩ := two_cells HBa.out
        obtain ⟨i0x, i1x, -, -⟩ := two_cells HBx.out
        go_region_held3 (fun w' => w'.cell? ⟨w2.heap.size, 0, none⟩ = some (.bool s2) ∧ w'.cell? ⟨w2.heap.size, 1, none⟩ = some (.slice o2 k2 c2) ∧ w'.cell? ⟨w1.heap.size, 0, none⟩ = some (.bool s1) ∧ w'.cell? ⟨w1.heap.size, 1, none⟩ = some (.slice o1 k1 c1))
          (first | exact ⟨q0a, q1a, q0x, q1x⟩ | exact ⟨p0a, p1a, p0x, p1x⟩ | exact ⟨n0a, n1a, n0x, n1x⟩ | exact ⟨m0a, m1a, m0x, m1x⟩ | exact ⟨l0a, l1a, l0x, l1x⟩ | exact ⟨k0a, k1a, k0x, k1x⟩ | exact ⟨j0a, j1a, j0x, j1x⟩ | exact ⟨i0a, i1a, i0x, i1x⟩ | go_keep)
          ((first
            | (go_at_call 20; (with_reducible refine (HST.out _ ?h1).mono ?_); (case h1 => exact ((Bxs.start w6).drew).1); rintro e w1' ⟨hb1', rfl⟩; have hy1 := Bxs.below ((Bxs.start w6).drew) hb1'; obtain ⟨j0a, j1a, -, -⟩ := two_cells (HBa.out.below hy1.1); obtain ⟨j0x, j1x, -, -⟩ := two_cells (HBx.out.below hy1.1))
            | (go_at_call 25; (with_reducible refine (HSa.out _ ?h1).mono ?_); (case h1 => exact hy1.1); rintro e w2' ⟨hb2', rfl⟩; have hy2 := Bxs.below hy1 hb2'; obtain ⟨k0a, k1a, -, -⟩ := two_cells (HBa.out.below hy2.1); obtain ⟨k0x, k1x, -, -⟩ := two_cells (HBx.out.below hy2.1))
            | (go_at_call 26; (with_reducible refine (HSx.out _ ?h1).mono ?_); (case h1 => exact hy2.1); rintro e w3' ⟨hb3', rfl⟩; have hy3 := Bxs.below hy2 hb3'; obtain ⟨l0a, l1a, -, -⟩ := two_cells (HBa.out.below hy3.1); obtain ⟨l0x, l1x, -, -⟩ := two_cells (HBx.out.below hy3.1))
            | (go_at_call 28; (with_reducible refine (HNa.out _ ?h1).mono ?_); (case h1 => exact hy3.1); rintro e w4' ⟨hb4', v4', rfl, hV4⟩; have hy4 := Bxs.below hy3 hb4'; obtain ⟨m0a, m1a, -, -⟩ := two_cells (HBa.out.below hy4.1); obtain ⟨m0x, m1x, -, -⟩ := two_cells (HBx.out.below hy4.1))
            | (go_at_call 29; (with_reducible refine (HNx.out _ ?h1).mono ?_); (case h1 => exact hy4.1); rintro e w5' ⟨hb5', v5', rfl, hV5⟩; have hy5 := Bxs.below hy4 hb5'; obtain ⟨n0a, n1a, -, -⟩ := two_cells (HBa.out.below hy5.1); obtain ⟨n0x, n1x, -, -⟩ := two_cells (HBx.out.below hy5.1))
            | (go_at_call 27; (with_reducible refine (HIS.out _ _ _ ?h1 ?h2).mono ?_); (case h1 => exact hV4.below hb5'); (case h2 => exact hV5); rintro e w6' ⟨hb6', rfl⟩; have hy6 := Bxs.below hy5 hb6'; obtain ⟨p0a, p1a, -, -⟩ := two_cells (HBa.out.below hy6.1); obtain ⟨p0x, p1x, -, -⟩ := two_cells (HBx.out.below hy6.1))
            | (go_at_call 21; refine (awake_any _).mono ?_; rintro e w7' ⟨hb7', rfl⟩; have hy7 := Bxs.below hy6 hb7'; obtain ⟨q0a, q1a, -, -⟩ := two_cells (HBa.out.below hy7.1); obtain ⟨q0x, q1x, -, -⟩ := two_cells (HBx.out.below hy7.1))))
        have hfin : Below w.heap.size w w7' := HW.out.trans (hy7.1.mono HW.out.size)
        have HFIN := Kept.mk hfin
        go_wp2
        go_ret
        exact ⟨HFIN.out, rfl⟩
      · skip
        have hd12 : decide ((12000 : Int) < s.size) = true := decide_eq_true (by omega)
        clear h12
        obtain ⟨p5, q5, -, -⟩ := two_cells HBx.out
        go_wp2_with fail
        refine (rsmall_any2 HIx.out).mono ?_
        rintro e w4 ⟨hb4, he4⟩
        rw [HSM.out] at he4
        subst he4
        replace HBx := Kept.mk (HBx.out.below hb4)
        replace HIx := Kept.mk (HIx.out.below hb4)
        replace HBa := Kept.mk (HBa.out.below hb4)
        replace HIa := Kept.mk (HIa.out.below hb4)
        replace HW := Kept.mk (HW.out.trans (Below.mono hb4 HW.out.size))
        clear hb4 p5 q5
        obtain ⟨n64, hn64⟩ : ∃ n, v64 z = n := ⟨_, rfl⟩
        obtain ⟨f64, hf64⟩ : ∃ f, fits64 z = f := ⟨_, rfl⟩
        have HN64 := Kept.mk hn64
        have HF64 := Kept.mk hf64
        clear hn64 hf64
        obtain ⟨p7, q7, -, -⟩ := two_cells HBa.out
        go_wp2_with fail
        refine (int64_any HIa.out).mono ?_
        rintro e w6 ⟨hb6, he6⟩
        rw [HN64.out, HF64.out] at he6
        subst he6
        replace HBx := Kept.mk (HBx.out.below hb6)
        replace HIx := Kept.mk (HIx.out.below hb6)
        replace HBa := Kept.mk (HBa.out.below hb6)
        replace HIa := Kept.mk (HIa.out.below hb6)
        replace HW := Kept.mk (HW.out.trans (Below.mono hb6 HW.out.size))
        clear hb6 p7 q7
        obtain ⟨p9, q9, -, -⟩ := two_cells HBx.out
        go_wp2_with fail
        refine (ri64_any HIx.out (by decide)).mono ?_
        rintro e w8 ⟨hb8, he8⟩
        rw [HN64.out, HF64.out] at he8
        subst he8
        replace HBx := Kept.mk (HBx.out.below hb8)
        replace HIx := Kept.mk (HIx.out.below hb8)
        replace HBa := Kept.mk (HBa.out.below hb8)
        replace HIa := Kept.mk (HIa.out.below hb8)
        replace HW := Kept.mk (HW.out.trans (Below.mono hb8 HW.out.size))
        clear hb8 p9 q9
        go_wp2_with fail
        obtain ⟨σ, hσ⟩ : ∃ σ, Dg.sg z 0 = σ := ⟨_, rfl⟩
        have hss : (σ == σ) = true := by simp
        have hnn : (n64 == n64) = true := by simp
        have hff : (f64 == f64) = true := by simp
        have htt : (s.toList == s.toList) = true := by simp
        have HST : Kept (∀ W, Below w8.heap.size w8 W → Calls Tryz.prog 20 #[(.agg #[.bool s2, .slice o2 k2 c2])] W (RetV W (.string s))) := ⟨fun W h => by have hc := string_any (HIa.out.below h) (by decide); rw [← str_back HZ.out]; exact hc⟩
        have HSa : Kept (∀ W, Below w8.heap.size w8 W → Calls Tryz.prog 25 #[(.agg #[.bool s2, .slice o2 k2 c2])] W (RetV W (.int .i64 σ))) := ⟨fun W h => by have hc := sign_any (HIa.out.below h); rw [hσ] at hc; exact hc⟩
        have HSx : Kept (∀ W, Below w8.heap.size w8 W → Calls Tryz.prog 26 #[(.agg #[.bool s1, .slice o1 k1 c1])] W (RetV W (.int .i64 σ))) := ⟨fun W h => by have hc := rsignz_any (HIx.out.below h); rw [hσ] at hc; exact hc⟩
        have HNa : Kept (∀ W, Below w8.heap.size w8 W → Calls Tryz.prog 28 #[(.agg #[.bool s2, .slice o2 k2 c2])] W (RetInt 625 W (-z))) := ⟨fun W h => neg_any (HIa.out.below h) (by decide)⟩
        have HNx : Kept (∀ W, Below w8.heap.size w8 W → Calls Tryz.prog 29 #[(.agg #[.bool s1, .slice o1 k1 c1])] W (RetZ 13001 W (-z))) := ⟨fun W h => rnegz_any (HIx.out.below h)⟩
        have HIS : Kept (∀ W v u, IntV 625 W v (-z) → ZV 13001 W u (-z) → Calls Tryz.prog 27 #[v, u] W (RetV W (.bool true))) := ⟨fun W v u h h' => is_any h h' (by decide) (by decide)⟩
        clear hσ
        obtain ⟨i0a, i1a, -, -⟩ := two_cells HBa.out
        obtain ⟨i0x, i1x, -, -⟩ := two_cells HBx.out
        go_region_held3 (fun w' => w'.cell? ⟨w2.heap.size, 0, none⟩ = some (.bool s2) ∧ w'.cell? ⟨w2.heap.size, 1, none⟩ = some (.slice o2 k2 c2) ∧ w'.cell? ⟨w1.heap.size, 0, none⟩ = some (.bool s1) ∧ w'.cell? ⟨w1.heap.size, 1, none⟩ = some (.slice o1 k1 c1))
          (first | exact ⟨q0a, q1a, q0x, q1x⟩ | exact ⟨p0a, p1a, p0x, p1x⟩ | exact ⟨n0a, n1a, n0x, n1x⟩ | exact ⟨m0a, m1a, m0x, m1x⟩ | exact ⟨l0a, l1a, l0x, l1x⟩ | exact ⟨k0a, k1a, k0x, k1x⟩ | exact ⟨j0a, j1a, j0x, j1x⟩ | exact ⟨i0a, i1a, i0x, i1x⟩ | go_keep)
          ((first
            | (go_at_call 20; (with_reducible refine (HST.out _ ?h1).mono ?_); (case h1 => exact ((Bxs.start w8).drew).1); rintro e w1' ⟨hb1', rfl⟩; have hy1 := Bxs.below ((Bxs.start w8).drew) hb1'; obtain ⟨j0a, j1a, -, -⟩ := two_cells (HBa.out.below hy1.1); obtain ⟨j0x, j1x, -, -⟩ := two_cells (HBx.out.below hy1.1))
            | (go_at_call 25; (with_reducible refine (HSa.out _ ?h1).mono ?_); (case h1 => exact hy1.1); rintro e w2' ⟨hb2', rfl⟩; have hy2 := Bxs.below hy1 hb2'; obtain ⟨k0a, k1a, -, -⟩ := two_cells (HBa.out.below hy2.1); obtain ⟨k0x, k1x, -, -⟩ := two_cells (HBx.out.below hy2.1))
            | (go_at_call 26; (with_reducible refine (HSx.out _ ?h1).mono ?_); (case h1 => exact hy2.1); rintro e w3' ⟨hb3', rfl⟩; have hy3 := Bxs.below hy2 hb3'; obtain ⟨l0a, l1a, -, -⟩ := two_cells (HBa.out.below hy3.1); obtain ⟨l0x, l1x, -, -⟩ := two_cells (HBx.out.below hy3.1))
            | (go_at_call 28; (with_reducible refine (HNa.out _ ?h1).mono ?_); (case h1 => exact hy3.1); rintro e w4' ⟨hb4', v4', rfl, hV4⟩; have hy4 := Bxs.below hy3 hb4'; obtain ⟨m0a, m1a, -, -⟩ := two_cells (HBa.out.below hy4.1); obtain ⟨m0x, m1x, -, -⟩ := two_cells (HBx.out.below hy4.1))
            | (go_at_call 29; (with_reducible refine (HNx.out _ ?h1).mono ?_); (case h1 => exact hy4.1); rintro e w5' ⟨hb5', v5', rfl, hV5⟩; have hy5 := Bxs.below hy4 hb5'; obtain ⟨n0a, n1a, -, -⟩ := two_cells (HBa.out.below hy5.1); obtain ⟨n0x, n1x, -, -⟩ := two_cells (HBx.out.below hy5.1))
            | (go_at_call 27; (with_reducible refine (HIS.out _ _ _ ?h1 ?h2).mono ?_); (case h1 => exact hV4.below hb5'); (case h2 => exact hV5); rintro e w6' ⟨hb6', rfl⟩; have hy6 := Bxs.below hy5 hb6'; obtain ⟨p0a, p1a, -, -⟩ := two_cells (HBa.out.below hy6.1); obtain ⟨p0x, p1x, -, -⟩ := two_cells (HBx.out.below hy6.1))
            | (go_at_call 21; refine (awake_any _).mono ?_; rintro e w7' ⟨hb7', rfl⟩; have hy7 := Bxs.below hy6 hb7'; obtain ⟨q0a, q1a, -, -⟩ := two_cells (HBa.out.below hy7.1); obtain ⟨q0x, q1x, -, -⟩ := two_cells (HBx.out.below hy7.1))))
        have hfin : Below w.heap.size w w7' := HW.out.trans (hy7.1.mono HW.out.size)
        have HFIN := Kept.mk hfin
        go_wp2
        go_ret
        exact ⟨HFIN.out, rfl⟩
    · skip
      obtain rfl : z = z' := Dg.decZ_inj (HZ.out.symm.trans hz')
      have HSM := Kept.mk hsm
      have h12 : (12000 : Int) < s.size := by
        apply Classical.byContradiction
        intro hc
        have hq : s.data.toList.length = s.size := Array.length_toList
        have hb := small_le small_12000 (dec_bound (n := 12000) (z := z) (by rw [← HZ.out]; omega))
        rw [hsm] at hb
        cases hb
      have hd12 : decide ((12000 : Int) < s.size) = true := decide_eq_true h12
      clear hz' hsm h12
      have hK2 : IntV 625 w2 (.agg #[.bool false, .slice none 0 0]) 0 := zeroInt w2
      have hal3 : Below w2.heap.size w2 (w2.alloc (.cells #[.bool false, .slice none 0 0] 30)) := (Below.refl _ _).alloc (Nat.le_refl _) _
      replace HBx := Kept.mk (HBx.out.below hal3)
      replace HIx := Kept.mk (HIx.out.below hal3)
      replace HW := Kept.mk (HW.out.trans (Below.mono hal3 HW.out.size))
      have HBa : Kept (Hb (w2.alloc (.cells #[.bool false, .slice none 0 0] 30)) w2.heap.size (.bool false) (.slice none 0 0)) := ⟨Hb.new _ _ _ _ rfl⟩
      have HIa : Kept (IntV 625 (w2.alloc (.cells #[.bool false, .slice none 0 0] 30)) (.agg #[.bool false, .slice none 0 0]) 0) := ⟨hK2.below hal3⟩
      clear hal3 hK2
      obtain ⟨p5, q5, -, -⟩ := two_cells HBx.out
      go_wp2_with fail
      refine (rsmall_any2 HIx.out).mono ?_
      rintro e w4 ⟨hb4, he4⟩
      rw [HSM.out] at he4
      subst he4
      replace HBx := Kept.mk (HBx.out.below hb4)
      replace HIx := Kept.mk (HIx.out.below hb4)
      replace HBa := Kept.mk (HBa.out.below hb4)
      replace HIa := Kept.mk (HIa.out.below hb4)
      replace HW := Kept.mk (HW.out.trans (Below.mono hb4 HW.out.size))
      clear hb4 p5 q5
      obtain ⟨p7, q7, -, -⟩ := two_cells HBa.out
      go_wp2_with fail
      refine (string_any HIa.out (by decide)).mono ?_
      rintro e w6 ⟨hb6, he6⟩
      rw [show str (Dg.decZ 0) = .string ⟨#[48]⟩ from rfl] at he6
      subst he6
      replace HBx := Kept.mk (HBx.out.below hb6)
      replace HIx := Kept.mk (HIx.out.below hb6)
      replace HBa := Kept.mk (HBa.out.below hb6)
      replace HIa := Kept.mk (HIa.out.below hb6)
      replace HW := Kept.mk (HW.out.trans (Below.mono hb6 HW.out.size))
      clear hb6 p7 q7
      go_wp2_with fail
      refine (awake_any _).mono ?_
      rintro e w8 ⟨hb8, he8⟩
      subst he8
      replace HBx := Kept.mk (HBx.out.below hb8)
      replace HIx := Kept.mk (HIx.out.below hb8)
      replace HBa := Kept.mk (HBa.out.below hb8)
      replace HIa := Kept.mk (HIa.out.below hb8)
      replace HW := Kept.mk (HW.out.trans (Below.mono hb8 HW.out.size))
      clear hb8 
      go_wp2
      go_ret
      exact ⟨HW.out, rfl⟩
    · exact absurd HZ.out (hno z)
  · skip
    have HNO := Kept.mk hno
    have hal1 : Below w1.heap.size w1 (w1.alloc (.cells #[.bool false, .slice none 0 0] 25)) := (Below.refl _ _).alloc (Nat.le_refl _) _
    replace HW := Kept.mk (HW.out.trans (Below.mono hal1 HW.out.size))
    clear hal1 hno
    go_wp2_with fail
    refine (parse_any s _ (by omega)).mono ?_
    rintro e w2 ⟨hb2, hc2⟩
    replace HW := Kept.mk (HW.out.trans (Below.mono hb2 HW.out.size))
    clear hb2
    rcases hc2 with ⟨z', v2, hz', hsm, rfl, hI2⟩ | ⟨z', hz', hsm, rfl⟩ | ⟨hno, rfl⟩
    · exact absurd hz' (HNO.out z')
    · exact absurd hz' (HNO.out z')
    · skip
      clear hno
      have hK2 : IntV 625 w2 (.agg #[.bool false, .slice none 0 0]) 0 := zeroInt w2
      have hal3 : Below w2.heap.size w2 (w2.alloc (.cells #[.bool false, .slice none 0 0] 30)) := (Below.refl _ _).alloc (Nat.le_refl _) _
      replace HW := Kept.mk (HW.out.trans (Below.mono hal3 HW.out.size))
      have HBa : Kept (Hb (w2.alloc (.cells #[.bool false, .slice none 0 0] 30)) w2.heap.size (.bool false) (.slice none 0 0)) := ⟨Hb.new _ _ _ _ rfl⟩
      have HIa : Kept (IntV 625 (w2.alloc (.cells #[.bool false, .slice none 0 0] 30)) (.agg #[.bool false, .slice none 0 0]) 0) := ⟨hK2.below hal3⟩
      clear hal3 hK2
      obtain ⟨p5, q5, -, -⟩ := two_cells HBa.out
      go_wp2_with fail
      refine (string_any HIa.out (by decide)).mono ?_
      rintro e w4 ⟨hb4, he4⟩
      rw [show str (Dg.decZ 0) = .string ⟨#[48]⟩ from rfl] at he4
      subst he4
      replace HBa := Kept.mk (HBa.out.below hb4)
      replace HIa := Kept.mk (HIa.out.below hb4)
      replace HW := Kept.mk (HW.out.trans (Below.mono hb4 HW.out.size))
      clear hb4 p5 q5
      go_wp2_with fail
      refine (awake_any _).mono ?_
      rintro e w6 ⟨hb6, he6⟩
      subst he6
      replace HBa := Kept.mk (HBa.out.below hb6)
      replace HIa := Kept.mk (HIa.out.below hb6)
      replace HW := Kept.mk (HW.out.trans (Below.mono hb6 HW.out.size))
      clear hb6 
      go_wp2
      go_ret
      exact ⟨HW.out, rfl⟩
set_option maxRecDepth 20000 in
set_option maxHeartbeats 8000000 in
theorem parses_gt (s : ByteArray) (w : World) (hs : s.size ≤ 140737488355328) (hl : ¬ (s.size : Int) ≤ 13000) :
    Calls Tryz.prog 3 #[.string s] w (RetV w (.bool true)) := by
  have HW : Kept (Below w.heap.size w w) := ⟨Below.refl _ _⟩
  have hnot : ∀ (x : Bool) (w : World), (Op.unary .not (.bool x)).run Tryz.prog w = .ok (.bool (!x)) w := fun _ _ => rfl
  have hd13 : decide ((13000 : Int) < s.size) = true := decide_eq_true (by omega)
  obtain ⟨t, ht⟩ : ∃ t, t = s.extract 0 13000 := ⟨_, rfl⟩
  have hts : t.size ≤ 13000 := by rw [ht]; simp [ByteArray.size_extract]; omega
  have HT := Kept.mk ht.symm
  have hs13 : (13000 : Int) ≤ s.size := by omega
  clear ht
  go_enter Tryz.func3, Tryz.ntmps3
  go_wp2_with fail
  rw [HT.out]
  refine (rparse_any t _ (by omega)).mono ?_
  rintro e w1 ⟨hb1, hc1⟩
  replace HW := Kept.mk (HW.out.trans (Below.mono hb1 HW.out.size))
  clear hb1
  rcases hc1 with ⟨z, v1, hz, rfl, hZ1⟩ | ⟨hno, rfl⟩
  · skip
    obtain ⟨s1, u1, rfl, hs1, hn1⟩ := hZ1
    obtain ⟨o1, k1, c1, rfl, _, _⟩ := hn1.form
    have hJ : ZV 13001 w1 (.agg #[.bool s1, .slice o1 k1 c1]) z := ZV.mono ⟨_, _, rfl, hs1, hn1⟩ (by have hq : t.data.toList.length = t.size := Array.length_toList; omega)
    have hal1 : Below w1.heap.size w1 (w1.alloc (.cells #[.bool s1, .slice o1 k1 c1] 25)) := (Below.refl _ _).alloc (Nat.le_refl _) _
    replace HW := Kept.mk (HW.out.trans (Below.mono hal1 HW.out.size))
    have HBx : Kept (Hz (w1.alloc (.cells #[.bool s1, .slice o1 k1 c1] 25)) w1.heap.size (.bool s1) (.slice o1 k1 c1)) := ⟨Hz.new _ _ _ _ rfl⟩
    have HIx := Kept.mk (hJ.below hal1)
    have HZ := Kept.mk hz
    clear hal1 hs1 hn1 hJ hz
    go_wp2_with fail
    refine (parse_any t _ (by omega)).mono ?_
    rintro e w2 ⟨hb2, hc2⟩
    replace HBx := Kept.mk (HBx.out.below hb2)
    replace HIx := Kept.mk (HIx.out.below hb2)
    replace HW := Kept.mk (HW.out.trans (Below.mono hb2 HW.out.size))
    clear hb2
    rcases hc2 with ⟨z', v2, hz', hsm, rfl, hI2⟩ | ⟨z', hz', hsm, rfl⟩ | ⟨hno, _⟩
    · skip
      obtain rfl : z = z' := Dg.decZ_inj (HZ.out.symm.trans hz')
      obtain ⟨s2, u2, rfl, hs2, hn2⟩ := hI2.fit hsm
      obtain ⟨o2, k2, c2, rfl⟩ := hn2.form
      have hK2 : IntV 625 w2 (.agg #[.bool s2, .slice o2 k2 c2]) z := ⟨_, _, rfl, hs2, hn2⟩
      have HSM := Kept.mk hsm
      clear hz' hs2 hn2 hI2 hsm
      have hal3 : Below w2.heap.size w2 (w2.alloc (.cells #[.bool s2, .slice o2 k2 c2] 30)) := (Below.refl _ _).alloc (Nat.le_refl _) _
      replace HBx := Kept.mk (HBx.out.below hal3)
      replace HIx := Kept.mk (HIx.out.below hal3)
      replace HW := Kept.mk (HW.out.trans (Below.mono hal3 HW.out.size))
      have HBa : Kept (Hb (w2.alloc (.cells #[.bool s2, .slice o2 k2 c2] 30)) w2.heap.size (.bool s2) (.slice o2 k2 c2)) := ⟨Hb.new _ _ _ _ rfl⟩
      have HIa : Kept (IntV 625 (w2.alloc (.cells #[.bool s2, .slice o2 k2 c2] 30)) (.agg #[.bool s2, .slice o2 k2 c2]) z) := ⟨hK2.below hal3⟩
      clear hal3 hK2
      by_cases h12 : (t.size : Int) ≤ 12000
      · skip
        have hd12 : decide ((12000 : Int) < t.size) = false := decide_eq_false (by omega)
        clear h12
        obtain ⟨n64, hn64⟩ : ∃ n, v64 z = n := ⟨_, rfl⟩
        obtain ⟨f64, hf64⟩ : ∃ f, fits64 z = f := ⟨_, rfl⟩
        have HN64 := Kept.mk hn64
        have HF64 := Kept.mk hf64
        clear hn64 hf64
        obtain ⟨p5, q5, -, -⟩ := two_cells HBa.out
        go_wp2_with fail
        refine (int64_any HIa.out).mono ?_
        rintro e w4 ⟨hb4, he4⟩
        rw [HN64.out, HF64.out] at he4
        subst he4
        replace HBx := Kept.mk (HBx.out.below hb4)
        replace HIx := Kept.mk (HIx.out.below hb4)
        replace HBa := Kept.mk (HBa.out.below hb4)
        replace HIa := Kept.mk (HIa.out.below hb4)
        replace HW := Kept.mk (HW.out.trans (Below.mono hb4 HW.out.size))
        clear hb4 p5 q5
        obtain ⟨p7, q7, -, -⟩ := two_cells HBx.out
        go_wp2_with fail
        refine (ri64_any HIx.out (by decide)).mono ?_
        rintro e w6 ⟨hb6, he6⟩
        rw [HN64.out, HF64.out] at he6
        subst he6
        replace HBx := Kept.mk (HBx.out.below hb6)
        replace HIx := Kept.mk (HIx.out.below hb6)
        replace HBa := Kept.mk (HBa.out.below hb6)
        replace HIa := Kept.mk (HIa.out.below hb6)
        replace HW := Kept.mk (HW.out.trans (Below.mono hb6 HW.out.size))
        clear hb6 p7 q7
        go_wp2_with fail
        obtain ⟨σ, hσ⟩ : ∃ σ, Dg.sg z 0 = σ := ⟨_, rfl⟩
        have hss : (σ == σ) = true := by simp
        have hnn : (n64 == n64) = true := by simp
        have hff : (f64 == f64) = true := by simp
        have htt : (t.toList == t.toList) = true := by simp
        have HST : Kept (∀ W, Below w6.heap.size w6 W → Calls Tryz.prog 20 #[(.agg #[.bool s2, .slice o2 k2 c2])] W (RetV W (.string t))) := ⟨fun W h => by have hc := string_any (HIa.out.below h) (by decide); rw [← str_back HZ.out]; exact hc⟩
        have HSa : Kept (∀ W, Below w6.heap.size w6 W → Calls Tryz.prog 25 #[(.agg #[.bool s2, .slice o2 k2 c2])] W (RetV W (.int .i64 σ))) := ⟨fun W h => by have hc := sign_any (HIa.out.below h); rw [hσ] at hc; exact hc⟩
        have HSx : Kept (∀ W, Below w6.heap.size w6 W → Calls Tryz.prog 26 #[(.agg #[.bool s1, .slice o1 k1 c1])] W (RetV W (.int .i64 σ))) := ⟨fun W h => by have hc := rsignz_any (HIx.out.below h); rw [hσ] at hc; exact hc⟩
        have HNa : Kept (∀ W, Below w6.heap.size w6 W → Calls Tryz.prog 28 #[(.agg #[.bool s2, .slice o2 k2 c2])] W (RetInt 625 W (-z))) := ⟨fun W h => neg_any (HIa.out.below h) (by decide)⟩
        have HNx : Kept (∀ W, Below w6.heap.size w6 W → Calls Tryz.prog 29 #[(.agg #[.bool s1, .slice o1 k1 c1])] W (RetZ 13001 W (-z))) := ⟨fun W h => rnegz_any (HIx.out.below h)⟩
        have HIS : Kept (∀ W v u, IntV 625 W v (-z) → ZV 13001 W u (-z) → Calls Tryz.prog 27 #[v, u] W (RetV W (.bool true))) := ⟨fun W v u h h' => is_any h h' (by decide) (by decide)⟩
        clear hσ
        obtain ⟨i0a, i1a, -, -⟩ := two_cells HBa.out
        obtain ⟨i0x, i1x, -, -⟩ := two_cells HBx.out
        go_region_held3 (fun w' => w'.cell? ⟨w2.heap.size, 0, none⟩ = some (.bool s2) ∧ w'.cell? ⟨w2.heap.size, 1, none⟩ = some (.slice o2 k2 c2) ∧ w'.cell? ⟨w1.heap.size, 0, none⟩ = some (.bool s1) ∧ w'.cell? ⟨w1.heap.size, 1, none⟩ = some (.slice o1 k1 c1))
          (first | exact ⟨q0a, q1a, q0x, q1x⟩ | exact ⟨p0a, p1a, p0x, p1x⟩ | exact ⟨n0a, n1a, n0x, n1x⟩ | exact ⟨m0a, m1a, m0x, m1x⟩ | exact ⟨l0a, l1a, l0x, l1x⟩ | exact ⟨k0a, k1a, k0x, k1x⟩ | exact ⟨j0a, j1a, j0x, j1x⟩ | exact ⟨i0a, i1a, i0x, i1x⟩ | go_keep)
          ((first
            | (go_at_call 20; (with_reducible refine (HST.out _ ?h1).mono ?_); (case h1 => exact ((Bxs.start w6).drew).1); rintro e w1' ⟨hb1', rfl⟩; have hy1 := Bxs.below ((Bxs.start w6).drew) hb1'; obtain ⟨j0a, j1a, -, -⟩ := two_cells (HBa.out.below hy1.1); obtain ⟨j0x, j1x, -, -⟩ := two_cells (HBx.out.below hy1.1))
            | (go_at_call 25; (with_reducible refine (HSa.out _ ?h1).mono ?_); (case h1 => exact hy1.1); rintro e w2' ⟨hb2', rfl⟩; have hy2 := Bxs.below hy1 hb2'; obtain ⟨k0a, k1a, -, -⟩ := two_cells (HBa.out.below hy2.1); obtain ⟨k0x, k1x, -, -⟩ := two_cells (HBx.out.below hy2.1))
            | (go_at_call 26; (with_reducible refine (HSx.out _ ?h1).mono ?_); (case h1 => exact hy2.1); rintro e w3' ⟨hb3', rfl⟩; have hy3 := Bxs.below hy2 hb3'; obtain ⟨l0a, l1a, -, -⟩ := two_cells (HBa.out.below hy3.1); obtain ⟨l0x, l1x, -, -⟩ := two_cells (HBx.out.below hy3.1))
            | (go_at_call 28; (with_reducible refine (HNa.out _ ?h1).mono ?_); (case h1 => exact hy3.1); rintro e w4' ⟨hb4', v4', rfl, hV4⟩; have hy4 := Bxs.below hy3 hb4'; obtain ⟨m0a, m1a, -, -⟩ := two_cells (HBa.out.below hy4.1); obtain ⟨m0x, m1x, -, -⟩ := two_cells (HBx.out.below hy4.1))
            | (go_at_call 29; (with_reducible refine (HNx.out _ ?h1).mono ?_); (case h1 => exact hy4.1); rintro e w5' ⟨hb5', v5', rfl, hV5⟩; have hy5 := Bxs.below hy4 hb5'; obtain ⟨n0a, n1a, -, -⟩ := two_cells (HBa.out.below hy5.1); obtain ⟨n0x, n1x, -, -⟩ := two_cells (HBx.out.below hy5.1))
            | (go_at_call 27; (with_reducible refine (HIS.out _ _ _ ?h1 ?h2).mono ?_); (case h1 => exact hV4.below hb5'); (case h2 => exact hV5); rintro e w6' ⟨hb6', rfl⟩; have hy6 := Bxs.below hy5 hb6'; obtain ⟨p0a, p1a, -, -⟩ := two_cells (HBa.out.below hy6.1); obtain ⟨p0x, p1x, -, -⟩ := two_cells (HBx.out.below hy6.1))
            | (go_at_call 21; refine (awake_any _).mono ?_; rintro e w7' ⟨hb7', rfl⟩; have hy7 := Bxs.below hy6 hb7'; obtain ⟨q0a, q1a, -, -⟩ := two_cells (HBa.out.below hy7.1); obtain ⟨q0x, q1x, -, -⟩ := two_cells (HBx.out.below hy7.1))))
        have hfin : Below w.heap.size w w7' := HW.out.trans (hy7.1.mono HW.out.size)
        have HFIN := Kept.mk hfin
        go_wp2
        go_ret
        exact ⟨HFIN.out, rfl⟩
      · skip
        have hd12 : decide ((12000 : Int) < t.size) = true := decide_eq_true (by omega)
        clear h12
        obtain ⟨p5, q5, -, -⟩ := two_cells HBx.out
        go_wp2_with fail
        refine (rsmall_any2 HIx.out).mono ?_
        rintro e w4 ⟨hb4, he4⟩
        rw [HSM.out] at he4
        subst he4
        replace HBx := Kept.mk (HBx.out.below hb4)
        replace HIx := Kept.mk (HIx.out.below hb4)
        replace HBa := Kept.mk (HBa.out.below hb4)
        replace HIa := Kept.mk (HIa.out.below hb4)
        replace HW := Kept.mk (HW.out.trans (Below.mono hb4 HW.out.size))
        clear hb4 p5 q5
        obtain ⟨n64, hn64⟩ : ∃ n, v64 z = n := ⟨_, rfl⟩
        obtain ⟨f64, hf64⟩ : ∃ f, fits64 z = f := ⟨_, rfl⟩
        have HN64 := Kept.mk hn64
        have HF64 := Kept.mk hf64
        clear hn64 hf64
        obtain ⟨p7, q7, -, -⟩ := two_cells HBa.out
        go_wp2_with fail
        refine (int64_any HIa.out).mono ?_
        rintro e w6 ⟨hb6, he6⟩
        rw [HN64.out, HF64.out] at he6
        subst he6
        replace HBx := Kept.mk (HBx.out.below hb6)
        replace HIx := Kept.mk (HIx.out.below hb6)
        replace HBa := Kept.mk (HBa.out.below hb6)
        replace HIa := Kept.mk (HIa.out.below hb6)
        replace HW := Kept.mk (HW.out.trans (Below.mono hb6 HW.out.size))
        clear hb6 p7 q7
        obtain ⟨p9, q9, -, -⟩ := two_cells HBx.out
        go_wp2_with fail
        refine (ri64_any HIx.out (by decide)).mono ?_
        rintro e w8 ⟨hb8, he8⟩
        rw [HN64.out, HF64.out] at he8
        subst he8
        replace HBx := Kept.mk (HBx.out.below hb8)
        replace HIx := Kept.mk (HIx.out.below hb8)
        replace HBa := Kept.mk (HBa.out.below hb8)
        replace HIa := Kept.mk (HIa.out.below hb8)
        replace HW := Kept.mk (HW.out.trans (Below.mono hb8 HW.out.size))
        clear hb8 p9 q9
        go_wp2_with fail
        obtain ⟨σ, hσ⟩ : ∃ σ, Dg.sg z 0 = σ := ⟨_, rfl⟩
        have hss : (σ == σ) = true := by simp
        have hnn : (n64 == n64) = true := by simp
        have hff : (f64 == f64) = true := by simp
        have htt : (t.toList == t.toList) = true := by simp
        have HST : Kept (∀ W, Below w8.heap.size w8 W → Calls Tryz.prog 20 #[(.agg #[.bool s2, .slice o2 k2 c2])] W (RetV W (.string t))) := ⟨fun W h => by have hc := string_any (HIa.out.below h) (by decide); rw [← str_back HZ.out]; exact hc⟩
        have HSa : Kept (∀ W, Below w8.heap.size w8 W → Calls Tryz.prog 25 #[(.agg #[.bool s2, .slice o2 k2 c2])] W (RetV W (.int .i64 σ))) := ⟨fun W h => by have hc := sign_any (HIa.out.below h); rw [hσ] at hc; exact hc⟩
        have HSx : Kept (∀ W, Below w8.heap.size w8 W → Calls Tryz.prog 26 #[(.agg #[.bool s1, .slice o1 k1 c1])] W (RetV W (.int .i64 σ))) := ⟨fun W h => by have hc := rsignz_any (HIx.out.below h); rw [hσ] at hc; exact hc⟩
        have HNa : Kept (∀ W, Below w8.heap.size w8 W → Calls Tryz.prog 28 #[(.agg #[.bool s2, .slice o2 k2 c2])] W (RetInt 625 W (-z))) := ⟨fun W h => neg_any (HIa.out.below h) (by decide)⟩
        have HNx : Kept (∀ W, Below w8.heap.size w8 W → Calls Tryz.prog 29 #[(.agg #[.bool s1, .slice o1 k1 c1])] W (RetZ 13001 W (-z))) := ⟨fun W h => rnegz_any (HIx.out.below h)⟩
        have HIS : Kept (∀ W v u, IntV 625 W v (-z) → ZV 13001 W u (-z) → Calls Tryz.prog 27 #[v, u] W (RetV W (.bool true))) := ⟨fun W v u h h' => is_any h h' (by decide) (by decide)⟩
        clear hσ
        obtain ⟨i0a, i1a, -, -⟩ := two_cells HBa.out
        obtain ⟨i0x, i1x, -, -⟩ := two_cells HBx.out
        go_region_held3 (fun w' => w'.cell? ⟨w2.heap.size, 0, none⟩ = some (.bool s2) ∧ w'.cell? ⟨w2.heap.size, 1, none⟩ = some (.slice o2 k2 c2) ∧ w'.cell? ⟨w1.heap.size, 0, none⟩ = some (.bool s1) ∧ w'.cell? ⟨w1.heap.size, 1, none⟩ = some (.slice o1 k1 c1))
          (first | exact ⟨q0a, q1a, q0x, q1x⟩ | exact ⟨p0a, p1a, p0x, p1x⟩ | exact ⟨n0a, n1a, n0x, n1x⟩ | exact ⟨m0a, m1a, m0x, m1x⟩ | exact ⟨l0a, l1a, l0x, l1x⟩ | exact ⟨k0a, k1a, k0x, k1x⟩ | exact ⟨j0a, j1a, j0x, j1x⟩ | exact ⟨i0a, i1a, i0x, i1x⟩ | go_keep)
          ((first
            | (go_at_call 20; (with_reducible refine (HST.out _ ?h1).mono ?_); (case h1 => exact ((Bxs.start w8).drew).1); rintro e w1' ⟨hb1', rfl⟩; have hy1 := Bxs.below ((Bxs.start w8).drew) hb1'; obtain ⟨j0a, j1a, -, -⟩ := two_cells (HBa.out.below hy1.1); obtain ⟨j0x, j1x, -, -⟩ := two_cells (HBx.out.below hy1.1))
            | (go_at_call 25; (with_reducible refine (HSa.out _ ?h1).mono ?_); (case h1 => exact hy1.1); rintro e w2' ⟨hb2', rfl⟩; have hy2 := Bxs.below hy1 hb2'; obtain ⟨k0a, k1a, -, -⟩ := two_cells (HBa.out.below hy2.1); obtain ⟨k0x, k1x, -, -⟩ := two_cells (HBx.out.below hy2.1))
            | (go_at_call 26; (with_reducible refine (HSx.out _ ?h1).mono ?_); (case h1 => exact hy2.1); rintro e w3' ⟨hb3', rfl⟩; have hy3 := Bxs.below hy2 hb3'; obtain ⟨l0a, l1a, -, -⟩ := two_cells (HBa.out.below hy3.1); obtain ⟨l0x, l1x, -, -⟩ := two_cells (HBx.out.below hy3.1))
            | (go_at_call 28; (with_reducible refine (HNa.out _ ?h1).mono ?_); (case h1 => exact hy3.1); rintro e w4' ⟨hb4', v4', rfl, hV4⟩; have hy4 := Bxs.below hy3 hb4'; obtain ⟨m0a, m1a, -, -⟩ := two_cells (HBa.out.below hy4.1); obtain ⟨m0x, m1x, -, -⟩ := two_cells (HBx.out.below hy4.1))
            | (go_at_call 29; (with_reducible refine (HNx.out _ ?h1).mono ?_); (case h1 => exact hy4.1); rintro e w5' ⟨hb5', v5', rfl, hV5⟩; have hy5 := Bxs.below hy4 hb5'; obtain ⟨n0a, n1a, -, -⟩ := two_cells (HBa.out.below hy5.1); obtain ⟨n0x, n1x, -, -⟩ := two_cells (HBx.out.below hy5.1))
            | (go_at_call 27; (with_reducible refine (HIS.out _ _ _ ?h1 ?h2).mono ?_); (case h1 => exact hV4.below hb5'); (case h2 => exact hV5); rintro e w6' ⟨hb6', rfl⟩; have hy6 := Bxs.below hy5 hb6'; obtain ⟨p0a, p1a, -, -⟩ := two_cells (HBa.out.below hy6.1); obtain ⟨p0x, p1x, -, -⟩ := two_cells (HBx.out.below hy6.1))
            | (go_at_call 21; refine (awake_any _).mono ?_; rintro e w7' ⟨hb7', rfl⟩; have hy7 := Bxs.below hy6 hb7'; obtain ⟨q0a, q1a, -, -⟩ := two_cells (HBa.out.below hy7.1); obtain ⟨q0x, q1x, -, -⟩ := two_cells (HBx.out.below hy7.1))))
        have hfin : Below w.heap.size w w7' := HW.out.trans (hy7.1.mono HW.out.size)
        have HFIN := Kept.mk hfin
        go_wp2
        go_ret
        exact ⟨HFIN.out, rfl⟩
    · skip
      obtain rfl : z = z' := Dg.decZ_inj (HZ.out.symm.trans hz')
      have HSM := Kept.mk hsm
      have h12 : (12000 : Int) < t.size := by
        apply Classical.byContradiction
        intro hc
        have hq : t.data.toList.length = t.size := Array.length_toList
        have hb := small_le small_12000 (dec_bound (n := 12000) (z := z) (by rw [← HZ.out]; omega))
        rw [hsm] at hb
        cases hb
      have hd12 : decide ((12000 : Int) < t.size) = true := decide_eq_true h12
      clear hz' hsm h12
      have hK2 : IntV 625 w2 (.agg #[.bool false, .slice none 0 0]) 0 := zeroInt w2
      have hal3 : Below w2.heap.size w2 (w2.alloc (.cells #[.bool false, .slice none 0 0] 30)) := (Below.refl _ _).alloc (Nat.le_refl _) _
      replace HBx := Kept.mk (HBx.out.below hal3)
      replace HIx := Kept.mk (HIx.out.below hal3)
      replace HW := Kept.mk (HW.out.trans (Below.mono hal3 HW.out.size))
      have HBa : Kept (Hb (w2.alloc (.cells #[.bool false, .slice none 0 0] 30)) w2.heap.size (.bool false) (.slice none 0 0)) := ⟨Hb.new _ _ _ _ rfl⟩
      have HIa : Kept (IntV 625 (w2.alloc (.cells #[.bool false, .slice none 0 0] 30)) (.agg #[.bool false, .slice none 0 0]) 0) := ⟨hK2.below hal3⟩
      clear hal3 hK2
      obtain ⟨p5, q5, -, -⟩ := two_cells HBx.out
      go_wp2_with fail
      refine (rsmall_any2 HIx.out).mono ?_
      rintro e w4 ⟨hb4, he4⟩
      rw [HSM.out] at he4
      subst he4
      replace HBx := Kept.mk (HBx.out.below hb4)
      replace HIx := Kept.mk (HIx.out.below hb4)
      replace HBa := Kept.mk (HBa.out.below hb4)
      replace HIa := Kept.mk (HIa.out.below hb4)
      replace HW := Kept.mk (HW.out.trans (Below.mono hb4 HW.out.size))
      clear hb4 p5 q5
      obtain ⟨p7, q7, -, -⟩ := two_cells HBa.out
      go_wp2_with fail
      refine (string_any HIa.out (by decide)).mono ?_
      rintro e w6 ⟨hb6, he6⟩
      rw [show str (Dg.decZ 0) = .string ⟨#[48]⟩ from rfl] at he6
      subst he6
      replace HBx := Kept.mk (HBx.out.below hb6)
      replace HIx := Kept.mk (HIx.out.below hb6)
      replace HBa := Kept.mk (HBa.out.below hb6)
      replace HIa := Kept.mk (HIa.out.below hb6)
      replace HW := Kept.mk (HW.out.trans (Below.mono hb6 HW.out.size))
      clear hb6 p7 q7
      go_wp2_with fail
      refine (awake_any _).mono ?_
      rintro e w8 ⟨hb8, he8⟩
      subst he8
      replace HBx := Kept.mk (HBx.out.below hb8)
      replace HIx := Kept.mk (HIx.out.below hb8)
      replace HBa := Kept.mk (HBa.out.below hb8)
      replace HIa := Kept.mk (HIa.out.below hb8)
      replace HW := Kept.mk (HW.out.trans (Below.mono hb8 HW.out.size))
      clear hb8 
      go_wp2
      go_ret
      exact ⟨HW.out, rfl⟩
    · exact absurd HZ.out (hno z)
  · skip
    have HNO := Kept.mk hno
    have hal1 : Below w1.heap.size w1 (w1.alloc (.cells #[.bool false, .slice none 0 0] 25)) := (Below.refl _ _).alloc (Nat.le_refl _) _
    replace HW := Kept.mk (HW.out.trans (Below.mono hal1 HW.out.size))
    clear hal1 hno
    go_wp2_with fail
    refine (parse_any t _ (by omega)).mono ?_
    rintro e w2 ⟨hb2, hc2⟩
    replace HW := Kept.mk (HW.out.trans (Below.mono hb2 HW.out.size))
    clear hb2
    rcases hc2 with ⟨z', v2, hz', hsm, rfl, hI2⟩ | ⟨z', hz', hsm, rfl⟩ | ⟨hno, rfl⟩
    · exact absurd hz' (HNO.out z')
    · exact absurd hz' (HNO.out z')
    · skip
      clear hno
      have hK2 : IntV 625 w2 (.agg #[.bool false, .slice none 0 0]) 0 := zeroInt w2
      have hal3 : Below w2.heap.size w2 (w2.alloc (.cells #[.bool false, .slice none 0 0] 30)) := (Below.refl _ _).alloc (Nat.le_refl _) _
      replace HW := Kept.mk (HW.out.trans (Below.mono hal3 HW.out.size))
      have HBa : Kept (Hb (w2.alloc (.cells #[.bool false, .slice none 0 0] 30)) w2.heap.size (.bool false) (.slice none 0 0)) := ⟨Hb.new _ _ _ _ rfl⟩
      have HIa : Kept (IntV 625 (w2.alloc (.cells #[.bool false, .slice none 0 0] 30)) (.agg #[.bool false, .slice none 0 0]) 0) := ⟨hK2.below hal3⟩
      clear hal3 hK2
      obtain ⟨p5, q5, -, -⟩ := two_cells HBa.out
      go_wp2_with fail
      refine (string_any HIa.out (by decide)).mono ?_
      rintro e w4 ⟨hb4, he4⟩
      rw [show str (Dg.decZ 0) = .string ⟨#[48]⟩ from rfl] at he4
      subst he4
      replace HBa := Kept.mk (HBa.out.below hb4)
      replace HIa := Kept.mk (HIa.out.below hb4)
      replace HW := Kept.mk (HW.out.trans (Below.mono hb4 HW.out.size))
      clear hb4 p5 q5
      go_wp2_with fail
      refine (awake_any _).mono ?_
      rintro e w6 ⟨hb6, he6⟩
      subst he6
      replace HBa := Kept.mk (HBa.out.below hb6)
      replace HIa := Kept.mk (HIa.out.below hb6)
      replace HW := Kept.mk (HW.out.trans (Below.mono hb6 HW.out.size))
      clear hb6 
      go_wp2
      go_ret
      exact ⟨HW.out, rfl⟩
theorem tallyParses_any (s : ByteArray) (w : World) (hs : s.size ≤ 140737488355328) :
    Calls Tryz.prog 3 #[.string s] w (RetV w (.bool true)) := by
  by_cases hl : (s.size : Int) ≤ 13000
  · exact parses_le s w hs hl
  · exact parses_gt s w hs hl
end Go.Proofs.YtblbheilddafbaaGreatDoor

set_option linter.unusedVariables false
namespace Go.Proofs.YtblbheilddafbaaGreatDoor.tallyParses
open Go Go.ChangeShapes Go.WideShapes Go.ChangeAt Go.RowKit Go.Proofs.YtblbheilddafbaaGreatDoor
open Go.ChangeMaps (open_string shut_string)
set_option maxRecDepth 100000 in
theorem contract (H : Type) (enc : TypeId × Value → H) (W : World) (base : Nat) (args : Array Value) (ds gs : List (DataW H)) (before : List MemPlace)
    (hval : ∀ (j : Nat) t v, Tryz.f3.params[j]? = some t → args[j]? = some v → Value.okWide Tryz.prog W .any base t v)
    (hW : DataW.Whole enc Tryz.prog Tryz.f3.params.toList Rows.tallyParsesSpec.vars false W args.toList ds gs before) (ts : List TypeId) (hsz : (DataW.weightsEach Tryz.prog (Tryz.f3.params.toList ++ ts) (ds ++ gs)).all (· ≤ reachBytes) = true) :
    Calls Tryz.prog 3 args W fun e W' => ∃ v, e = .returned v ∧ Rows.tallyParsesSpec.post enc Tryz.prog Tryz.f3 false true false false W args v W' := by
  have hW' := hW
  obtain ⟨p, q, hA0, hV, rfl, hfz, hnd⟩ := hW
  have hA : DataW.TrodAll enc Tryz.prog W 0 (fun _ => true) true Tryz.f3.params.toList args.toList ds p := hA0
  rw [Tryz.params3] at hA hval hsz
  obtain ⟨v0, vs0, d0, ds0, p0, q0, hargs, rfl, rfl, h0, r0⟩ := trodAll_cons hA
  obtain ⟨rfl, rfl, rfl⟩ := trodAll_nil r0
  obtain rfl : args = #[v0] := Array.toList_inj.1 hargs
  obtain ⟨rfl, rfl⟩ := trodVars_none hV
  obtain ⟨a0, rfl, rfl, rfl, w0⟩ := open_string Tryz.underlying9 (hval 0 9 v0 rfl rfl) h0
  clear hA0
  simp only [List.append_nil] at hW'
  have hr0 : a0.size ≤ 140737488355328 := by
    have h := sized_string hsz (j := 0) (t := 9) (bytes := a0.data.toList) rfl rfl
    have hl : a0.data.toList.length = a0.size := Array.length_toList
    have hq := reachBytes_lt
    omega
  refine (tallyParses_any a0 W hr0).mono fun e W' ⟨hb, he⟩ => ?_
  subst he
  exact ⟨_, rfl, post_of_below (pa := []) (pv := []) hW' (fun _ _ _ => trodAll_cons_mk (shut_bool Tryz.underlying4 _) trodAll_mk0) (fun _ _ => trodAll_cons_mk (shut_string Tryz.underlying9 w0) trodAll_mk0) (fun _ _ => rfl) rfl
    hb (ok_one (by kernel_rfl) rfl (okWide_bool_mk Tryz.underlying4 _))⟩
end Go.Proofs.YtblbheilddafbaaGreatDoor.tallyParses
