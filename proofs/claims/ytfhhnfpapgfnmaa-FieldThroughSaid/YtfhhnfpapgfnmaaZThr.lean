/-
  Texts of the proof, merged by program: Thr.
-/
import Derived.Test.YtfhhnfpapgfnmaaZFtn
import Derived.Test.YtfhhnfpapgfnmaaZRth
import Derived.Test.YtfhhnfpapgfnmaaZ25
import Derived.Test.YtfhhnfpapgfnmaaZLma
import Derived.Test.YtfhhnfpapgfnmaaZChk
import Derived.Test.YtfhhnfpapgfnmaaZOpl
set_option linter.unusedVariables false
set_option linter.unusedSimpArgs false
namespace Go.Proofs.Ytfhhnfpapgfnmaa
open Go Go.RowKit Go.Deep
open FFld (ints)
theorem ints_i64s {l : List Nat} (h : ∀ x ∈ l, x ≤ 65536) : I64s (ints l) := fun x hx => by
  unfold FFld.ints at hx
  obtain ⟨a, ha, rfl⟩ := List.mem_map.1 hx
  have := h a ha
  omega
theorem ints_dup {xs : List Nat} {i j : Nat} : (ints xs)[i]?.getD 0 = (ints xs)[j]?.getD 0 ↔ xs[i]?.getD 0 = xs[j]?.getD 0 := by
  rw [FFld.ints_get, FFld.ints_get]
  omega
set_option maxRecDepth 20000 in
set_option maxHeartbeats 16000000 in
theorem fieldThrough_any (order : Int) (vx : Value) (xs : List Int) (vy : Value) (ys : List Int) (w : World) (o0 : -9223372036854775808 ≤ order) (o1 : order ≤ 9223372036854775807) (hx : Sl .i64 w vx xs) (hxb : I64s xs) (hy : Sl .i64 w vy ys) (hyb : I64s ys) :
    Calls Try.prog 10 #[.int .i64 order, vx, vy] w (RB w (.bool true)) := by
  obtain ⟨ax, cx, hvx, hcx, hmx⟩ := hx.form
  obtain ⟨ay, cy, hvy, hcy, hmy⟩ := hy.form
  subst hvx hvy
  have HX := Kept.mk hx
  have HY := Kept.mk hy
  have HYB := Kept.mk hyb
  clear hx hy hxb hyb
  go_enter Try.func10, Try.ntmps10
  go_wp2_with fail
  refine (some_any order 500 w o0 o1 (by omega) (by omega)).mono ?_
  rintro e w1 ⟨hb1, D, b, hD, hle, hbl, hf, rfl⟩
  have HD := Kept.mk hD
  have hq0 : D.q = D.p ^ D.k := rfl
  have hq6 := hD.pre.small
  have hq1 := hD.pre.pk.one_lt
  rw [← hq0] at hq1
  have hbx : Below w1.heap.size w1 (w1.alloc (rbox D.q D.p D.k D.m)) := (Below.refl _ _).alloc (Nat.le_refl _) _
  obtain ⟨i0, i1, i2, i3⟩ := four_cells (heap_alloc_new w1 (rbox D.q D.p D.k D.m))
  have HI0 := Kept.mk i0
  have HI1 := Kept.mk i1
  have HI2 := Kept.mk i2
  have HI3 := Kept.mk i3
  have HB := Kept.mk (bstep hb1 hbx)
  have HF := Kept.mk (hf.below hbx)
  have HRX : Kept (∀ W, Sl .i64 W (.slice ax xs.length cx) xs → Calls Try.prog 62 #[.slice ax xs.length cx, .int .i64 12] W (RetM W (xs.take 12))) := ⟨fun W hW => raw_any _ xs 12 W hW (by omega)⟩
  have HRY : Kept (∀ W, Sl .i64 W (.slice ay ys.length cy) ys → Calls Try.prog 62 #[.slice ay ys.length cy, .int .i64 12] W (RetM W (ys.take 12))) := ⟨fun W hW => raw_any _ ys 12 W hW (by omega)⟩
  have HX1 := Kept.mk (HX.out.below HB.out)
  have HY1 := Kept.mk (HY.out.below HB.out)
  clear hb1 hf hbx hq0 i0 i1 i2 i3 HX HY
  go_wp2_with fail
  refine (HRX.out _ HX1.out).mono ?_
  rintro e w2 ⟨hb2, va, rfl, hma⟩
  have HY2 := Kept.mk (HY1.out.below hb2)
  have HB2 := Kept.mk hb2
  have HSA0 := Kept.mk hma.sl
  clear hb2 hma HRX HX1 HY1
  go_wp2_with fail
  refine (HRY.out _ HY2.out).mono ?_
  rintro e w3 ⟨hb3, vb, rfl, hmb⟩
  have HB3 := Kept.mk (bstep HB2.out hb3)
  have HSA1 := Kept.mk (HSA0.out.below hb3)
  have HSB1 := Kept.mk hmb.sl
  have HLA : Kept ((xs.take 12).length ≤ 12) := ⟨by rw [List.length_take]; omega⟩
  have HLB : Kept ((ys.take 12).length ≤ 12) := ⟨by rw [List.length_take]; omega⟩
  have HBI1 : Kept (I64s (ys.take 12)) := ⟨fun x hx => HYB.out x (List.mem_of_mem_take hx)⟩
  clear hb3 hmb HRY HY2 HB2 HSA0 HYB
  go_wp2
  go_loopw [9, 10, 11] (fun av bv kv wr => ∃ (k : Nat) (A B : List Int), k ≤ 2 ∧ kv = .int .i64 k ∧ Kept (Sl .i64 wr av A) ∧ Kept (Sl .i64 wr bv B) ∧ Kept (A.length ≤ 12) ∧ Kept (B.length ≤ 12) ∧ Kept (I64s B) ∧ Kept (Below (w1.alloc (rbox D.q D.p D.k D.m)).heap.size (w1.alloc (rbox D.q D.p D.k D.m)) wr)) (fun _ _ kv _ => 2 - (intOf kv).toNat)
  case atStart => exact ⟨0, _, _, by omega, rfl, HSA1, HSB1, HLA, HLB, HBI1, HB3⟩
  case round =>
    clear HSA1 HSB1 HLA HLB HBI1 HB3
    obtain ⟨k, A, B, hk2, rfl, HSA, HSB, hla, hlb, HBI, HBT⟩ := hrel
    by_cases hkl : k < 2
    · have hsa := HSA.out
      have hsb := HSB.out
      obtain ⟨aa, ca, rfl, hca, hma⟩ := hsa.form
      obtain ⟨ab, cb, rfl, hcb, hmb⟩ := hsb.form
      obtain ⟨na, hna⟩ : ∃ n, A.length = n := ⟨_, rfl⟩
      obtain ⟨nb, hnb⟩ : ∃ n, B.length = n := ⟨_, rfl⟩
      have hla' := hla.out
      have hlb' := hlb.out
      rw [hna] at hca HSA hla' ⊢
      rw [hnb] at hcb HSB hlb' ⊢
      have HNA := Kept.mk hna
      have HNB := Kept.mk hnb
      obtain ⟨mm, hmm⟩ : ∃ m, min nb D.q = m := ⟨_, rfl⟩
      have hm1 : mm ≤ nb := by omega
      have HM2 : Kept (mm ≤ D.q) := ⟨by omega⟩
      have HM3 : Kept (mm < nb → D.q ≤ mm) := ⟨fun h => by omega⟩
      clear hsa hsb hna hnb hmm hla hlb
      by_cases hs : na = nb
      · subst hs
        have es : ((na : Int) != (na : Int)) = false := by simp
        have HTB := Kept.mk (fun W (hF : FldB D W b) (h1 : Sl .i64 W (.slice aa na ca) A) (h2 : Sl .i64 W (.slice ab na cb) B) h => fthrough_bad _ _ A B W hF h1 h2 na HNA.out HNB.out (by omega) h)
        have HEA := Kept.mk (fun W (h1 : Sl .i64 W (.slice aa na ca) A) => relements_any D _ A W h1)
        have HEB := Kept.mk (fun W (h1 : Sl .i64 W (.slice ab na cb) B) => relements_any D _ B W h1)
        cases hea : elsB D A
        · rw [hea] at HEA
          have HNO : Kept (¬ (elsB D A = true ∧ elsB D B = true)) := ⟨fun h => by rw [hea] at h; exact absurd h.1 (by simp)⟩
          clear hea HEB
          go_wp2_with fail
          refine (HTB.out _ (HF.out.below HBT.out) HSA.out HSB.out HNO.out).mono ?_
          rintro e w4 ⟨rfl, rfl⟩
          have z0 := belowCell HBT.out HI0.out
          have z1 := belowCell HBT.out HI1.out
          have z2 := belowCell HBT.out HI2.out
          have z3 := belowCell HBT.out HI3.out
          go_wp2_with fail
          refine (HEA.out _ HSA.out).mono ?_
          rintro e w5 ⟨hb5, rfl⟩
          replace HBT := Kept.mk (bstep HBT.out hb5)
          replace HSB := Kept.mk (HSB.out.below hb5)
          clear hb5 HTB HEA z0 z1 z2 z3 HNO
          have HMI : Kept (Mine 3 .i64 w5.heap.size w5 (.slice none 0 0) (ints [])) := ⟨Mine.nil _ _ _ _⟩
          clear HSA
          go_wp2
          go_loopw [9, 15] (fun av2 iv wr => ∃ (i : Nat) (l : List Nat), i ≤ mm ∧ iv = .int .i64 i ∧ l.length = i ∧ Kept (Mine 3 .i64 w5.heap.size wr av2 (ints l)) ∧ Kept (Below w5.heap.size w5 wr)) (fun _ iv _ => mm - (intOf iv).toNat)
          case atStart => exact ⟨0, [], Nat.zero_le _, rfl, rfl, HMI, ⟨Below.refl _ _⟩⟩
          case round =>
            clear HMI
            obtain ⟨i, l, him, rfl, hll, hmn, hbq⟩ := hrel
            obtain ⟨rv1, rc, rfl, hrc, hrm⟩ := hmn.out.sl.form
            rw [FFld.ints_len, hll] at hrc hmn ⊢
            have z0 := belowCell (bstep HBT.out hbq.out) HI0.out
            by_cases hi : i < mm
            · have hi1 : i < na := Nat.lt_of_lt_of_le hi hm1
              have hi2 : (i : Int) < (D.q : Int) := by have := HM2.out; omega
              have H1 := Kept.mk (show ((ints l).length + [(i : Int)].length) * 8 ≤ 140737488355328 by rw [FFld.ints_len, hll]; simp; omega)
              have H2 := Kept.mk (show (ints l).length + [(i : Int)].length ≤ maxLen by rw [FFld.ints_len, hll]; unfold maxLen; simp; omega)
              have HM3 := Kept.mk (hmn.out.alloc (.cells #[.int .i64 (i : Int)] 3))
              have HNW := Kept.mk (new_one (K := .i64) (x := (i : Int)) (w := wr.alloc (.cells #[.int .i64 (i : Int)] 3)) (b := wr.heap.size) (o := 0) (by exact (Row.new (E := 3) (K := .i64) wr [(i : Int)]).cell (i := 0) (by simp)))
              have hsz := hbq.out.size
              have HBB := Kept.mk (show w5.heap.size ≤ (wr.alloc (.cells #[.int .i64 (i : Int)] 3)).heap.size by simp; omega)
              have HBQ := Kept.mk (hbq.out.alloc hsz (.cells #[.int .i64 (i : Int)] 3))
              have HOW := Kept.mk HM3.out.own
              go_wp2_with (at_builtin; refine wpList_append_mine _ rfl _ _ 34 (by rfl) 3 .i64 8 Try.underlying34 info_i64 w5.heap.size (.slice rv1 i rc) (ints l) (by rfl) HM3.out HBB.out ⟨wr.heap.size, 0, none⟩ 1 1 [(i : Int)] (by rfl) rfl HNW.out H1.out H2.out ?_)
              intro v' w5 hm5 hg5 hn5
              have HM5 := Kept.mk hm5
              have HB5 := Kept.mk (HBQ.out.grown hg5 HBB.out (fun j hj => (HOW.out j hj).1))
              clear hm5 hg5 hn5
              go_wp2
              go_roundw
              case rel => exact ⟨i + 1, l ++ [i], by omega, by go_num, by simp [hll], ⟨by rw [FFld.ints_append]; exact HM5.out⟩, HB5⟩
              case measure => simp [intOf] <;> omega
            · obtain rfl : i = mm := by omega
              have HBE := Kept.mk (bstep HBT.out hbq.out)
              have z1 := belowCell HBE.out HI1.out
              have z2 := belowCell HBE.out HI2.out
              have z3 := belowCell HBE.out HI3.out
              have HSA2 := Kept.mk hmn.out.sl
              have HLI := Kept.mk (list_any HD.out (.slice ab na cb) B i wr (HSB.out.below hbq.out) HBI.out (by omega))
              have HLE := Kept.mk hll
              have hq1i : ∀ x ∈ (B.take i).map (redN D), x ≤ 65536 := fun x hx => by
                obtain ⟨a, _, rfl⟩ := List.mem_map.1 hx
                have := redN_lt (Nat.le_of_lt HD.out.pre.pk.one_lt) a
                have h6 : D.q ≤ 65536 := HD.out.pre.small
                omega
              have HBL : Kept (((B.take i).map (redN D)).length ≤ 12) := ⟨by rw [List.length_map, List.length_take]; omega⟩
              have HQI := Kept.mk hq1i
              clear hmn hll hq1i hi
              by_cases hi1 : i < na
              · have hi2 : ¬ (i : Int) < (D.q : Int) := by have := HM3.out hi1; omega
                go_wp2_with fail
                refine HLI.out.mono ?_
                rintro e w6 ⟨hb6, vb, rfl, hm6⟩
                have HS6 := Kept.mk hm6.sl
                have HB6 := Kept.mk (bstep HBE.out hb6)
                have HSA6 := Kept.mk (HSA2.out.below hb6)
                clear hb6 hm6 HLI
                go_wp2
                go_roundw
                case rel => exact ⟨k + 1, ints l, ints ((B.take i).map (redN D)), by omega, by go_num, HSA6, HS6, ⟨by rw [FFld.ints_len, HLE.out]; omega⟩, ⟨by rw [FFld.ints_len]; exact HBL.out⟩, ⟨ints_i64s HQI.out⟩, HB6⟩
                case measure => simp [intOf] <;> omega
              · go_wp2_with fail
                refine HLI.out.mono ?_
                rintro e w6 ⟨hb6, vb, rfl, hm6⟩
                have HS6 := Kept.mk hm6.sl
                have HB6 := Kept.mk (bstep HBE.out hb6)
                have HSA6 := Kept.mk (HSA2.out.below hb6)
                clear hb6 hm6 HLI
                go_wp2
                go_roundw
                case rel => exact ⟨k + 1, ints l, ints ((B.take i).map (redN D)), by omega, by go_num, HSA6, HS6, ⟨by rw [FFld.ints_len, HLE.out]; omega⟩, ⟨by rw [FFld.ints_len]; exact HBL.out⟩, ⟨ints_i64s HQI.out⟩, HB6⟩
                case measure => simp [intOf] <;> omega
        · rw [hea] at HEA
          cases heb : elsB D B
          · rw [heb] at HEB
            have HNO : Kept (¬ (elsB D A = true ∧ elsB D B = true)) := ⟨fun h => by rw [heb] at h; exact absurd h.2 (by simp)⟩
            clear hea heb
            go_wp2_with fail
            refine (HTB.out _ (HF.out.below HBT.out) HSA.out HSB.out HNO.out).mono ?_
            rintro e w4 ⟨rfl, rfl⟩
            have z0 := belowCell HBT.out HI0.out
            have z1 := belowCell HBT.out HI1.out
            have z2 := belowCell HBT.out HI2.out
            have z3 := belowCell HBT.out HI3.out
            go_wp2_with fail
            refine (HEA.out _ HSA.out).mono ?_
            rintro e w5 ⟨hb5, rfl⟩
            have y0 := belowCell hb5 z0
            have y1 := belowCell hb5 z1
            have y2 := belowCell hb5 z2
            have y3 := belowCell hb5 z3
            replace HBT := Kept.mk (bstep HBT.out hb5)
            replace HSB := Kept.mk (HSB.out.below hb5)
            clear hb5 HTB HEA z0 z1 z2 z3 HNO
            go_wp2_with fail
            refine (HEB.out _ HSB.out).mono ?_
            rintro e w6 ⟨hb6, rfl⟩
            replace HBT := Kept.mk (bstep HBT.out hb6)
            replace HSB := Kept.mk (HSB.out.below hb6)
            clear hb6 HEB y0 y1 y2 y3
            have HMI : Kept (Mine 3 .i64 w6.heap.size w6 (.slice none 0 0) (ints [])) := ⟨Mine.nil _ _ _ _⟩
            clear HSA
            go_wp2
            go_loopw [9, 15] (fun av2 iv wr => ∃ (i : Nat) (l : List Nat), i ≤ mm ∧ iv = .int .i64 i ∧ l.length = i ∧ Kept (Mine 3 .i64 w6.heap.size wr av2 (ints l)) ∧ Kept (Below w6.heap.size w6 wr)) (fun _ iv _ => mm - (intOf iv).toNat)
            case atStart => exact ⟨0, [], Nat.zero_le _, rfl, rfl, HMI, ⟨Below.refl _ _⟩⟩
            case round =>
              clear HMI
              obtain ⟨i, l, him, rfl, hll, hmn, hbq⟩ := hrel
              obtain ⟨rv1, rc, rfl, hrc, hrm⟩ := hmn.out.sl.form
              rw [FFld.ints_len, hll] at hrc hmn ⊢
              have z0 := belowCell (bstep HBT.out hbq.out) HI0.out
              by_cases hi : i < mm
              · have hi1 : i < na := Nat.lt_of_lt_of_le hi hm1
                have hi2 : (i : Int) < (D.q : Int) := by have := HM2.out; omega
                have H1 := Kept.mk (show ((ints l).length + [(i : Int)].length) * 8 ≤ 140737488355328 by rw [FFld.ints_len, hll]; simp; omega)
                have H2 := Kept.mk (show (ints l).length + [(i : Int)].length ≤ maxLen by rw [FFld.ints_len, hll]; unfold maxLen; simp; omega)
                have HM3 := Kept.mk (hmn.out.alloc (.cells #[.int .i64 (i : Int)] 3))
                have HNW := Kept.mk (new_one (K := .i64) (x := (i : Int)) (w := wr.alloc (.cells #[.int .i64 (i : Int)] 3)) (b := wr.heap.size) (o := 0) (by exact (Row.new (E := 3) (K := .i64) wr [(i : Int)]).cell (i := 0) (by simp)))
                have hsz := hbq.out.size
                have HBB := Kept.mk (show w6.heap.size ≤ (wr.alloc (.cells #[.int .i64 (i : Int)] 3)).heap.size by simp; omega)
                have HBQ := Kept.mk (hbq.out.alloc hsz (.cells #[.int .i64 (i : Int)] 3))
                have HOW := Kept.mk HM3.out.own
                go_wp2_with (at_builtin; refine wpList_append_mine _ rfl _ _ 34 (by rfl) 3 .i64 8 Try.underlying34 info_i64 w6.heap.size (.slice rv1 i rc) (ints l) (by rfl) HM3.out HBB.out ⟨wr.heap.size, 0, none⟩ 1 1 [(i : Int)] (by rfl) rfl HNW.out H1.out H2.out ?_)
                intro v' w5 hm5 hg5 hn5
                have HM5 := Kept.mk hm5
                have HB5 := Kept.mk (HBQ.out.grown hg5 HBB.out (fun j hj => (HOW.out j hj).1))
                clear hm5 hg5 hn5
                go_wp2
                go_roundw
                case rel => exact ⟨i + 1, l ++ [i], by omega, by go_num, by simp [hll], ⟨by rw [FFld.ints_append]; exact HM5.out⟩, HB5⟩
                case measure => simp [intOf] <;> omega
              · obtain rfl : i = mm := by omega
                have HBE := Kept.mk (bstep HBT.out hbq.out)
                have z1 := belowCell HBE.out HI1.out
                have z2 := belowCell HBE.out HI2.out
                have z3 := belowCell HBE.out HI3.out
                have HSA2 := Kept.mk hmn.out.sl
                have HLI := Kept.mk (list_any HD.out (.slice ab na cb) B i wr (HSB.out.below hbq.out) HBI.out (by omega))
                have HLE := Kept.mk hll
                have hq1i : ∀ x ∈ (B.take i).map (redN D), x ≤ 65536 := fun x hx => by
                  obtain ⟨a, _, rfl⟩ := List.mem_map.1 hx
                  have := redN_lt (Nat.le_of_lt HD.out.pre.pk.one_lt) a
                  have h6 : D.q ≤ 65536 := HD.out.pre.small
                  omega
                have HBL : Kept (((B.take i).map (redN D)).length ≤ 12) := ⟨by rw [List.length_map, List.length_take]; omega⟩
                have HQI := Kept.mk hq1i
                clear hmn hll hq1i hi
                by_cases hi1 : i < na
                · have hi2 : ¬ (i : Int) < (D.q : Int) := by have := HM3.out hi1; omega
                  go_wp2_with fail
                  refine HLI.out.mono ?_
                  rintro e w6 ⟨hb6, vb, rfl, hm6⟩
                  have HS6 := Kept.mk hm6.sl
                  have HB6 := Kept.mk (bstep HBE.out hb6)
                  have HSA6 := Kept.mk (HSA2.out.below hb6)
                  clear hb6 hm6 HLI
                  go_wp2
                  go_roundw
                  case rel => exact ⟨k + 1, ints l, ints ((B.take i).map (redN D)), by omega, by go_num, HSA6, HS6, ⟨by rw [FFld.ints_len, HLE.out]; omega⟩, ⟨by rw [FFld.ints_len]; exact HBL.out⟩, ⟨ints_i64s HQI.out⟩, HB6⟩
                  case measure => simp [intOf] <;> omega
                · go_wp2_with fail
                  refine HLI.out.mono ?_
                  rintro e w6 ⟨hb6, vb, rfl, hm6⟩
                  have HS6 := Kept.mk hm6.sl
                  have HB6 := Kept.mk (bstep HBE.out hb6)
                  have HSA6 := Kept.mk (HSA2.out.below hb6)
                  clear hb6 hm6 HLI
                  go_wp2
                  go_roundw
                  case rel => exact ⟨k + 1, ints l, ints ((B.take i).map (redN D)), by omega, by go_num, HSA6, HS6, ⟨by rw [FFld.ints_len, HLE.out]; omega⟩, ⟨by rw [FFld.ints_len]; exact HBL.out⟩, ⟨ints_i64s HQI.out⟩, HB6⟩
                  case measure => simp [intOf] <;> omega
          · rw [heb] at HEB
            obtain ⟨al, rfl, halq⟩ := els_list hea
            obtain ⟨bl, rfl, hblq⟩ := els_list heb
            have HAQ := Kept.mk halq
            have HBQQ := Kept.mk hblq
            have hna : al.length = na := by have := HNA.out; rw [FFld.ints_len] at this; exact this
            have hnb : bl.length = na := by have := HNB.out; rw [FFld.ints_len] at this; exact this
            have HAL := Kept.mk hna
            have HBL0 := Kept.mk hnb
            have HTG := Kept.mk (fun W (hF : FldB D W b) (h1 : Sl .i64 W (.slice aa na ca) (ints al)) (h2 : Sl .i64 W (.slice ab na cb) (ints bl)) => fthrough_good HD.out _ _ al bl na W hF h1 h2 HAQ.out HBQQ.out HAL.out HBL0.out (by omega))
            have HTR := Kept.mk (fun W (h1 : Sl .i64 W (.slice aa na ca) (ints al)) (h2 : Sl .i64 W (.slice ab na cb) (ints bl)) => rthrough_any HD.out _ _ al bl na W h1 h2 HAQ.out HBQQ.out HAL.out HBL0.out (by omega))
            have HTW := Kept.mk (fun W (h1 : Sl .i64 W (.slice aa na ca) (ints al)) => twice_any _ (ints al) W h1 (by rw [HNA.out]; omega))
            have HNL := Kept.mk (fun h => FFld.newton_lagrange HD.out HAQ.out HBQQ.out (n := na) HAL.out h)
            have HOK := Kept.mk (fun (h : ∀ a, a < na → FFld.thA D al a ≠ 0) i j (hji : j < i) (hi : i < na) => FFld.thA_ok HD.out HAQ.out (h i hi) j hji)
            have HLG : Kept ((ints (FFld.lgO D HD.out.pre.pk al bl na na)).length ≤ 1000000) := ⟨by rw [FFld.ints_len]; have := FFld.lgO_len D HD.out.pre.pk al bl na na (Nat.le_refl _); omega⟩
            clear hea heb halq hblq hna hnb HTB
            go_wp2_with fail
            refine (HTG.out _ (HF.out.below HBT.out) HSA.out HSB.out).mono ?_
            rintro e w4 ⟨hb4, hcase⟩
            rcases hcase with ⟨di, dj, hd1, hd2, hd3, rfl⟩ | ⟨hno, v, rfl, hsv⟩
            · have HDU : Kept (∃ i j, j < i ∧ i < na ∧ al[i]?.getD 0 = al[j]?.getD 0) := ⟨di, dj, hd1, hd2, hd3⟩
              replace HBT := Kept.mk (bstep HBT.out hb4)
              replace HSB := Kept.mk (HSB.out.below hb4)
              replace HSA := Kept.mk (HSA.out.below hb4)
              have z0 := belowCell HBT.out HI0.out
              have z1 := belowCell HBT.out HI1.out
              have z2 := belowCell HBT.out HI2.out
              have z3 := belowCell HBT.out HI3.out
              clear hb4 hd1 hd2 hd3 HTG HTR HNL HOK HLG
              go_wp2_with fail
              refine (HEA.out _ HSA.out).mono ?_
              rintro e w5 ⟨hb5, rfl⟩
              have y0 := belowCell hb5 z0
              have y1 := belowCell hb5 z1
              have y2 := belowCell hb5 z2
              have y3 := belowCell hb5 z3
              replace HBT := Kept.mk (bstep HBT.out hb5)
              replace HSB := Kept.mk (HSB.out.below hb5)
              replace HSA := Kept.mk (HSA.out.below hb5)
              clear hb5 HEA z0 z1 z2 z3
              go_wp2_with fail
              refine (HEB.out _ HSB.out).mono ?_
              rintro e w6 ⟨hb6, rfl⟩
              replace HBT := Kept.mk (bstep HBT.out hb6)
              replace HSB := Kept.mk (HSB.out.below hb6)
              replace HSA := Kept.mk (HSA.out.below hb6)
              clear hb6 HEB y0 y1 y2 y3
              go_wp2_with fail
              refine (HTW.out _ HSA.out).mono ?_
              rintro e w7 ⟨hb7, hcase⟩
              rcases hcase with ⟨rfl, _⟩ | ⟨_, hno⟩
              rotate_left
              · obtain ⟨i, j, h1, h2, h3⟩ := HDU.out
                exact absurd (ints_dup.2 h3) (hno i j h1 (by rw [FFld.ints_len, HAL.out]; exact h2))
              replace HBT := Kept.mk (bstep HBT.out hb7)
              replace HSB := Kept.mk (HSB.out.below hb7)
              clear hb7 HTW HDU
              have HMI : Kept (Mine 3 .i64 w7.heap.size w7 (.slice none 0 0) (ints [])) := ⟨Mine.nil _ _ _ _⟩
              clear HSA
              go_wp2
              go_loopw [9, 15] (fun av2 iv wr => ∃ (i : Nat) (l : List Nat), i ≤ mm ∧ iv = .int .i64 i ∧ l.length = i ∧ Kept (Mine 3 .i64 w7.heap.size wr av2 (ints l)) ∧ Kept (Below w7.heap.size w7 wr)) (fun _ iv _ => mm - (intOf iv).toNat)
              case atStart => exact ⟨0, [], Nat.zero_le _, rfl, rfl, HMI, ⟨Below.refl _ _⟩⟩
              case round =>
                clear HMI
                obtain ⟨i, l, him, rfl, hll, hmn, hbq⟩ := hrel
                obtain ⟨rv1, rc, rfl, hrc, hrm⟩ := hmn.out.sl.form
                rw [FFld.ints_len, hll] at hrc hmn ⊢
                have z0 := belowCell (bstep HBT.out hbq.out) HI0.out
                by_cases hi : i < mm
                · have hi1 : i < na := Nat.lt_of_lt_of_le hi hm1
                  have hi2 : (i : Int) < (D.q : Int) := by have := HM2.out; omega
                  have H1 := Kept.mk (show ((ints l).length + [(i : Int)].length) * 8 ≤ 140737488355328 by rw [FFld.ints_len, hll]; simp; omega)
                  have H2 := Kept.mk (show (ints l).length + [(i : Int)].length ≤ maxLen by rw [FFld.ints_len, hll]; unfold maxLen; simp; omega)
                  have HM3 := Kept.mk (hmn.out.alloc (.cells #[.int .i64 (i : Int)] 3))
                  have HNW := Kept.mk (new_one (K := .i64) (x := (i : Int)) (w := wr.alloc (.cells #[.int .i64 (i : Int)] 3)) (b := wr.heap.size) (o := 0) (by exact (Row.new (E := 3) (K := .i64) wr [(i : Int)]).cell (i := 0) (by simp)))
                  have hsz := hbq.out.size
                  have HBB := Kept.mk (show w7.heap.size ≤ (wr.alloc (.cells #[.int .i64 (i : Int)] 3)).heap.size by simp; omega)
                  have HBQ := Kept.mk (hbq.out.alloc hsz (.cells #[.int .i64 (i : Int)] 3))
                  have HOW := Kept.mk HM3.out.own
                  go_wp2_with (at_builtin; refine wpList_append_mine _ rfl _ _ 34 (by rfl) 3 .i64 8 Try.underlying34 info_i64 w7.heap.size (.slice rv1 i rc) (ints l) (by rfl) HM3.out HBB.out ⟨wr.heap.size, 0, none⟩ 1 1 [(i : Int)] (by rfl) rfl HNW.out H1.out H2.out ?_)
                  intro v' w5 hm5 hg5 hn5
                  have HM5 := Kept.mk hm5
                  have HB5 := Kept.mk (HBQ.out.grown hg5 HBB.out (fun j hj => (HOW.out j hj).1))
                  clear hm5 hg5 hn5
                  go_wp2
                  go_roundw
                  case rel => exact ⟨i + 1, l ++ [i], by omega, by go_num, by simp [hll], ⟨by rw [FFld.ints_append]; exact HM5.out⟩, HB5⟩
                  case measure => simp [intOf] <;> omega
                · obtain rfl : i = mm := by omega
                  have HBE := Kept.mk (bstep HBT.out hbq.out)
                  have z1 := belowCell HBE.out HI1.out
                  have z2 := belowCell HBE.out HI2.out
                  have z3 := belowCell HBE.out HI3.out
                  have HSA2 := Kept.mk hmn.out.sl
                  have HLI := Kept.mk (list_any HD.out (.slice ab na cb) (ints bl) i wr (HSB.out.below hbq.out) HBI.out (by omega))
                  have HLE := Kept.mk hll
                  have hq1i : ∀ x ∈ ((ints bl).take i).map (redN D), x ≤ 65536 := fun x hx => by
                    obtain ⟨a, _, rfl⟩ := List.mem_map.1 hx
                    have := redN_lt (Nat.le_of_lt HD.out.pre.pk.one_lt) a
                    have h6 : D.q ≤ 65536 := HD.out.pre.small
                    omega
                  have HBL : Kept ((((ints bl).take i).map (redN D)).length ≤ 12) := ⟨by rw [List.length_map, List.length_take]; omega⟩
                  have HQI := Kept.mk hq1i
                  clear hmn hll hq1i hi
                  by_cases hi1 : i < na
                  · have hi2 : ¬ (i : Int) < (D.q : Int) := by have := HM3.out hi1; omega
                    go_wp2_with fail
                    refine HLI.out.mono ?_
                    rintro e w6 ⟨hb6, vb, rfl, hm6⟩
                    have HS6 := Kept.mk hm6.sl
                    have HB6 := Kept.mk (bstep HBE.out hb6)
                    have HSA6 := Kept.mk (HSA2.out.below hb6)
                    clear hb6 hm6 HLI
                    go_wp2
                    go_roundw
                    case rel => exact ⟨k + 1, ints l, ints (((ints bl).take i).map (redN D)), by omega, by go_num, HSA6, HS6, ⟨by rw [FFld.ints_len, HLE.out]; omega⟩, ⟨by rw [FFld.ints_len]; exact HBL.out⟩, ⟨ints_i64s HQI.out⟩, HB6⟩
                    case measure => simp [intOf] <;> omega
                  · go_wp2_with fail
                    refine HLI.out.mono ?_
                    rintro e w6 ⟨hb6, vb, rfl, hm6⟩
                    have HS6 := Kept.mk hm6.sl
                    have HB6 := Kept.mk (bstep HBE.out hb6)
                    have HSA6 := Kept.mk (HSA2.out.below hb6)
                    clear hb6 hm6 HLI
                    go_wp2
                    go_roundw
                    case rel => exact ⟨k + 1, ints l, ints (((ints bl).take i).map (redN D)), by omega, by go_num, HSA6, HS6, ⟨by rw [FFld.ints_len, HLE.out]; omega⟩, ⟨by rw [FFld.ints_len]; exact HBL.out⟩, ⟨ints_i64s HQI.out⟩, HB6⟩
                    case measure => simp [intOf] <;> omega
            · have HNO := Kept.mk hno
              have HSV := Kept.mk hsv
              replace HBT := Kept.mk (bstep HBT.out hb4)
              replace HSB := Kept.mk (HSB.out.below hb4)
              replace HSA := Kept.mk (HSA.out.below hb4)
              have z0 := belowCell HBT.out HI0.out
              have z1 := belowCell HBT.out HI1.out
              have z2 := belowCell HBT.out HI2.out
              have z3 := belowCell HBT.out HI3.out
              clear hb4 hno hsv HTG
              go_wp2_with fail
              refine (HEA.out _ HSA.out).mono ?_
              rintro e w5 ⟨hb5, rfl⟩
              have y0 := belowCell hb5 z0
              have y1 := belowCell hb5 z1
              have y2 := belowCell hb5 z2
              have y3 := belowCell hb5 z3
              replace HBT := Kept.mk (bstep HBT.out hb5)
              replace HSB := Kept.mk (HSB.out.below hb5)
              replace HSA := Kept.mk (HSA.out.below hb5)
              replace HSV := Kept.mk (HSV.out.below hb5)
              clear hb5 HEA z0 z1 z2 z3
              go_wp2_with fail
              refine (HEB.out _ HSB.out).mono ?_
              rintro e w6 ⟨hb6, rfl⟩
              replace HBT := Kept.mk (bstep HBT.out hb6)
              replace HSB := Kept.mk (HSB.out.below hb6)
              replace HSA := Kept.mk (HSA.out.below hb6)
              replace HSV := Kept.mk (HSV.out.below hb6)
              clear hb6 HEB y0 y1 y2 y3
              go_wp2_with fail
              refine (HTW.out _ HSA.out).mono ?_
              rintro e w7 ⟨hb7, hcase⟩
              rcases hcase with ⟨_, i, j, h1, h2, h3⟩ | ⟨rfl, _⟩
              · rw [HNA.out] at h2
                exact absurd (ints_dup.1 h3) (HOK.out HNO.out i j h1 h2)
              replace HBT := Kept.mk (bstep HBT.out hb7)
              replace HSB := Kept.mk (HSB.out.below hb7)
              replace HSA := Kept.mk (HSA.out.below hb7)
              replace HSV := Kept.mk (HSV.out.below hb7)
              have z0 := belowCell HBT.out HI0.out
              have z1 := belowCell HBT.out HI1.out
              have z2 := belowCell HBT.out HI2.out
              have z3 := belowCell HBT.out HI3.out
              clear hb7 HTW
              go_wp2_with fail
              refine (HTR.out _ HSA.out HSB.out).mono ?_
              rintro e w8 ⟨hb8, v2, rfl, hs8⟩
              have HS8 := Kept.mk hs8
              replace HBT := Kept.mk (bstep HBT.out hb8)
              replace HSB := Kept.mk (HSB.out.below hb8)
              replace HSA := Kept.mk (HSA.out.below hb8)
              replace HSV := Kept.mk (HSV.out.below hb8)
              have HSV2 : Kept (Sl .i64 w8 v (ints (FFld.lgO D HD.out.pre.pk al bl na na))) := ⟨by have := HSV.out; rw [HNL.out HNO.out] at this; exact this⟩
              clear hb8 hs8 HTR z0 z1 z2 z3 HNL HOK HNO
              go_wp2_with fail
              refine (same_eq _ _ _ _ HSV2.out HS8.out HLG.out).mono ?_
              rintro e w9 ⟨hb9, rfl⟩
              replace HBT := Kept.mk (bstep HBT.out hb9)
              replace HSB := Kept.mk (HSB.out.below hb9)
              clear hb9 HSV HSV2 HS8 HLG
              have HMI : Kept (Mine 3 .i64 w9.heap.size w9 (.slice none 0 0) (ints [])) := ⟨Mine.nil _ _ _ _⟩
              clear HSA
              go_wp2
              go_loopw [9, 15] (fun av2 iv wr => ∃ (i : Nat) (l : List Nat), i ≤ mm ∧ iv = .int .i64 i ∧ l.length = i ∧ Kept (Mine 3 .i64 w9.heap.size wr av2 (ints l)) ∧ Kept (Below w9.heap.size w9 wr)) (fun _ iv _ => mm - (intOf iv).toNat)
              case atStart => exact ⟨0, [], Nat.zero_le _, rfl, rfl, HMI, ⟨Below.refl _ _⟩⟩
              case round =>
                clear HMI
                obtain ⟨i, l, him, rfl, hll, hmn, hbq⟩ := hrel
                obtain ⟨rv1, rc, rfl, hrc, hrm⟩ := hmn.out.sl.form
                rw [FFld.ints_len, hll] at hrc hmn ⊢
                have z0 := belowCell (bstep HBT.out hbq.out) HI0.out
                by_cases hi : i < mm
                · have hi1 : i < na := Nat.lt_of_lt_of_le hi hm1
                  have hi2 : (i : Int) < (D.q : Int) := by have := HM2.out; omega
                  have H1 := Kept.mk (show ((ints l).length + [(i : Int)].length) * 8 ≤ 140737488355328 by rw [FFld.ints_len, hll]; simp; omega)
                  have H2 := Kept.mk (show (ints l).length + [(i : Int)].length ≤ maxLen by rw [FFld.ints_len, hll]; unfold maxLen; simp; omega)
                  have HM3 := Kept.mk (hmn.out.alloc (.cells #[.int .i64 (i : Int)] 3))
                  have HNW := Kept.mk (new_one (K := .i64) (x := (i : Int)) (w := wr.alloc (.cells #[.int .i64 (i : Int)] 3)) (b := wr.heap.size) (o := 0) (by exact (Row.new (E := 3) (K := .i64) wr [(i : Int)]).cell (i := 0) (by simp)))
                  have hsz := hbq.out.size
                  have HBB := Kept.mk (show w9.heap.size ≤ (wr.alloc (.cells #[.int .i64 (i : Int)] 3)).heap.size by simp; omega)
                  have HBQ := Kept.mk (hbq.out.alloc hsz (.cells #[.int .i64 (i : Int)] 3))
                  have HOW := Kept.mk HM3.out.own
                  go_wp2_with (at_builtin; refine wpList_append_mine _ rfl _ _ 34 (by rfl) 3 .i64 8 Try.underlying34 info_i64 w9.heap.size (.slice rv1 i rc) (ints l) (by rfl) HM3.out HBB.out ⟨wr.heap.size, 0, none⟩ 1 1 [(i : Int)] (by rfl) rfl HNW.out H1.out H2.out ?_)
                  intro v' w5 hm5 hg5 hn5
                  have HM5 := Kept.mk hm5
                  have HB5 := Kept.mk (HBQ.out.grown hg5 HBB.out (fun j hj => (HOW.out j hj).1))
                  clear hm5 hg5 hn5
                  go_wp2
                  go_roundw
                  case rel => exact ⟨i + 1, l ++ [i], by omega, by go_num, by simp [hll], ⟨by rw [FFld.ints_append]; exact HM5.out⟩, HB5⟩
                  case measure => simp [intOf] <;> omega
                · obtain rfl : i = mm := by omega
                  have HBE := Kept.mk (bstep HBT.out hbq.out)
                  have z1 := belowCell HBE.out HI1.out
                  have z2 := belowCell HBE.out HI2.out
                  have z3 := belowCell HBE.out HI3.out
                  have HSA2 := Kept.mk hmn.out.sl
                  have HLI := Kept.mk (list_any HD.out (.slice ab na cb) (ints bl) i wr (HSB.out.below hbq.out) HBI.out (by omega))
                  have HLE := Kept.mk hll
                  have hq1i : ∀ x ∈ ((ints bl).take i).map (redN D), x ≤ 65536 := fun x hx => by
                    obtain ⟨a, _, rfl⟩ := List.mem_map.1 hx
                    have := redN_lt (Nat.le_of_lt HD.out.pre.pk.one_lt) a
                    have h6 : D.q ≤ 65536 := HD.out.pre.small
                    omega
                  have HBL : Kept ((((ints bl).take i).map (redN D)).length ≤ 12) := ⟨by rw [List.length_map, List.length_take]; omega⟩
                  have HQI := Kept.mk hq1i
                  clear hmn hll hq1i hi
                  by_cases hi1 : i < na
                  · have hi2 : ¬ (i : Int) < (D.q : Int) := by have := HM3.out hi1; omega
                    go_wp2_with fail
                    refine HLI.out.mono ?_
                    rintro e w6 ⟨hb6, vb, rfl, hm6⟩
                    have HS6 := Kept.mk hm6.sl
                    have HB6 := Kept.mk (bstep HBE.out hb6)
                    have HSA6 := Kept.mk (HSA2.out.below hb6)
                    clear hb6 hm6 HLI
                    go_wp2
                    go_roundw
                    case rel => exact ⟨k + 1, ints l, ints (((ints bl).take i).map (redN D)), by omega, by go_num, HSA6, HS6, ⟨by rw [FFld.ints_len, HLE.out]; omega⟩, ⟨by rw [FFld.ints_len]; exact HBL.out⟩, ⟨ints_i64s HQI.out⟩, HB6⟩
                    case measure => simp [intOf] <;> omega
                  · go_wp2_with fail
                    refine HLI.out.mono ?_
                    rintro e w6 ⟨hb6, vb, rfl, hm6⟩
                    have HS6 := Kept.mk hm6.sl
                    have HB6 := Kept.mk (bstep HBE.out hb6)
                    have HSA6 := Kept.mk (HSA2.out.below hb6)
                    clear hb6 hm6 HLI
                    go_wp2
                    go_roundw
                    case rel => exact ⟨k + 1, ints l, ints (((ints bl).take i).map (redN D)), by omega, by go_num, HSA6, HS6, ⟨by rw [FFld.ints_len, HLE.out]; omega⟩, ⟨by rw [FFld.ints_len]; exact HBL.out⟩, ⟨ints_i64s HQI.out⟩, HB6⟩
                    case measure => simp [intOf] <;> omega
      · have es : ((na : Int) != (nb : Int)) = true := by rw [bne_iff_ne]; omega
        have HTS := Kept.mk (fun W (hF : FldB D W b) (h1 : Sl .i64 W (.slice aa na ca) A) (h2 : Sl .i64 W (.slice ab nb cb) B) => fthrough_shape _ _ A B W hF h1 h2 (by rw [HNA.out, HNB.out]; exact hs))
        clear hs
        go_wp2_with fail
        refine (HTS.out _ (HF.out.below HBT.out) HSA.out HSB.out).mono ?_
        rintro e w4 ⟨rfl, rfl⟩
        clear HTS
        obtain ⟨wz, rfl⟩ : ∃ W, W = wr := ⟨_, rfl⟩
        have HMI : Kept (Mine 3 .i64 wz.heap.size wz (.slice none 0 0) (ints [])) := ⟨Mine.nil _ _ _ _⟩
        clear HSA
        go_wp2
        go_loopw [9, 15] (fun av2 iv wr => ∃ (i : Nat) (l : List Nat), i ≤ mm ∧ iv = .int .i64 i ∧ l.length = i ∧ Kept (Mine 3 .i64 wz.heap.size wr av2 (ints l)) ∧ Kept (Below wz.heap.size wz wr)) (fun _ iv _ => mm - (intOf iv).toNat)
        case atStart => exact ⟨0, [], Nat.zero_le _, rfl, rfl, HMI, ⟨Below.refl _ _⟩⟩
        case round =>
          clear HMI
          obtain ⟨i, l, him, rfl, hll, hmn, hbq⟩ := hrel
          obtain ⟨rv1, rc, rfl, hrc, hrm⟩ := hmn.out.sl.form
          rw [FFld.ints_len, hll] at hrc hmn ⊢
          have z0 := belowCell (bstep HBT.out hbq.out) HI0.out
          by_cases hi : i < mm
          · have hi1 : i < nb := Nat.lt_of_lt_of_le hi hm1
            have hi2 : (i : Int) < (D.q : Int) := by have := HM2.out; omega
            have H1 := Kept.mk (show ((ints l).length + [(i : Int)].length) * 8 ≤ 140737488355328 by rw [FFld.ints_len, hll]; simp; omega)
            have H2 := Kept.mk (show (ints l).length + [(i : Int)].length ≤ maxLen by rw [FFld.ints_len, hll]; unfold maxLen; simp; omega)
            have HM3 := Kept.mk (hmn.out.alloc (.cells #[.int .i64 (i : Int)] 3))
            have HNW := Kept.mk (new_one (K := .i64) (x := (i : Int)) (w := wr.alloc (.cells #[.int .i64 (i : Int)] 3)) (b := wr.heap.size) (o := 0) (by exact (Row.new (E := 3) (K := .i64) wr [(i : Int)]).cell (i := 0) (by simp)))
            have hsz := hbq.out.size
            have HBB := Kept.mk (show wz.heap.size ≤ (wr.alloc (.cells #[.int .i64 (i : Int)] 3)).heap.size by simp; omega)
            have HBQ := Kept.mk (hbq.out.alloc hsz (.cells #[.int .i64 (i : Int)] 3))
            have HOW := Kept.mk HM3.out.own
            go_wp2_with (at_builtin; refine wpList_append_mine _ rfl _ _ 34 (by rfl) 3 .i64 8 Try.underlying34 info_i64 wz.heap.size (.slice rv1 i rc) (ints l) (by rfl) HM3.out HBB.out ⟨wr.heap.size, 0, none⟩ 1 1 [(i : Int)] (by rfl) rfl HNW.out H1.out H2.out ?_)
            intro v' w5 hm5 hg5 hn5
            have HM5 := Kept.mk hm5
            have HB5 := Kept.mk (HBQ.out.grown hg5 HBB.out (fun j hj => (HOW.out j hj).1))
            clear hm5 hg5 hn5
            go_wp2
            go_roundw
            case rel => exact ⟨i + 1, l ++ [i], by omega, by go_num, by simp [hll], ⟨by rw [FFld.ints_append]; exact HM5.out⟩, HB5⟩
            case measure => simp [intOf] <;> omega
          · obtain rfl : i = mm := by omega
            have HBE := Kept.mk (bstep HBT.out hbq.out)
            have z1 := belowCell HBE.out HI1.out
            have z2 := belowCell HBE.out HI2.out
            have z3 := belowCell HBE.out HI3.out
            have HSA2 := Kept.mk hmn.out.sl
            have HLI := Kept.mk (list_any HD.out (.slice ab nb cb) B i wr (HSB.out.below hbq.out) HBI.out (by omega))
            have HLE := Kept.mk hll
            have hq1i : ∀ x ∈ (B.take i).map (redN D), x ≤ 65536 := fun x hx => by
              obtain ⟨a, _, rfl⟩ := List.mem_map.1 hx
              have := redN_lt (Nat.le_of_lt HD.out.pre.pk.one_lt) a
              have h6 : D.q ≤ 65536 := HD.out.pre.small
              omega
            have HBL : Kept (((B.take i).map (redN D)).length ≤ 12) := ⟨by rw [List.length_map, List.length_take]; omega⟩
            have HQI := Kept.mk hq1i
            clear hmn hll hq1i hi
            by_cases hi1 : i < nb
            · have hi2 : ¬ (i : Int) < (D.q : Int) := by have := HM3.out hi1; omega
              go_wp2_with fail
              refine HLI.out.mono ?_
              rintro e w6 ⟨hb6, vb, rfl, hm6⟩
              have HS6 := Kept.mk hm6.sl
              have HB6 := Kept.mk (bstep HBE.out hb6)
              have HSA6 := Kept.mk (HSA2.out.below hb6)
              clear hb6 hm6 HLI
              go_wp2
              go_roundw
              case rel => exact ⟨k + 1, ints l, ints ((B.take i).map (redN D)), by omega, by go_num, HSA6, HS6, ⟨by rw [FFld.ints_len, HLE.out]; omega⟩, ⟨by rw [FFld.ints_len]; exact HBL.out⟩, ⟨ints_i64s HQI.out⟩, HB6⟩
              case measure => simp [intOf] <;> omega
            · go_wp2_with fail
              refine HLI.out.mono ?_
              rintro e w6 ⟨hb6, vb, rfl, hm6⟩
              have HS6 := Kept.mk hm6.sl
              have HB6 := Kept.mk (bstep HBE.out hb6)
              have HSA6 := Kept.mk (HSA2.out.below hb6)
              clear hb6 hm6 HLI
              go_wp2
              go_roundw
              case rel => exact ⟨k + 1, ints l, ints ((B.take i).map (redN D)), by omega, by go_num, HSA6, HS6, ⟨by rw [FFld.ints_len, HLE.out]; omega⟩, ⟨by rw [FFld.ints_len]; exact HBL.out⟩, ⟨ints_i64s HQI.out⟩, HB6⟩
              case measure => simp [intOf] <;> omega
    · obtain rfl : k = 2 := by omega
      go_wp2_with (at_make; refine wpList_make_zeros _ rfl _ _ 34 rfl 3 .i64 Try.underlying34 info_i64 _ _ 201 rfl rfl (by omega) (by omega) (by omega) ?_)
      intro w4 hrow hbel
      have hrow2 : Row 3 .i64 w4 wr.heap.size (ints (List.replicate 201 0)) := hrow
      have HB4 := Kept.mk (bstep HBT.out (show Below wr.heap.size wr w4 by simpa using hbel))
      have HS4 : Kept (Sl .i64 w4 (.slice (some ⟨wr.heap.size, 0, none⟩) 201 201) (ints (List.replicate 201 0))) := ⟨hrow2.wv.sl (by rw [List.length_replicate]) (Nat.le_refl _) (by unfold maxLen; omega)⟩
      have HTL := Kept.mk (fun W (hF : FldB D W b) (h1 : Sl .i64 W (.slice (some ⟨wr.heap.size, 0, none⟩) 201 201) (ints (List.replicate 201 0))) => fthrough_long _ _ (ints (List.replicate 201 0)) (ints (List.replicate 201 0)) W hF h1 h1 201 (by rw [FFld.ints_len, List.length_replicate]) (by rw [FFld.ints_len, List.length_replicate]) (by omega))
      clear hrow hrow2 hbel HSA HSB
      go_wp2_with fail
      refine (HTL.out _ (HF.out.below HB4.out) HS4.out).mono ?_
      rintro e w5 ⟨rfl, rfl⟩
      have HBE := Kept.mk (bstep HB.out HB4.out)
      clear HTL HS4
      go_wp2_with fail
      refine (awake_any _).mono ?_
      rintro e w6 ⟨hb6, rfl⟩
      replace HBE := Kept.mk (bstep HBE.out hb6)
      clear hb6
      go_wp2
      go_ret
      exact ⟨HBE.out, rfl⟩
end Go.Proofs.Ytfhhnfpapgfnmaa
