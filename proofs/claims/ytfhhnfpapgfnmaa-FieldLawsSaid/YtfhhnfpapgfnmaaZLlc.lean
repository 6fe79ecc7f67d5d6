/-
  Texts of the proof, merged by program: Llc.
-/
import Derived.Test.YtfhhnfpapgfnmaaZLlo
set_option linter.unusedVariables false
set_option linter.unusedSimpArgs false
namespace Go.Proofs.Ytfhhnfpapgfnmaa
open Go Go.RowKit Go.Deep
open FFld (ints)
set_option maxRecDepth 20000 in
set_option maxHeartbeats 16000000 in
theorem fieldLaws_any (order x y z : Int) (w : World) (o0 : -9223372036854775808 ≤ order) (o1 : order ≤ 9223372036854775807) (x0 : -9223372036854775808 ≤ x) (x1 : x ≤ 9223372036854775807) (y0 : -9223372036854775808 ≤ y) (y1 : y ≤ 9223372036854775807) (z0 : -9223372036854775808 ≤ z) (z1 : z ≤ 9223372036854775807) :
    Calls Try.prog 14 #[.int .i64 order, .agg #[.int .i64 x, .int .i64 y, .int .i64 z]] w (RB w (.bool true)) := by
  have hbA : Below w.heap.size w (w.alloc (.cells #[.int .i64 x, .int .i64 y, .int .i64 z] 89)) := (Below.refl _ _).alloc (Nat.le_refl _) _
  obtain ⟨i4, i5, i6, _⟩ := three_cells (heap_alloc_new w (.cells #[.int .i64 x, .int .i64 y, .int .i64 z] 89))
  have HBA := Kept.mk hbA
  clear hbA
  go_enter Try.func14, Try.ntmps14
  go_wp2_with fail
  refine (some_any order 65536 _ o0 o1 (by omega) (by omega)).mono ?_
  rintro e w1 ⟨hb1, D, b, hD, hle, hbl, hf, rfl⟩
  have i4 := belowCell hb1 i4
  have i5 := belowCell hb1 i5
  have i6 := belowCell hb1 i6
  have hbx : Below w1.heap.size w1 (w1.alloc (rbox D.q D.p D.k D.m)) := (Below.refl _ _).alloc (Nat.le_refl _) _
  obtain ⟨i0, i1, i2, i3⟩ := four_cells (heap_alloc_new w1 (rbox D.q D.p D.k D.m))
  have i4 := belowCell hbx i4
  have i5 := belowCell hbx i5
  have i6 := belowCell hbx i6
  have HB := Kept.mk (bstep (bstep HBA.out hb1) hbx)
  have HF := Kept.mk (hf.below hbx)
  have HD := Kept.mk hD
  have hq6 : D.p ^ D.k ≤ 65536 := hD.pre.small
  have hq6' : D.q ≤ 65536 := hD.pre.small
  have hpk := hD.pre.pk
  have hq1 : 1 < D.p ^ D.k := hpk.one_lt
  have hq1' : 1 ≤ D.q := Nat.le_of_lt hpk.one_lt
  obtain ⟨a, hra, ha⟩ := red_nat hD x
  obtain ⟨bb, hrb, hbb⟩ := red_nat hD y
  obtain ⟨c, hrc, hc⟩ := red_nat hD z
  have A1 := Kept.mk (fun W (hW : Below (w1.alloc (rbox D.q D.p D.k D.m)).heap.size (w1.alloc (rbox D.q D.p D.k D.m)) W) => rin_any D.q D.p D.k D.m x W hq1' hq6' x0 x1)
  have A2 := Kept.mk (fun W (hW : Below (w1.alloc (rbox D.q D.p D.k D.m)).heap.size (w1.alloc (rbox D.q D.p D.k D.m)) W) => rin_any D.q D.p D.k D.m y W hq1' hq6' y0 y1)
  have A3 := Kept.mk (fun W (hW : Below (w1.alloc (rbox D.q D.p D.k D.m)).heap.size (w1.alloc (rbox D.q D.p D.k D.m)) W) => rin_any D.q D.p D.k D.m z W hq1' hq6' z0 z1)
  rw [hra] at A1
  rw [hrb] at A2
  rw [hrc] at A3
  obtain ⟨g8, hg8⟩ : ∃ g, w1.heap.size = g := ⟨_, rfl⟩
  obtain ⟨gA, hgA⟩ : ∃ g, w.heap.size = g := ⟨_, rfl⟩
  clear hb1 hf hD hbx hra hrb hrc hbl hle HBA
  obtain ⟨sab, hsab⟩ : ∃ v, FFld.padd D.p D.k a bb = v := ⟨_, rfl⟩
  obtain ⟨sbc, hsbc⟩ : ∃ v, FFld.padd D.p D.k bb c = v := ⟨_, rfl⟩
  obtain ⟨sabc, hsabc⟩ : ∃ v, FFld.padd D.p D.k sab c = v := ⟨_, rfl⟩
  obtain ⟨mab, hmab⟩ : ∃ v, FFld.pmul D.p D.k D.m a D.k bb = v := ⟨_, rfl⟩
  obtain ⟨mbc, hmbc⟩ : ∃ v, FFld.pmul D.p D.k D.m bb D.k c = v := ⟨_, rfl⟩
  obtain ⟨mabc, hmabc⟩ : ∃ v, FFld.pmul D.p D.k D.m mab D.k c = v := ⟨_, rfl⟩
  obtain ⟨mac, hmac⟩ : ∃ v, FFld.pmul D.p D.k D.m a D.k c = v := ⟨_, rfl⟩
  obtain ⟨dd, hdd⟩ : ∃ v, FFld.pmul D.p D.k D.m a D.k sbc = v := ⟨_, rfl⟩
  have qsab : sab < D.p ^ D.k := by rw [← hsab]; exact FFld.padd_lt hpk _ _
  have qsbc : sbc < D.p ^ D.k := by rw [← hsbc]; exact FFld.padd_lt hpk _ _
  have qmab : mab < D.p ^ D.k := by rw [← hmab]; exact FFld.pmul_lt hpk _ _ _
  have qmbc : mbc < D.p ^ D.k := by rw [← hmbc]; exact FFld.pmul_lt hpk _ _ _
  have qmac : mac < D.p ^ D.k := by rw [← hmac]; exact FFld.pmul_lt hpk _ _ _
  have E1 : FFld.padd D.p D.k bb a = sab := by rw [FFld.padd_comm hpk, hsab]
  have E2 : FFld.padd D.p D.k a sbc = sabc := by rw [← hsbc, ← FFld.padd_assoc hpk, hsab, hsabc]
  have E3 : FFld.pmul D.p D.k D.m bb D.k a = mab := by rw [FFld.pmul_comm hpk _ _ hbb ha, hmab]
  have E4 : FFld.pmul D.p D.k D.m a D.k mbc = mabc := by rw [← hmbc, ← FFld.pmul_assoc hpk _ _ _ ha hbb hc, hmab, hmabc]
  have E5 : FFld.padd D.p D.k mab mac = dd := by
    have := congrArg Subtype.val ((FFld.rng hpk).mul_add ⟨a, ha⟩ ⟨bb, hbb⟩ ⟨c, hc⟩)
    rw [← hdd, ← hsbc, ← hmab, ← hmac]
    exact this.symm
  have E6 : FFld.padd D.p D.k a 0 = a := FFld.padd_zero hpk a ha
  have E7 : FFld.pmul D.p D.k D.m a D.k 1 = a := FFld.pmul_by_one hpk a ha
  have E8 : FFld.padd D.p D.k sab (FFld.pscl D.p D.k (D.p - 1) bb) = a := by rw [← hsab, FFld.padd_assoc hpk, FFld.padd_neg hpk, FFld.padd_zero hpk a ha]
  have E9 : bb ≠ 0 → FFld.pmul D.p D.k D.m mab D.k (FFld.ppow HD.out.pre.pk bb (D.q - 2)) = a := fun h0 => by rw [← hmab]; exact HD.out.div_mul ha hbb h0
  have F6 := Kept.mk E6
  have F7 := Kept.mk E7
  have F8 := Kept.mk E8
  have F9 := Kept.mk E9
  have D0 := Kept.mk (fun W (hf : FldB D W b) => el_add (W := W) hf ha hbb hsab)
  have D1 := Kept.mk (fun W (hf : FldB D W b) => el_add (W := W) hf hbb ha E1)
  have D2 := Kept.mk (fun W (hf : FldB D W b) => el_add (W := W) hf qsab hc hsabc)
  have D3 := Kept.mk (fun W (hf : FldB D W b) => el_add (W := W) hf hbb hc hsbc)
  have D4 := Kept.mk (fun W (hf : FldB D W b) => el_add (W := W) hf ha qsbc E2)
  have D5 := Kept.mk (fun W (hf : FldB D W b) => el_add (W := W) hf qmab qmac E5)
  have D6 := Kept.mk (fun W (hf : FldB D W b) => el_mul (W := W) hf ha hbb hmab)
  have D7 := Kept.mk (fun W (hf : FldB D W b) => el_mul (W := W) hf hbb ha E3)
  have D8 := Kept.mk (fun W (hf : FldB D W b) => el_mul (W := W) hf qmab hc hmabc)
  have D9 := Kept.mk (fun W (hf : FldB D W b) => el_mul (W := W) hf hbb hc hmbc)
  have D10 := Kept.mk (fun W (hf : FldB D W b) => el_mul (W := W) hf ha qmbc E4)
  have D11 := Kept.mk (fun W (hf : FldB D W b) => el_mul (W := W) hf ha qsbc hdd)
  have D12 := Kept.mk (fun W (hf : FldB D W b) => el_mul (W := W) hf ha hc hmac)
  have G1 := Kept.mk hsab
  have G2 := Kept.mk hmab
  clear hsab hsbc hsabc hmab hmbc hmabc hmac hdd E1 E2 E3 E4 E5 E6 E7 E8 E9 qsbc qmbc qmac
  go_wp2_with fail
  obtain ⟨W0, hW0⟩ : ∃ W, w1.alloc (rbox D.q D.p D.k D.m) = W := ⟨_, rfl⟩
  rw [hW0] at i0 i1 i2 i3 i4 i5 i6 HB HF A1 A2 A3
  try rw [hW0]
  rw [hg8] at i0 i1 i2 i3
  rw [hgA] at i4 i5 i6
  try rw [hg8]
  try rw [hgA]
  clear hW0
  have HY : Kept (Below W0.heap.size W0 W0) := ⟨Below.refl _ _⟩
  go_region_held3 (fun w' => w'.cell? ⟨g8, 0, none⟩ = some (.int .i64 D.q) ∧ w'.cell? ⟨g8, 1, none⟩ = some (.int .i64 D.p) ∧ w'.cell? ⟨g8, 2, none⟩ = some (.int .i64 D.k) ∧ w'.cell? ⟨g8, 3, none⟩ = some (.int .i64 D.m) ∧ w'.cell? ⟨gA, 0, none⟩ = some (.int .i64 x) ∧ w'.cell? ⟨gA, 1, none⟩ = some (.int .i64 y) ∧ w'.cell? ⟨gA, 2, none⟩ = some (.int .i64 z))
    (first | exact ⟨i0, i1, i2, i3, i4, i5, i6⟩ | go_keep)
    ((first
      | (go_at_call 51; (with_reducible refine (A1.out _ ?h1).mono ?_); (case h1 => first | exact HY.out | exact HY.out.drew); rintro e W' ⟨hb, rfl⟩; replace HY := Kept.mk (bstep (show Below W0.heap.size W0 _ from (by first | exact HY.out | exact HY.out.drew)) hb); replace i0 := belowCell hb i0; replace i1 := belowCell hb i1; replace i2 := belowCell hb i2; replace i3 := belowCell hb i3; replace i4 := belowCell hb i4; replace i5 := belowCell hb i5; replace i6 := belowCell hb i6; clear hb)
      | (go_at_call 51; (with_reducible refine (A2.out _ ?h1).mono ?_); (case h1 => first | exact HY.out | exact HY.out.drew); rintro e W' ⟨hb, rfl⟩; replace HY := Kept.mk (bstep (show Below W0.heap.size W0 _ from (by first | exact HY.out | exact HY.out.drew)) hb); replace i0 := belowCell hb i0; replace i1 := belowCell hb i1; replace i2 := belowCell hb i2; replace i3 := belowCell hb i3; replace i4 := belowCell hb i4; replace i5 := belowCell hb i5; replace i6 := belowCell hb i6; clear hb)
      | (go_at_call 51; (with_reducible refine (A3.out _ ?h1).mono ?_); (case h1 => first | exact HY.out | exact HY.out.drew); rintro e W' ⟨hb, rfl⟩; replace HY := Kept.mk (bstep (show Below W0.heap.size W0 _ from (by first | exact HY.out | exact HY.out.drew)) hb); replace i0 := belowCell hb i0; replace i1 := belowCell hb i1; replace i2 := belowCell hb i2; replace i3 := belowCell hb i3; replace i4 := belowCell hb i4; replace i5 := belowCell hb i5; replace i6 := belowCell hb i6; clear hb)))
  replace HF := Kept.mk (HF.out.below HY.out)
  replace HB := Kept.mk (bstep HB.out HY.out)
  clear i0 i1 i2 i3 i4 i5 i6 A1 A2 A3
  have HR7 : Kept (FlRest (sndOf fl7) D b a bb w) := ⟨fun v hB hF => fieldLaws_end HD ha hbb qsab G1 hB hF⟩
  have HR5 : Kept (FlRest (sndOf fl5) D b a bb w) := ⟨fun v hB hF => fieldLaws_mid HD ha hbb qmab G2 F9 HR7 hB hF⟩
  have HR3 : Kept (FlRest (sndOf fl3) D b a bb w) := ⟨fun v hB hF => fieldLaws_two HD ha hbb qsab G1 F8 HR5 hB hF⟩
  clear HY F6 F7 F8 F9 G1 G2 HR7 HR5
  first
    | (rename_i K h ; exact h _ _ (fieldLaws_one D0 D1 D2 D3 D4 D5 D6 D7 D8 D9 D10 D11 D12 HR3 HB HF))
    | (rename_i K h z0; exact h _ _ (fieldLaws_one D0 D1 D2 D3 D4 D5 D6 D7 D8 D9 D10 D11 D12 HR3 HB HF))
    | (rename_i K h z0 z1; exact h _ _ (fieldLaws_one D0 D1 D2 D3 D4 D5 D6 D7 D8 D9 D10 D11 D12 HR3 HB HF))
    | (rename_i K h z0 z1 z2; exact h _ _ (fieldLaws_one D0 D1 D2 D3 D4 D5 D6 D7 D8 D9 D10 D11 D12 HR3 HB HF))
    | (rename_i K h z0 z1 z2 z3; exact h _ _ (fieldLaws_one D0 D1 D2 D3 D4 D5 D6 D7 D8 D9 D10 D11 D12 HR3 HB HF))
    | (rename_i K h z0 z1 z2 z3 z4; exact h _ _ (fieldLaws_one D0 D1 D2 D3 D4 D5 D6 D7 D8 D9 D10 D11 D12 HR3 HB HF))
    | (rename_i K h z0 z1 z2 z3 z4 z5; exact h _ _ (fieldLaws_one D0 D1 D2 D3 D4 D5 D6 D7 D8 D9 D10 D11 D12 HR3 HB HF))
    | (rename_i K h z0 z1 z2 z3 z4 z5 z6; exact h _ _ (fieldLaws_one D0 D1 D2 D3 D4 D5 D6 D7 D8 D9 D10 D11 D12 HR3 HB HF))
    | (rename_i K h z0 z1 z2 z3 z4 z5 z6 z7; exact h _ _ (fieldLaws_one D0 D1 D2 D3 D4 D5 D6 D7 D8 D9 D10 D11 D12 HR3 HB HF))
    | (rename_i K h z0 z1 z2 z3 z4 z5 z6 z7 z8; exact h _ _ (fieldLaws_one D0 D1 D2 D3 D4 D5 D6 D7 D8 D9 D10 D11 D12 HR3 HB HF))
    | (rename_i K h z0 z1 z2 z3 z4 z5 z6 z7 z8 z9; exact h _ _ (fieldLaws_one D0 D1 D2 D3 D4 D5 D6 D7 D8 D9 D10 D11 D12 HR3 HB HF))
    | (rename_i K h z0 z1 z2 z3 z4 z5 z6 z7 z8 z9 z10; exact h _ _ (fieldLaws_one D0 D1 D2 D3 D4 D5 D6 D7 D8 D9 D10 D11 D12 HR3 HB HF))
    | (rename_i K h z0 z1 z2 z3 z4 z5 z6 z7 z8 z9 z10 z11; exact h _ _ (fieldLaws_one D0 D1 D2 D3 D4 D5 D6 D7 D8 D9 D10 D11 D12 HR3 HB HF))
    | (rename_i K h z0 z1 z2 z3 z4 z5 z6 z7 z8 z9 z10 z11 z12; exact h _ _ (fieldLaws_one D0 D1 D2 D3 D4 D5 D6 D7 D8 D9 D10 D11 D12 HR3 HB HF))
    | (rename_i K h z0 z1 z2 z3 z4 z5 z6 z7 z8 z9 z10 z11 z12 z13; exact h _ _ (fieldLaws_one D0 D1 D2 D3 D4 D5 D6 D7 D8 D9 D10 D11 D12 HR3 HB HF))
    | (rename_i K h z0 z1 z2 z3 z4 z5 z6 z7 z8 z9 z10 z11 z12 z13 z14; exact h _ _ (fieldLaws_one D0 D1 D2 D3 D4 D5 D6 D7 D8 D9 D10 D11 D12 HR3 HB HF))
end Go.Proofs.Ytfhhnfpapgfnmaa
