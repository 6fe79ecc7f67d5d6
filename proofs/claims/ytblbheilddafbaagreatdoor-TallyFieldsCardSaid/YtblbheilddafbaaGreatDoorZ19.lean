/-
  Texts of the proof, merged by program: Prat.
-/
import Derived.Test.YtblbheilddafbaaGreatDoorZ18
set_option linter.unusedVariables false
set_option linter.unusedSimpArgs false
namespace Go.Proofs.YtblbheilddafbaaGreatDoor
open Go Go.RowKit
/-- The same where a block was laid besides. -/
theorem rat_end_alloc {L : Nat} {p q : Int} {w W : World} {g : Nat} {s x : Bool} {ao bo uo do_ : Option Addr} {k c k' c' ku cu kd cd : Nat} {T : TypeId} (o : Obj) (hg : W.heap[g]? = some (.cells #[.bool x, .slice bo k' c', .slice do_ kd cd] T (0, 0)))
    (hb : Below w.heap.size w W) (hgw : w.heap.size ≤ g) (hs : s = decide (p < 0)) (hn : Num L W (.slice ao k c) p.natAbs) (hu : Num L W (.slice uo ku cu) (if q = 1 then 0 else q)) (W' : World)
    (hW : W' = (((W.setCell ⟨g, 0, none⟩ (.bool s)).setCell ⟨g, 1, none⟩ (.slice ao k c)).setCell ⟨g, 2, none⟩ (.slice uo ku cu)).alloc o) :
    Below w.heap.size w W' ∧ RatV L W' (.agg #[.bool s, .slice ao k c, .slice uo ku cu]) p q ∧
      W'.cell? ⟨g, 0, none⟩ = some (.bool s) ∧ W'.cell? ⟨g, 1, none⟩ = some (.slice ao k c) ∧ W'.cell? ⟨g, 2, none⟩ = some (.slice uo ku cu) := by
  subst hW
  obtain ⟨h1, h2, _⟩ := rat_end hg hb hgw hs hn hu _ rfl
  have hl := Array.getElem?_eq_some_iff.1 (three_set hg (.bool s) (.slice ao k c) (.slice uo ku cu))
  obtain ⟨q0, q1, q2, _, _, _⟩ := three_cells ((heap_alloc_old _ o hl.1).trans (three_set hg (.bool s) (.slice ao k c) (.slice uo ku cu)))
  exact ⟨h1.alloc h1.size _, h2.below ((Below.refl _ _).alloc (Nat.le_refl _) _), q0, q1, q2⟩
/-- What ParseRat returns: the fraction, ErrForm or ErrSize. -/
def PrRet (s : ByteArray) (w : World) (e : Ending) (w' : World) : Prop := Below w.heap.size w w' ∧
  ((∃ p q v', s.data.toList = decR p q ∧ Low p q ∧ smR p q = true ∧ e = .returned (.tuple #[v', .int .i64 0]) ∧ RatV (s.size + 40000) w' v' p q) ∨
   (∃ p q, s.data.toList = decR p q ∧ Low p q ∧ smR p q = false ∧ e = .returned (.tuple #[rat0, .int .i64 11])) ∨
   ((∀ p q, Low p q → s.data.toList ≠ decR p q) ∧ e = .returned (.tuple #[rat0, .int .i64 10])))
/-- A fact that no tactic looks into. -/
structure Kept (p : Prop) : Prop where
  out : p
theorem low_one (z : Int) : Low z 1 := ⟨by omega, by simp [Int.gcd]⟩
theorem smR_one (z : Int) : smR z 1 = smallB z.natAbs := by
  have h : (0 : Int) < 2 ^ maxBits := Dg.pow_pos (by omega) _
  unfold smR
  rw [if_pos rfl]
  have : smallB 0 = true := decide_eq_true h
  rw [this, Bool.and_true]
theorem canon_decN (n : Nat) : Dg.Canon (Dg.decN n) false (Dg.decN n) := by
  have := Dg.canon_decZ (n : Int)
  have e : Dg.decZ (n : Int) = Dg.decN n := by unfold Dg.decZ; rw [if_neg (by omega)]; simp
  rw [e] at this
  have e2 : decide ((n : Int) < 0) = false := by simp
  rw [e2] at this
  simpa using this
/-- The parts of a fraction's form are canonical. -/
theorem decR_canon {p q : Int} {b a : List UInt8} (hl : Low p q) (h : b ++ 47 :: a = decR p q) (hb : (47 : UInt8) ∉ b) :
    Dg.Canon b (decide (p < 0)) (Dg.decN p.natAbs) ∧ Dg.Canon a false (Dg.decN q.toNat) ∧ 2 ≤ q ∧ b = Dg.decZ p ∧ a = Dg.decN q.toNat := by
  obtain ⟨h1, e1, e2⟩ := decR_parts hl.1 h.symm hb
  exact ⟨by rw [e1]; exact Dg.canon_decZ p, by rw [e2]; exact canon_decN _, by have := hl.1; omega, e1, e2⟩
theorem canon_small {a d : List UInt8} (h : Dg.Canon a false d) : a = d ∧ d = Dg.decN (Dg.valD d) ∧ (d = [48] ↔ Dg.valD d = 0) ∧ (d = [49] ↔ Dg.valD d = 1) := by
  have e := Dg.decZ_canon h
  have e2 : Dg.ofSign false (Dg.valD d) = (Dg.valD d : Int) := rfl
  rw [e2] at e
  have ha : a = d := by
    rcases h.2 with ⟨_, h⟩ | ⟨h, _⟩
    · exact h
    · cases h
  have e3 : Dg.decZ (Dg.valD d : Int) = Dg.decN (Dg.valD d) := by unfold Dg.decZ; rw [if_neg (by omega)]; simp
  rw [e3] at e
  have e4 : d = Dg.decN (Dg.valD d) := by rw [e]; exact ha.symm
  refine ⟨ha, e4, ⟨fun h => by rw [h]; rfl, fun h => by rw [e4, h]; rfl⟩, ⟨fun h => by rw [h]; rfl, fun h => by rw [e4, h]; rfl⟩⟩
theorem enter_rsmall (v : Value) (W : World) : (callFunc 117 #[v]).run Tryz.prog W = .ok (.enter 117 #[v]) W := by
  kernel_rfl
theorem ryield1 {L : Nat} {p q : Int} (K : FuncId) (v : Value) (w : World) (hK : ∀ W : World, (callFunc K #[v]).run Tryz.prog W = .ok (.enter K #[v]) W) (h : ∀ W, Below w.heap.size w W → Calls Tryz.prog K #[v] W (SmRat L W p q)) :
    Calls Tryz.prog 116 #[.func (Fn.func K) #[v] #[]] w (YdRat L w p q) :=
  ryield_any K #[v] #[] w (by rw [Array.append_empty]; exact hK) (by rw [Array.append_empty]; exact h)
set_option maxRecDepth 20000 in
set_option maxHeartbeats 4000000 in
theorem parseRat_any (s : ByteArray) (w : World) (hs : s.size ≤ 140737488355328) :
    Calls Tryz.prog 55 #[.string s] w (PrRet s w) := by
  have hmf : ∀ (fn : Fn) (first cap : Array Value) (w : World), (Instr.makeFunc fn first cap).run Tryz.prog w = .ok (.func fn first cap) w := fun _ _ _ _ => rfl
  have HX0 : Hid (Bxs w [.cells #[.bool false, .slice none 0 0, .slice none 0 0] 76] (w.alloc (.cells #[.bool false, .slice none 0 0, .slice none 0 0] 76))) := (Bxs.start w).alloc (by simp) _
  go_enter Tryz.func55, Tryz.ntmps55
  go_wp2_with fail
  refine (cuts_any s _ (by omega)).mono ?_
  rintro e w1 ⟨hb1, ⟨b, a, rfl, hsp, hns, hbs, has⟩ | ⟨rfl, hns⟩⟩
  · have HX1 := Lib.hid (HX0.out.below hb1)
    have HSP := Kept.mk hsp
    have HNS := Kept.mk hns
    have hbl : b.data.toList.length = b.size := Array.length_toList
    have hal : a.data.toList.length = a.size := Array.length_toList
    have HBL := Kept.mk hbl
    have HAL := Kept.mk hal
    clear hb1 hsp hns hbl hal
    go_wp2_with fail
    refine (splitSign_any b _ (by omega)).mono ?_
    rintro e w2 ⟨rfl, hc1⟩
    rcases hc1 with ⟨D1, neg1, rfl, hcan1, hD1⟩ | ⟨rfl, hno1⟩
    · have hD1' : D1.size ≤ s.size := by have := HBL.out; omega
      have HC1 := Kept.mk hcan1
      clear hcan1 hD1
      go_wp2_with fail
      refine (splitSign_any a _ (by omega)).mono ?_
      rintro e w2 ⟨rfl, hc2⟩
      rcases hc2 with ⟨D2, neg2, rfl, hcan2, hD2⟩ | ⟨rfl, hno2⟩
      · have hD2' : D2.size ≤ s.size := by have := HAL.out; omega
        have HC2 := Kept.mk hcan2
        clear hcan2 hD2
        cases neg2
        · have hcs := canon_small HC2.out
          by_cases h48 : D2.data.toList = [48]
          · have t2 : (D2.toList == [48]) = true := by rw [ByteArray.toList_eq, h48]; rfl
            have HN : Kept (∀ p q, Low p q → s.data.toList ≠ decR p q) := ⟨fun p q hl e => by
              obtain ⟨_, _, hq2, _, ea⟩ := decR_canon hl (HSP.out.symm.trans e) HNS.out
              have h1 := hcs.2.2.1.1 h48
              rw [← hcs.1, ea, Dg.decN_val] at h1
              omega⟩
            clear hcs h48
            have hbx := HX1.out.b0
            obtain ⟨x0, x1, x2, f0, f1, f2⟩ := three_cells hbx
            have hsz := HX1.out.l1
            have HE := Lib.hid (fun W' => rat_end (L := 0) (p := 0) (q := 1) (w := w) (s := false) (ao := none) (k := 0) (c := 0) (uo := none) (ku := 0) (cu := 0) hbx HX1.out.1 (by omega) rfl (Num.zero _ _) (by rw [if_pos rfl]; exact Num.zero _ _) W')
            clear hbx
            go_wp2
            have hE := HE.out _ rfl
            exact bodyPost_ret (v := .tuple #[rat0, .int .i64 10]) (by simp [results, Tryz.results55, go_sem, hE.2.2.1, hE.2.2.2.1, hE.2.2.2.2]) rfl ⟨hE.1, .inr (.inr ⟨HN.out, rfl⟩)⟩
          · by_cases h49 : D2.data.toList = [49]
            · have t2 : (D2.toList == [48]) = false := by rw [ByteArray.toList_eq]; simpa using h48
              have t3 : (D2.toList == [49]) = true := by rw [ByteArray.toList_eq, h49]; rfl
              have HN : Kept (∀ p q, Low p q → s.data.toList ≠ decR p q) := ⟨fun p q hl e => by
                obtain ⟨_, _, hq2, _, ea⟩ := decR_canon hl (HSP.out.symm.trans e) HNS.out
                have h1 := hcs.2.2.2.1 h49
                rw [← hcs.1, ea, Dg.decN_val] at h1
                omega⟩
              clear hcs h48 h49
              have hbx := HX1.out.b0
              obtain ⟨x0, x1, x2, f0, f1, f2⟩ := three_cells hbx
              have hsz := HX1.out.l1
              have HE := Lib.hid (fun W' => rat_end (L := 0) (p := 0) (q := 1) (w := w) (s := false) (ao := none) (k := 0) (c := 0) (uo := none) (ku := 0) (cu := 0) hbx HX1.out.1 (by omega) rfl (Num.zero _ _) (by rw [if_pos rfl]; exact Num.zero _ _) W')
              clear hbx
              go_wp2
              have hE := HE.out _ rfl
              exact bodyPost_ret (v := .tuple #[rat0, .int .i64 10]) (by simp [results, Tryz.results55, go_sem, hE.2.2.1, hE.2.2.2.1, hE.2.2.2.2]) rfl ⟨hE.1, .inr (.inr ⟨HN.out, rfl⟩)⟩
            · have t2 : (D2.toList == [48]) = false := by rw [ByteArray.toList_eq]; simpa using h48
              have t3 : (D2.toList == [49]) = false := by rw [ByteArray.toList_eq]; simpa using h49
              have hq0 : Dg.valD D2.data.toList ≠ 0 := fun h => h48 (hcs.2.2.1.2 h)
              have hq1 : Dg.valD D2.data.toList ≠ 1 := fun h => h49 (hcs.2.2.2.2 h)
              obtain ⟨q, hq⟩ : ∃ q : Int, q = Dg.valD D2.data.toList := ⟨_, rfl⟩
              obtain ⟨p, hp⟩ : ∃ p : Int, p = Dg.ofSign neg1 (Dg.valD D1.data.toList) := ⟨_, rfl⟩
              have hq2 : 2 ≤ q := by omega
              have HB : Kept (b.data.toList = Dg.decZ p) := ⟨by rw [hp]; exact (Dg.decZ_canon HC1.out).symm⟩
              have HAQ : Kept (a.data.toList = Dg.decN q.toNat) := ⟨by rw [hq, hcs.1, Int.toNat_natCast]; exact hcs.2.1⟩
              have HSR : Kept (s.data.toList = decR p q) := ⟨by rw [HSP.out, decR_slash (by omega), HB.out, HAQ.out]⟩
              have hr1 : ∀ W, Calls Tryz.prog 84 #[.string D1] W (RetNum (D1.size / 19 + 1) W p.natAbs) := fun W => by
                have hne : 0 < D1.size := by
                  have : D1.data.toList.length = D1.size := Array.length_toList
                  have := List.length_pos_iff.2 HC1.out.1.1
                  omega
                have := readDigits_len D1 W HC1.out.1.2.1 hne (by omega)
                have e : (p.natAbs : Int) = Dg.valD D1.data.toList := by rw [hp]; unfold Dg.ofSign; split <;> omega
                rw [e]; exact this
              have hr2 : ∀ W, Calls Tryz.prog 84 #[.string D2] W (RetNum (D2.size / 19 + 1) W q) := fun W => by
                have hne : 0 < D2.size := by
                  have : D2.data.toList.length = D2.size := Array.length_toList
                  have := List.length_pos_iff.2 HC2.out.1.1
                  omega
                rw [hq]
                exact readDigits_len D2 W HC2.out.1.2.1 hne (by omega)
              have hsg : sgn neg1 p.natAbs = p := by
                rw [hp]; unfold sgn Dg.ofSign; cases neg1 <;> simp
              have HR1 := Kept.mk hr1
              have HR2 := Kept.mk hr2
              have HSG := Kept.mk hsg
              clear hr1 hr2 hsg hq hp hq0 hq1 hcs h48 h49
              go_wp2_with fail
              refine (HR1.out _).mono ?_
              rintro e w3 ⟨hb3, v3, rfl, hn3, _⟩
              have HX3 := Lib.hid (HX1.out.below hb3)
              have HN3 := Lib.hid hn3
              clear hb3 hn3
              go_wp2_with fail
              refine (signed_any neg1 HN3.out).mono ?_
              rintro e w4 ⟨hb4, v4, rfl, s4, u4, rfl, hs4, hn4⟩
              rw [HSG.out] at hs4 hn4
              obtain ⟨o4, k4, c4, rfl⟩ := hn4.form
              have HX4 := Lib.hid (HX3.out.below hb4)
              have HN4 := Lib.hid hn4
              have HS4 := Lib.hid hs4
              clear hb4 hn4 hs4
              go_wp2_with fail
              refine (HR2.out _).mono ?_
              rintro e w5 ⟨hb5, v5, rfl, hn5, _⟩
              obtain ⟨o5, k5, c5, rfl⟩ := hn5.form
              have hba : Below w5.heap.size w5 (w5.alloc (.cells #[.bool s4, .slice o4 k4 c4, .slice o5 k5 c5] 76)) := (Below.refl _ _).alloc (Nat.le_refl _) _
              have HX5' := Lib.hid (HX4.out.below hb5)
              have HX5 := Lib.hid (HX5'.out.below hba)
              have HY5 : Hid (Bxs w5 [.cells #[.bool s4, .slice o4 k4 c4, .slice o5 k5 c5] 76] (w5.alloc (.cells #[.bool s4, .slice o4 k4 c4, .slice o5 k5 c5] 76))) := (Bxs.start w5).alloc (by simp) _
              have HN5w := Lib.hid (HN4.out.below hb5)
              have HU5w := Lib.hid hn5
              have HN5 := Lib.hid ((HN4.out.below hb5).below hba)
              have HU5 := Lib.hid (hn5.below hba)
              have hl5 := HX5'.out.l1
              clear hb5 hn5 hba
              have hgc := gcd_num HN5.out HU5.out (by omega) (by omega)
              rw [gcd_abs] at hgc
              have hg0 := (low_pos (p := p) (n := q) (by omega)).1
              obtain ⟨g, hg⟩ : ∃ g : Int, g = (Int.gcd p q : Int) := ⟨_, rfl⟩
              rw [← hg] at hgc hg0
              have HG := Kept.mk hg
              have HGC := Kept.mk hgc
              clear hg hgc
              go_wp2_with fail
              refine HGC.out.mono ?_
              rintro e w6 ⟨hb6, v6, rfl, hn6, _⟩
              have HX6 := Lib.hid (HX5.out.below hb6)
              have HY6 := Lib.hid (HY5.out.below hb6)
              have HN6 := Lib.hid hn6
              clear hb6 hn6
              go_wp2_with fail
              refine (oneWord_any 1 _ (by omega) (by omega)).mono ?_
              rintro e w7 ⟨hb7, v7, rfl, hn7, _⟩
              have HX7 := Lib.hid (HX6.out.below hb7)
              have HY7 := Lib.hid (HY6.out.below hb7)
              have HCM := Kept.mk (compare_num (HN6.out.below hb7) hn7)
              clear hb7 hn7
              by_cases hg1 : g = 1
              · subst hg1
                have hcm := HCM.out
                rw [Dg.sg_eq] at hcm
                have HCM' := Kept.mk hcm
                have HLOW : Kept (Low p q) := ⟨by omega, by have := HG.out; omega⟩
                clear HCM hcm
                go_wp2_with fail
                refine HCM'.out.mono ?_
                rintro e w8 ⟨hb8, rfl⟩
                have HX8 := Lib.hid (HX7.out.below hb8)
                have HY8 := Lib.hid (HY7.out.below hb8)
                have HRV : Kept (RatV (s.size / 19 + 1) w8 (.agg #[.bool s4, .slice o4 k4 c4, .slice o5 k5 c5]) p q) :=
                  ⟨⟨_, _, _, rfl, HS4.out, (HN5w.out.below HY8.out.1).mono (by omega), by rw [if_neg (by omega)]; exact (HU5w.out.below HY8.out.1).mono (by omega)⟩⟩
                obtain ⟨y0, y1, y2, _⟩ := three_cells HY8.out.b0
                clear hb8
                go_wp2_with fail
                refine (ryield1 (L := s.size / 19 + 1) (p := p) (q := q) _ _ _ (enter_rsmall _) (fun W hW => rsmall_any (HRV.out.below hW) (by omega))).mono ?_
                rintro e w9 ⟨hb9, hc9⟩
                have HX9 := Lib.hid (HX8.out.below hb9)
                have hbx := HX9.out.b0
                obtain ⟨x0, x1, x2, f0, f1, f2⟩ := three_cells hbx
                have hsz := HX9.out.l1
                clear hb9 y0 y1 y2
                rcases hc9 with ⟨hsm, v9, rfl, hr9⟩ | ⟨hsm, rfl⟩
                · have HSM := Kept.mk hsm
                  obtain ⟨s9, o9, k9, c9, u9, j9, d9, rfl, hs9, hn9, hu9, hk9⟩ := hr9.form
                  have HE := Lib.hid (fun W' => rat_end (L := s.size + 40000) (p := p) (q := q) (w := w) (s := s9) (ao := o9) (k := k9) (c := c9) (uo := u9) (ku := j9) (cu := d9) hbx HX9.out.1 (by omega) hs9 (hn9.mono (by omega)) (hu9.mono (by omega)) W')
                  clear hbx hs9 hn9 hu9 hk9 hr9 hsm
                  go_wp2
                  have hE := HE.out _ rfl
                  exact bodyPost_ret (v := .tuple #[.agg #[.bool s9, .slice o9 k9 c9, .slice u9 j9 d9], .int .i64 0]) (by simp [results, Tryz.results55, go_sem, hE.2.2.1, hE.2.2.2.1, hE.2.2.2.2]) rfl ⟨hE.1, .inl ⟨p, q, _, HSR.out, HLOW.out, HSM.out, rfl, hE.2.1⟩⟩
                · have HSM := Kept.mk hsm
                  have HE := Lib.hid (fun W' => rat_end (L := 0) (p := 0) (q := 1) (w := w) (s := false) (ao := none) (k := 0) (c := 0) (uo := none) (ku := 0) (cu := 0) hbx HX9.out.1 (by omega) rfl (Num.zero _ _) (by rw [if_pos rfl]; exact Num.zero _ _) W')
                  clear hbx hsm
                  go_wp2
                  have hE := HE.out _ rfl
                  exact bodyPost_ret (v := .tuple #[rat0, .int .i64 11]) (by simp [results, Tryz.results55, go_sem, hE.2.2.1, hE.2.2.2.1, hE.2.2.2.2]) rfl ⟨hE.1, .inr (.inl ⟨p, q, HSR.out, HLOW.out, HSM.out, rfl⟩)⟩
              · have hcm := HCM.out
                rw [Dg.sg_gt (by omega)] at hcm
                have HCM' := Kept.mk hcm
                have HN : Kept (∀ p q, Low p q → s.data.toList ≠ decR p q) := ⟨fun p' q' hl e => by
                  obtain ⟨e1, e2⟩ := decR_inj (by omega) hl.1 (HSR.out.symm.trans e)
                  subst e1; subst e2
                  have := hl.2
                  have := HG.out
                  omega⟩
                clear HCM hcm
                go_wp2_with fail
                refine HCM'.out.mono ?_
                rintro e w8 ⟨hb8, rfl⟩
                have HX8 := Lib.hid (HX7.out.below hb8)
                clear hb8
                have hbx := HX8.out.b0
                obtain ⟨x0, x1, x2, f0, f1, f2⟩ := three_cells hbx
                have hsz := HX8.out.l1
                have HE := Lib.hid (fun W' => rat_end (L := 0) (p := 0) (q := 1) (w := w) (s := false) (ao := none) (k := 0) (c := 0) (uo := none) (ku := 0) (cu := 0) hbx HX8.out.1 (by omega) rfl (Num.zero _ _) (by rw [if_pos rfl]; exact Num.zero _ _) W')
                clear hbx
                go_wp2
                have hE := HE.out _ rfl
                exact bodyPost_ret (v := .tuple #[rat0, .int .i64 10]) (by simp [results, Tryz.results55, go_sem, hE.2.2.1, hE.2.2.2.1, hE.2.2.2.2]) rfl ⟨hE.1, .inr (.inr ⟨HN.out, rfl⟩)⟩
        · have HN : Kept (∀ p q, Low p q → s.data.toList ≠ decR p q) := ⟨fun p q hl e => by
            obtain ⟨_, hca, _⟩ := decR_canon hl (HSP.out.symm.trans e) HNS.out
            have := (Dg.canon_unique hca HC2.out).1
            cases this⟩
          have hbx := HX1.out.b0
          obtain ⟨x0, x1, x2, f0, f1, f2⟩ := three_cells hbx
          have hsz := HX1.out.l1
          have HE := Lib.hid (fun W' => rat_end (L := 0) (p := 0) (q := 1) (w := w) (s := false) (ao := none) (k := 0) (c := 0) (uo := none) (ku := 0) (cu := 0) hbx HX1.out.1 (by omega) rfl (Num.zero _ _) (by rw [if_pos rfl]; exact Num.zero _ _) W')
          clear hbx
          go_wp2
          have hE := HE.out _ rfl
          exact bodyPost_ret (v := .tuple #[rat0, .int .i64 10]) (by simp [results, Tryz.results55, go_sem, hE.2.2.1, hE.2.2.2.1, hE.2.2.2.2]) rfl ⟨hE.1, .inr (.inr ⟨HN.out, rfl⟩)⟩
      · have HN : Kept (∀ p q, Low p q → s.data.toList ≠ decR p q) := ⟨fun p q hl e => by
          obtain ⟨_, hca, _⟩ := decR_canon hl (HSP.out.symm.trans e) HNS.out
          exact hno2 _ _ hca⟩
        clear hno2
        have hbx := HX1.out.b0
        obtain ⟨x0, x1, x2, f0, f1, f2⟩ := three_cells hbx
        have hsz := HX1.out.l1
        have HE := Lib.hid (fun W' => rat_end (L := 0) (p := 0) (q := 1) (w := w) (s := false) (ao := none) (k := 0) (c := 0) (uo := none) (ku := 0) (cu := 0) hbx HX1.out.1 (by omega) rfl (Num.zero _ _) (by rw [if_pos rfl]; exact Num.zero _ _) W')
        clear hbx
        go_wp2
        have hE := HE.out _ rfl
        exact bodyPost_ret (v := .tuple #[rat0, .int .i64 10]) (by simp [results, Tryz.results55, go_sem, hE.2.2.1, hE.2.2.2.1, hE.2.2.2.2]) rfl ⟨hE.1, .inr (.inr ⟨HN.out, rfl⟩)⟩
    · have HN : Kept (∀ p q, Low p q → s.data.toList ≠ decR p q) := ⟨fun p q hl e => by
        obtain ⟨hcb, _⟩ := decR_canon hl (HSP.out.symm.trans e) HNS.out
        exact hno1 _ _ hcb⟩
      clear hno1
      have hbx := HX1.out.b0
      obtain ⟨x0, x1, x2, f0, f1, f2⟩ := three_cells hbx
      have hsz := HX1.out.l1
      have HE := Lib.hid (fun W' => rat_end (L := 0) (p := 0) (q := 1) (w := w) (s := false) (ao := none) (k := 0) (c := 0) (uo := none) (ku := 0) (cu := 0) hbx HX1.out.1 (by omega) rfl (Num.zero _ _) (by rw [if_pos rfl]; exact Num.zero _ _) W')
      clear hbx
      go_wp2
      have hE := HE.out _ rfl
      exact bodyPost_ret (v := .tuple #[rat0, .int .i64 10]) (by simp [results, Tryz.results55, go_sem, hE.2.2.1, hE.2.2.2.1, hE.2.2.2.2]) rfl ⟨hE.1, .inr (.inr ⟨HN.out, rfl⟩)⟩
  · have HX1 := Lib.hid (HX0.out.below hb1)
    have HNS := Lib.hid hns
    clear hb1 hns
    go_wp2_with fail
    refine (parse_any s _ (by omega)).mono ?_
    rintro e w2 ⟨hb2, hc⟩
    have HX2 := Lib.hid (HX1.out.below hb2)
    clear hb2
    rcases hc with ⟨z, v', hz, hsm, rfl, s3, u3, rfl, hs3, hn3⟩ | ⟨z, hz, hsm, rfl⟩ | ⟨hno, rfl⟩
    · have HZ := Kept.mk hz
      have HSM := Kept.mk hsm
      clear hz hsm
      obtain ⟨o3, k3, c3, rfl⟩ := hn3.form
      have hbx := HX2.out.b0
      obtain ⟨x0, x1, x2, f0, f1, f2⟩ := three_cells hbx
      have hsz := HX2.out.l1
      have hl2 := HX2.out.l1
      have hne1 : ¬ w2.heap.size = w.heap.size := by omega
      have HE := Lib.hid (fun W' => rat_end_alloc (.cells #[.bool s3, .slice o3 k3 c3] 30) (L := s.size + 40000) (p := z) (q := 1) (w := w) (s := s3) (ao := o3) (k := k3) (c := c3) (uo := none) (ku := 0) (cu := 0) hbx HX2.out.1 (by omega) hs3 (hn3.mono (by omega)) (by rw [if_pos rfl]; exact Num.zero _ _) W')
      clear hbx hs3 hn3
      go_wp2
      have hE := HE.out _ rfl
      exact bodyPost_ret (v := .tuple #[.agg #[.bool s3, .slice o3 k3 c3, .slice none 0 0], .int .i64 0]) (by simp [results, Tryz.results55, go_sem, hE.2.2.1, hE.2.2.2.1, hE.2.2.2.2]) rfl ⟨hE.1, .inl ⟨z, 1, _, by rw [decR_one]; exact HZ.out, low_one z, by rw [smR_one]; exact HSM.out, rfl, hE.2.1⟩⟩
    · have HZ := Kept.mk hz
      have HSM := Kept.mk hsm
      clear hz hsm
      have hbx := HX2.out.b0
      obtain ⟨x0, x1, x2, f0, f1, f2⟩ := three_cells hbx
      have hsz := HX2.out.l1
      have hl2 := HX2.out.l1
      have hne1 : ¬ w2.heap.size = w.heap.size := by omega
      have HE := Lib.hid (fun W' => rat_end_alloc (.cells #[.bool false, .slice none 0 0] 30) (L := 0) (p := 0) (q := 1) (w := w) (s := false) (ao := none) (k := 0) (c := 0) (uo := none) (ku := 0) (cu := 0) hbx HX2.out.1 (by omega) rfl (Num.zero _ _) (by rw [if_pos rfl]; exact Num.zero _ _) W')
      clear hbx
      go_wp2
      have hE := HE.out _ rfl
      exact bodyPost_ret (v := .tuple #[rat0, .int .i64 11]) (by simp [results, Tryz.results55, go_sem, hE.2.2.1, hE.2.2.2.1, hE.2.2.2.2]) rfl ⟨hE.1, .inr (.inl ⟨z, 1, by rw [decR_one]; exact HZ.out, low_one z, by rw [smR_one]; exact HSM.out, rfl⟩)⟩
    · have HN : Hid (∀ p q, Low p q → s.data.toList ≠ decR p q) := fun p q hl e => hno p (decR_noslash e.symm HNS.out).2
      clear hno
      have hbx := HX2.out.b0
      obtain ⟨x0, x1, x2, f0, f1, f2⟩ := three_cells hbx
      have hsz := HX2.out.l1
      have hl2 := HX2.out.l1
      have hne1 : ¬ w2.heap.size = w.heap.size := by omega
      have HE := Lib.hid (fun W' => rat_end_alloc (.cells #[.bool false, .slice none 0 0] 30) (L := 0) (p := 0) (q := 1) (w := w) (s := false) (ao := none) (k := 0) (c := 0) (uo := none) (ku := 0) (cu := 0) hbx HX2.out.1 (by omega) rfl (Num.zero _ _) (by rw [if_pos rfl]; exact Num.zero _ _) W')
      clear hbx
      go_wp2
      have hE := HE.out _ rfl
      exact bodyPost_ret (v := .tuple #[rat0, .int .i64 10]) (by simp [results, Tryz.results55, go_sem, hE.2.2.1, hE.2.2.2.1, hE.2.2.2.2]) rfl ⟨hE.1, .inr (.inr ⟨HN.out, rfl⟩)⟩
end Go.Proofs.YtblbheilddafbaaGreatDoor
