/-
  Texts of the proof, merged by program: Rops Cutz.
-/
import Derived.Test.YtblbheilddafbaaGreatDoorZ17
import Derived.Test.YtblbheilddafbaaGreatDoorZ7
import Derived.Lib.IndexLaws
set_option linter.unusedVariables false
set_option linter.unusedSimpArgs false
namespace Go.Proofs.YtblbheilddafbaaGreatDoor
open Go Go.RowKit
theorem ryield0 {L : Nat} {p q : Int} (K : FuncId) (cap : Array Value) (w : World) (hK : ∀ W : World, (callFunc K cap).run Tryz.prog W = .ok (.enter K cap) W) (h : ∀ W, Below w.heap.size w W → Calls Tryz.prog K cap W (SmRat L W p q)) :
    Calls Tryz.prog 116 #[.func (Fn.func K) #[] cap] w (YdRat L w p q) :=
  ryield_any K #[] cap w (by rw [Array.empty_append]; exact hK) (by rw [Array.empty_append]; exact h)
theorem enter_radd (cap : Array Value) (W : World) : (callFunc 121 cap).run Tryz.prog W = .ok (.enter 121 cap) W := by
  kernel_rfl
set_option maxRecDepth 20000 in
set_option maxHeartbeats 2000000 in
theorem radd_any {La Lb : Nat} {va vb : Value} {p q r t : Int} {w : World} (ha : RatV La w va p q) (hb : RatV Lb w vb r t) (hq : 0 < q) (ht : 0 < t) (h1 : La ≤ 67108864) (h2 : Lb ≤ 67108864) (hsm : smR (frN (p * t + r * q) (q * t)) (frD (p * t + r * q) (q * t)) = true) :
    Calls Tryz.prog 69 #[va, vb] w (MkRet (La + Lb + 2) w (frN (p * t + r * q) (q * t)) (frD (p * t + r * q) (q * t))) := by
  have hmf : ∀ (fn : Fn) (first cap : Array Value) (w : World), (Instr.makeFunc fn first cap).run Tryz.prog w = .ok (.func fn first cap) w := fun _ _ _ _ => rfl
  obtain ⟨sa, ao, ka, ca, uo, ku, cu, rfl, ra1, ra2, ra3, ra4⟩ := ha.form
  obtain ⟨sb, bo, kb, cb, yo, ky, cy, rfl, rb1, rb2, rb3, rb4⟩ := hb.form
  clear ra1 ra2 ra3 ra4 rb1 rb2 rb3 rb4
  have HX0 : Hid (Bxs w [.cells #[.bool sa, .slice ao ka ca, .slice uo ku cu] 76, .cells #[.bool sb, .slice bo kb cb, .slice yo ky cy] 76, .cells #[.bool false, .slice none 0 0, .slice none 0 0] 76] (((w.alloc (.cells #[.bool sa, .slice ao ka ca, .slice uo ku cu] 76)).alloc (.cells #[.bool sb, .slice bo kb cb, .slice yo ky cy] 76)).alloc (.cells #[.bool false, .slice none 0 0, .slice none 0 0] 76))) := (((Bxs.start w).alloc (by simp) _).alloc (by simp) _).alloc (by simp) _
  have HA := Lib.hid ha
  have HB := Lib.hid hb
  have HSM := Lib.hid hsm
  clear ha hb hsm
  go_enter Tryz.func69, Tryz.ntmps69
  go_wp2_with fail
  refine (ryield0 (L := La + Lb + 2) (p := frN (p * t + r * q) (q * t)) (q := frD (p * t + r * q) (q * t)) _ _ _ (enter_radd _) (fun W hW => radd1_any _ _ sa sb ao uo bo yo ka ku ca cu kb cb ky cy W (HX0.out.below hW).b0 (HX0.out.below hW).b1 (HA.out.below (HX0.out.below hW).1) (HB.out.below (HX0.out.below hW).1) hq ht h1 h2 HSM.out)).mono ?_
  rintro e w1 ⟨hb1, hc⟩
  have HX1 := Lib.hid (HX0.out.below hb1)
  have hR : ∃ v', e = .returned (.tuple #[v', .int .i64 0]) ∧ RatV (La + Lb + 2) w1 v' (frN (p * t + r * q) (q * t)) (frD (p * t + r * q) (q * t)) := by
    rcases hc with ⟨_, h⟩ | ⟨h, _⟩
    · exact h
    · rw [HSM.out] at h; cases h
  obtain ⟨v1, rfl, hR⟩ := hR
  obtain ⟨s3, ao3, k3, c3, uo3, j3, d3, rfl, hs3, hn3, hu3, hk3⟩ := hR.form
  have hbx := HX1.out.b2
  obtain ⟨c0, c1, c2, f0, f1, f2⟩ := three_cells hbx
  have hsz := HX1.out.l3
  have HE := Lib.hid (fun W' => rat_end (w := w) (s := s3) (ao := ao3) (k := k3) (c := c3) (uo := uo3) (ku := j3) (cu := d3) hbx HX1.out.1 (by omega) hs3 hn3 hu3 W')
  clear hb1 hbx hs3 hn3 hu3 hk3 hR hc
  go_wp2
  have hE := HE.out _ rfl
  exact bodyPost_ret (v := .tuple #[.agg #[.bool s3, .slice ao3 k3 c3, .slice uo3 j3 d3], .int .i64 0]) (by simp [results, Tryz.results69, go_sem, hE.2.2.1, hE.2.2.2.1, hE.2.2.2.2]) rfl ⟨hE.1, _, rfl, hE.2.1⟩
theorem enter_rmul (cap : Array Value) (W : World) : (callFunc 124 cap).run Tryz.prog W = .ok (.enter 124 cap) W := by
  kernel_rfl
set_option maxRecDepth 20000 in
set_option maxHeartbeats 2000000 in
theorem rmul_any {La Lb : Nat} {va vb : Value} {p q r t : Int} {w : World} (ha : RatV La w va p q) (hb : RatV Lb w vb r t) (hq : 0 < q) (ht : 0 < t) (h1 : La ≤ 67108864) (h2 : Lb ≤ 67108864) (hsm : smR (frN (p * r) (q * t)) (frD (p * r) (q * t)) = true) :
    Calls Tryz.prog 71 #[va, vb] w (MkRet (La + Lb + 2) w (frN (p * r) (q * t)) (frD (p * r) (q * t))) := by
  have hmf : ∀ (fn : Fn) (first cap : Array Value) (w : World), (Instr.makeFunc fn first cap).run Tryz.prog w = .ok (.func fn first cap) w := fun _ _ _ _ => rfl
  obtain ⟨sa, ao, ka, ca, uo, ku, cu, rfl, ra1, ra2, ra3, ra4⟩ := ha.form
  obtain ⟨sb, bo, kb, cb, yo, ky, cy, rfl, rb1, rb2, rb3, rb4⟩ := hb.form
  clear ra1 ra2 ra3 ra4 rb1 rb2 rb3 rb4
  have HX0 : Hid (Bxs w [.cells #[.bool sa, .slice ao ka ca, .slice uo ku cu] 76, .cells #[.bool sb, .slice bo kb cb, .slice yo ky cy] 76, .cells #[.bool false, .slice none 0 0, .slice none 0 0] 76] (((w.alloc (.cells #[.bool sa, .slice ao ka ca, .slice uo ku cu] 76)).alloc (.cells #[.bool sb, .slice bo kb cb, .slice yo ky cy] 76)).alloc (.cells #[.bool false, .slice none 0 0, .slice none 0 0] 76))) := (((Bxs.start w).alloc (by simp) _).alloc (by simp) _).alloc (by simp) _
  have HA := Lib.hid ha
  have HB := Lib.hid hb
  have HSM := Lib.hid hsm
  clear ha hb hsm
  go_enter Tryz.func71, Tryz.ntmps71
  go_wp2_with fail
  refine (ryield0 (L := La + Lb + 2) (p := frN (p * r) (q * t)) (q := frD (p * r) (q * t)) _ _ _ (enter_rmul _) (fun W hW => rmul1_any _ _ sa sb ao uo bo yo ka ku ca cu kb cb ky cy W (HX0.out.below hW).b0 (HX0.out.below hW).b1 (HA.out.below (HX0.out.below hW).1) (HB.out.below (HX0.out.below hW).1) hq ht h1 h2 HSM.out)).mono ?_
  rintro e w1 ⟨hb1, hc⟩
  have HX1 := Lib.hid (HX0.out.below hb1)
  have hR : ∃ v', e = .returned (.tuple #[v', .int .i64 0]) ∧ RatV (La + Lb + 2) w1 v' (frN (p * r) (q * t)) (frD (p * r) (q * t)) := by
    rcases hc with ⟨_, h⟩ | ⟨h, _⟩
    · exact h
    · rw [HSM.out] at h; cases h
  obtain ⟨v1, rfl, hR⟩ := hR
  obtain ⟨s3, ao3, k3, c3, uo3, j3, d3, rfl, hs3, hn3, hu3, hk3⟩ := hR.form
  have hbx := HX1.out.b2
  obtain ⟨c0, c1, c2, f0, f1, f2⟩ := three_cells hbx
  have hsz := HX1.out.l3
  have HE := Lib.hid (fun W' => rat_end (w := w) (s := s3) (ao := ao3) (k := k3) (c := c3) (uo := uo3) (ku := j3) (cu := d3) hbx HX1.out.1 (by omega) hs3 hn3 hu3 W')
  clear hb1 hbx hs3 hn3 hu3 hk3 hR hc
  go_wp2
  have hE := HE.out _ rfl
  exact bodyPost_ret (v := .tuple #[.agg #[.bool s3, .slice ao3 k3 c3, .slice uo3 j3 d3], .int .i64 0]) (by simp [results, Tryz.results71, go_sem, hE.2.2.1, hE.2.2.2.1, hE.2.2.2.2]) rfl ⟨hE.1, _, rfl, hE.2.1⟩
set_option maxRecDepth 20000 in
set_option maxHeartbeats 2000000 in
theorem rcmp_any {La Lb : Nat} {va vb : Value} {p q r t : Int} {w : World} (ha : RatV La w va p q) (hb : RatV Lb w vb r t) (hq : 0 < q) (ht : 0 < t) (h1 : La ≤ 67108864) (h2 : Lb ≤ 67108864) :
    Calls Tryz.prog 74 #[va, vb] w (RetV w (.int .i64 (Dg.sg (p * t) (r * q)))) := by
  obtain ⟨sa, ao, ka, ca, uo, ku, cu, rfl, ra1, ra2, ra3, ra4⟩ := ha.form
  obtain ⟨sb, bo, kb, cb, yo, ky, cy, rfl, rb1, rb2, rb3, rb4⟩ := hb.form
  clear ra1 ra2 ra3 ra4 rb1 rb2 rb3 rb4
  have HX0 : Hid (Bxs w [.cells #[.bool sa, .slice ao ka ca, .slice uo ku cu] 76, .cells #[.bool sb, .slice bo kb cb, .slice yo ky cy] 76] ((w.alloc (.cells #[.bool sa, .slice ao ka ca, .slice uo ku cu] 76)).alloc (.cells #[.bool sb, .slice bo kb cb, .slice yo ky cy] 76))) := ((Bxs.start w).alloc (by simp) _).alloc (by simp) _
  have HA := Lib.hid (ha.below HX0.out.1)
  have HB := Lib.hid (hb.below HX0.out.1)
  clear ha hb
  go_enter Tryz.func74, Tryz.ntmps74
  go_wp2_with fail
  refine (crossed_any HA.out HB.out hq ht (by omega) (by omega)).mono ?_
  rintro e w1 ⟨hb1, v1, v2, rfl, hI1, hI2⟩
  obtain ⟨s1, u1, rfl, hs1, hn1⟩ := hI1
  obtain ⟨o1, k1, c1, rfl⟩ := hn1.form
  obtain ⟨s2, u2, rfl, hs2, hn2⟩ := hI2
  obtain ⟨o2, k2, c2, rfl⟩ := hn2.form
  have hba : Below w1.heap.size w1 ((w1.alloc (.cells #[.bool s1, .slice o1 k1 c1] 30)).alloc (.cells #[.bool s2, .slice o2 k2 c2] 30)) := ((Below.refl _ _).alloc (Nat.le_refl _) _).alloc (by simp) _
  have HX1 := Lib.hid ((HX0.out.below hb1).below hba)
  have HI1 : Hid (IntV (La + Lb + 1) ((w1.alloc (.cells #[.bool s1, .slice o1 k1 c1] 30)).alloc (.cells #[.bool s2, .slice o2 k2 c2] 30)) (.agg #[.bool s1, .slice o1 k1 c1]) (p * t)) := ⟨_, _, rfl, hs1, hn1.below hba⟩
  have HI2 : Hid (IntV (La + Lb + 1) ((w1.alloc (.cells #[.bool s1, .slice o1 k1 c1] 30)).alloc (.cells #[.bool s2, .slice o2 k2 c2] 30)) (.agg #[.bool s2, .slice o2 k2 c2]) (r * q)) := ⟨_, _, rfl, hs2, hn2.below hba⟩
  clear hb1 hs1 hn1 hs2 hn2 hba
  go_wp2_with fail
  refine (cmp_any HI1.out HI2.out).mono ?_
  rintro e w2 ⟨hb2, rfl⟩
  have HB2 := Lib.hid (HX1.out.below hb2).1
  clear hb2
  go_wp2
  go_ret
  exact ⟨HB2.out, rfl⟩
set_option maxRecDepth 20000 in
set_option maxHeartbeats 2000000 in
theorem rneg_any {La : Nat} {va : Value} {p q : Int} {w : World} (ha : RatV La w va p q) (h1 : La ≤ 67108864) :
    Calls Tryz.prog 62 #[va] w (RetRat La w (-p) q) := by
  obtain ⟨sa, ao, ka, ca, uo, ku, cu, rfl, ra1, ra2, ra3, ra4⟩ := ha.form
  have HX0 : Hid (Bxs w [.cells #[.bool sa, .slice ao ka ca, .slice uo ku cu] 76, .cells #[.bool false, .slice none 0 0, .slice none 0 0] 76] ((w.alloc (.cells #[.bool sa, .slice ao ka ca, .slice uo ku cu] 76)).alloc (.cells #[.bool false, .slice none 0 0, .slice none 0 0] 76))) := ((Bxs.start w).alloc (by simp) _).alloc (by simp) _
  have HI := Lib.hid (ha.int.below HX0.out.1)
  have HU := Lib.hid (ra3.below HX0.out.1)
  have HN : Hid (∀ W, Below w.heap.size w W → Calls Tryz.prog 28 #[.agg #[.bool sa, .slice ao ka ca]] W (RetInt La W (-p))) := fun W hW => neg_any (ha.below hW).int (by omega)
  have HC : Hid (∀ W, Below w.heap.size w W → Calls Tryz.prog 89 #[.slice uo ku cu] W (RetNum La W (if q = 1 then 0 else q))) := fun W hW => copied_any (ra3.below hW) (by omega)
  clear ha ra1 ra2 ra3 ra4
  go_enter Tryz.func62, Tryz.ntmps62
  go_wp2_with fail
  go_region_held3 (fun w' => w'.cell? ⟨w.heap.size, 0, none⟩ = some (.bool sa) ∧ w'.cell? ⟨w.heap.size, 1, none⟩ = some (.slice ao ka ca) ∧ w'.cell? ⟨w.heap.size, 2, none⟩ = some (.slice uo ku cu))
    (first | exact ⟨l0, l1, l2⟩ | exact ⟨k0, k1, k2⟩ | (refine ⟨?_, ?_, ?_⟩ <;> simp [go_sem, l0, l1, l2]; done) | (refine ⟨?_, ?_, ?_⟩ <;> simp [go_sem]; done) | go_keep)
    ((first
      | (go_at_call 28; (with_reducible refine (HN.out _ ?h1).mono ?_); (case h1 => exact HX0.out.drew.1); rintro e w2 ⟨hb2, v2, rfl, hI2⟩; have hx2 := HX0.out.drew.below hb2; obtain ⟨k0, k1, k2, _⟩ := three_cells hx2.b0; obtain ⟨s2, u2, rfl, hs2, hn2⟩ := hI2; obtain ⟨o2, kk2, c2, rfl⟩ := hn2.form; have HS2 := Lib.hid hs2; clear hs2)
      | (go_at_call 89; (with_reducible refine (HC.out _ ?h2).mono ?_); (case h2 => exact hx2.1); rintro e w3 ⟨hb3, v3, rfl, hn3, _⟩; have hx3 := hx2.below hb3; obtain ⟨l0, l1, l2, _⟩ := three_cells hx3.b0; obtain ⟨o3, kk3, c3, rfl⟩ := hn3.form; have hbx := hx3.b1; obtain ⟨x0, x1, x2, f0, f1, f2⟩ := three_cells hbx; have hsz := hx3.l2)))
  have HE := Lib.hid (fun W' => rat_end (p := -p) (q := q) (w := w) (s := s2) (ao := o2) (k := kk2) (c := c2) (uo := o3) (ku := kk3) (cu := c3) hbx hx3.1 (by omega) HS2.out (hn2.below hb3) hn3 W')
  clear hbx hb2 hb3 hn2 hn3 hx2 hx3
  go_wp2
  have hE := HE.out _ rfl
  exact bodyPost_ret (v := .agg #[.bool s2, .slice o2 kk2 c2, .slice o3 kk3 c3]) (by simp [results, Tryz.results62, go_sem, hE.2.2.1, hE.2.2.2.1, hE.2.2.2.2]) rfl ⟨hE.1, _, rfl, hE.2.1⟩
end Go.Proofs.YtblbheilddafbaaGreatDoor

set_option linter.unusedVariables false
set_option linter.unusedSimpArgs false
namespace Go.Proofs.YtblbheilddafbaaGreatDoor
open Go Go.RowKit
/-- What strings.Cut returns at a slash. -/
def CutRet (s : ByteArray) (w : World) (e : Ending) (w' : World) : Prop := Below w.heap.size w w' ∧
  ((∃ b a : ByteArray, e = .returned (.tuple #[.string b, .string a, .bool true]) ∧ s.data.toList = b.data.toList ++ 47 :: a.data.toList ∧ (47 : UInt8) ∉ b.data.toList ∧ b.size ≤ s.size ∧ a.size ≤ s.size) ∨
   (e = .returned (.tuple #[.string s, .string ⟨#[]⟩, .bool false]) ∧ (47 : UInt8) ∉ s.data.toList))
theorem cut_parts (s : ByteArray) (o : Nat) (h : s.data.toList[o]? = some 47) (hk : ∀ k, k < o → s.data.toList[k]? ≠ some 47) :
    s.data.toList = (s.extract 0 o).data.toList ++ 47 :: (s.extract (o + 1) s.size).data.toList ∧ (47 : UInt8) ∉ (s.extract 0 o).data.toList ∧ o < s.size := by
  have hs : s.data.toList.length = s.size := Array.length_toList
  have hl : o < s.data.toList.length := by
    apply Classical.byContradiction
    intro hc
    rw [List.getElem?_eq_none (by omega)] at h
    cases h
  rw [Lib.extract_to_end, Lib.extract_data, List.drop_zero, Nat.sub_zero]
  refine ⟨?_, ?_, by omega⟩
  · conv => lhs; rw [← List.take_append_drop o s.data.toList, List.drop_eq_getElem_cons hl]
    rw [List.getElem?_eq_getElem hl] at h
    rw [Option.some.inj h]
  · intro hm
    obtain ⟨k, hk1, hk2⟩ := List.getElem_of_mem hm
    have hk3 : k < o := by simp at hk1; omega
    refine hk k hk3 ?_
    rw [← hk2, List.getElem_take]
    exact List.getElem?_eq_getElem (by omega)
set_option maxHeartbeats 1000000 in
theorem cutlite_any (s : ByteArray) (w : World) (hs : s.size ≤ 140737488355328) :
    Calls Tryz.prog 150 #[.string s, .string ⟨#[47]⟩] w (CutRet s w) := by
  have hge := Lib.indexByte_ge s.data.toList 47
  obtain ⟨i, hi⟩ : ∃ i, i = Lib.indexByte s.data.toList 47 := ⟨_, rfl⟩
  have hix := Go.Proofs.Tryz.stringslite_Index_one s 47
  rw [← hi] at hge hix
  have HI := Lib.hid hi
  have HIX := Lib.hid hix
  clear hi hix
  by_cases h0 : 0 ≤ i
  · obtain ⟨o, rfl⟩ := Int.eq_ofNat_of_zero_le h0
    obtain ⟨h1, h2⟩ := Lib.indexByte_some HI.out.symm
    obtain ⟨e1, e2, e3⟩ := cut_parts s o h1 h2
    have H1 := Lib.hid e1
    have H2 := Lib.hid e2
    have j1 : IntKind.i64.wrap ((o : Int) + 1) = (o : Int) + 1 := by rw [IntKind.wrap_i64]; omega
    have j2 : ((o : Int) + 1).toNat = o + 1 := by omega
    have j3 : (0 : Int) ≤ (o : Int) + 1 := by omega
    have j4 : (o : Int) + 1 ≤ (s.size : Int) := by omega
    have j5 : (o : Int) ≤ (s.size : Int) := by omega
    have HJ1 := Lib.hid j1
    clear h1 h2 e1 e2 j1
    go_enter Tryz.func150, Tryz.ntmps150
    go_wp2_with fail
    refine (HIX.out _).mono ?_
    rintro e w' ⟨rfl, hw⟩
    subst hw
    have j1 := HJ1.out
    go_wp2
    go_region
    go_wp2
    go_ret3
    exact ⟨(Below.refl _ _).drew, .inl ⟨_, _, rfl, H1.out, H2.out, by simp; omega, by simp⟩⟩
  · obtain rfl : i = -1 := by omega
    have H1 := Lib.hid (Lib.indexByte_none HI.out.symm)
    go_enter Tryz.func150, Tryz.ntmps150
    go_wp2_with fail
    refine (HIX.out _).mono ?_
    rintro e w' ⟨rfl, hw⟩
    subst hw
    go_wp2
    go_ret3
    refine ⟨Below.refl _ _, .inr ⟨rfl, fun hm => ?_⟩⟩
    obtain ⟨k, hk1, hk2⟩ := List.getElem_of_mem hm
    exact H1.out k (by rw [List.getElem?_eq_getElem hk1, hk2])
set_option maxHeartbeats 400000 in
theorem cuts_any (s : ByteArray) (w : World) (hs : s.size ≤ 140737488355328) :
    Calls Tryz.prog 115 #[.string s, .string ⟨#[47]⟩] w (CutRet s w) := by
  go_enter Tryz.func115, Tryz.ntmps115
  go_wp2_with fail
  refine (cutlite_any s _ hs).mono ?_
  rintro e w1 ⟨hb1, ⟨b, a, rfl, h⟩ | ⟨rfl, h⟩⟩
  · have HB := Lib.hid hb1
    have H := Lib.hid h
    clear hb1 h
    go_wp2
    go_ret3
    exact ⟨HB.out, .inl ⟨_, _, rfl, H.out⟩⟩
  · have HB := Lib.hid hb1
    have H := Lib.hid h
    clear hb1 h
    go_wp2
    go_ret3
    exact ⟨HB.out, .inr ⟨rfl, H.out⟩⟩
end Go.Proofs.YtblbheilddafbaaGreatDoor
namespace Go.Proofs.YtblbheilddafbaaGreatDoor
open Go Go.RowKit
theorem no_slash_dig {l : List UInt8} (h : Dg.AllDig l) : (47 : UInt8) ∉ l := fun hm => by
  have := h _ hm
  have e : (47 : UInt8).toNat = 47 := rfl
  omega
theorem no_slash_decZ (z : Int) : (47 : UInt8) ∉ Dg.decZ z := by
  unfold Dg.decZ
  split
  · intro hm
    rcases List.mem_cons.1 hm with h | h
    · exact absurd h (by decide)
    · exact no_slash_dig (Dg.decN_dig _) h
  · exact no_slash_dig (Dg.decN_dig _)
theorem slash_split {a b a' b' : List UInt8} (h : b ++ 47 :: a = b' ++ 47 :: a') (hb : (47 : UInt8) ∉ b) (hb' : (47 : UInt8) ∉ b') : b = b' ∧ a = a' := by
  induction b generalizing b' with
  | nil =>
    cases b' with
    | nil => simp at h; exact ⟨rfl, h⟩
    | cons c t => simp at h; exact absurd (by rw [h.1]; simp) hb'
  | cons c t ih =>
    cases b' with
    | nil => simp at h; exact absurd (by rw [h.1]; simp) hb
    | cons c' t' =>
      simp only [List.cons_append, List.cons.injEq] at h
      obtain ⟨rfl, h⟩ := h
      obtain ⟨h1, h2⟩ := ih h (fun hm => hb (by simp [hm])) (fun hm => hb' (by simp [hm]))
      exact ⟨by rw [h1], h2⟩
/-- The fraction's form has a slash just where the denominator is not 1. -/
theorem decR_slash {p q : Int} (h : q ≠ 1) : decR p q = Dg.decZ p ++ 47 :: Dg.decN q.toNat := by unfold decR; rw [if_neg h]
theorem decR_one (p : Int) : decR p 1 = Dg.decZ p := by unfold decR; rw [if_pos rfl]
theorem decR_parts {p q : Int} {b a : List UInt8} (hq : 0 < q) (h : decR p q = b ++ 47 :: a) (hb : (47 : UInt8) ∉ b) : q ≠ 1 ∧ b = Dg.decZ p ∧ a = Dg.decN q.toNat := by
  by_cases h1 : q = 1
  · subst h1
    rw [decR_one] at h
    exact absurd (by rw [h]; simp) (no_slash_decZ p)
  · rw [decR_slash h1] at h
    obtain ⟨e1, e2⟩ := slash_split h (no_slash_decZ p) hb
    exact ⟨h1, e1.symm, e2.symm⟩
theorem decR_noslash {p q : Int} {s : List UInt8} (h : decR p q = s) (hs : (47 : UInt8) ∉ s) : q = 1 ∧ s = Dg.decZ p := by
  by_cases h1 : q = 1
  · subst h1
    rw [decR_one] at h
    exact ⟨rfl, h.symm⟩
  · rw [decR_slash h1] at h
    exact absurd (by rw [← h]; simp) hs
theorem decR_inj {p q p' q' : Int} (hq : 0 < q) (hq' : 0 < q') (h : decR p q = decR p' q') : p = p' ∧ q = q' := by
  by_cases h1 : q' = 1
  · subst h1
    rw [decR_one] at h
    obtain ⟨e, h2⟩ := decR_noslash h (no_slash_decZ p')
    exact ⟨(Dg.decZ_inj h2).symm, e⟩
  · rw [decR_slash h1] at h
    obtain ⟨_, e1, e2⟩ := decR_parts hq h (no_slash_decZ p')
    have e3 := congrArg Dg.valD e2
    rw [Dg.decN_val, Dg.decN_val] at e3
    exact ⟨(Dg.decZ_inj e1).symm, by omega⟩
end Go.Proofs.YtblbheilddafbaaGreatDoor
