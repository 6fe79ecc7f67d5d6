/-
  Texts of the proof, merged by program: Rrd.
-/
import Derived.Test.YtblbheilddafbaaGreatDoorZEqq
import Derived.Test.YtblbheilddafbaaGreatDoorZ18
import Derived.Test.YtblbheilddafbaaGreatDoorZ19
set_option linter.unusedVariables false
set_option linter.unusedSimpArgs false
namespace Go.Proofs.YtblbheilddafbaaGreatDoor
open Go Go.RowKit
set_option maxRecDepth 20000 in
set_option maxHeartbeats 4000000 in
theorem rwholeq_any {L : Nat} {v : Value} {z : Int} {w : World} (h : ZV L w v z) (hL : 64 ≤ L) :
    Calls Tryz.prog 114 #[v] w (RetQ L w z 1) := by
  have HV := Kept.mk h
  obtain ⟨sz, uz, rfl, hsz, hnz⟩ := h
  obtain ⟨oz, kz, cz, rfl, _, _⟩ := hnz.form
  have HX0 : Kept (Bxs w [.cells #[.bool sz, .slice oz kz cz] 25, .cells #[.bool false, .slice none 0 0, .bool false, .slice none 0 0] 72] ((w.alloc (.cells #[.bool sz, .slice oz kz cz] 25)).alloc (.cells #[.bool false, .slice none 0 0, .bool false, .slice none 0 0] 72))) := ⟨((Bxs.start w).alloc (by simp) _).alloc (by simp) _⟩
  clear hsz hnz
  obtain ⟨i0, i1, -, -⟩ := two_cells HX0.out.b0
  have hA : ¬ w.heap.size = w.heap.size + 1 := by omega
  go_enter Tryz.func114, Tryz.ntmps114
  go_wp2_with fail
  go_region_held3 (fun w' => w'.cell? ⟨w.heap.size, 0, none⟩ = some (.bool sz) ∧ w'.cell? ⟨w.heap.size, 1, none⟩ = some (.slice oz kz cz))
    (first | (with_reducible exact ⟨a0, a1⟩) | (with_reducible exact ⟨i0, i1⟩) | (with_reducible exact ⟨(cell4 hA).trans a0, (cell4 hA).trans a1⟩) | go_keep)
    ((first
      | (go_at_call 32; refine (rof_any 1 _ (by decide) (by decide)).mono ?_; rintro e w1 ⟨hb1, v1, rfl, hI1⟩; obtain ⟨s2, u2, rfl, hs2, hn2⟩ := hI1; obtain ⟨o2, k2, c2, rfl, _, _⟩ := hn2.form; have HQ : Kept (ZV L w1 (.agg #[.bool s2, .slice o2 k2 c2]) 1) := ⟨ZV.mono ⟨_, _, rfl, hs2, hn2⟩ hL⟩; clear hs2 hn2; have hx1 := HX0.out.drew.below hb1; obtain ⟨a0, a1, -, -⟩ := two_cells hx1.b0; obtain ⟨r0, r1, r2, r3, f0, f1, f2, f3⟩ := four_cells hx1.b1; have hszr := hx1.l2)))
  have HX1 := Kept.mk hx1
  have HP := Kept.mk (HV.out.below hx1.1)
  have HE := Kept.mk (fun W' => q_end (L := L) (w := w) HX1.out.b1 HX1.out.1 (by omega) HP.out HQ.out W')
  clear hb1 hx1
  go_wp2
  have hE := HE.out _ rfl
  exact bodyPost_ret (v := .agg #[.bool sz, .slice oz kz cz, .bool s2, .slice o2 k2 c2]) (by simp [results, Tryz.results114, go_sem, hE.2.2.1, hE.2.2.2.1, hE.2.2.2.2.1, hE.2.2.2.2.2]) rfl ⟨hE.1, _, rfl, hE.2.1⟩
/-- What the reference's Read returns. -/
def RdqRet (s : List UInt8) (w : World) (e : Ending) (w' : World) : Prop := Below w.heap.size w w' ∧
  ((∃ p q v', s = decR p q ∧ Low p q ∧ e = .returned (.tuple #[v', .bool true]) ∧ QV (s.length + 64) w' v' p q) ∨
   ((∀ p q, Low p q → s ≠ decR p q) ∧ e = .returned (.tuple #[.agg #[.bool false, .slice none 0 0, .bool false, .slice none 0 0], .bool false])))
theorem decN_decZ {q : Int} (h : 0 ≤ q) : Dg.decN q.toNat = Dg.decZ q := by
  unfold Dg.decZ
  rw [if_neg (by omega)]
  congr 1
  omega
theorem dec_ten {z : Int} {l : Nat} (h : (Dg.decZ z).length ≤ l) : (z.natAbs : Int) < BN ^ (l / 9 + 1) := by
  have h0 : (Dg.decN z.natAbs).length ≤ l := by
    unfold Dg.decZ at h
    split at h
    · rw [List.length_cons] at h; omega
    · exact h
  have h1 := Dg.valD_lt (Dg.decN_dig z.natAbs)
  rw [Dg.decN_val] at h1
  have h2 : z.natAbs < 10 ^ l := Nat.lt_of_lt_of_le h1 (Nat.pow_le_pow_right (by omega) h0)
  have h3 : (10 : Nat) ^ l ≤ 10 ^ (9 * (l / 9 + 1)) := Nat.pow_le_pow_right (by omega) (by omega)
  rw [Nat.pow_mul] at h3
  have h4 : z.natAbs < (10 ^ 9) ^ (l / 9 + 1) := Nat.lt_of_lt_of_le h2 h3
  have h5 : ((((10 : Nat) ^ 9) ^ (l / 9 + 1) : Nat) : Int) = BN ^ (l / 9 + 1) := by rw [Int.natCast_pow]; rfl
  rw [← h5]
  exact Int.ofNat_lt.2 h4
theorem ZV.dec {L l : Nat} {w : World} {v : Value} {z : Int} (h : ZV L w v z) (hl : (Dg.decZ z).length ≤ l) : ZV (l / 9 + 1) w v z := by
  obtain ⟨sb, sv, rfl, hs, xs, h1, h2, h3, h4, h5⟩ := h
  exact ⟨sb, sv, rfl, hs, xs, h1, h2, h3, h4, Dg.len_le_of_val_lt (by decide) h2 h3 (by rw [h4]; exact dec_ten hl)⟩
theorem rpa_parts {t : List UInt8} {L : Nat} {w1 : World} {e : Ending} (h : (∃ z v', t = Dg.decZ z ∧ e = .returned (.tuple #[v', .bool true]) ∧ ZV (t.length + 1) w1 v' z) ∨ ((∀ z, t ≠ Dg.decZ z) ∧ e = .returned (.tuple #[.agg #[.bool false, .slice none 0 0], .bool false]))) (hL : t.length / 9 + 1 ≤ L) :
    ∃ s1 o1 k1 c1 ok1, e = .returned (.tuple #[.agg #[.bool s1, .slice o1 k1 c1], .bool ok1]) ∧ (ok1 = true → ∃ x, t = Dg.decZ x ∧ ZV L w1 (.agg #[.bool s1, .slice o1 k1 c1]) x) ∧ (ok1 = false → ∀ x, t ≠ Dg.decZ x) := by
  rcases h with ⟨z, v, hz, rfl, hZ⟩ | ⟨hno, rfl⟩
  · obtain ⟨s1, u1, rfl, hs1, hn1⟩ := hZ
    obtain ⟨o1, k1, c1, rfl, _, _⟩ := hn1.form
    exact ⟨s1, o1, k1, c1, true, rfl, (fun _ => ⟨z, hz, (ZV.dec (L := t.length + 1) ⟨_, _, rfl, hs1, hn1⟩ (by rw [← hz]; exact Nat.le_refl _)).mono hL⟩), (fun h => by cases h)⟩
  · exact ⟨false, none, 0, 0, false, rfl, (fun h => by cases h), (fun _ => hno)⟩
set_option maxRecDepth 20000 in
set_option maxHeartbeats 20000000 in
theorem rread_any (s : ByteArray) (w : World) (hs : s.size ≤ 140737488355328) :
    Calls Tryz.prog 54 #[.string s] w (RdqRet s.data.toList w) := by
  have HX0 : Kept (Bxs w [.cells #[.bool false, .slice none 0 0, .bool false, .slice none 0 0] 72] (w.alloc (.cells #[.bool false, .slice none 0 0, .bool false, .slice none 0 0] 72))) := ⟨(Bxs.start w).alloc (by simp) _⟩
  have HSL : Kept (s.data.toList.length = s.size) := ⟨Array.length_toList⟩
  have hnot : ∀ (x : Bool) (w : World), (Op.unary .not (.bool x)).run Tryz.prog w = .ok (.bool (!x)) w := fun _ _ => rfl
  go_enter Tryz.func54, Tryz.ntmps54
  go_wp2
  go_loopw [4] (fun iv wr => ∃ k : Nat, k ≤ s.size ∧ iv = .int .i64 k ∧ Kept (∀ j, j < k → s.data.toList[j]? ≠ some 47) ∧ Kept (Bxs w [.cells #[.bool false, .slice none 0 0, .bool false, .slice none 0 0] 72] wr)) (fun iv _ => s.size - (intOf iv).toNat)
  case atStart => exact ⟨0, Nat.zero_le _, rfl, ⟨fun j hj => absurd hj (Nat.not_lt_zero _)⟩, HX0⟩
  case round =>
    obtain ⟨k, hk, rfl, hns, hx⟩ := hrel
    by_cases hlt : k < s.size
    · skip
      have hby := byte_at hlt
      have hcl : s[k].toNat < 256 := s[k].toNat_lt
      by_cases h47 : (s[k].toNat : Int) = 47
      · skip
        have h47b : s.data.toList[k]? = some 47 := by rw [hby]; congr 1; exact UInt8.toNat_inj.1 (by show s[k].toNat = 47; omega)
        have hcp := cut_parts s k h47b hns.out
        have j1 : IntKind.i64.wrap ((k : Int) + 1) = (k : Int) + 1 := by rw [IntKind.wrap_i64]; omega
        have j2 : ((k : Int) + 1).toNat = k + 1 := by omega
        have j3 : (0 : Int) ≤ (k : Int) + 1 := by omega
        have j4 : (k : Int) + 1 ≤ (s.size : Int) := by omega
        have j5 : (k : Int) ≤ (s.size : Int) := by omega
        obtain ⟨b, hbe⟩ : ∃ b, s.extract 0 k = b := ⟨_, rfl⟩
        obtain ⟨a, hae⟩ : ∃ a, s.extract (k + 1) s.size = a := ⟨_, rfl⟩
        have hbs : b.size ≤ s.size := by rw [← hbe]; simp [ByteArray.size_extract]; omega
        have has : a.size ≤ s.size := by rw [← hae]; simp [ByteArray.size_extract]
        rw [hbe, hae] at hcp
        have HCP := Kept.mk hcp
        have HBE := Kept.mk hbe
        have HAE := Kept.mk hae
        have t47 : ((s[k].toNat : Int) != 47) = false := by simp [h47]
        clear hcp hbe hae h47b hby
        have HPB := Kept.mk (fun W => rparse_any b W (by omega))
        have HPA := Kept.mk (fun W => rparse_any a W (by omega))
        go_wp2_with fail
        rw [HBE.out]
        refine (HPB.out _).mono ?_
        rintro e w1 ⟨hb1, hc1⟩
        have HX1 := Kept.mk (hx.out.below hb1)
        have hr1 : ∃ s1 o1 k1 c1 ok1, e = .returned (.tuple #[.agg #[.bool s1, .slice o1 k1 c1], .bool ok1]) ∧ (ok1 = true → ∃ x, b.data.toList = Dg.decZ x ∧ ZV (s.data.toList.length / 9 + 64) w1 (.agg #[.bool s1, .slice o1 k1 c1]) x) ∧ (ok1 = false → ∀ x, b.data.toList ≠ Dg.decZ x) := rpa_parts hc1 (by have h1 : b.data.toList.length = b.size := Array.length_toList; have := HSL.out; omega)
        obtain ⟨s1, o1, k1, c1, ok1, rfl, hy1, hn1⟩ := hr1
        have HY1 := Kept.mk hy1
        have HN1 := Kept.mk hn1
        clear hb1 hc1 hy1 hn1
        have hal1 : Below w1.heap.size w1 (w1.alloc (.cells #[.bool s1, .slice o1 k1 c1] 25)) := (Below.refl _ _).alloc (Nat.le_refl _) _
        have HX1a := Kept.mk (HX1.out.below hal1)
        have HB1a : Kept (Hz (w1.alloc (.cells #[.bool s1, .slice o1 k1 c1] 25)) w1.heap.size (.bool s1) (.slice o1 k1 c1)) := ⟨Hz.new _ _ _ _ rfl⟩
        have HAL1 := Kept.mk hal1
        clear hal1
        go_wp2_with fail
        rw [HAE.out]
        refine (HPA.out _).mono ?_
        rintro e w2 ⟨hb2, hc2⟩
        have HX2 := Kept.mk (HX1a.out.below hb2)
        have HB2 := Kept.mk (HB1a.out.below hb2)
        have HW2 := Kept.mk (HAL1.out.trans (hb2.mono HAL1.out.size))
        have hr2 : ∃ s2 o2 k2 c2 ok2, e = .returned (.tuple #[.agg #[.bool s2, .slice o2 k2 c2], .bool ok2]) ∧ (ok2 = true → ∃ x, a.data.toList = Dg.decZ x ∧ ZV (s.data.toList.length / 9 + 64) w2 (.agg #[.bool s2, .slice o2 k2 c2]) x) ∧ (ok2 = false → ∀ x, a.data.toList ≠ Dg.decZ x) := rpa_parts hc2 (by have h1 : a.data.toList.length = a.size := Array.length_toList; have := HSL.out; omega)
        obtain ⟨s2, o2, k2, c2, ok2, rfl, hy2, hn2⟩ := hr2
        have HY2 := Kept.mk hy2
        have HN2 := Kept.mk hn2
        clear hb2 hc2 hy2 hn2
        have hal2 : Below w2.heap.size w2 (w2.alloc (.cells #[.bool s2, .slice o2 k2 c2] 25)) := (Below.refl _ _).alloc (Nat.le_refl _) _
        have HX3 := Kept.mk (HX2.out.below hal2)
        have HBn := Kept.mk (HB2.out.below hal2)
        have HBd : Kept (Hz (w2.alloc (.cells #[.bool s2, .slice o2 k2 c2] 25)) w2.heap.size (.bool s2) (.slice o2 k2 c2)) := ⟨Hz.new _ _ _ _ rfl⟩
        have HAL2 := Kept.mk hal2
        clear hal2
        go_wp2_with fail
        generalize w2.alloc (.cells #[.bool s2, .slice o2 k2 c2] 25) = ws at *
        cases ok1
        · skip
          have HN : Kept (∀ p q, Low p q → s.data.toList ≠ decR p q) := ⟨fun p q hl e => by
            obtain ⟨_, _, hq2, eb, ea⟩ := decR_canon hl (HCP.out.1.symm.trans e) HCP.out.2.1
            rw [decN_decZ (by omega)] at ea
            exact HN1.out rfl p eb⟩
          obtain ⟨i0n, i1n, -, -⟩ := two_cells HBn.out
          obtain ⟨i0d, i1d, -, -⟩ := two_cells HBd.out
          refine wp_region_held_drew (S := fun w' => w'.cell? ⟨w1.heap.size, 0, none⟩ = some (.bool s1) ∧ w'.cell? ⟨w1.heap.size, 1, none⟩ = some (.slice o1 k1 c1) ∧ w'.cell? ⟨w2.heap.size, 0, none⟩ = some (.bool s2) ∧ w'.cell? ⟨w2.heap.size, 1, none⟩ = some (.slice o2 k2 c2)) (by kernel_rfl) ?_ (fun hHeld => ?_)
          · exact ⟨i0n, i1n, i0d, i1d⟩
          refine wpAnyH_take (i := 0) (v := ?_) rfl (by kernel_rfl) (by kernel_rfl) (by kernel_rfl) (fun _ _ _ h => h) (Or.inl ⟨by rfl, ?_⟩) (by assumption) ?_
          rotate_left
          · (intro w hSw; (try dsimp only at hSw); go_simp; (try with_reducible rfl))
          try simp only [Act.put, List.getElem_toArray, List.getElem_cons_succ, List.getElem_cons_zero, List.setIfInBounds_toArray, List.set_cons_zero, List.set_cons_succ]
          refine wpAnyH_take (i := 1) (v := ?_) rfl (by kernel_rfl) (by kernel_rfl) (by kernel_rfl) (fun _ _ _ h => h) (Or.inl ⟨by rfl, ?_⟩) (by assumption) ?_
          rotate_left
          · (intro w hSw; (try dsimp only at hSw); go_simp; (try with_reducible rfl))
          try simp only [Act.put, List.getElem_toArray, List.getElem_cons_succ, List.getElem_cons_zero, List.setIfInBounds_toArray, List.set_cons_zero, List.set_cons_succ]
          refine wpAnyH_take (i := 2) (v := ?_) rfl (by kernel_rfl) (by kernel_rfl) (by kernel_rfl) (fun _ _ _ h => h) (Or.inl ⟨by rfl, ?_⟩) (by assumption) ?_
          rotate_left
          · (intro w hSw; (try dsimp only at hSw); go_simp; (try with_reducible rfl))
          try simp only [Act.put, List.getElem_toArray, List.getElem_cons_succ, List.getElem_cons_zero, List.setIfInBounds_toArray, List.set_cons_zero, List.set_cons_succ]
          refine wpAnyH_take (i := 3) (v := undef) rfl (by kernel_rfl) (by kernel_rfl) (by kernel_rfl) (fun _ _ _ h => h) (Or.inr ⟨by rfl, rfl⟩) (by assumption) ?_
          try simp only [Act.put, List.getElem_toArray, List.getElem_cons_succ, List.getElem_cons_zero, List.setIfInBounds_toArray, List.set_cons_zero, List.set_cons_succ]
          refine wpAnyH_take (i := 4) (v := undef) rfl (by kernel_rfl) (by kernel_rfl) (by kernel_rfl) (fun _ _ _ h => h) (Or.inr ⟨by rfl, rfl⟩) (by assumption) ?_
          try simp only [Act.put, List.getElem_toArray, List.getElem_cons_succ, List.getElem_cons_zero, List.setIfInBounds_toArray, List.set_cons_zero, List.set_cons_succ]
          refine wpAnyH_take (i := 5) (v := ?_) rfl (by kernel_rfl) (by kernel_rfl) (by kernel_rfl) (fun _ _ _ h => h) (Or.inl ⟨by rfl, ?_⟩) (by assumption) ?_
          rotate_left
          · (intro w hSw; (try dsimp only at hSw); go_simp; (try with_reducible rfl))
          try simp only [Act.put, List.getElem_toArray, List.getElem_cons_succ, List.getElem_cons_zero, List.setIfInBounds_toArray, List.set_cons_zero, List.set_cons_succ]
          refine wpAnyH_take (i := 6) (v := ?_) rfl (by kernel_rfl) (by kernel_rfl) (by kernel_rfl) (fun _ _ _ h => h) (Or.inl ⟨by rfl, ?_⟩) (by assumption) ?_
          rotate_left
          · (intro w hSw; (try dsimp only at hSw); go_simp; (try with_reducible rfl))
          try simp only [Act.put, List.getElem_toArray, List.getElem_cons_succ, List.getElem_cons_zero, List.setIfInBounds_toArray, List.set_cons_zero, List.set_cons_succ]
          refine wpAnyH_take (i := 7) (v := undef) rfl (by kernel_rfl) (by kernel_rfl) (by kernel_rfl) (fun _ _ _ h => h) (Or.inr ⟨by rfl, rfl⟩) (by assumption) ?_
          try simp only [Act.put, List.getElem_toArray, List.getElem_cons_succ, List.getElem_cons_zero, List.setIfInBounds_toArray, List.set_cons_zero, List.set_cons_succ]
          refine wpAnyH_take (i := 8) (v := undef) rfl (by kernel_rfl) (by kernel_rfl) (by kernel_rfl) (fun _ _ _ h => h) (Or.inr ⟨by rfl, rfl⟩) (by assumption) ?_
          try simp only [Act.put, List.getElem_toArray, List.getElem_cons_succ, List.getElem_cons_zero, List.setIfInBounds_toArray, List.set_cons_zero, List.set_cons_succ]
          refine wpAnyH_take (i := 9) (v := undef) rfl (by kernel_rfl) (by kernel_rfl) (by kernel_rfl) (fun _ _ _ h => h) (Or.inr ⟨by rfl, rfl⟩) (by assumption) ?_
          try simp only [Act.put, List.getElem_toArray, List.getElem_cons_succ, List.getElem_cons_zero, List.setIfInBounds_toArray, List.set_cons_zero, List.set_cons_succ]
          refine wpAnyH_take (i := 10) (v := ?_) rfl (by kernel_rfl) (by kernel_rfl) (by kernel_rfl) (fun _ _ _ h => h) (Or.inl ⟨by rfl, ?_⟩) (by assumption) ?_
          rotate_left
          · (intro w hSw; (try dsimp only at hSw); go_simp; (try with_reducible rfl))
          try simp only [Act.put, List.getElem_toArray, List.getElem_cons_succ, List.getElem_cons_zero, List.setIfInBounds_toArray, List.set_cons_zero, List.set_cons_succ]
          refine wpAnyH_take (i := 11) (v := ?_) rfl (by kernel_rfl) (by kernel_rfl) (by kernel_rfl) (fun _ _ _ h => h) (Or.inl ⟨by rfl, ?_⟩) (by assumption) ?_
          rotate_left
          · (intro w hSw; (try dsimp only at hSw); go_simp; (try with_reducible rfl))
          try simp only [Act.put, List.getElem_toArray, List.getElem_cons_succ, List.getElem_cons_zero, List.setIfInBounds_toArray, List.set_cons_zero, List.set_cons_succ]
          refine wpAnyH_take (i := 12) (v := undef) rfl (by kernel_rfl) (by kernel_rfl) (by kernel_rfl) (fun _ _ _ h => h) (Or.inr ⟨by rfl, rfl⟩) (by assumption) ?_
          try simp only [Act.put, List.getElem_toArray, List.getElem_cons_succ, List.getElem_cons_zero, List.setIfInBounds_toArray, List.set_cons_zero, List.set_cons_succ]
          refine wpAnyH_take (i := 13) (v := undef) rfl (by kernel_rfl) (by kernel_rfl) (by kernel_rfl) (fun _ _ _ h => h) (Or.inr ⟨by rfl, rfl⟩) (by assumption) ?_
          try simp only [Act.put, List.getElem_toArray, List.getElem_cons_succ, List.getElem_cons_zero, List.setIfInBounds_toArray, List.set_cons_zero, List.set_cons_succ]
          refine wpAnyH_take (i := 14) (v := undef) rfl (by kernel_rfl) (by kernel_rfl) (by kernel_rfl) (fun _ _ _ h => h) (Or.inr ⟨by rfl, rfl⟩) (by assumption) ?_
          try simp only [Act.put, List.getElem_toArray, List.getElem_cons_succ, List.getElem_cons_zero, List.setIfInBounds_toArray, List.set_cons_zero, List.set_cons_succ]
          refine wpAnyH_take (i := 15) (v := undef) rfl (by kernel_rfl) (by kernel_rfl) (by kernel_rfl) (fun _ _ _ h => h) (Or.inr ⟨by rfl, rfl⟩) (by assumption) ?_
          try simp only [Act.put, List.getElem_toArray, List.getElem_cons_succ, List.getElem_cons_zero, List.setIfInBounds_toArray, List.set_cons_zero, List.set_cons_succ]
          refine wpAnyH_take (i := 16) (v := ?_) rfl (by kernel_rfl) (by kernel_rfl) (by kernel_rfl) (fun _ _ _ h => h) (Or.inl ⟨by rfl, ?_⟩) (by assumption) ?_
          rotate_left
          · (intro w hSw; (try dsimp only at hSw); go_simp; (try with_reducible rfl))
          try simp only [Act.put, List.getElem_toArray, List.getElem_cons_succ, List.getElem_cons_zero, List.setIfInBounds_toArray, List.set_cons_zero, List.set_cons_succ]
          refine wpAnyH_take (i := 17) (v := ?_) rfl (by kernel_rfl) (by kernel_rfl) (by kernel_rfl) (fun _ _ _ h => h) (Or.inl ⟨by rfl, ?_⟩) (by assumption) ?_
          rotate_left
          · (intro w hSw; (try dsimp only at hSw); go_simp; (try with_reducible rfl))
          try simp only [Act.put, List.getElem_toArray, List.getElem_cons_succ, List.getElem_cons_zero, List.setIfInBounds_toArray, List.set_cons_zero, List.set_cons_succ]
          refine wpAnyH_take (i := 18) (v := undef) rfl (by kernel_rfl) (by kernel_rfl) (by kernel_rfl) (fun _ _ _ h => h) (Or.inr ⟨by rfl, rfl⟩) (by assumption) ?_
          try simp only [Act.put, List.getElem_toArray, List.getElem_cons_succ, List.getElem_cons_zero, List.setIfInBounds_toArray, List.set_cons_zero, List.set_cons_succ]
          refine wpAnyH_take (i := 19) (v := undef) rfl (by kernel_rfl) (by kernel_rfl) (by kernel_rfl) (fun _ _ _ h => h) (Or.inr ⟨by rfl, rfl⟩) (by assumption) ?_
          try simp only [Act.put, List.getElem_toArray, List.getElem_cons_succ, List.getElem_cons_zero, List.setIfInBounds_toArray, List.set_cons_zero, List.set_cons_succ]
          refine wpAnyH_take (i := 20) (v := undef) rfl (by kernel_rfl) (by kernel_rfl) (by kernel_rfl) (fun _ _ _ h => h) (Or.inr ⟨by rfl, rfl⟩) (by assumption) ?_
          try simp only [Act.put, List.getElem_toArray, List.getElem_cons_succ, List.getElem_cons_zero, List.setIfInBounds_toArray, List.set_cons_zero, List.set_cons_succ]
          refine wpAnyH_take (i := 21) (v := undef) rfl (by kernel_rfl) (by kernel_rfl) (by kernel_rfl) (fun _ _ _ h => h) (Or.inr ⟨by rfl, rfl⟩) (by assumption) ?_
          try simp only [Act.put, List.getElem_toArray, List.getElem_cons_succ, List.getElem_cons_zero, List.setIfInBounds_toArray, List.set_cons_zero, List.set_cons_succ]
          refine wpAnyH_take (i := 22) (v := undef) rfl (by kernel_rfl) (by kernel_rfl) (by kernel_rfl) (fun _ _ _ h => h) (Or.inr ⟨by rfl, rfl⟩) (by assumption) ?_
          try simp only [Act.put, List.getElem_toArray, List.getElem_cons_succ, List.getElem_cons_zero, List.setIfInBounds_toArray, List.set_cons_zero, List.set_cons_succ]
          refine wpAnyH_take (i := 23) (v := undef) rfl (by kernel_rfl) (by kernel_rfl) (by kernel_rfl) (fun _ _ _ h => h) (Or.inr ⟨by rfl, rfl⟩) (by assumption) ?_
          try simp only [Act.put, List.getElem_toArray, List.getElem_cons_succ, List.getElem_cons_zero, List.setIfInBounds_toArray, List.set_cons_zero, List.set_cons_succ]
          refine wpAnyH_take (i := 24) (v := ?_) rfl (by kernel_rfl) (by kernel_rfl) (by kernel_rfl) (fun _ _ _ h => h) (Or.inl ⟨by rfl, ?_⟩) (by assumption) ?_
          rotate_left
          · (intro w hSw; (try dsimp only at hSw); go_simp; (try with_reducible rfl))
          try simp only [Act.put, List.getElem_toArray, List.getElem_cons_succ, List.getElem_cons_zero, List.setIfInBounds_toArray, List.set_cons_zero, List.set_cons_succ]
          refine wpAnyH_done (by kernel_rfl) ?_ _
          have HXe := Kept.mk (HX3.out.below (Below.refl ws.heap.size ws).drew)
          generalize ws.drew = wd at *
          have hbx := HXe.out.b0
          obtain ⟨r0, r1, r2, r3, f0, f1, f2, f3⟩ := four_cells hbx
          have hszr := HXe.out.l1
          have HE := Kept.mk (fun W' => q_end (L := 0) (p := 0) (q := 0) (w := w) (s := false) (ao := none) (k := 0) (c := 0) (t := false) (uo := none) (ku := 0) (cu := 0) hbx HXe.out.1 (Nat.le_refl _) ⟨_, _, rfl, rfl, NumR.zero 0 _⟩ ⟨_, _, rfl, rfl, NumR.zero 0 _⟩ W')
          clear hbx
          go_wp2
          have hE := HE.out _ rfl
          exact bodyPost_ret (v := .tuple #[.agg #[.bool false, .slice none 0 0, .bool false, .slice none 0 0], .bool false]) (by simp [results, Tryz.results54, go_sem, hE.2.2.1, hE.2.2.2.1, hE.2.2.2.2.1, hE.2.2.2.2.2]) rfl ⟨hE.1, .inr ⟨HN.out, rfl⟩⟩
        · skip
          obtain ⟨x, hxb, hZx⟩ := HY1.out rfl
          have HXB := Kept.mk hxb
          have HIn := Kept.mk (hZx.below (HW2.out.trans (HAL2.out.mono HW2.out.size)))
          clear hxb hZx HN1 HY1
          cases ok2
          · skip
            have HN : Kept (∀ p q, Low p q → s.data.toList ≠ decR p q) := ⟨fun p q hl e => by
              obtain ⟨_, _, hq2, eb, ea⟩ := decR_canon hl (HCP.out.1.symm.trans e) HCP.out.2.1
              rw [decN_decZ (by omega)] at ea
              exact HN2.out rfl q ea⟩
            obtain ⟨i0n, i1n, -, -⟩ := two_cells HBn.out
            obtain ⟨i0d, i1d, -, -⟩ := two_cells HBd.out
            refine wp_region_held_drew (S := fun w' => w'.cell? ⟨w1.heap.size, 0, none⟩ = some (.bool s1) ∧ w'.cell? ⟨w1.heap.size, 1, none⟩ = some (.slice o1 k1 c1) ∧ w'.cell? ⟨w2.heap.size, 0, none⟩ = some (.bool s2) ∧ w'.cell? ⟨w2.heap.size, 1, none⟩ = some (.slice o2 k2 c2)) (by kernel_rfl) ?_ (fun hHeld => ?_)
            · exact ⟨i0n, i1n, i0d, i1d⟩
            refine wpAnyH_take (i := 0) (v := ?_) rfl (by kernel_rfl) (by kernel_rfl) (by kernel_rfl) (fun _ _ _ h => h) (Or.inl ⟨by rfl, ?_⟩) (by assumption) ?_
            rotate_left
            · (intro w hSw; (try dsimp only at hSw); go_simp; (try with_reducible rfl))
            try simp only [Act.put, List.getElem_toArray, List.getElem_cons_succ, List.getElem_cons_zero, List.setIfInBounds_toArray, List.set_cons_zero, List.set_cons_succ]
            refine wpAnyH_take (i := 1) (v := ?_) rfl (by kernel_rfl) (by kernel_rfl) (by kernel_rfl) (fun _ _ _ h => h) (Or.inl ⟨by rfl, ?_⟩) (by assumption) ?_
            rotate_left
            · (intro w hSw; (try dsimp only at hSw); go_simp; (try with_reducible rfl))
            try simp only [Act.put, List.getElem_toArray, List.getElem_cons_succ, List.getElem_cons_zero, List.setIfInBounds_toArray, List.set_cons_zero, List.set_cons_succ]
            refine wpAnyH_take (i := 2) (v := ?_) rfl (by kernel_rfl) (by kernel_rfl) (by kernel_rfl) (fun _ _ _ h => h) (Or.inl ⟨by rfl, ?_⟩) (by assumption) ?_
            rotate_left
            · (intro w hSw; (try dsimp only at hSw); go_simp; (try with_reducible rfl))
            try simp only [Act.put, List.getElem_toArray, List.getElem_cons_succ, List.getElem_cons_zero, List.setIfInBounds_toArray, List.set_cons_zero, List.set_cons_succ]
            refine wpAnyH_take (i := 3) (v := ?_) rfl (by kernel_rfl) (by kernel_rfl) (by kernel_rfl) (fun _ _ _ h => h) (Or.inl ⟨by rfl, ?_⟩) (by assumption) ?_
            rotate_left
            · (intro w hSw; (try dsimp only at hSw); go_simp; (try with_reducible rfl))
            try simp only [Act.put, List.getElem_toArray, List.getElem_cons_succ, List.getElem_cons_zero, List.setIfInBounds_toArray, List.set_cons_zero, List.set_cons_succ]
            refine wpAnyH_take (i := 4) (v := ?_) rfl (by kernel_rfl) (by kernel_rfl) (by kernel_rfl) (fun _ _ _ h => h) (Or.inl ⟨by rfl, ?_⟩) (by assumption) ?_
            rotate_left
            · (intro w hSw; (try dsimp only at hSw); go_simp; (try with_reducible rfl))
            try simp only [Act.put, List.getElem_toArray, List.getElem_cons_succ, List.getElem_cons_zero, List.setIfInBounds_toArray, List.set_cons_zero, List.set_cons_succ]
            refine wpAnyH_take (i := 5) (v := ?_) rfl (by kernel_rfl) (by kernel_rfl) (by kernel_rfl) (fun _ _ _ h => h) (Or.inl ⟨by rfl, ?_⟩) (by assumption) ?_
            rotate_left
            · (intro w hSw; (try dsimp only at hSw); go_simp; (try with_reducible rfl))
            try simp only [Act.put, List.getElem_toArray, List.getElem_cons_succ, List.getElem_cons_zero, List.setIfInBounds_toArray, List.set_cons_zero, List.set_cons_succ]
            refine wpAnyH_take (i := 6) (v := ?_) rfl (by kernel_rfl) (by kernel_rfl) (by kernel_rfl) (fun _ _ _ h => h) (Or.inl ⟨by rfl, ?_⟩) (by assumption) ?_
            rotate_left
            · (intro w hSw; (try dsimp only at hSw); go_simp; (try with_reducible rfl))
            try simp only [Act.put, List.getElem_toArray, List.getElem_cons_succ, List.getElem_cons_zero, List.setIfInBounds_toArray, List.set_cons_zero, List.set_cons_succ]
            refine wpAnyH_take (i := 7) (v := undef) rfl (by kernel_rfl) (by kernel_rfl) (by kernel_rfl) (fun _ _ _ h => h) (Or.inr ⟨by rfl, rfl⟩) (by assumption) ?_
            try simp only [Act.put, List.getElem_toArray, List.getElem_cons_succ, List.getElem_cons_zero, List.setIfInBounds_toArray, List.set_cons_zero, List.set_cons_succ]
            refine wpAnyH_take (i := 8) (v := undef) rfl (by kernel_rfl) (by kernel_rfl) (by kernel_rfl) (fun _ _ _ h => h) (Or.inr ⟨by rfl, rfl⟩) (by assumption) ?_
            try simp only [Act.put, List.getElem_toArray, List.getElem_cons_succ, List.getElem_cons_zero, List.setIfInBounds_toArray, List.set_cons_zero, List.set_cons_succ]
            refine wpAnyH_take (i := 9) (v := undef) rfl (by kernel_rfl) (by kernel_rfl) (by kernel_rfl) (fun _ _ _ h => h) (Or.inr ⟨by rfl, rfl⟩) (by assumption) ?_
            try simp only [Act.put, List.getElem_toArray, List.getElem_cons_succ, List.getElem_cons_zero, List.setIfInBounds_toArray, List.set_cons_zero, List.set_cons_succ]
            refine wpAnyH_take (i := 10) (v := ?_) rfl (by kernel_rfl) (by kernel_rfl) (by kernel_rfl) (fun _ _ _ h => h) (Or.inl ⟨by rfl, ?_⟩) (by assumption) ?_
            rotate_left
            · (intro w hSw; (try dsimp only at hSw); go_simp; (try with_reducible rfl))
            try simp only [Act.put, List.getElem_toArray, List.getElem_cons_succ, List.getElem_cons_zero, List.setIfInBounds_toArray, List.set_cons_zero, List.set_cons_succ]
            refine wpAnyH_take (i := 11) (v := ?_) rfl (by kernel_rfl) (by kernel_rfl) (by kernel_rfl) (fun _ _ _ h => h) (Or.inl ⟨by rfl, ?_⟩) (by assumption) ?_
            rotate_left
            · (intro w hSw; (try dsimp only at hSw); go_simp; (try with_reducible rfl))
            try simp only [Act.put, List.getElem_toArray, List.getElem_cons_succ, List.getElem_cons_zero, List.setIfInBounds_toArray, List.set_cons_zero, List.set_cons_succ]
            refine wpAnyH_take (i := 12) (v := undef) rfl (by kernel_rfl) (by kernel_rfl) (by kernel_rfl) (fun _ _ _ h => h) (Or.inr ⟨by rfl, rfl⟩) (by assumption) ?_
            try simp only [Act.put, List.getElem_toArray, List.getElem_cons_succ, List.getElem_cons_zero, List.setIfInBounds_toArray, List.set_cons_zero, List.set_cons_succ]
            refine wpAnyH_take (i := 13) (v := undef) rfl (by kernel_rfl) (by kernel_rfl) (by kernel_rfl) (fun _ _ _ h => h) (Or.inr ⟨by rfl, rfl⟩) (by assumption) ?_
            try simp only [Act.put, List.getElem_toArray, List.getElem_cons_succ, List.getElem_cons_zero, List.setIfInBounds_toArray, List.set_cons_zero, List.set_cons_succ]
            refine wpAnyH_take (i := 14) (v := undef) rfl (by kernel_rfl) (by kernel_rfl) (by kernel_rfl) (fun _ _ _ h => h) (Or.inr ⟨by rfl, rfl⟩) (by assumption) ?_
            try simp only [Act.put, List.getElem_toArray, List.getElem_cons_succ, List.getElem_cons_zero, List.setIfInBounds_toArray, List.set_cons_zero, List.set_cons_succ]
            refine wpAnyH_take (i := 15) (v := undef) rfl (by kernel_rfl) (by kernel_rfl) (by kernel_rfl) (fun _ _ _ h => h) (Or.inr ⟨by rfl, rfl⟩) (by assumption) ?_
            try simp only [Act.put, List.getElem_toArray, List.getElem_cons_succ, List.getElem_cons_zero, List.setIfInBounds_toArray, List.set_cons_zero, List.set_cons_succ]
            refine wpAnyH_take (i := 16) (v := ?_) rfl (by kernel_rfl) (by kernel_rfl) (by kernel_rfl) (fun _ _ _ h => h) (Or.inl ⟨by rfl, ?_⟩) (by assumption) ?_
            rotate_left
            · (intro w hSw; (try dsimp only at hSw); go_simp; (try with_reducible rfl))
            try simp only [Act.put, List.getElem_toArray, List.getElem_cons_succ, List.getElem_cons_zero, List.setIfInBounds_toArray, List.set_cons_zero, List.set_cons_succ]
            refine wpAnyH_take (i := 17) (v := ?_) rfl (by kernel_rfl) (by kernel_rfl) (by kernel_rfl) (fun _ _ _ h => h) (Or.inl ⟨by rfl, ?_⟩) (by assumption) ?_
            rotate_left
            · (intro w hSw; (try dsimp only at hSw); go_simp; (try with_reducible rfl))
            try simp only [Act.put, List.getElem_toArray, List.getElem_cons_succ, List.getElem_cons_zero, List.setIfInBounds_toArray, List.set_cons_zero, List.set_cons_succ]
            refine wpAnyH_take (i := 18) (v := undef) rfl (by kernel_rfl) (by kernel_rfl) (by kernel_rfl) (fun _ _ _ h => h) (Or.inr ⟨by rfl, rfl⟩) (by assumption) ?_
            try simp only [Act.put, List.getElem_toArray, List.getElem_cons_succ, List.getElem_cons_zero, List.setIfInBounds_toArray, List.set_cons_zero, List.set_cons_succ]
            refine wpAnyH_take (i := 19) (v := undef) rfl (by kernel_rfl) (by kernel_rfl) (by kernel_rfl) (fun _ _ _ h => h) (Or.inr ⟨by rfl, rfl⟩) (by assumption) ?_
            try simp only [Act.put, List.getElem_toArray, List.getElem_cons_succ, List.getElem_cons_zero, List.setIfInBounds_toArray, List.set_cons_zero, List.set_cons_succ]
            refine wpAnyH_take (i := 20) (v := undef) rfl (by kernel_rfl) (by kernel_rfl) (by kernel_rfl) (fun _ _ _ h => h) (Or.inr ⟨by rfl, rfl⟩) (by assumption) ?_
            try simp only [Act.put, List.getElem_toArray, List.getElem_cons_succ, List.getElem_cons_zero, List.setIfInBounds_toArray, List.set_cons_zero, List.set_cons_succ]
            refine wpAnyH_take (i := 21) (v := undef) rfl (by kernel_rfl) (by kernel_rfl) (by kernel_rfl) (fun _ _ _ h => h) (Or.inr ⟨by rfl, rfl⟩) (by assumption) ?_
            try simp only [Act.put, List.getElem_toArray, List.getElem_cons_succ, List.getElem_cons_zero, List.setIfInBounds_toArray, List.set_cons_zero, List.set_cons_succ]
            refine wpAnyH_take (i := 22) (v := undef) rfl (by kernel_rfl) (by kernel_rfl) (by kernel_rfl) (fun _ _ _ h => h) (Or.inr ⟨by rfl, rfl⟩) (by assumption) ?_
            try simp only [Act.put, List.getElem_toArray, List.getElem_cons_succ, List.getElem_cons_zero, List.setIfInBounds_toArray, List.set_cons_zero, List.set_cons_succ]
            refine wpAnyH_take (i := 23) (v := undef) rfl (by kernel_rfl) (by kernel_rfl) (by kernel_rfl) (fun _ _ _ h => h) (Or.inr ⟨by rfl, rfl⟩) (by assumption) ?_
            try simp only [Act.put, List.getElem_toArray, List.getElem_cons_succ, List.getElem_cons_zero, List.setIfInBounds_toArray, List.set_cons_zero, List.set_cons_succ]
            refine wpAnyH_take (i := 24) (v := ?_) rfl (by kernel_rfl) (by kernel_rfl) (by kernel_rfl) (fun _ _ _ h => h) (Or.inl ⟨by rfl, ?_⟩) (by assumption) ?_
            rotate_left
            · (intro w hSw; (try dsimp only at hSw); go_simp; (try with_reducible rfl))
            try simp only [Act.put, List.getElem_toArray, List.getElem_cons_succ, List.getElem_cons_zero, List.setIfInBounds_toArray, List.set_cons_zero, List.set_cons_succ]
            refine wpAnyH_done (by kernel_rfl) ?_ _
            have HXe := Kept.mk (HX3.out.below (Below.refl ws.heap.size ws).drew)
            generalize ws.drew = wd at *
            have hbx := HXe.out.b0
            obtain ⟨r0, r1, r2, r3, f0, f1, f2, f3⟩ := four_cells hbx
            have hszr := HXe.out.l1
            have HE := Kept.mk (fun W' => q_end (L := 0) (p := 0) (q := 0) (w := w) (s := false) (ao := none) (k := 0) (c := 0) (t := false) (uo := none) (ku := 0) (cu := 0) hbx HXe.out.1 (Nat.le_refl _) ⟨_, _, rfl, rfl, NumR.zero 0 _⟩ ⟨_, _, rfl, rfl, NumR.zero 0 _⟩ W')
            clear hbx
            go_wp2
            have hE := HE.out _ rfl
            exact bodyPost_ret (v := .tuple #[.agg #[.bool false, .slice none 0 0, .bool false, .slice none 0 0], .bool false]) (by simp [results, Tryz.results54, go_sem, hE.2.2.1, hE.2.2.2.1, hE.2.2.2.2.1, hE.2.2.2.2.2]) rfl ⟨hE.1, .inr ⟨HN.out, rfl⟩⟩
          · skip
            obtain ⟨y, hya, hZy⟩ := HY2.out rfl
            have HYA := Kept.mk hya
            have HId := Kept.mk (hZy.below HAL2.out)
            clear hya hZy HN2 HY2
            have hLs : s.data.toList.length ≤ 140737488355328 := by have := HSL.out; omega
            obtain ⟨LL, hLL⟩ : ∃ LL, s.data.toList.length / 9 + 64 = LL := ⟨_, rfl⟩
            rw [hLL] at HIn HId
            have hLm : LL ≤ 15700000000000 := by omega
            have hL64 : 64 ≤ LL := by omega
            clear hLs
            obtain ⟨σ, hσ⟩ : ∃ σ, Dg.sg y 0 = σ := ⟨_, rfl⟩
            obtain ⟨τ, hτ⟩ : ∃ τ, Dg.sg y 1 = τ := ⟨_, rfl⟩
            obtain ⟨G, hG⟩ : ∃ G : Int, (Int.gcd x y : Int) = G := ⟨_, rfl⟩
            obtain ⟨ρ, hρ⟩ : ∃ ρ, Dg.sg G 1 = ρ := ⟨_, rfl⟩
            have HSG := Kept.mk hσ
            have HTT := Kept.mk hτ
            have HGG := Kept.mk hG
            have HRR := Kept.mk hρ
            clear hσ hτ hG hρ
            have HCS : Kept (∀ W, Below ws.heap.size ws W → Calls Tryz.prog 26 #[(.agg #[.bool s2, .slice o2 k2 c2])] W (RetV W (.int .i64 σ))) := ⟨fun W h => by have hc := rsignz_any (HId.out.below h); rw [HSG.out] at hc; exact hc⟩
            have HOF : Kept (∀ W, Below ws.heap.size ws W → Calls Tryz.prog 32 #[.int .i64 1] W (RetZ 64 W 1)) := ⟨fun W h => rof_any 1 W (by decide) (by decide)⟩
            have HC1 : Kept (∀ W u, Below ws.heap.size ws W → ZV 64 W u 1 → Calls Tryz.prog 35 #[(.agg #[.bool s2, .slice o2 k2 c2]), u] W (RetV W (.int .i64 τ))) := ⟨fun W u h h' => by have hc := rcmpz_any (HId.out.below h) h' (by omega) (by decide); rw [HTT.out] at hc; exact hc⟩
            have HGC : Kept (∀ W, Below ws.heap.size ws W → Calls Tryz.prog 37 #[(.agg #[.bool s1, .slice o1 k1 c1]), (.agg #[.bool s2, .slice o2 k2 c2])] W (RetZ LL W G)) := ⟨fun W h => by have hc := rgcdz_any (HIn.out.below h) (HId.out.below h) (by omega) (by omega); rw [HGG.out, Nat.max_self] at hc; exact hc⟩
            have HC2 : Kept (∀ W v u, Below ws.heap.size ws W → ZV LL W v G → ZV 64 W u 1 → Calls Tryz.prog 35 #[v, u] W (RetV W (.int .i64 ρ))) := ⟨fun W v u _ h h' => by have hc := rcmpz_any h h' (by omega) (by decide); rw [HRR.out] at hc; exact hc⟩
            by_cases hy0 : y ≤ 0
            · skip
              have hds : decide (σ ≤ (0 : Int)) = true := by have := HSG.out; unfold Dg.sg at this; apply decide_eq_true; split at this <;> (try split at this) <;> omega
              have HN : Kept (∀ p q, Low p q → s.data.toList ≠ decR p q) := ⟨fun p q hl e => by
                obtain ⟨_, _, hq2, eb, ea⟩ := decR_canon hl (HCP.out.1.symm.trans e) HCP.out.2.1
                rw [decN_decZ (by omega)] at ea
                have e1 : y = q := Dg.decZ_inj (HYA.out.symm.trans ea)
                have e2 : x = p := Dg.decZ_inj (HXB.out.symm.trans eb)
                omega⟩
              obtain ⟨i0n, i1n, -, -⟩ := two_cells HBn.out
              obtain ⟨i0d, i1d, -, -⟩ := two_cells HBd.out
              refine wp_region_held_drew (S := fun w' => w'.cell? ⟨w1.heap.size, 0, none⟩ = some (.bool s1) ∧ w'.cell? ⟨w1.heap.size, 1, none⟩ = some (.slice o1 k1 c1) ∧ w'.cell? ⟨w2.heap.size, 0, none⟩ = some (.bool s2) ∧ w'.cell? ⟨w2.heap.size, 1, none⟩ = some (.slice o2 k2 c2)) (by kernel_rfl) ?_ (fun hHeld => ?_)
              · exact ⟨i0n, i1n, i0d, i1d⟩
              refine wpAnyH_take (i := 0) (v := ?_) rfl (by kernel_rfl) (by kernel_rfl) (by kernel_rfl) (fun _ _ _ h => h) (Or.inl ⟨by rfl, ?_⟩) (by assumption) ?_
              rotate_left
              · (intro w hSw; (try dsimp only at hSw); go_simp; (try with_reducible rfl))
              try simp only [Act.put, List.getElem_toArray, List.getElem_cons_succ, List.getElem_cons_zero, List.setIfInBounds_toArray, List.set_cons_zero, List.set_cons_succ]
              refine wpAnyH_take (i := 1) (v := ?_) rfl (by kernel_rfl) (by kernel_rfl) (by kernel_rfl) (fun _ _ _ h => h) (Or.inl ⟨by rfl, ?_⟩) (by assumption) ?_
              rotate_left
              · (intro w hSw; (try dsimp only at hSw); go_simp; (try with_reducible rfl))
              try simp only [Act.put, List.getElem_toArray, List.getElem_cons_succ, List.getElem_cons_zero, List.setIfInBounds_toArray, List.set_cons_zero, List.set_cons_succ]
              refine wpAnyH_take (i := 2) (v := ?_) rfl (by kernel_rfl) (by kernel_rfl) (by kernel_rfl) (fun _ _ _ h => h) (Or.inl ⟨by rfl, ?_⟩) (by assumption) ?_
              rotate_left
              · (intro w hSw; (try dsimp only at hSw); go_simp; (try with_reducible rfl))
              try simp only [Act.put, List.getElem_toArray, List.getElem_cons_succ, List.getElem_cons_zero, List.setIfInBounds_toArray, List.set_cons_zero, List.set_cons_succ]
              refine wpAnyH_take (i := 3) (v := ?_) rfl (by kernel_rfl) (by kernel_rfl) (by kernel_rfl) (fun _ _ _ h => h) (Or.inl ⟨by rfl, ?_⟩) (by assumption) ?_
              rotate_left
              · (intro w hSw; (try dsimp only at hSw); go_simp; (try with_reducible rfl))
              try simp only [Act.put, List.getElem_toArray, List.getElem_cons_succ, List.getElem_cons_zero, List.setIfInBounds_toArray, List.set_cons_zero, List.set_cons_succ]
              refine wpAnyH_take (i := 4) (v := ?_) rfl (by kernel_rfl) (by kernel_rfl) (by kernel_rfl) (fun _ _ _ h => h) (Or.inl ⟨by rfl, ?_⟩) (by assumption) ?_
              rotate_left
              · (intro w hSw; (try dsimp only at hSw); go_simp; (try with_reducible rfl))
              try simp only [Act.put, List.getElem_toArray, List.getElem_cons_succ, List.getElem_cons_zero, List.setIfInBounds_toArray, List.set_cons_zero, List.set_cons_succ]
              refine wpAnyH_take (i := 5) (v := ?_) rfl (by kernel_rfl) (by kernel_rfl) (by kernel_rfl) (fun _ _ _ h => h) (Or.inl ⟨by rfl, ?_⟩) (by assumption) ?_
              rotate_left
              · (intro w hSw; (try dsimp only at hSw); go_simp; (try with_reducible rfl))
              try simp only [Act.put, List.getElem_toArray, List.getElem_cons_succ, List.getElem_cons_zero, List.setIfInBounds_toArray, List.set_cons_zero, List.set_cons_succ]
              refine wpAnyH_take (i := 6) (v := ?_) rfl (by kernel_rfl) (by kernel_rfl) (by kernel_rfl) (fun _ _ _ h => h) (Or.inl ⟨by rfl, ?_⟩) (by assumption) ?_
              rotate_left
              · (intro w hSw; (try dsimp only at hSw); go_simp; (try with_reducible rfl))
              try simp only [Act.put, List.getElem_toArray, List.getElem_cons_succ, List.getElem_cons_zero, List.setIfInBounds_toArray, List.set_cons_zero, List.set_cons_succ]
              refine wpAnyH_take (i := 7) (v := ?_) rfl (by kernel_rfl) (by kernel_rfl) (by kernel_rfl) (fun _ _ _ h => h) (Or.inl ⟨by rfl, ?_⟩) (by assumption) ?_
              rotate_left
              · (intro w hSw; (try dsimp only at hSw); go_simp; (try with_reducible rfl))
              try simp only [Act.put, List.getElem_toArray, List.getElem_cons_succ, List.getElem_cons_zero, List.setIfInBounds_toArray, List.set_cons_zero, List.set_cons_succ]
              refine wpAnyH_ready (rs := [8]) (by kernel_rfl) (by simp) ?_
              refine AllReadyH.cons rfl (fun K hK => ?_) AllReadyH.nil
              go_simp
              refine (HCS.out _ ?h1).mono ?_
              case h1 => exact ((Bxs.start ws).drew).1
              rintro e w1' ⟨hb1, rfl⟩
              have hy1 := Bxs.below ((Bxs.start ws).drew) hb1
              obtain ⟨j0n, j1n, -, -⟩ := two_cells (HBn.out.below hy1.1)
              obtain ⟨j0d, j1d, -, -⟩ := two_cells (HBd.out.below hy1.1)
              refine hK.out _ _ ?_ (fun hHeld => ?_)
              · exact ⟨j0n, j1n, j0d, j1d⟩
              clear hK K
              try simp only [Act.put, List.getElem_toArray, List.getElem_cons_succ, List.getElem_cons_zero, List.setIfInBounds_toArray, List.set_cons_zero, List.set_cons_succ]
              refine wpAnyH_take (i := 9) (v := ?_) rfl (by kernel_rfl) (by kernel_rfl) (by kernel_rfl) (fun _ _ _ h => h) (Or.inl ⟨by rfl, ?_⟩) (by assumption) ?_
              rotate_left
              · (intro w hSw; (try dsimp only at hSw); go_simp; (try with_reducible rfl))
              try simp only [Act.put, List.getElem_toArray, List.getElem_cons_succ, List.getElem_cons_zero, List.setIfInBounds_toArray, List.set_cons_zero, List.set_cons_succ]
              refine wpAnyH_take (i := 10) (v := ?_) rfl (by kernel_rfl) (by kernel_rfl) (by kernel_rfl) (fun _ _ _ h => h) (Or.inl ⟨by rfl, ?_⟩) (by assumption) ?_
              rotate_left
              · (intro w hSw; (try dsimp only at hSw); go_simp; (try with_reducible rfl))
              try simp only [Act.put, List.getElem_toArray, List.getElem_cons_succ, List.getElem_cons_zero, List.setIfInBounds_toArray, List.set_cons_zero, List.set_cons_succ]
              refine wpAnyH_take (i := 11) (v := ?_) rfl (by kernel_rfl) (by kernel_rfl) (by kernel_rfl) (fun _ _ _ h => h) (Or.inl ⟨by rfl, ?_⟩) (by assumption) ?_
              rotate_left
              · (intro w hSw; (try dsimp only at hSw); go_simp; (try with_reducible rfl))
              try simp only [Act.put, List.getElem_toArray, List.getElem_cons_succ, List.getElem_cons_zero, List.setIfInBounds_toArray, List.set_cons_zero, List.set_cons_succ]
              refine wpAnyH_take (i := 12) (v := undef) rfl (by kernel_rfl) (by kernel_rfl) (by kernel_rfl) (fun _ _ _ h => h) (Or.inr ⟨by rfl, rfl⟩) (by assumption) ?_
              try simp only [Act.put, List.getElem_toArray, List.getElem_cons_succ, List.getElem_cons_zero, List.setIfInBounds_toArray, List.set_cons_zero, List.set_cons_succ]
              refine wpAnyH_take (i := 13) (v := undef) rfl (by kernel_rfl) (by kernel_rfl) (by kernel_rfl) (fun _ _ _ h => h) (Or.inr ⟨by rfl, rfl⟩) (by assumption) ?_
              try simp only [Act.put, List.getElem_toArray, List.getElem_cons_succ, List.getElem_cons_zero, List.setIfInBounds_toArray, List.set_cons_zero, List.set_cons_succ]
              refine wpAnyH_take (i := 14) (v := undef) rfl (by kernel_rfl) (by kernel_rfl) (by kernel_rfl) (fun _ _ _ h => h) (Or.inr ⟨by rfl, rfl⟩) (by assumption) ?_
              try simp only [Act.put, List.getElem_toArray, List.getElem_cons_succ, List.getElem_cons_zero, List.setIfInBounds_toArray, List.set_cons_zero, List.set_cons_succ]
              refine wpAnyH_take (i := 15) (v := undef) rfl (by kernel_rfl) (by kernel_rfl) (by kernel_rfl) (fun _ _ _ h => h) (Or.inr ⟨by rfl, rfl⟩) (by assumption) ?_
              try simp only [Act.put, List.getElem_toArray, List.getElem_cons_succ, List.getElem_cons_zero, List.setIfInBounds_toArray, List.set_cons_zero, List.set_cons_succ]
              refine wpAnyH_take (i := 16) (v := ?_) rfl (by kernel_rfl) (by kernel_rfl) (by kernel_rfl) (fun _ _ _ h => h) (Or.inl ⟨by rfl, ?_⟩) (by assumption) ?_
              rotate_left
              · (intro w hSw; (try dsimp only at hSw); go_simp; (try with_reducible rfl))
              try simp only [Act.put, List.getElem_toArray, List.getElem_cons_succ, List.getElem_cons_zero, List.setIfInBounds_toArray, List.set_cons_zero, List.set_cons_succ]
              refine wpAnyH_take (i := 17) (v := ?_) rfl (by kernel_rfl) (by kernel_rfl) (by kernel_rfl) (fun _ _ _ h => h) (Or.inl ⟨by rfl, ?_⟩) (by assumption) ?_
              rotate_left
              · (intro w hSw; (try dsimp only at hSw); go_simp; (try with_reducible rfl))
              try simp only [Act.put, List.getElem_toArray, List.getElem_cons_succ, List.getElem_cons_zero, List.setIfInBounds_toArray, List.set_cons_zero, List.set_cons_succ]
              refine wpAnyH_take (i := 18) (v := undef) rfl (by kernel_rfl) (by kernel_rfl) (by kernel_rfl) (fun _ _ _ h => h) (Or.inr ⟨by rfl, rfl⟩) (by assumption) ?_
              try simp only [Act.put, List.getElem_toArray, List.getElem_cons_succ, List.getElem_cons_zero, List.setIfInBounds_toArray, List.set_cons_zero, List.set_cons_succ]
              refine wpAnyH_take (i := 19) (v := undef) rfl (by kernel_rfl) (by kernel_rfl) (by kernel_rfl) (fun _ _ _ h => h) (Or.inr ⟨by rfl, rfl⟩) (by assumption) ?_
              try simp only [Act.put, List.getElem_toArray, List.getElem_cons_succ, List.getElem_cons_zero, List.setIfInBounds_toArray, List.set_cons_zero, List.set_cons_succ]
              refine wpAnyH_take (i := 20) (v := undef) rfl (by kernel_rfl) (by kernel_rfl) (by kernel_rfl) (fun _ _ _ h => h) (Or.inr ⟨by rfl, rfl⟩) (by assumption) ?_
              try simp only [Act.put, List.getElem_toArray, List.getElem_cons_succ, List.getElem_cons_zero, List.setIfInBounds_toArray, List.set_cons_zero, List.set_cons_succ]
              refine wpAnyH_take (i := 21) (v := undef) rfl (by kernel_rfl) (by kernel_rfl) (by kernel_rfl) (fun _ _ _ h => h) (Or.inr ⟨by rfl, rfl⟩) (by assumption) ?_
              try simp only [Act.put, List.getElem_toArray, List.getElem_cons_succ, List.getElem_cons_zero, List.setIfInBounds_toArray, List.set_cons_zero, List.set_cons_succ]
              refine wpAnyH_take (i := 22) (v := undef) rfl (by kernel_rfl) (by kernel_rfl) (by kernel_rfl) (fun _ _ _ h => h) (Or.inr ⟨by rfl, rfl⟩) (by assumption) ?_
              try simp only [Act.put, List.getElem_toArray, List.getElem_cons_succ, List.getElem_cons_zero, List.setIfInBounds_toArray, List.set_cons_zero, List.set_cons_succ]
              refine wpAnyH_take (i := 23) (v := undef) rfl (by kernel_rfl) (by kernel_rfl) (by kernel_rfl) (fun _ _ _ h => h) (Or.inr ⟨by rfl, rfl⟩) (by assumption) ?_
              try simp only [Act.put, List.getElem_toArray, List.getElem_cons_succ, List.getElem_cons_zero, List.setIfInBounds_toArray, List.set_cons_zero, List.set_cons_succ]
              refine wpAnyH_take (i := 24) (v := ?_) rfl (by kernel_rfl) (by kernel_rfl) (by kernel_rfl) (fun _ _ _ h => h) (Or.inl ⟨by rfl, ?_⟩) (by assumption) ?_
              rotate_left
              · (intro w hSw; (try dsimp only at hSw); go_simp; (try with_reducible rfl))
              try simp only [Act.put, List.getElem_toArray, List.getElem_cons_succ, List.getElem_cons_zero, List.setIfInBounds_toArray, List.set_cons_zero, List.set_cons_succ]
              refine wpAnyH_done (by kernel_rfl) ?_ _
              have HXe := Kept.mk (HX3.out.below hy1.1)
              have hbx := HXe.out.b0
              obtain ⟨r0, r1, r2, r3, f0, f1, f2, f3⟩ := four_cells hbx
              have hszr := HXe.out.l1
              have HE := Kept.mk (fun W' => q_end (L := 0) (p := 0) (q := 0) (w := w) (s := false) (ao := none) (k := 0) (c := 0) (t := false) (uo := none) (ku := 0) (cu := 0) hbx HXe.out.1 (Nat.le_refl _) ⟨_, _, rfl, rfl, NumR.zero 0 _⟩ ⟨_, _, rfl, rfl, NumR.zero 0 _⟩ W')
              clear hbx
              go_wp2
              have hE := HE.out _ rfl
              exact bodyPost_ret (v := .tuple #[.agg #[.bool false, .slice none 0 0, .bool false, .slice none 0 0], .bool false]) (by simp [results, Tryz.results54, go_sem, hE.2.2.1, hE.2.2.2.1, hE.2.2.2.2.1, hE.2.2.2.2.2]) rfl ⟨hE.1, .inr ⟨HN.out, rfl⟩⟩
            · skip
              have hds : decide (σ ≤ (0 : Int)) = false := by have := HSG.out; rw [Dg.sg_gt (by omega)] at this; apply decide_eq_false; omega
              by_cases hy1 : y = 1
              · skip
                have hdt : (τ == 0) = true := by have := HTT.out; rw [hy1, Dg.sg_eq] at this; rw [← this]; rfl
                have HN : Kept (∀ p q, Low p q → s.data.toList ≠ decR p q) := ⟨fun p q hl e => by
                  obtain ⟨_, _, hq2, eb, ea⟩ := decR_canon hl (HCP.out.1.symm.trans e) HCP.out.2.1
                  rw [decN_decZ (by omega)] at ea
                  have e1 : y = q := Dg.decZ_inj (HYA.out.symm.trans ea)
                  have e2 : x = p := Dg.decZ_inj (HXB.out.symm.trans eb)
                  omega⟩
                obtain ⟨i0n, i1n, -, -⟩ := two_cells HBn.out
                obtain ⟨i0d, i1d, -, -⟩ := two_cells HBd.out
                refine wp_region_held_drew (S := fun w' => w'.cell? ⟨w1.heap.size, 0, none⟩ = some (.bool s1) ∧ w'.cell? ⟨w1.heap.size, 1, none⟩ = some (.slice o1 k1 c1) ∧ w'.cell? ⟨w2.heap.size, 0, none⟩ = some (.bool s2) ∧ w'.cell? ⟨w2.heap.size, 1, none⟩ = some (.slice o2 k2 c2)) (by kernel_rfl) ?_ (fun hHeld => ?_)
                · exact ⟨i0n, i1n, i0d, i1d⟩
                refine wpAnyH_take (i := 0) (v := ?_) rfl (by kernel_rfl) (by kernel_rfl) (by kernel_rfl) (fun _ _ _ h => h) (Or.inl ⟨by rfl, ?_⟩) (by assumption) ?_
                rotate_left
                · (intro w hSw; (try dsimp only at hSw); go_simp; (try with_reducible rfl))
                try simp only [Act.put, List.getElem_toArray, List.getElem_cons_succ, List.getElem_cons_zero, List.setIfInBounds_toArray, List.set_cons_zero, List.set_cons_succ]
                refine wpAnyH_take (i := 1) (v := ?_) rfl (by kernel_rfl) (by kernel_rfl) (by kernel_rfl) (fun _ _ _ h => h) (Or.inl ⟨by rfl, ?_⟩) (by assumption) ?_
                rotate_left
                · (intro w hSw; (try dsimp only at hSw); go_simp; (try with_reducible rfl))
                try simp only [Act.put, List.getElem_toArray, List.getElem_cons_succ, List.getElem_cons_zero, List.setIfInBounds_toArray, List.set_cons_zero, List.set_cons_succ]
                refine wpAnyH_take (i := 2) (v := ?_) rfl (by kernel_rfl) (by kernel_rfl) (by kernel_rfl) (fun _ _ _ h => h) (Or.inl ⟨by rfl, ?_⟩) (by assumption) ?_
                rotate_left
                · (intro w hSw; (try dsimp only at hSw); go_simp; (try with_reducible rfl))
                try simp only [Act.put, List.getElem_toArray, List.getElem_cons_succ, List.getElem_cons_zero, List.setIfInBounds_toArray, List.set_cons_zero, List.set_cons_succ]
                refine wpAnyH_take (i := 3) (v := ?_) rfl (by kernel_rfl) (by kernel_rfl) (by kernel_rfl) (fun _ _ _ h => h) (Or.inl ⟨by rfl, ?_⟩) (by assumption) ?_
                rotate_left
                · (intro w hSw; (try dsimp only at hSw); go_simp; (try with_reducible rfl))
                try simp only [Act.put, List.getElem_toArray, List.getElem_cons_succ, List.getElem_cons_zero, List.setIfInBounds_toArray, List.set_cons_zero, List.set_cons_succ]
                refine wpAnyH_take (i := 4) (v := ?_) rfl (by kernel_rfl) (by kernel_rfl) (by kernel_rfl) (fun _ _ _ h => h) (Or.inl ⟨by rfl, ?_⟩) (by assumption) ?_
                rotate_left
                · (intro w hSw; (try dsimp only at hSw); go_simp; (try with_reducible rfl))
                try simp only [Act.put, List.getElem_toArray, List.getElem_cons_succ, List.getElem_cons_zero, List.setIfInBounds_toArray, List.set_cons_zero, List.set_cons_succ]
                refine wpAnyH_take (i := 5) (v := ?_) rfl (by kernel_rfl) (by kernel_rfl) (by kernel_rfl) (fun _ _ _ h => h) (Or.inl ⟨by rfl, ?_⟩) (by assumption) ?_
                rotate_left
                · (intro w hSw; (try dsimp only at hSw); go_simp; (try with_reducible rfl))
                try simp only [Act.put, List.getElem_toArray, List.getElem_cons_succ, List.getElem_cons_zero, List.setIfInBounds_toArray, List.set_cons_zero, List.set_cons_succ]
                refine wpAnyH_take (i := 6) (v := ?_) rfl (by kernel_rfl) (by kernel_rfl) (by kernel_rfl) (fun _ _ _ h => h) (Or.inl ⟨by rfl, ?_⟩) (by assumption) ?_
                rotate_left
                · (intro w hSw; (try dsimp only at hSw); go_simp; (try with_reducible rfl))
                try simp only [Act.put, List.getElem_toArray, List.getElem_cons_succ, List.getElem_cons_zero, List.setIfInBounds_toArray, List.set_cons_zero, List.set_cons_succ]
                refine wpAnyH_take (i := 7) (v := ?_) rfl (by kernel_rfl) (by kernel_rfl) (by kernel_rfl) (fun _ _ _ h => h) (Or.inl ⟨by rfl, ?_⟩) (by assumption) ?_
                rotate_left
                · (intro w hSw; (try dsimp only at hSw); go_simp; (try with_reducible rfl))
                try simp only [Act.put, List.getElem_toArray, List.getElem_cons_succ, List.getElem_cons_zero, List.setIfInBounds_toArray, List.set_cons_zero, List.set_cons_succ]
                refine wpAnyH_ready (rs := [8]) (by kernel_rfl) (by simp) ?_
                refine AllReadyH.cons rfl (fun K hK => ?_) AllReadyH.nil
                go_simp
                refine (HCS.out _ ?h1).mono ?_
                case h1 => exact ((Bxs.start ws).drew).1
                rintro e w1' ⟨hb1, rfl⟩
                have hy1 := Bxs.below ((Bxs.start ws).drew) hb1
                obtain ⟨j0n, j1n, -, -⟩ := two_cells (HBn.out.below hy1.1)
                obtain ⟨j0d, j1d, -, -⟩ := two_cells (HBd.out.below hy1.1)
                refine hK.out _ _ ?_ (fun hHeld => ?_)
                · exact ⟨j0n, j1n, j0d, j1d⟩
                clear hK K
                try simp only [Act.put, List.getElem_toArray, List.getElem_cons_succ, List.getElem_cons_zero, List.setIfInBounds_toArray, List.set_cons_zero, List.set_cons_succ]
                refine wpAnyH_take (i := 9) (v := ?_) rfl (by kernel_rfl) (by kernel_rfl) (by kernel_rfl) (fun _ _ _ h => h) (Or.inl ⟨by rfl, ?_⟩) (by assumption) ?_
                rotate_left
                · (intro w hSw; (try dsimp only at hSw); go_simp; (try with_reducible rfl))
                try simp only [Act.put, List.getElem_toArray, List.getElem_cons_succ, List.getElem_cons_zero, List.setIfInBounds_toArray, List.set_cons_zero, List.set_cons_succ]
                refine wpAnyH_take (i := 10) (v := ?_) rfl (by kernel_rfl) (by kernel_rfl) (by kernel_rfl) (fun _ _ _ h => h) (Or.inl ⟨by rfl, ?_⟩) (by assumption) ?_
                rotate_left
                · (intro w hSw; (try dsimp only at hSw); go_simp; (try with_reducible rfl))
                try simp only [Act.put, List.getElem_toArray, List.getElem_cons_succ, List.getElem_cons_zero, List.setIfInBounds_toArray, List.set_cons_zero, List.set_cons_succ]
                refine wpAnyH_take (i := 11) (v := ?_) rfl (by kernel_rfl) (by kernel_rfl) (by kernel_rfl) (fun _ _ _ h => h) (Or.inl ⟨by rfl, ?_⟩) (by assumption) ?_
                rotate_left
                · (intro w hSw; (try dsimp only at hSw); go_simp; (try with_reducible rfl))
                try simp only [Act.put, List.getElem_toArray, List.getElem_cons_succ, List.getElem_cons_zero, List.setIfInBounds_toArray, List.set_cons_zero, List.set_cons_succ]
                refine wpAnyH_take (i := 12) (v := ?_) rfl (by kernel_rfl) (by kernel_rfl) (by kernel_rfl) (fun _ _ _ h => h) (Or.inl ⟨by rfl, ?_⟩) (by assumption) ?_
                rotate_left
                · (intro w hSw; (try dsimp only at hSw); go_simp; (try with_reducible rfl))
                try simp only [Act.put, List.getElem_toArray, List.getElem_cons_succ, List.getElem_cons_zero, List.setIfInBounds_toArray, List.set_cons_zero, List.set_cons_succ]
                refine wpAnyH_ready (rs := [13]) (by kernel_rfl) (by simp) ?_
                refine AllReadyH.cons rfl (fun K hK => ?_) AllReadyH.nil
                go_simp
                refine (HOF.out _ ?h1).mono ?_
                case h1 => exact hy1.1
                rintro e w2' ⟨hb2, v2', rfl, hV2⟩
                have hy2 := Bxs.below hy1 hb2
                obtain ⟨k0n, k1n, -, -⟩ := two_cells (HBn.out.below hy2.1)
                obtain ⟨k0d, k1d, -, -⟩ := two_cells (HBd.out.below hy2.1)
                refine hK.out _ _ ?_ (fun hHeld => ?_)
                · exact ⟨k0n, k1n, k0d, k1d⟩
                clear hK K
                try simp only [Act.put, List.getElem_toArray, List.getElem_cons_succ, List.getElem_cons_zero, List.setIfInBounds_toArray, List.set_cons_zero, List.set_cons_succ]
                refine wpAnyH_ready (rs := [14]) (by kernel_rfl) (by simp) ?_
                refine AllReadyH.cons rfl (fun K hK => ?_) AllReadyH.nil
                go_simp
                refine (HC1.out _ _ ?h1 ?h2).mono ?_
                case h1 => exact hy2.1
                case h2 => exact hV2
                rintro e w3' ⟨hb3, rfl⟩
                have hy3 := Bxs.below hy2 hb3
                obtain ⟨l0n, l1n, -, -⟩ := two_cells (HBn.out.below hy3.1)
                obtain ⟨l0d, l1d, -, -⟩ := two_cells (HBd.out.below hy3.1)
                refine hK.out _ _ ?_ (fun hHeld => ?_)
                · exact ⟨l0n, l1n, l0d, l1d⟩
                clear hK K
                try simp only [Act.put, List.getElem_toArray, List.getElem_cons_succ, List.getElem_cons_zero, List.setIfInBounds_toArray, List.set_cons_zero, List.set_cons_succ]
                refine wpAnyH_take (i := 15) (v := ?_) rfl (by kernel_rfl) (by kernel_rfl) (by kernel_rfl) (fun _ _ _ h => h) (Or.inl ⟨by rfl, ?_⟩) (by assumption) ?_
                rotate_left
                · (intro w hSw; (try dsimp only at hSw); go_simp; (try with_reducible rfl))
                try simp only [Act.put, List.getElem_toArray, List.getElem_cons_succ, List.getElem_cons_zero, List.setIfInBounds_toArray, List.set_cons_zero, List.set_cons_succ]
                refine wpAnyH_take (i := 16) (v := ?_) rfl (by kernel_rfl) (by kernel_rfl) (by kernel_rfl) (fun _ _ _ h => h) (Or.inl ⟨by rfl, ?_⟩) (by assumption) ?_
                rotate_left
                · (intro w hSw; (try dsimp only at hSw); go_simp; (try with_reducible rfl))
                try simp only [Act.put, List.getElem_toArray, List.getElem_cons_succ, List.getElem_cons_zero, List.setIfInBounds_toArray, List.set_cons_zero, List.set_cons_succ]
                refine wpAnyH_take (i := 17) (v := ?_) rfl (by kernel_rfl) (by kernel_rfl) (by kernel_rfl) (fun _ _ _ h => h) (Or.inl ⟨by rfl, ?_⟩) (by assumption) ?_
                rotate_left
                · (intro w hSw; (try dsimp only at hSw); go_simp; (try with_reducible rfl))
                try simp only [Act.put, List.getElem_toArray, List.getElem_cons_succ, List.getElem_cons_zero, List.setIfInBounds_toArray, List.set_cons_zero, List.set_cons_succ]
                refine wpAnyH_take (i := 18) (v := undef) rfl (by kernel_rfl) (by kernel_rfl) (by kernel_rfl) (fun _ _ _ h => h) (Or.inr ⟨by rfl, rfl⟩) (by assumption) ?_
                try simp only [Act.put, List.getElem_toArray, List.getElem_cons_succ, List.getElem_cons_zero, List.setIfInBounds_toArray, List.set_cons_zero, List.set_cons_succ]
                refine wpAnyH_take (i := 19) (v := undef) rfl (by kernel_rfl) (by kernel_rfl) (by kernel_rfl) (fun _ _ _ h => h) (Or.inr ⟨by rfl, rfl⟩) (by assumption) ?_
                try simp only [Act.put, List.getElem_toArray, List.getElem_cons_succ, List.getElem_cons_zero, List.setIfInBounds_toArray, List.set_cons_zero, List.set_cons_succ]
                refine wpAnyH_take (i := 20) (v := undef) rfl (by kernel_rfl) (by kernel_rfl) (by kernel_rfl) (fun _ _ _ h => h) (Or.inr ⟨by rfl, rfl⟩) (by assumption) ?_
                try simp only [Act.put, List.getElem_toArray, List.getElem_cons_succ, List.getElem_cons_zero, List.setIfInBounds_toArray, List.set_cons_zero, List.set_cons_succ]
                refine wpAnyH_take (i := 21) (v := undef) rfl (by kernel_rfl) (by kernel_rfl) (by kernel_rfl) (fun _ _ _ h => h) (Or.inr ⟨by rfl, rfl⟩) (by assumption) ?_
                try simp only [Act.put, List.getElem_toArray, List.getElem_cons_succ, List.getElem_cons_zero, List.setIfInBounds_toArray, List.set_cons_zero, List.set_cons_succ]
                refine wpAnyH_take (i := 22) (v := undef) rfl (by kernel_rfl) (by kernel_rfl) (by kernel_rfl) (fun _ _ _ h => h) (Or.inr ⟨by rfl, rfl⟩) (by assumption) ?_
                try simp only [Act.put, List.getElem_toArray, List.getElem_cons_succ, List.getElem_cons_zero, List.setIfInBounds_toArray, List.set_cons_zero, List.set_cons_succ]
                refine wpAnyH_take (i := 23) (v := undef) rfl (by kernel_rfl) (by kernel_rfl) (by kernel_rfl) (fun _ _ _ h => h) (Or.inr ⟨by rfl, rfl⟩) (by assumption) ?_
                try simp only [Act.put, List.getElem_toArray, List.getElem_cons_succ, List.getElem_cons_zero, List.setIfInBounds_toArray, List.set_cons_zero, List.set_cons_succ]
                refine wpAnyH_take (i := 24) (v := ?_) rfl (by kernel_rfl) (by kernel_rfl) (by kernel_rfl) (fun _ _ _ h => h) (Or.inl ⟨by rfl, ?_⟩) (by assumption) ?_
                rotate_left
                · (intro w hSw; (try dsimp only at hSw); go_simp; (try with_reducible rfl))
                try simp only [Act.put, List.getElem_toArray, List.getElem_cons_succ, List.getElem_cons_zero, List.setIfInBounds_toArray, List.set_cons_zero, List.set_cons_succ]
                refine wpAnyH_done (by kernel_rfl) ?_ _
                have HXe := Kept.mk (HX3.out.below hy3.1)
                have hbx := HXe.out.b0
                obtain ⟨r0, r1, r2, r3, f0, f1, f2, f3⟩ := four_cells hbx
                have hszr := HXe.out.l1
                have HE := Kept.mk (fun W' => q_end (L := 0) (p := 0) (q := 0) (w := w) (s := false) (ao := none) (k := 0) (c := 0) (t := false) (uo := none) (ku := 0) (cu := 0) hbx HXe.out.1 (Nat.le_refl _) ⟨_, _, rfl, rfl, NumR.zero 0 _⟩ ⟨_, _, rfl, rfl, NumR.zero 0 _⟩ W')
                clear hbx
                go_wp2
                have hE := HE.out _ rfl
                exact bodyPost_ret (v := .tuple #[.agg #[.bool false, .slice none 0 0, .bool false, .slice none 0 0], .bool false]) (by simp [results, Tryz.results54, go_sem, hE.2.2.1, hE.2.2.2.1, hE.2.2.2.2.1, hE.2.2.2.2.2]) rfl ⟨hE.1, .inr ⟨HN.out, rfl⟩⟩
              · skip
                have hdt : (τ == 0) = false := by have := HTT.out; rw [Dg.sg_gt (by omega)] at this; rw [← this]; rfl
                by_cases hg1 : G = 1
                · skip
                  have hdr : (ρ != 0) = false := by have := HRR.out; rw [hg1, Dg.sg_eq] at this; rw [← this]; rfl
                  have HLO : Kept (Low x y) := ⟨by omega, by have := HGG.out; omega⟩
                  have HS : Kept (s.data.toList = decR x y) := ⟨by rw [HCP.out.1, HXB.out, HYA.out, decR_slash hy1, decN_decZ (by omega)]⟩
                  obtain ⟨i0n, i1n, -, -⟩ := two_cells HBn.out
                  obtain ⟨i0d, i1d, -, -⟩ := two_cells HBd.out
                  refine wp_region_held_drew (S := fun w' => w'.cell? ⟨w1.heap.size, 0, none⟩ = some (.bool s1) ∧ w'.cell? ⟨w1.heap.size, 1, none⟩ = some (.slice o1 k1 c1) ∧ w'.cell? ⟨w2.heap.size, 0, none⟩ = some (.bool s2) ∧ w'.cell? ⟨w2.heap.size, 1, none⟩ = some (.slice o2 k2 c2)) (by kernel_rfl) ?_ (fun hHeld => ?_)
                  · exact ⟨i0n, i1n, i0d, i1d⟩
                  refine wpAnyH_take (i := 0) (v := ?_) rfl (by kernel_rfl) (by kernel_rfl) (by kernel_rfl) (fun _ _ _ h => h) (Or.inl ⟨by rfl, ?_⟩) (by assumption) ?_
                  rotate_left
                  · (intro w hSw; (try dsimp only at hSw); go_simp; (try with_reducible rfl))
                  try simp only [Act.put, List.getElem_toArray, List.getElem_cons_succ, List.getElem_cons_zero, List.setIfInBounds_toArray, List.set_cons_zero, List.set_cons_succ]
                  refine wpAnyH_take (i := 1) (v := ?_) rfl (by kernel_rfl) (by kernel_rfl) (by kernel_rfl) (fun _ _ _ h => h) (Or.inl ⟨by rfl, ?_⟩) (by assumption) ?_
                  rotate_left
                  · (intro w hSw; (try dsimp only at hSw); go_simp; (try with_reducible rfl))
                  try simp only [Act.put, List.getElem_toArray, List.getElem_cons_succ, List.getElem_cons_zero, List.setIfInBounds_toArray, List.set_cons_zero, List.set_cons_succ]
                  refine wpAnyH_take (i := 2) (v := ?_) rfl (by kernel_rfl) (by kernel_rfl) (by kernel_rfl) (fun _ _ _ h => h) (Or.inl ⟨by rfl, ?_⟩) (by assumption) ?_
                  rotate_left
                  · (intro w hSw; (try dsimp only at hSw); go_simp; (try with_reducible rfl))
                  try simp only [Act.put, List.getElem_toArray, List.getElem_cons_succ, List.getElem_cons_zero, List.setIfInBounds_toArray, List.set_cons_zero, List.set_cons_succ]
                  refine wpAnyH_take (i := 3) (v := ?_) rfl (by kernel_rfl) (by kernel_rfl) (by kernel_rfl) (fun _ _ _ h => h) (Or.inl ⟨by rfl, ?_⟩) (by assumption) ?_
                  rotate_left
                  · (intro w hSw; (try dsimp only at hSw); go_simp; (try with_reducible rfl))
                  try simp only [Act.put, List.getElem_toArray, List.getElem_cons_succ, List.getElem_cons_zero, List.setIfInBounds_toArray, List.set_cons_zero, List.set_cons_succ]
                  refine wpAnyH_take (i := 4) (v := ?_) rfl (by kernel_rfl) (by kernel_rfl) (by kernel_rfl) (fun _ _ _ h => h) (Or.inl ⟨by rfl, ?_⟩) (by assumption) ?_
                  rotate_left
                  · (intro w hSw; (try dsimp only at hSw); go_simp; (try with_reducible rfl))
                  try simp only [Act.put, List.getElem_toArray, List.getElem_cons_succ, List.getElem_cons_zero, List.setIfInBounds_toArray, List.set_cons_zero, List.set_cons_succ]
                  refine wpAnyH_take (i := 5) (v := ?_) rfl (by kernel_rfl) (by kernel_rfl) (by kernel_rfl) (fun _ _ _ h => h) (Or.inl ⟨by rfl, ?_⟩) (by assumption) ?_
                  rotate_left
                  · (intro w hSw; (try dsimp only at hSw); go_simp; (try with_reducible rfl))
                  try simp only [Act.put, List.getElem_toArray, List.getElem_cons_succ, List.getElem_cons_zero, List.setIfInBounds_toArray, List.set_cons_zero, List.set_cons_succ]
                  refine wpAnyH_take (i := 6) (v := ?_) rfl (by kernel_rfl) (by kernel_rfl) (by kernel_rfl) (fun _ _ _ h => h) (Or.inl ⟨by rfl, ?_⟩) (by assumption) ?_
                  rotate_left
                  · (intro w hSw; (try dsimp only at hSw); go_simp; (try with_reducible rfl))
                  try simp only [Act.put, List.getElem_toArray, List.getElem_cons_succ, List.getElem_cons_zero, List.setIfInBounds_toArray, List.set_cons_zero, List.set_cons_succ]
                  refine wpAnyH_take (i := 7) (v := ?_) rfl (by kernel_rfl) (by kernel_rfl) (by kernel_rfl) (fun _ _ _ h => h) (Or.inl ⟨by rfl, ?_⟩) (by assumption) ?_
                  rotate_left
                  · (intro w hSw; (try dsimp only at hSw); go_simp; (try with_reducible rfl))
                  try simp only [Act.put, List.getElem_toArray, List.getElem_cons_succ, List.getElem_cons_zero, List.setIfInBounds_toArray, List.set_cons_zero, List.set_cons_succ]
                  refine wpAnyH_ready (rs := [8]) (by kernel_rfl) (by simp) ?_
                  refine AllReadyH.cons rfl (fun K hK => ?_) AllReadyH.nil
                  go_simp
                  refine (HCS.out _ ?h1).mono ?_
                  case h1 => exact ((Bxs.start ws).drew).1
                  rintro e w1' ⟨hb1, rfl⟩
                  have hy1 := Bxs.below ((Bxs.start ws).drew) hb1
                  obtain ⟨j0n, j1n, -, -⟩ := two_cells (HBn.out.below hy1.1)
                  obtain ⟨j0d, j1d, -, -⟩ := two_cells (HBd.out.below hy1.1)
                  refine hK.out _ _ ?_ (fun hHeld => ?_)
                  · exact ⟨j0n, j1n, j0d, j1d⟩
                  clear hK K
                  try simp only [Act.put, List.getElem_toArray, List.getElem_cons_succ, List.getElem_cons_zero, List.setIfInBounds_toArray, List.set_cons_zero, List.set_cons_succ]
                  refine wpAnyH_take (i := 9) (v := ?_) rfl (by kernel_rfl) (by kernel_rfl) (by kernel_rfl) (fun _ _ _ h => h) (Or.inl ⟨by rfl, ?_⟩) (by assumption) ?_
                  rotate_left
                  · (intro w hSw; (try dsimp only at hSw); go_simp; (try with_reducible rfl))
                  try simp only [Act.put, List.getElem_toArray, List.getElem_cons_succ, List.getElem_cons_zero, List.setIfInBounds_toArray, List.set_cons_zero, List.set_cons_succ]
                  refine wpAnyH_take (i := 10) (v := ?_) rfl (by kernel_rfl) (by kernel_rfl) (by kernel_rfl) (fun _ _ _ h => h) (Or.inl ⟨by rfl, ?_⟩) (by assumption) ?_
                  rotate_left
                  · (intro w hSw; (try dsimp only at hSw); go_simp; (try with_reducible rfl))
                  try simp only [Act.put, List.getElem_toArray, List.getElem_cons_succ, List.getElem_cons_zero, List.setIfInBounds_toArray, List.set_cons_zero, List.set_cons_succ]
                  refine wpAnyH_take (i := 11) (v := ?_) rfl (by kernel_rfl) (by kernel_rfl) (by kernel_rfl) (fun _ _ _ h => h) (Or.inl ⟨by rfl, ?_⟩) (by assumption) ?_
                  rotate_left
                  · (intro w hSw; (try dsimp only at hSw); go_simp; (try with_reducible rfl))
                  try simp only [Act.put, List.getElem_toArray, List.getElem_cons_succ, List.getElem_cons_zero, List.setIfInBounds_toArray, List.set_cons_zero, List.set_cons_succ]
                  refine wpAnyH_take (i := 12) (v := ?_) rfl (by kernel_rfl) (by kernel_rfl) (by kernel_rfl) (fun _ _ _ h => h) (Or.inl ⟨by rfl, ?_⟩) (by assumption) ?_
                  rotate_left
                  · (intro w hSw; (try dsimp only at hSw); go_simp; (try with_reducible rfl))
                  try simp only [Act.put, List.getElem_toArray, List.getElem_cons_succ, List.getElem_cons_zero, List.setIfInBounds_toArray, List.set_cons_zero, List.set_cons_succ]
                  refine wpAnyH_ready (rs := [13]) (by kernel_rfl) (by simp) ?_
                  refine AllReadyH.cons rfl (fun K hK => ?_) AllReadyH.nil
                  go_simp
                  refine (HOF.out _ ?h1).mono ?_
                  case h1 => exact hy1.1
                  rintro e w2' ⟨hb2, v2', rfl, hV2⟩
                  have hy2 := Bxs.below hy1 hb2
                  obtain ⟨k0n, k1n, -, -⟩ := two_cells (HBn.out.below hy2.1)
                  obtain ⟨k0d, k1d, -, -⟩ := two_cells (HBd.out.below hy2.1)
                  refine hK.out _ _ ?_ (fun hHeld => ?_)
                  · exact ⟨k0n, k1n, k0d, k1d⟩
                  clear hK K
                  try simp only [Act.put, List.getElem_toArray, List.getElem_cons_succ, List.getElem_cons_zero, List.setIfInBounds_toArray, List.set_cons_zero, List.set_cons_succ]
                  refine wpAnyH_ready (rs := [14]) (by kernel_rfl) (by simp) ?_
                  refine AllReadyH.cons rfl (fun K hK => ?_) AllReadyH.nil
                  go_simp
                  refine (HC1.out _ _ ?h1 ?h2).mono ?_
                  case h1 => exact hy2.1
                  case h2 => exact hV2
                  rintro e w3' ⟨hb3, rfl⟩
                  have hy3 := Bxs.below hy2 hb3
                  obtain ⟨l0n, l1n, -, -⟩ := two_cells (HBn.out.below hy3.1)
                  obtain ⟨l0d, l1d, -, -⟩ := two_cells (HBd.out.below hy3.1)
                  refine hK.out _ _ ?_ (fun hHeld => ?_)
                  · exact ⟨l0n, l1n, l0d, l1d⟩
                  clear hK K
                  try simp only [Act.put, List.getElem_toArray, List.getElem_cons_succ, List.getElem_cons_zero, List.setIfInBounds_toArray, List.set_cons_zero, List.set_cons_succ]
                  refine wpAnyH_take (i := 15) (v := ?_) rfl (by kernel_rfl) (by kernel_rfl) (by kernel_rfl) (fun _ _ _ h => h) (Or.inl ⟨by rfl, ?_⟩) (by assumption) ?_
                  rotate_left
                  · (intro w hSw; (try dsimp only at hSw); go_simp; (try with_reducible rfl))
                  try simp only [Act.put, List.getElem_toArray, List.getElem_cons_succ, List.getElem_cons_zero, List.setIfInBounds_toArray, List.set_cons_zero, List.set_cons_succ]
                  refine wpAnyH_take (i := 16) (v := ?_) rfl (by kernel_rfl) (by kernel_rfl) (by kernel_rfl) (fun _ _ _ h => h) (Or.inl ⟨by rfl, ?_⟩) (by assumption) ?_
                  rotate_left
                  · (intro w hSw; (try dsimp only at hSw); go_simp; (try with_reducible rfl))
                  try simp only [Act.put, List.getElem_toArray, List.getElem_cons_succ, List.getElem_cons_zero, List.setIfInBounds_toArray, List.set_cons_zero, List.set_cons_succ]
                  refine wpAnyH_take (i := 17) (v := ?_) rfl (by kernel_rfl) (by kernel_rfl) (by kernel_rfl) (fun _ _ _ h => h) (Or.inl ⟨by rfl, ?_⟩) (by assumption) ?_
                  rotate_left
                  · (intro w hSw; (try dsimp only at hSw); go_simp; (try with_reducible rfl))
                  try simp only [Act.put, List.getElem_toArray, List.getElem_cons_succ, List.getElem_cons_zero, List.setIfInBounds_toArray, List.set_cons_zero, List.set_cons_succ]
                  refine wpAnyH_take (i := 18) (v := ?_) rfl (by kernel_rfl) (by kernel_rfl) (by kernel_rfl) (fun _ _ _ h => h) (Or.inl ⟨by rfl, ?_⟩) (by assumption) ?_
                  rotate_left
                  · (intro w hSw; (try dsimp only at hSw); go_simp; (try with_reducible rfl))
                  try simp only [Act.put, List.getElem_toArray, List.getElem_cons_succ, List.getElem_cons_zero, List.setIfInBounds_toArray, List.set_cons_zero, List.set_cons_succ]
                  refine wpAnyH_take (i := 19) (v := ?_) rfl (by kernel_rfl) (by kernel_rfl) (by kernel_rfl) (fun _ _ _ h => h) (Or.inl ⟨by rfl, ?_⟩) (by assumption) ?_
                  rotate_left
                  · (intro w hSw; (try dsimp only at hSw); go_simp; (try with_reducible rfl))
                  try simp only [Act.put, List.getElem_toArray, List.getElem_cons_succ, List.getElem_cons_zero, List.setIfInBounds_toArray, List.set_cons_zero, List.set_cons_succ]
                  refine wpAnyH_ready (rs := [20]) (by kernel_rfl) (by simp) ?_
                  refine AllReadyH.cons rfl (fun K hK => ?_) AllReadyH.nil
                  go_simp
                  refine (HGC.out _ ?h1).mono ?_
                  case h1 => exact hy3.1
                  rintro e w4' ⟨hb4, v4', rfl, hV4⟩
                  have hy4 := Bxs.below hy3 hb4
                  obtain ⟨m0n, m1n, -, -⟩ := two_cells (HBn.out.below hy4.1)
                  obtain ⟨m0d, m1d, -, -⟩ := two_cells (HBd.out.below hy4.1)
                  refine hK.out _ _ ?_ (fun hHeld => ?_)
                  · exact ⟨m0n, m1n, m0d, m1d⟩
                  clear hK K
                  try simp only [Act.put, List.getElem_toArray, List.getElem_cons_succ, List.getElem_cons_zero, List.setIfInBounds_toArray, List.set_cons_zero, List.set_cons_succ]
                  refine wpAnyH_ready (rs := [21]) (by kernel_rfl) (by simp) ?_
                  refine AllReadyH.cons rfl (fun K hK => ?_) AllReadyH.nil
                  go_simp
                  refine (HOF.out _ ?h1).mono ?_
                  case h1 => exact hy4.1
                  rintro e w5' ⟨hb5, v5', rfl, hV5⟩
                  have hy5 := Bxs.below hy4 hb5
                  obtain ⟨n0n, n1n, -, -⟩ := two_cells (HBn.out.below hy5.1)
                  obtain ⟨n0d, n1d, -, -⟩ := two_cells (HBd.out.below hy5.1)
                  refine hK.out _ _ ?_ (fun hHeld => ?_)
                  · exact ⟨n0n, n1n, n0d, n1d⟩
                  clear hK K
                  try simp only [Act.put, List.getElem_toArray, List.getElem_cons_succ, List.getElem_cons_zero, List.setIfInBounds_toArray, List.set_cons_zero, List.set_cons_succ]
                  refine wpAnyH_ready (rs := [22]) (by kernel_rfl) (by simp) ?_
                  refine AllReadyH.cons rfl (fun K hK => ?_) AllReadyH.nil
                  go_simp
                  refine (HC2.out _ _ _ ?h1 ?h2 ?h3).mono ?_
                  case h1 => exact hy5.1
                  case h2 => exact hV4.below hb5
                  case h3 => exact hV5
                  rintro e w6' ⟨hb6, rfl⟩
                  have hy6 := Bxs.below hy5 hb6
                  obtain ⟨p0n, p1n, -, -⟩ := two_cells (HBn.out.below hy6.1)
                  obtain ⟨p0d, p1d, -, -⟩ := two_cells (HBd.out.below hy6.1)
                  refine hK.out _ _ ?_ (fun hHeld => ?_)
                  · exact ⟨p0n, p1n, p0d, p1d⟩
                  clear hK K
                  try simp only [Act.put, List.getElem_toArray, List.getElem_cons_succ, List.getElem_cons_zero, List.setIfInBounds_toArray, List.set_cons_zero, List.set_cons_succ]
                  refine wpAnyH_take (i := 23) (v := ?_) rfl (by kernel_rfl) (by kernel_rfl) (by kernel_rfl) (fun _ _ _ h => h) (Or.inl ⟨by rfl, ?_⟩) (by assumption) ?_
                  rotate_left
                  · (intro w hSw; (try dsimp only at hSw); go_simp; (try with_reducible rfl))
                  try simp only [Act.put, List.getElem_toArray, List.getElem_cons_succ, List.getElem_cons_zero, List.setIfInBounds_toArray, List.set_cons_zero, List.set_cons_succ]
                  refine wpAnyH_take (i := 24) (v := ?_) rfl (by kernel_rfl) (by kernel_rfl) (by kernel_rfl) (fun _ _ _ h => h) (Or.inl ⟨by rfl, ?_⟩) (by assumption) ?_
                  rotate_left
                  · (intro w hSw; (try dsimp only at hSw); go_simp; (try with_reducible rfl))
                  try simp only [Act.put, List.getElem_toArray, List.getElem_cons_succ, List.getElem_cons_zero, List.setIfInBounds_toArray, List.set_cons_zero, List.set_cons_succ]
                  refine wpAnyH_done (by kernel_rfl) ?_ _
                  have HXe := Kept.mk (HX3.out.below hy6.1)
                  have hPx := HIn.out.below hy6.1
                  have hQy := HId.out.below hy6.1
                  rw [← hLL] at hPx hQy
                  have HPx := Kept.mk (hPx.mono (show s.data.toList.length / 9 + 64 ≤ s.data.toList.length + 64 by omega))
                  have HQy := Kept.mk (hQy.mono (show s.data.toList.length / 9 + 64 ≤ s.data.toList.length + 64 by omega))
                  clear hPx hQy
                  have hbx := HXe.out.b0
                  obtain ⟨r0, r1, r2, r3, f0, f1, f2, f3⟩ := four_cells hbx
                  have hszr := HXe.out.l1
                  have HE := Kept.mk (fun W' => q_end (L := s.data.toList.length + 64) (w := w) hbx HXe.out.1 (Nat.le_refl _) HPx.out HQy.out W')
                  clear hbx
                  go_wp2
                  have hE := HE.out _ rfl
                  exact bodyPost_ret (v := .tuple #[.agg #[.bool s1, .slice o1 k1 c1, .bool s2, .slice o2 k2 c2], .bool true]) (by simp [results, Tryz.results54, go_sem, hE.2.2.1, hE.2.2.2.1, hE.2.2.2.2.1, hE.2.2.2.2.2]) rfl ⟨hE.1, .inl ⟨_, _, _, HS.out, HLO.out, rfl, hE.2.1⟩⟩
                · skip
                  have hdr : (ρ != 0) = true := by
                    have := HRR.out
                    rcases Int.lt_trichotomy G 1 with h' | h' | h'
                    · rw [Dg.sg_lt h'] at this; rw [← this]; rfl
                    · exact absurd h' hg1
                    · rw [Dg.sg_gt h'] at this; rw [← this]; rfl
                  have HN : Kept (∀ p q, Low p q → s.data.toList ≠ decR p q) := ⟨fun p q hl e => by
                    obtain ⟨_, _, hq2, eb, ea⟩ := decR_canon hl (HCP.out.1.symm.trans e) HCP.out.2.1
                    rw [decN_decZ (by omega)] at ea
                    have e1 : y = q := Dg.decZ_inj (HYA.out.symm.trans ea)
                    have e2 : x = p := Dg.decZ_inj (HXB.out.symm.trans eb)
                    subst e1 e2
                    have := hl.2
                    have := HGG.out
                    omega⟩
                  obtain ⟨i0n, i1n, -, -⟩ := two_cells HBn.out
                  obtain ⟨i0d, i1d, -, -⟩ := two_cells HBd.out
                  refine wp_region_held_drew (S := fun w' => w'.cell? ⟨w1.heap.size, 0, none⟩ = some (.bool s1) ∧ w'.cell? ⟨w1.heap.size, 1, none⟩ = some (.slice o1 k1 c1) ∧ w'.cell? ⟨w2.heap.size, 0, none⟩ = some (.bool s2) ∧ w'.cell? ⟨w2.heap.size, 1, none⟩ = some (.slice o2 k2 c2)) (by kernel_rfl) ?_ (fun hHeld => ?_)
                  · exact ⟨i0n, i1n, i0d, i1d⟩
                  refine wpAnyH_take (i := 0) (v := ?_) rfl (by kernel_rfl) (by kernel_rfl) (by kernel_rfl) (fun _ _ _ h => h) (Or.inl ⟨by rfl, ?_⟩) (by assumption) ?_
                  rotate_left
                  · (intro w hSw; (try dsimp only at hSw); go_simp; (try with_reducible rfl))
                  try simp only [Act.put, List.getElem_toArray, List.getElem_cons_succ, List.getElem_cons_zero, List.setIfInBounds_toArray, List.set_cons_zero, List.set_cons_succ]
                  refine wpAnyH_take (i := 1) (v := ?_) rfl (by kernel_rfl) (by kernel_rfl) (by kernel_rfl) (fun _ _ _ h => h) (Or.inl ⟨by rfl, ?_⟩) (by assumption) ?_
                  rotate_left
                  · (intro w hSw; (try dsimp only at hSw); go_simp; (try with_reducible rfl))
                  try simp only [Act.put, List.getElem_toArray, List.getElem_cons_succ, List.getElem_cons_zero, List.setIfInBounds_toArray, List.set_cons_zero, List.set_cons_succ]
                  refine wpAnyH_take (i := 2) (v := ?_) rfl (by kernel_rfl) (by kernel_rfl) (by kernel_rfl) (fun _ _ _ h => h) (Or.inl ⟨by rfl, ?_⟩) (by assumption) ?_
                  rotate_left
                  · (intro w hSw; (try dsimp only at hSw); go_simp; (try with_reducible rfl))
                  try simp only [Act.put, List.getElem_toArray, List.getElem_cons_succ, List.getElem_cons_zero, List.setIfInBounds_toArray, List.set_cons_zero, List.set_cons_succ]
                  refine wpAnyH_take (i := 3) (v := ?_) rfl (by kernel_rfl) (by kernel_rfl) (by kernel_rfl) (fun _ _ _ h => h) (Or.inl ⟨by rfl, ?_⟩) (by assumption) ?_
                  rotate_left
                  · (intro w hSw; (try dsimp only at hSw); go_simp; (try with_reducible rfl))
                  try simp only [Act.put, List.getElem_toArray, List.getElem_cons_succ, List.getElem_cons_zero, List.setIfInBounds_toArray, List.set_cons_zero, List.set_cons_succ]
                  refine wpAnyH_take (i := 4) (v := ?_) rfl (by kernel_rfl) (by kernel_rfl) (by kernel_rfl) (fun _ _ _ h => h) (Or.inl ⟨by rfl, ?_⟩) (by assumption) ?_
                  rotate_left
                  · (intro w hSw; (try dsimp only at hSw); go_simp; (try with_reducible rfl))
                  try simp only [Act.put, List.getElem_toArray, List.getElem_cons_succ, List.getElem_cons_zero, List.setIfInBounds_toArray, List.set_cons_zero, List.set_cons_succ]
                  refine wpAnyH_take (i := 5) (v := ?_) rfl (by kernel_rfl) (by kernel_rfl) (by kernel_rfl) (fun _ _ _ h => h) (Or.inl ⟨by rfl, ?_⟩) (by assumption) ?_
                  rotate_left
                  · (intro w hSw; (try dsimp only at hSw); go_simp; (try with_reducible rfl))
                  try simp only [Act.put, List.getElem_toArray, List.getElem_cons_succ, List.getElem_cons_zero, List.setIfInBounds_toArray, List.set_cons_zero, List.set_cons_succ]
                  refine wpAnyH_take (i := 6) (v := ?_) rfl (by kernel_rfl) (by kernel_rfl) (by kernel_rfl) (fun _ _ _ h => h) (Or.inl ⟨by rfl, ?_⟩) (by assumption) ?_
                  rotate_left
                  · (intro w hSw; (try dsimp only at hSw); go_simp; (try with_reducible rfl))
                  try simp only [Act.put, List.getElem_toArray, List.getElem_cons_succ, List.getElem_cons_zero, List.setIfInBounds_toArray, List.set_cons_zero, List.set_cons_succ]
                  refine wpAnyH_take (i := 7) (v := ?_) rfl (by kernel_rfl) (by kernel_rfl) (by kernel_rfl) (fun _ _ _ h => h) (Or.inl ⟨by rfl, ?_⟩) (by assumption) ?_
                  rotate_left
                  · (intro w hSw; (try dsimp only at hSw); go_simp; (try with_reducible rfl))
                  try simp only [Act.put, List.getElem_toArray, List.getElem_cons_succ, List.getElem_cons_zero, List.setIfInBounds_toArray, List.set_cons_zero, List.set_cons_succ]
                  refine wpAnyH_ready (rs := [8]) (by kernel_rfl) (by simp) ?_
                  refine AllReadyH.cons rfl (fun K hK => ?_) AllReadyH.nil
                  go_simp
                  refine (HCS.out _ ?h1).mono ?_
                  case h1 => exact ((Bxs.start ws).drew).1
                  rintro e w1' ⟨hb1, rfl⟩
                  have hy1 := Bxs.below ((Bxs.start ws).drew) hb1
                  obtain ⟨j0n, j1n, -, -⟩ := two_cells (HBn.out.below hy1.1)
                  obtain ⟨j0d, j1d, -, -⟩ := two_cells (HBd.out.below hy1.1)
                  refine hK.out _ _ ?_ (fun hHeld => ?_)
                  · exact ⟨j0n, j1n, j0d, j1d⟩
                  clear hK K
                  try simp only [Act.put, List.getElem_toArray, List.getElem_cons_succ, List.getElem_cons_zero, List.setIfInBounds_toArray, List.set_cons_zero, List.set_cons_succ]
                  refine wpAnyH_take (i := 9) (v := ?_) rfl (by kernel_rfl) (by kernel_rfl) (by kernel_rfl) (fun _ _ _ h => h) (Or.inl ⟨by rfl, ?_⟩) (by assumption) ?_
                  rotate_left
                  · (intro w hSw; (try dsimp only at hSw); go_simp; (try with_reducible rfl))
                  try simp only [Act.put, List.getElem_toArray, List.getElem_cons_succ, List.getElem_cons_zero, List.setIfInBounds_toArray, List.set_cons_zero, List.set_cons_succ]
                  refine wpAnyH_take (i := 10) (v := ?_) rfl (by kernel_rfl) (by kernel_rfl) (by kernel_rfl) (fun _ _ _ h => h) (Or.inl ⟨by rfl, ?_⟩) (by assumption) ?_
                  rotate_left
                  · (intro w hSw; (try dsimp only at hSw); go_simp; (try with_reducible rfl))
                  try simp only [Act.put, List.getElem_toArray, List.getElem_cons_succ, List.getElem_cons_zero, List.setIfInBounds_toArray, List.set_cons_zero, List.set_cons_succ]
                  refine wpAnyH_take (i := 11) (v := ?_) rfl (by kernel_rfl) (by kernel_rfl) (by kernel_rfl) (fun _ _ _ h => h) (Or.inl ⟨by rfl, ?_⟩) (by assumption) ?_
                  rotate_left
                  · (intro w hSw; (try dsimp only at hSw); go_simp; (try with_reducible rfl))
                  try simp only [Act.put, List.getElem_toArray, List.getElem_cons_succ, List.getElem_cons_zero, List.setIfInBounds_toArray, List.set_cons_zero, List.set_cons_succ]
                  refine wpAnyH_take (i := 12) (v := ?_) rfl (by kernel_rfl) (by kernel_rfl) (by kernel_rfl) (fun _ _ _ h => h) (Or.inl ⟨by rfl, ?_⟩) (by assumption) ?_
                  rotate_left
                  · (intro w hSw; (try dsimp only at hSw); go_simp; (try with_reducible rfl))
                  try simp only [Act.put, List.getElem_toArray, List.getElem_cons_succ, List.getElem_cons_zero, List.setIfInBounds_toArray, List.set_cons_zero, List.set_cons_succ]
                  refine wpAnyH_ready (rs := [13]) (by kernel_rfl) (by simp) ?_
                  refine AllReadyH.cons rfl (fun K hK => ?_) AllReadyH.nil
                  go_simp
                  refine (HOF.out _ ?h1).mono ?_
                  case h1 => exact hy1.1
                  rintro e w2' ⟨hb2, v2', rfl, hV2⟩
                  have hy2 := Bxs.below hy1 hb2
                  obtain ⟨k0n, k1n, -, -⟩ := two_cells (HBn.out.below hy2.1)
                  obtain ⟨k0d, k1d, -, -⟩ := two_cells (HBd.out.below hy2.1)
                  refine hK.out _ _ ?_ (fun hHeld => ?_)
                  · exact ⟨k0n, k1n, k0d, k1d⟩
                  clear hK K
                  try simp only [Act.put, List.getElem_toArray, List.getElem_cons_succ, List.getElem_cons_zero, List.setIfInBounds_toArray, List.set_cons_zero, List.set_cons_succ]
                  refine wpAnyH_ready (rs := [14]) (by kernel_rfl) (by simp) ?_
                  refine AllReadyH.cons rfl (fun K hK => ?_) AllReadyH.nil
                  go_simp
                  refine (HC1.out _ _ ?h1 ?h2).mono ?_
                  case h1 => exact hy2.1
                  case h2 => exact hV2
                  rintro e w3' ⟨hb3, rfl⟩
                  have hy3 := Bxs.below hy2 hb3
                  obtain ⟨l0n, l1n, -, -⟩ := two_cells (HBn.out.below hy3.1)
                  obtain ⟨l0d, l1d, -, -⟩ := two_cells (HBd.out.below hy3.1)
                  refine hK.out _ _ ?_ (fun hHeld => ?_)
                  · exact ⟨l0n, l1n, l0d, l1d⟩
                  clear hK K
                  try simp only [Act.put, List.getElem_toArray, List.getElem_cons_succ, List.getElem_cons_zero, List.setIfInBounds_toArray, List.set_cons_zero, List.set_cons_succ]
                  refine wpAnyH_take (i := 15) (v := ?_) rfl (by kernel_rfl) (by kernel_rfl) (by kernel_rfl) (fun _ _ _ h => h) (Or.inl ⟨by rfl, ?_⟩) (by assumption) ?_
                  rotate_left
                  · (intro w hSw; (try dsimp only at hSw); go_simp; (try with_reducible rfl))
                  try simp only [Act.put, List.getElem_toArray, List.getElem_cons_succ, List.getElem_cons_zero, List.setIfInBounds_toArray, List.set_cons_zero, List.set_cons_succ]
                  refine wpAnyH_take (i := 16) (v := ?_) rfl (by kernel_rfl) (by kernel_rfl) (by kernel_rfl) (fun _ _ _ h => h) (Or.inl ⟨by rfl, ?_⟩) (by assumption) ?_
                  rotate_left
                  · (intro w hSw; (try dsimp only at hSw); go_simp; (try with_reducible rfl))
                  try simp only [Act.put, List.getElem_toArray, List.getElem_cons_succ, List.getElem_cons_zero, List.setIfInBounds_toArray, List.set_cons_zero, List.set_cons_succ]
                  refine wpAnyH_take (i := 17) (v := ?_) rfl (by kernel_rfl) (by kernel_rfl) (by kernel_rfl) (fun _ _ _ h => h) (Or.inl ⟨by rfl, ?_⟩) (by assumption) ?_
                  rotate_left
                  · (intro w hSw; (try dsimp only at hSw); go_simp; (try with_reducible rfl))
                  try simp only [Act.put, List.getElem_toArray, List.getElem_cons_succ, List.getElem_cons_zero, List.setIfInBounds_toArray, List.set_cons_zero, List.set_cons_succ]
                  refine wpAnyH_take (i := 18) (v := ?_) rfl (by kernel_rfl) (by kernel_rfl) (by kernel_rfl) (fun _ _ _ h => h) (Or.inl ⟨by rfl, ?_⟩) (by assumption) ?_
                  rotate_left
                  · (intro w hSw; (try dsimp only at hSw); go_simp; (try with_reducible rfl))
                  try simp only [Act.put, List.getElem_toArray, List.getElem_cons_succ, List.getElem_cons_zero, List.setIfInBounds_toArray, List.set_cons_zero, List.set_cons_succ]
                  refine wpAnyH_take (i := 19) (v := ?_) rfl (by kernel_rfl) (by kernel_rfl) (by kernel_rfl) (fun _ _ _ h => h) (Or.inl ⟨by rfl, ?_⟩) (by assumption) ?_
                  rotate_left
                  · (intro w hSw; (try dsimp only at hSw); go_simp; (try with_reducible rfl))
                  try simp only [Act.put, List.getElem_toArray, List.getElem_cons_succ, List.getElem_cons_zero, List.setIfInBounds_toArray, List.set_cons_zero, List.set_cons_succ]
                  refine wpAnyH_ready (rs := [20]) (by kernel_rfl) (by simp) ?_
                  refine AllReadyH.cons rfl (fun K hK => ?_) AllReadyH.nil
                  go_simp
                  refine (HGC.out _ ?h1).mono ?_
                  case h1 => exact hy3.1
                  rintro e w4' ⟨hb4, v4', rfl, hV4⟩
                  have hy4 := Bxs.below hy3 hb4
                  obtain ⟨m0n, m1n, -, -⟩ := two_cells (HBn.out.below hy4.1)
                  obtain ⟨m0d, m1d, -, -⟩ := two_cells (HBd.out.below hy4.1)
                  refine hK.out _ _ ?_ (fun hHeld => ?_)
                  · exact ⟨m0n, m1n, m0d, m1d⟩
                  clear hK K
                  try simp only [Act.put, List.getElem_toArray, List.getElem_cons_succ, List.getElem_cons_zero, List.setIfInBounds_toArray, List.set_cons_zero, List.set_cons_succ]
                  refine wpAnyH_ready (rs := [21]) (by kernel_rfl) (by simp) ?_
                  refine AllReadyH.cons rfl (fun K hK => ?_) AllReadyH.nil
                  go_simp
                  refine (HOF.out _ ?h1).mono ?_
                  case h1 => exact hy4.1
                  rintro e w5' ⟨hb5, v5', rfl, hV5⟩
                  have hy5 := Bxs.below hy4 hb5
                  obtain ⟨n0n, n1n, -, -⟩ := two_cells (HBn.out.below hy5.1)
                  obtain ⟨n0d, n1d, -, -⟩ := two_cells (HBd.out.below hy5.1)
                  refine hK.out _ _ ?_ (fun hHeld => ?_)
                  · exact ⟨n0n, n1n, n0d, n1d⟩
                  clear hK K
                  try simp only [Act.put, List.getElem_toArray, List.getElem_cons_succ, List.getElem_cons_zero, List.setIfInBounds_toArray, List.set_cons_zero, List.set_cons_succ]
                  refine wpAnyH_ready (rs := [22]) (by kernel_rfl) (by simp) ?_
                  refine AllReadyH.cons rfl (fun K hK => ?_) AllReadyH.nil
                  go_simp
                  refine (HC2.out _ _ _ ?h1 ?h2 ?h3).mono ?_
                  case h1 => exact hy5.1
                  case h2 => exact hV4.below hb5
                  case h3 => exact hV5
                  rintro e w6' ⟨hb6, rfl⟩
                  have hy6 := Bxs.below hy5 hb6
                  obtain ⟨p0n, p1n, -, -⟩ := two_cells (HBn.out.below hy6.1)
                  obtain ⟨p0d, p1d, -, -⟩ := two_cells (HBd.out.below hy6.1)
                  refine hK.out _ _ ?_ (fun hHeld => ?_)
                  · exact ⟨p0n, p1n, p0d, p1d⟩
                  clear hK K
                  try simp only [Act.put, List.getElem_toArray, List.getElem_cons_succ, List.getElem_cons_zero, List.setIfInBounds_toArray, List.set_cons_zero, List.set_cons_succ]
                  refine wpAnyH_take (i := 23) (v := ?_) rfl (by kernel_rfl) (by kernel_rfl) (by kernel_rfl) (fun _ _ _ h => h) (Or.inl ⟨by rfl, ?_⟩) (by assumption) ?_
                  rotate_left
                  · (intro w hSw; (try dsimp only at hSw); go_simp; (try with_reducible rfl))
                  try simp only [Act.put, List.getElem_toArray, List.getElem_cons_succ, List.getElem_cons_zero, List.setIfInBounds_toArray, List.set_cons_zero, List.set_cons_succ]
                  refine wpAnyH_take (i := 24) (v := ?_) rfl (by kernel_rfl) (by kernel_rfl) (by kernel_rfl) (fun _ _ _ h => h) (Or.inl ⟨by rfl, ?_⟩) (by assumption) ?_
                  rotate_left
                  · (intro w hSw; (try dsimp only at hSw); go_simp; (try with_reducible rfl))
                  try simp only [Act.put, List.getElem_toArray, List.getElem_cons_succ, List.getElem_cons_zero, List.setIfInBounds_toArray, List.set_cons_zero, List.set_cons_succ]
                  refine wpAnyH_done (by kernel_rfl) ?_ _
                  have HXe := Kept.mk (HX3.out.below hy6.1)
                  have hbx := HXe.out.b0
                  obtain ⟨r0, r1, r2, r3, f0, f1, f2, f3⟩ := four_cells hbx
                  have hszr := HXe.out.l1
                  have HE := Kept.mk (fun W' => q_end (L := 0) (p := 0) (q := 0) (w := w) (s := false) (ao := none) (k := 0) (c := 0) (t := false) (uo := none) (ku := 0) (cu := 0) hbx HXe.out.1 (Nat.le_refl _) ⟨_, _, rfl, rfl, NumR.zero 0 _⟩ ⟨_, _, rfl, rfl, NumR.zero 0 _⟩ W')
                  clear hbx
                  go_wp2
                  have hE := HE.out _ rfl
                  exact bodyPost_ret (v := .tuple #[.agg #[.bool false, .slice none 0 0, .bool false, .slice none 0 0], .bool false]) (by simp [results, Tryz.results54, go_sem, hE.2.2.1, hE.2.2.2.1, hE.2.2.2.2.1, hE.2.2.2.2.2]) rfl ⟨hE.1, .inr ⟨HN.out, rfl⟩⟩
      · skip
        have HNS : Kept (∀ j, j < k + 1 → s.data.toList[j]? ≠ some 47) := ⟨fun j hj => by
          by_cases e : j = k
          · rw [e, hby]; intro h; apply h47; rw [Option.some.inj h]; rfl
          · exact hns.out j (by omega)⟩
        have t47 : ((s[k].toNat : Int) != 47) = true := by simp; exact h47
        clear hby h47
        go_wp2
        go_roundw
        case rel => exact ⟨k + 1, by omega, by go_num, HNS, hx⟩
        case measure => simp [intOf]; omega
    · skip
      obtain rfl : k = s.size := by omega
      have HNS : Kept ((47 : UInt8) ∉ s.data.toList) := ⟨fun hm => by
        obtain ⟨j, hj1, hj2⟩ := List.getElem_of_mem hm
        exact hns.out j (by rw [← HSL.out]; exact hj1) (by rw [List.getElem?_eq_getElem hj1, hj2])⟩
      go_wp2_with fail
      refine (rparse_any s _ (by omega)).mono ?_
      rintro e w1 ⟨hb1, ⟨z, v1, hz, rfl, hZ1⟩ | ⟨hno, rfl⟩⟩
      · skip
        obtain ⟨s1, u1, rfl, hs1, hn1⟩ := hZ1
        obtain ⟨o1, k1, c1, rfl, _, _⟩ := hn1.form
        have HX1 := Kept.mk (hx.out.below hb1)
        have hal1 : Below w1.heap.size w1 (w1.alloc (.cells #[.bool s1, .slice o1 k1 c1] 25)) := (Below.refl _ _).alloc (Nat.le_refl _) _
        have HX2 := Kept.mk (HX1.out.below hal1)
        have HBn : Kept (Hz (w1.alloc (.cells #[.bool s1, .slice o1 k1 c1] 25)) w1.heap.size (.bool s1) (.slice o1 k1 c1)) := ⟨Hz.new _ _ _ _ rfl⟩
        have hJ : ZV (s.data.toList.length + 64) (w1.alloc (.cells #[.bool s1, .slice o1 k1 c1] 25)) (.agg #[.bool s1, .slice o1 k1 c1]) z := (ZV.mono ⟨_, _, rfl, hs1, hn1⟩ (by omega)).below hal1
        have HWH := Kept.mk (rwholeq_any hJ (by omega))
        have HLO := Kept.mk (low_one z)
        have HS : Kept (s.data.toList = decR z 1) := ⟨by rw [decR_one]; exact hz⟩
        clear hb1 hs1 hn1 hal1 hJ hz
        obtain ⟨i0, i1, -, -⟩ := two_cells HBn.out
        go_wp2_with fail
        refine HWH.out.mono ?_
        rintro e w2 ⟨hb2, v2, rfl, hq⟩
        obtain ⟨s5, o5, k5, c5, s6, o6, k6, c6, rfl, hp5, hp6⟩ := hq.form
        have HX3 := Kept.mk (HX2.out.below hb2)
        have HP5 := Kept.mk hp5
        have HP6 := Kept.mk hp6
        clear hb2 hq hp5 hp6 i0 i1
        have hbx := HX3.out.b0
        obtain ⟨r0, r1, r2, r3, f0, f1, f2, f3⟩ := four_cells hbx
        have hszr := HX3.out.l1
        have HE := Kept.mk (fun W' => q_end (L := s.data.toList.length + 64) (w := w) hbx HX3.out.1 (Nat.le_refl _) HP5.out HP6.out W')
        clear hbx
        go_wp2
        have hE := HE.out _ rfl
        exact bodyPost_ret (v := .tuple #[.agg #[.bool s5, .slice o5 k5 c5, .bool s6, .slice o6 k6 c6], .bool true]) (by simp [results, Tryz.results54, go_sem, hE.2.2.1, hE.2.2.2.1, hE.2.2.2.2.1, hE.2.2.2.2.2]) rfl ⟨hE.1, .inl ⟨_, _, _, HS.out, HLO.out, rfl, hE.2.1⟩⟩
      · skip
        have HX1 := Kept.mk (hx.out.below hb1)
        have hal1 : Below w1.heap.size w1 (w1.alloc (.cells #[.bool false, .slice none 0 0] 25)) := (Below.refl _ _).alloc (Nat.le_refl _) _
        have HX2 := Kept.mk (HX1.out.below hal1)
        have HN : Kept (∀ p q, Low p q → s.data.toList ≠ decR p q) := ⟨fun p q hl e => hno p (decR_noslash e.symm HNS.out).2⟩
        clear hb1 hal1 hno
        have hbx := HX2.out.b0
        obtain ⟨r0, r1, r2, r3, f0, f1, f2, f3⟩ := four_cells hbx
        have hszr := HX2.out.l1
        have HE := Kept.mk (fun W' => q_end (L := 0) (p := 0) (q := 0) (w := w) (s := false) (ao := none) (k := 0) (c := 0) (t := false) (uo := none) (ku := 0) (cu := 0) hbx HX2.out.1 (Nat.le_refl _) ⟨_, _, rfl, rfl, NumR.zero 0 _⟩ ⟨_, _, rfl, rfl, NumR.zero 0 _⟩ W')
        clear hbx
        go_wp2
        have hE := HE.out _ rfl
        exact bodyPost_ret (v := .tuple #[.agg #[.bool false, .slice none 0 0, .bool false, .slice none 0 0], .bool false]) (by simp [results, Tryz.results54, go_sem, hE.2.2.1, hE.2.2.2.1, hE.2.2.2.2.1, hE.2.2.2.2.2]) rfl ⟨hE.1, .inr ⟨HN.out, rfl⟩⟩
end Go.Proofs.YtblbheilddafbaaGreatDoor
