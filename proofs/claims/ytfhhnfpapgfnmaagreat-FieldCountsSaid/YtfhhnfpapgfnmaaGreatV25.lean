/-
  Texts of the proof, merged by program: Rne.
-/
import Derived.Test.YtfhhnfpapgfnmaaGreatV11
import Derived.Test.YtfhhnfpapgfnmaaGreatV9
set_option linter.unusedVariables false
set_option linter.unusedSimpArgs false
namespace Go.Proofs.YtfhhnfpapgfnmaaGreat
open Go Go.RowKit
open FFld (ints)
theorem four_set {w : World} {g : Nat} {a b c d : Value} {T : TypeId} (h : w.heap[g]? = some (.cells #[a, b, c, d] T (0, 0))) (a' b' c' d' : Value) :
    ((((w.setCell ⟨g, 0, none⟩ a').setCell ⟨g, 1, none⟩ b').setCell ⟨g, 2, none⟩ c').setCell ⟨g, 3, none⟩ d').heap[g]? = some (.cells #[a', b', c', d'] T (0, 0)) := by
  have h1 := heap_setCell_same w g 0 _ T a' h
  have h2 := heap_setCell_same _ g 1 _ T b' h1
  have h3 := heap_setCell_same _ g 2 _ T c' h2
  have h4 := heap_setCell_same _ g 3 _ T d' h3
  simpa using h4
theorem four_frz {w : World} {g : Nat} {a b c d : Value} {T : TypeId} (h : w.heap[g]? = some (.cells #[a, b, c, d] T (0, 0))) :
    w.frozen? ⟨g, 0, none⟩ = false ∧ w.frozen? ⟨g, 1, none⟩ = false ∧ w.frozen? ⟨g, 2, none⟩ = false ∧ w.frozen? ⟨g, 3, none⟩ = false :=
  ⟨frozen_of_row w g 0 _ T h, frozen_of_row w g 1 _ T h, frozen_of_row w g 2 _ T h, frozen_of_row w g 3 _ T h⟩
theorem four_end {w W : World} {g : Nat} {a b c d : Value} {T : TypeId} (h : W.heap[g]? = some (.cells #[a, b, c, d] T (0, 0))) (hb : Below w.heap.size w W) (hg : w.heap.size ≤ g) (a' b' c' d' : Value) :
    Below w.heap.size w ((((W.setCell ⟨g, 0, none⟩ a').setCell ⟨g, 1, none⟩ b').setCell ⟨g, 2, none⟩ c').setCell ⟨g, 3, none⟩ d') ∧
    ((((W.setCell ⟨g, 0, none⟩ a').setCell ⟨g, 1, none⟩ b').setCell ⟨g, 2, none⟩ c').setCell ⟨g, 3, none⟩ d').cell? ⟨g, 0, none⟩ = some a' ∧
    ((((W.setCell ⟨g, 0, none⟩ a').setCell ⟨g, 1, none⟩ b').setCell ⟨g, 2, none⟩ c').setCell ⟨g, 3, none⟩ d').cell? ⟨g, 1, none⟩ = some b' ∧
    ((((W.setCell ⟨g, 0, none⟩ a').setCell ⟨g, 1, none⟩ b').setCell ⟨g, 2, none⟩ c').setCell ⟨g, 3, none⟩ d').cell? ⟨g, 2, none⟩ = some c' ∧
    ((((W.setCell ⟨g, 0, none⟩ a').setCell ⟨g, 1, none⟩ b').setCell ⟨g, 2, none⟩ c').setCell ⟨g, 3, none⟩ d').cell? ⟨g, 3, none⟩ = some d' :=
  ⟨(((hb.setCell (p := ⟨g, 0, none⟩) hg _).setCell (p := ⟨g, 1, none⟩) hg _).setCell (p := ⟨g, 2, none⟩) hg _).setCell (p := ⟨g, 3, none⟩) hg _, four_cells (four_set h a' b' c' d')⟩
abbrev rzero : Value := .agg #[.int .i64 0, .int .i64 0, .int .i64 0, .int .i64 0]
abbrev rzbox : Obj := .cells #[.int .i64 0, .int .i64 0, .int .i64 0, .int .i64 0] 29
/-- What New returns: the field, or none. -/
def RnRet (q : Int) (w : World) (e : Ending) (w' : World) : Prop := Below w.heap.size w w' ∧ ((∃ D : FFld.FD, D.Ok ∧ q = D.q ∧ e = .returned (.tuple #[rfv D.q D.p D.k D.m, .bool true])) ∨ (¬ FFld.Fit q ∧ e = .returned (.tuple #[rzero, .bool false])))
set_option maxRecDepth 20000 in
set_option maxHeartbeats 4000000 in
theorem rnew_any (q : Int) (w : World) (hr0 : -9223372036854775808 ≤ q) (hr1 : q ≤ 9223372036854775807) :
    Calls Tryz.prog 5 #[.int .i64 q] w (RnRet q w) := by
  have HX0 : Kept (Bxs w [rzbox] (w.alloc rzbox)) := ⟨(Bxs.start w).alloc (by simp) _⟩
  by_cases hin : 2 ≤ q ∧ q ≤ 65536
  · obtain ⟨n0, rfl⟩ : ∃ n0 : Nat, q = n0 := ⟨q.toNat, by omega⟩
    have h2 : 2 ≤ n0 := by omega
    have h6 : n0 ≤ 65536 := by omega
    clear hin hr0 hr1
    go_enter Tryz.func5, Tryz.ntmps5
    go_wp2
    go_loopw [4] (fun pv wr => ∃ (p : Nat), 2 ≤ p ∧ p ≤ n0 ∧ pv = .int .i64 p ∧ Kept (∀ i, 2 ≤ i → i < p → ¬ i ∣ n0) ∧ w.alloc rzbox = wr) (fun pv _ => n0 - (intOf pv).toNat)
    case atStart => exact ⟨2, Nat.le_refl _, h2, rfl, ⟨fun i h1 h2 => by omega⟩, rfl⟩
    case round =>
      obtain ⟨p, hp2, hpn, rfl, hno, rfl⟩ := hrel
      obtain ⟨s, hs⟩ : ∃ s, n0 % p = s := ⟨_, rfl⟩
      have es : (n0 : Int) % p = s := by rw [← hs]; rfl
      by_cases hs0 : s = 0
      · subst hs0
        have hd : p ∣ n0 := Nat.dvd_of_mod_eq_zero hs
        have hpr := FFld.prime_least hp2 hd hno.out
        have HPR := Kept.mk hpr
        have HD := Kept.mk hd
        have ez : (((0 : Nat) : Int) != 0) = false := rfl
        clear hs hd hpr hno
        go_wp2
        go_loopw [5, 6] (fun kv nv wr => ∃ (k n : Nat), 1 ≤ n ∧ n ≤ 65536 ∧ k ≤ 16 ∧ kv = .int .i64 k ∧ nv = .int .i64 n ∧ Kept (n * p ^ k = n0) ∧ w.alloc rzbox = wr) (fun _ nv _ => (intOf nv).toNat)
        case atStart => exact ⟨0, n0, by omega, h6, by omega, rfl, rfl, ⟨by simp⟩, rfl⟩
        case round =>
          obtain ⟨k, n, hn1, hn6, hk16, rfl, rfl, hnk, rfl⟩ := hrel
          by_cases h1 : 1 < n
          · obtain ⟨s, hs⟩ : ∃ s, n % p = s := ⟨_, rfl⟩
            obtain ⟨n', hn'⟩ : ∃ n', n / p = n' := ⟨_, rfl⟩
            have es : (n : Int) % p = s := by rw [← hs]; rfl
            have en : (n : Int) / p = n' := by rw [← hn']; rfl
            by_cases hs0 : s = 0
            · subst hs0
              have ez : (((0 : Nat) : Int) != 0) = false := rfl
              have hnn : n = p * n' := by rw [← hn']; exact (Nat.mul_div_cancel' (Nat.dvd_of_mod_eq_zero hs)).symm
              have hlt : n' < n := by rw [← hn']; exact Nat.div_lt_self (by omega) hp2
              have hn'1 : 1 ≤ n' := by
                rcases Nat.eq_zero_or_pos n' with h | h
                · subst h; omega
                · exact h
              have HNK : Kept (n' * p ^ (k + 1) = n0) := ⟨by rw [← hnk.out, hnn, Nat.pow_succ, Nat.mul_comm p n', Nat.mul_assoc, Nat.mul_comm p]⟩
              have hk15 : k + 1 ≤ 16 := by
                have h3 : p ^ (k + 1) ≤ n0 := by rw [← HNK.out]; exact Nat.le_mul_of_pos_left _ hn'1
                rcases Nat.lt_or_ge 16 (k + 1) with h | h
                · have h4 : 2 ^ 17 ≤ p ^ (k + 1) := Nat.le_trans (Nat.pow_le_pow_right (by omega) h) (Nat.pow_le_pow_left hp2 _)
                  rw [show (2 : Nat) ^ 17 = 131072 from rfl] at h4
                  generalize p ^ (k + 1) = z at *
                  omega
                · exact h
              clear hs hn' hnn hnk
              go_wp2
              go_roundw
              case rel => exact ⟨k + 1, n', hn'1, by omega, hk15, by go_num, rfl, HNK, trivial⟩
              case measure => simp [intOf] <;> omega
            · have ez : ((s : Int) != 0) = true := by rw [bne_iff_ne]; omega
              have hnf : Kept (¬ FFld.Fit (n0 : Int)) := ⟨FFld.Fit.no (by rw [hnk.out]) HPR.out (by rw [hnk.out]; exact HD.out) h1 (fun h => hs0 (by rw [← hs]; exact Nat.mod_eq_zero_of_dvd h))⟩
              obtain ⟨f0, f1, f2, f3⟩ := four_frz HX0.out.b0
              obtain ⟨c0, c1, c2, c3⟩ := four_cells HX0.out.b0
              clear hs hn' hnk hs0
              go_wp2
              exact bodyPost_ret (v := .tuple #[rzero, .bool false]) (by simp [results, Tryz.results5, go_sem, c0, c1, c2, c3]) rfl ⟨HX0.out.1, .inr ⟨hnf.out, rfl⟩⟩
          · obtain rfl : n = 1 := by omega
            have hqk : p ^ k = n0 := by have := hnk.out; rw [Nat.one_mul] at this; exact this
            have hk1 : 1 ≤ k := by
              rcases Nat.eq_zero_or_pos k with h | h
              · subst h; rw [Nat.pow_zero] at hqk; omega
              · exact h
            obtain ⟨m, g, hD⟩ := FFld.FD.exists p k HPR.out hk1 (by rw [hqk]; exact h6)
            have hq : (⟨p, k, m, g⟩ : FFld.FD).q = n0 := hqk
            have HQK := Kept.mk hqk
            have HDD := Kept.mk hD
            have HQQ := Kept.mk hq
            obtain ⟨f0, f1, f2, f3⟩ := four_frz HX0.out.b0
            clear hnk hqk hq
            by_cases hk1' : k = 1
            · subst hk1'
              have hm : m = p := hD.pre.mod1 rfl
              have ek : (((1 : Nat) : Int) == 1) = true := rfl
              have HB : Kept (Bxs w [rbox n0 p 1 p] (w.alloc (rbox n0 p 1 p))) := ⟨(Bxs.start w).alloc (by simp) _⟩
              obtain ⟨e0, e1, e2, e3⟩ := four_cells HB.out.b0
              have HM := Kept.mk hm
              clear hD hm
              go_wp2
              exact bodyPost_ret (v := .tuple #[rfv n0 p 1 p, .bool true]) (by simp [results, Tryz.results5, go_sem, e0, e1, e2, e3]) rfl ⟨HB.out.1, .inl ⟨_, HDD.out, by rw [HQQ.out], by rw [HQQ.out]; show _ = Ending.returned (.tuple #[rfv n0 p 1 m, .bool true]); rw [HM.out]⟩⟩
            · have hk2 : 2 ≤ k := by omega
              have ek : ((k : Int) == 1) = false := by rw [beq_eq_false_iff_ne]; omega
              have hpq : p ^ k ≤ 65536 := by have := HQK.out; omega
              have hqm : n0 ≤ m := by have := (hD.pre.mod2 hk2).1; rw [HQQ.out] at this; exact this
              have hm2 : m < 131072 := by have := (hD.pre.mod2 hk2).2.1; rw [HQQ.out] at this; have e : m < 2 * n0 := this; omega
              have hp256 : p ≤ 256 := by
                rcases Nat.lt_or_ge 256 p with h | h
                · have h3 : p ^ 2 ≤ p ^ k := Nat.pow_le_pow_right (by omega) hk2
                  have h4 := nmul_le (A := p) (B := p) (a := 257) (b := 257) h h
                  rw [Nat.pow_two] at h3
                  omega
                · exact h
              have hpk1 : p ^ (k + 1) ≤ 1099511627776 := by
                rw [Nat.pow_succ]
                exact Nat.le_trans (nmul_le (A := 65536) (B := 256) hpq hp256) (by omega)
              have hmk1 : 131072 ≤ p ^ (k + 1) ∨ 2 * n0 ≤ p ^ (k + 1) := .inr (by rw [Nat.pow_succ', HQK.out]; exact Nat.mul_le_mul_right _ hp2)
              have hRest := Kept.mk (fun W (c x d : Nat) (hd : 1 ≤ d) (hd2 : 2 * d ≤ k) (hc : c ≤ m) (h1 : p ^ d ≤ x) (h2 : x < 2 * p ^ d) => rrest_any c x p d (k + 1) W hp2 (by omega) hd (by
                have := (hD.pre.mod2 hk2).2.1
                rw [HQQ.out] at this
                have e : m < 2 * n0 := this
                have e2 : 2 * n0 ≤ p ^ (k + 1) := by rw [Nat.pow_succ', HQK.out]; exact Nat.mul_le_mul_right _ hp2
                omega) h1 h2 hpk1 (by
                have := Nat.pow_le_pow_right (n := p) (by omega) (show d ≤ k by omega)
                omega))
              have HIS := Kept.mk (fun (c : Nat) (h1 : n0 ≤ c) (hc : c ≤ m) (hi : FFld.Irr p k c) => FFld.FD.Ok.mod_is hD hk2 (c := c) (by rw [HQQ.out]; exact h1) hc hi)
              have HNOT := Kept.mk (fun (c : Nat) (hc : c ≤ m) (hi : ¬ FFld.Irr p k c) => FFld.FD.Ok.mod_not hD hk2 (c := c) hc hi)
              have hk17 : k ≤ 17 := by omega
              have hpd := Kept.mk (fun (d : Nat) (hd : 2 * d ≤ k) => show p ^ d ≤ 256 from by
                rcases Nat.lt_or_ge 256 (p ^ d) with h | h
                · have h3 : p ^ (2 * d) ≤ p ^ k := Nat.pow_le_pow_right (by omega) hd
                  have h4 := nmul_le (A := p ^ d) (B := p ^ d) (a := 257) (b := 257) h h
                  rw [Nat.two_mul, Nat.pow_add] at h3
                  generalize p ^ d * p ^ d = z at *
                  omega
                · exact h)
              have hk16' := hk16
              clear hD hmk1 hpk1 hpq
              go_wp2
              go_loopw [7] (fun mv wr => ∃ (c : Nat), n0 ≤ c ∧ c ≤ m ∧ mv = .int .i64 c ∧ Kept (Bxs w [rzbox] wr)) (fun mv _ => m - (intOf mv).toNat)
              case atStart => exact ⟨n0, Nat.le_refl _, hqm, rfl, HX0⟩
              case round =>
                obtain ⟨c, hc0, hcm, rfl, hbx⟩ := hrel
                go_wp2
                go_loopw [8, 9, 10] (fun ov fv dv wr => ∃ (ok : Bool) (f d : Nat), ov = .bool ok ∧ fv = .int .i64 f ∧ dv = .int .i64 d ∧ 1 ≤ d ∧ d ≤ 17 ∧ f ≤ 65536 ∧ Kept (ok = true → f = p ^ d) ∧ Kept (FFld.DvAt_ p k c d f ok) ∧ Kept (Bxs w [rzbox] wr)) (fun _ _ dv _ => 18 - (intOf dv).toNat)
                case atStart => exact ⟨true, p, 1, rfl, rfl, rfl, Nat.le_refl _, by omega, by omega, ⟨fun _ => (Nat.pow_one p).symm⟩, ⟨by have := FFld.DvAt_.start p k c; rw [Nat.pow_one] at this; exact this⟩, hbx⟩
                case round =>
                  obtain ⟨ok, f, d, rfl, rfl, rfl, hd1, hd17, hf6, hfp, hat, hbx⟩ := hrel
                  cases ok with
                  | false =>
                    have hN := HNOT.out c hcm hat.out
                    by_cases hlt : 2 * d ≤ k
                    · go_wp2
                      go_roundw
                      case rel => exact ⟨c + 1, by omega, hN, by go_num, hbx⟩
                      case measure => simp [intOf] <;> omega
                    · go_wp2
                      go_roundw
                      case rel => exact ⟨c + 1, by omega, hN, by go_num, hbx⟩
                      case measure => simp [intOf] <;> omega
                  | true =>
                    have hfe := hfp.out rfl
                    by_cases hlt : 2 * d ≤ k
                    · have hf256 : f ≤ 256 := by rw [hfe]; exact hpd.out d hlt
                      have HFE := Kept.mk hfe
                      obtain ⟨f', hf'⟩ : ∃ f', f * p = f' := ⟨_, rfl⟩
                      have hf'e : f' = p ^ (d + 1) := by rw [← hf', hfe, Nat.pow_succ]
                      have hf'6 : f' ≤ 65536 := by
                        rw [hf'e]
                        exact Nat.le_trans (Nat.pow_le_pow_right (by omega) (show d + 1 ≤ k by omega)) (by rw [HQK.out]; exact h6)
                      have ef : wrap64 ((f : Int) * p) = f' := wmul hf' (by omega)
                      have HF' := Kept.mk hf'e
                      clear hfe hf' hf'e
                      go_wp2
                      go_loopw [8, 11] (fun ov xv wr => ∃ (ok : Bool) (x : Nat), ov = .bool ok ∧ xv = .int .i64 x ∧ f ≤ x ∧ x ≤ 600 ∧ Kept (ok = true → x ≤ 2 * f) ∧ Kept (FFld.DvAt_ p k c d x ok) ∧ Kept (Bxs w [rzbox] wr)) (fun _ xv _ => 601 - (intOf xv).toNat)
                      case atStart => exact ⟨true, f, rfl, rfl, Nat.le_refl _, by omega, ⟨fun _ => by omega⟩, hat, hbx⟩
                      case round =>
                        obtain ⟨ok, x, rfl, rfl, hfx, hx6, hx2, hat, hbx⟩ := hrel
                        cases ok with
                        | false =>
                          by_cases hxl : x < 2 * f
                          · go_wp2
                            go_roundw
                            case rel => exact ⟨false, f', d + 1, rfl, congrArg (Value.int .i64) ef, by go_num, by omega, by omega, hf'6, ⟨fun h => by cases h⟩, hat, hbx⟩
                            case measure => simp [intOf] <;> omega
                          · go_wp2
                            go_roundw
                            case rel => exact ⟨false, f', d + 1, rfl, congrArg (Value.int .i64) ef, by go_num, by omega, by omega, hf'6, ⟨fun h => by cases h⟩, hat, hbx⟩
                            case measure => simp [intOf] <;> omega
                        | true =>
                          have hx2' := hx2.out rfl
                          by_cases hxl : x < 2 * f
                          · obtain ⟨v, hv⟩ : ∃ v, FFld.pmul p d x 1 (k + 1) c = v := ⟨_, rfl⟩
                            have hC := Kept.mk (fun W => hRest.out W c x d hd1 hlt hcm (by rw [← HFE.out]; exact hfx) (by rw [← HFE.out]; exact hxl))
                            rw [hv] at hC
                            by_cases hv0 : v = 0
                            · subst hv0
                              have HD2 := Kept.mk (FFld.DvAt_.fail hd1 hlt (by rw [← HFE.out]; exact hfx) (by rw [← HFE.out]; exact hxl) hv (x + 1))
                              have ev : (((0 : Nat) : Int) != 0) = false := rfl
                              clear hv
                              go_wp2_with fail
                              refine (hC.out _).mono ?_
                              rintro e w3 ⟨hb3, rfl⟩
                              have HX3 := Kept.mk (hbx.out.below hb3)
                              clear hb3
                              go_wp2
                              go_roundw
                              case rel => exact ⟨false, x + 1, rfl, by go_num, by omega, by omega, ⟨fun h => by cases h⟩, HD2, HX3⟩
                              case measure => simp [intOf] <;> omega
                            · have HD2 := Kept.mk (hat.out.next (by rw [hv]; exact hv0))
                              have ev : ((v : Int) != 0) = true := by rw [bne_iff_ne]; omega
                              clear hv hv0
                              go_wp2_with fail
                              refine (hC.out _).mono ?_
                              rintro e w3 ⟨hb3, rfl⟩
                              have HX3 := Kept.mk (hbx.out.below hb3)
                              clear hb3
                              go_wp2
                              go_roundw
                              case rel => exact ⟨true, x + 1, rfl, by go_num, by omega, by omega, ⟨fun _ => by omega⟩, HD2, HX3⟩
                              case measure => simp [intOf] <;> omega
                          · obtain rfl : x = 2 * f := by omega
                            have HD2 : Kept (FFld.DvAt_ p k c (d + 1) (p ^ (d + 1)) true) := ⟨by have := hat.out; rw [HFE.out] at this; exact this.row⟩
                            rw [← HF'.out] at HD2
                            go_wp2
                            go_roundw
                            case rel => exact ⟨true, f', d + 1, rfl, congrArg (Value.int .i64) ef, by go_num, by omega, by omega, hf'6, ⟨fun _ => HF'.out⟩, HD2, hbx⟩
                            case measure => simp [intOf] <;> omega
                    · have hI := HIS.out c hc0 hcm (hat.out.done (by omega))
                      obtain ⟨f0, f1, f2, f3⟩ := four_frz hbx.out.b0
                      obtain ⟨c0, c1, c2, c3⟩ := four_cells hbx.out.b0
                      obtain ⟨hb, e0, e1, e2, e3⟩ := four_end hbx.out.b0 hbx.out.1 (Nat.le_refl _) (.int .i64 n0) (.int .i64 p) (.int .i64 k) (.int .i64 c)
                      have HB := Kept.mk hb
                      have HI := Kept.mk hI
                      clear hb hI hfe
                      go_wp2
                      exact bodyPost_ret (v := .tuple #[rfv n0 p k c, .bool true]) (by simp [results, Tryz.results5, go_sem, e0, e1, e2, e3]) rfl ⟨HB.out, .inl ⟨_, HDD.out, by rw [HQQ.out], by rw [HQQ.out]; show _ = Ending.returned (.tuple #[rfv n0 p k m, .bool true]); rw [HI.out]⟩⟩
      · have hlt : p + 1 ≤ n0 := by
          rcases Nat.lt_or_ge p n0 with h | h
          · exact h
          · have : p = n0 := by omega
            subst this
            rw [Nat.mod_self] at hs
            omega
        have HNO := Kept.mk (show ∀ i, 2 ≤ i → i < p + 1 → ¬ i ∣ n0 from fun i h1 h2 hdv => by
          by_cases e : i = p
          · subst e; rw [Nat.mod_eq_zero_of_dvd hdv] at hs; omega
          · exact hno.out i h1 (by omega) hdv)
        have ez : ((s : Int) != 0) = true := by rw [bne_iff_ne]; omega
        clear hs hs0
        go_wp2
        go_roundw
        case rel => exact ⟨p + 1, by omega, hlt, by go_num, HNO, trivial⟩
        case measure => simp [intOf] <;> omega
  · have hnf : Kept (¬ FFld.Fit q) := ⟨fun h => hin h.range⟩
    obtain ⟨f0, f1, f2, f3⟩ := four_frz HX0.out.b0
    obtain ⟨c0, c1, c2, c3⟩ := four_cells HX0.out.b0
    have htest : q < 2 ∨ (¬ q < 2 ∧ 65536 < q) := by omega
    clear hin
    go_enter Tryz.func5, Tryz.ntmps5
    rcases htest with h | ⟨h, h'⟩
    all_goals
      go_wp2
      exact bodyPost_ret (v := .tuple #[rzero, .bool false]) (by simp [results, Tryz.results5, go_sem, c0, c1, c2, c3]) rfl ⟨HX0.out.1, .inr ⟨hnf.out, rfl⟩⟩
end Go.Proofs.YtfhhnfpapgfnmaaGreat
