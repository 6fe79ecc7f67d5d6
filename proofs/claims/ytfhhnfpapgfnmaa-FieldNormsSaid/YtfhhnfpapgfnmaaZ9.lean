/-
  Texts of the proof, merged by program: Fn Rmm Rpo Rin0 Rge Fo Rne.
-/
import Derived.Test.YtfhhnfpapgfnmaaZ7
import Derived.Test.YtfhhnfpapgfnmaaZ8
set_option linter.unusedVariables false
set_option linter.unusedSectionVars false
set_option linter.unusedSimpArgs false
namespace Go.Proofs.Ytfhhnfpapgfnmaa
namespace FFld
theorem pmul_k1 {p m : Nat} (h : PK p 1 m) (a b : Nat) (ha : a < p) (hb : b < p) : pmul p 1 m a 1 b = a * b % p := by
  have hh := pmul_lt h a 1 b
  have hd : dig p (pmul p 1 m a 1 b) 0 = a * b % p := by
    simp only [pmul]
    rw [pshf_zero h, padd_zero h _ (pscl_lt h _ _), dig_pscl h _ _ _ (by omega), dig_zero, Nat.mod_eq_of_lt hb, Nat.mod_mul_mod]
  rw [dig_zero, Nat.mod_eq_of_lt (by simpa using hh)] at hd
  exact hd
theorem padd_k1 {p m : Nat} (h : PK p 1 m) (a b : Nat) (ha : a < p) (hb : b < p) : padd p 1 a b = (a + b) % p := by
  have hh := padd_lt h a b
  have hd : dig p (padd p 1 a b) 0 = (a + b) % p := by
    rw [dig_padd h _ _ _ (by omega), dig_zero, dig_zero, Nat.mod_eq_of_lt ha, Nat.mod_eq_of_lt hb]
  rw [dig_zero, Nat.mod_eq_of_lt (by simpa using hh)] at hd
  exact hd
/-- Powers, as the programs take them: result times a ^ n is what is asked. -/
structure PwAt (p k m : Nat) (h : PK p k m) (V r a n : Nat) : Prop where
  rl : r < p ^ k
  al : a < p ^ k
  val : ((rng h).mul ⟨r, rl⟩ ((rng h).pow ⟨a, al⟩ n)).1 = V
def ppow {p k m : Nat} (h : PK p k m) (a n : Nat) : Nat := if ha : a < p ^ k then ((rng h).pow ⟨a, ha⟩ n).1 else 0
theorem ppow_lt {p k m : Nat} (h : PK p k m) (a n : Nat) : ppow h a n < p ^ k := by
  unfold ppow
  split
  · exact ((rng h).pow _ n).2
  · exact Nat.pow_pos h.p0
theorem PwAt.start {p k m : Nat} (h : PK p k m) (a n : Nat) (ha : a < p ^ k) : PwAt p k m h (ppow h a n) 1 a n := by
  refine ⟨h.one_lt, ha, ?_⟩
  unfold ppow
  rw [dif_pos ha]
  exact congrArg Subtype.val ((rng h).one_mul _)
theorem PwAt.even {p k m : Nat} {h : PK p k m} {V r a n : Nat} (hp : PwAt p k m h V r a n) (hn : n % 2 = 0) : PwAt p k m h V r (pmul p k m a k a) (n / 2) := by
  refine ⟨hp.rl, pmul_lt h _ _ _, ?_⟩
  have haa : (rng h).pow (⟨pmul p k m a k a, pmul_lt h _ _ _⟩) (n / 2) = (rng h).pow ⟨a, hp.al⟩ (2 * (n / 2)) := by
    rw [(rng h).pow_mul]
    congr 1
    simp only [Rng.pow]
    rw [(rng h).one_mul]
    rfl
  rw [haa, show 2 * (n / 2) = n from by omega]
  exact hp.val
theorem PwAt.odd {p k m : Nat} {h : PK p k m} {V r a n : Nat} (hp : PwAt p k m h V r a n) (hn : n % 2 = 1) : PwAt p k m h V (pmul p k m r k a) (pmul p k m a k a) (n / 2) := by
  refine ⟨pmul_lt h _ _ _, pmul_lt h _ _ _, ?_⟩
  have haa : (rng h).pow (⟨pmul p k m a k a, pmul_lt h _ _ _⟩) (n / 2) = (rng h).pow ⟨a, hp.al⟩ (2 * (n / 2)) := by
    rw [(rng h).pow_mul]
    congr 1
    simp only [Rng.pow]
    rw [(rng h).one_mul]
    rfl
  obtain ⟨hr, hal, hv⟩ := hp
  have e : n = 1 + 2 * (n / 2) := by omega
  have e1 : (rng h).pow ⟨a, hal⟩ 1 = ⟨a, hal⟩ := by simp only [Rng.pow]; rw [(rng h).one_mul]
  have e2 : (rng h).pow ⟨a, hal⟩ n = (rng h).mul ⟨a, hal⟩ ((rng h).pow ⟨a, hal⟩ (2 * (n / 2))) := by
    conv => lhs; rw [e, (rng h).pow_add, e1]
  rw [e2, ← (rng h).mul_assoc] at hv
  rw [haa]
  exact hv
theorem PwAt.done {p k m : Nat} {h : PK p k m} {V r a : Nat} (hp : PwAt p k m h V r a 0) : r = V := by
  rw [← hp.val]
  simp only [Rng.pow]
  rw [(rng h).mul_one]
theorem dom_pow {D : FD} {h : PK D.p D.k D.m} (hn : D.Nzd h) (a : El (D.p ^ D.k)) (n : Nat) : (FD.dom hn).pow a n = (rng h).pow a n := by
  induction n with
  | zero => rfl
  | succ n ih => simp only [Dom.pow, Rng.pow]; rw [ih]; rfl
theorem ppow_of {p k m : Nat} (h : PK p k m) (a n : Nat) (ha : a < p ^ k) : ppow h a n = ((rng h).pow ⟨a, ha⟩ n).1 := by
  unfold ppow
  rw [dif_pos ha]
/-- What both programs ask of a generator. -/
def GTest (D : FD) (h : PK D.p D.k D.m) (a r : Nat) : Prop := r ∣ D.p ^ D.k - 1 → Prime r → ppow h a ((D.p ^ D.k - 1) / r) ≠ 1
theorem FD.Ok.test_iff {D : FD} (h : D.Ok) (a : Nat) (ha : a < D.p ^ D.k) (h1 : 1 ≤ a) : (∀ r, 2 ≤ r → r < D.p ^ D.k → GTest D h.pre.pk a r) ↔ (FD.dom h.nzd).Ord ⟨a, ha⟩ (D.p ^ D.k - 1) := by
  have hq := h.pre.pk.one_lt
  have hall := nzl_all h.nzd
  have hlen := nzl_len (D.p ^ D.k)
  have hne : (⟨a, ha⟩ : El (D.p ^ D.k)) ≠ (FD.dom h.nzd).zero := fun e => by
    have : a = 0 := congrArg Subtype.val e
    omega
  constructor
  · intro ht
    have := (FD.dom h.nzd).ord_of_test hall (by omega) hne (fun f hf hd he => by
      rw [hlen] at hd he
      have hle := Nat.le_of_dvd (by omega) hd
      refine ht f hf.1 (by omega) hd hf ?_
      rw [ppow_of _ _ _ ha, ← dom_pow h.nzd, he]
      rfl)
    rw [hlen] at this
    exact this
  · intro ho r h2 hr hd hp he
    refine (FD.dom h.nzd).test_of_ord (by omega) ho h2 hd ?_
    rw [ppow_of _ _ _ ha] at he
    rw [dom_pow h.nzd]
    exact Subtype.ext he
theorem FD.Ok.gen {D : FD} (h : D.Ok) {a : Nat} (h1 : 1 ≤ a) (hg : a ≤ D.g) (ht : ∀ r, 2 ≤ r → r < D.p ^ D.k → GTest D h.pre.pk a r) : a = D.g := by
  have hgq := h.gq
  have ha : a < D.p ^ D.k := by omega
  rcases Nat.lt_or_ge a D.g with hlt | hge
  · exact absurd ((h.test_iff a ha h1).1 ht) (h.least a ha h1 hlt)
  · omega
theorem FD.Ok.not_gen {D : FD} (h : D.Ok) {a : Nat} (hg : a ≤ D.g) {r : Nat} (h2 : 2 ≤ r) (hr : r < D.p ^ D.k) (ht : ¬ GTest D h.pre.pk a r) : a + 1 ≤ D.g := by
  rcases Nat.lt_or_ge a D.g with hlt | hge
  · exact hlt
  · have e : a = D.g := by omega
    subst e
    exact absurd ((h.test_iff D.g h.gq h.g1).2 h.ord r h2 hr) ht
end FFld
end Go.Proofs.Ytfhhnfpapgfnmaa

set_option linter.unusedVariables false
set_option linter.unusedSimpArgs false
namespace Go.Proofs.Ytfhhnfpapgfnmaa
open Go Go.RowKit
open FFld (ints)
/-- What is asked of the modulus' number. -/
structure MdOk (p k m : Nat) : Prop where
  one : k = 1 → m = p
  more : 2 ≤ k → p ^ k ≤ m ∧ m < 2 * p ^ k
set_option maxRecDepth 20000 in
set_option maxHeartbeats 2000000 in
theorem rmul_any (q p k m a b : Nat) (w : World) (hp : 2 ≤ p) (hk : 1 ≤ k) (ha : a < p ^ k) (hb : b < p ^ k) (hq : p ^ k ≤ 65536) (hm : MdOk p k m) :
    Calls Try.prog 54 #[rfv q p k m, .int .i64 a, .int .i64 b] w (RB w (.int .i64 (FFld.pmul p k m a k b : Nat))) := by
  have hpk : FFld.PK p k m := ⟨hp, hk⟩
  have hp1 : p ≤ 65536 := Nat.le_trans (by have := Nat.pow_le_pow_right (n := p) (by omega) hk; rw [Nat.pow_one] at this; exact this) hq
  have ha1 : a ≤ 65536 := by omega
  have hb1 : b ≤ 65536 := by omega
  have HX0 : Kept (Bxs w [.cells #[.int .i64 q, .int .i64 p, .int .i64 k, .int .i64 m] 23] (w.alloc (.cells #[.int .i64 q, .int .i64 p, .int .i64 k, .int .i64 m] 23))) := ⟨(Bxs.start w).alloc (by simp) _⟩
  obtain ⟨V, hV⟩ : ∃ V, FFld.pmul p k m a k b = V := ⟨_, rfl⟩
  rw [hV]
  obtain ⟨c0, c1, c2, c3⟩ := four_cells HX0.out.b0
  by_cases hk1 : k = 1
  · subst hk1
    have hm1 := hm.one rfl
    subst hm1
    rw [Nat.pow_one] at ha hb
    have hVV : a * b % m = V := by rw [← hV, FFld.pmul_k1 hpk a b ha hb]
    obtain ⟨v, hv⟩ : ∃ v, a * b = v := ⟨_, rfl⟩
    have hvl : v ≤ 4294967296 := by rw [← hv]; exact nmul_le (A := 65536) (B := 65536) (by omega) (by omega)
    have e1 : wrap64 ((a : Int) * b) = v := wmul hv (by omega)
    have e2 : (v : Int) % m = V := by rw [← hVV, hv]; rfl
    have e0 : (((1 : Nat) : Int) == 1) = true := rfl
    clear hV hVV hv ha hb hq hm
    go_enter Try.func54, Try.ntmps54
    go_wp2
    go_ret
    exact ⟨HX0.out.1, by simp [e1, e2]⟩
  · have hk2 : 2 ≤ k := by omega
    have e0 : ((k : Int) == 1) = false := by rw [beq_eq_false_iff_ne]; omega
    obtain ⟨hm0, hm1⟩ := hm.more hk2
    have hq2 : p ^ (2 * k) ≤ 1099511627776 := by
      rw [Nat.two_mul, Nat.pow_add]
      exact Nat.le_trans (nmul_le hq hq) (by omega)
    have hT := Kept.mk (fun W => rtimes2_any a b p k W hp hp1 hk ha hb hq2)
    have hR := Kept.mk (fun W (c : Nat) (hc : FFld.Tms p a b c (2 * k)) => rrest_any c m p k (2 * k) W hp hp1 hk hc.lt hm0 hm1 hq2 (Nat.le_trans hq (by omega)))
    have hF := Kept.mk (fun (c : Nat) (hc : FFld.Tms p a b c (2 * k)) => show FFld.pmul p k m 1 (2 * k) c = V from by rw [← hV]; exact hc.val k m hpk ha hb)
    clear hV ha hb hq hm hm0 hm1 hq2
    go_enter Try.func54, Try.ntmps54
    go_wp2
    go_region_held3 (fun w' => w'.cell? ⟨w.heap.size, 1, none⟩ = some (.int .i64 p) ∧ w'.cell? ⟨w.heap.size, 3, none⟩ = some (.int .i64 m))
      (first | exact ⟨c1, c3⟩ | exact ⟨k1, k3⟩ | exact ⟨l1, l3⟩ | go_keep)
      ((first
        | (go_at_call 114; (with_reducible refine (hT.out _).mono ?_); rintro e w2 ⟨hb2, c, rfl, htm⟩; have hx2 : Bxs w [.cells #[.int .i64 q, .int .i64 p, .int .i64 k, .int .i64 m] 23] w2 := Bxs.below (by repeat (first | (with_reducible exact HX0.out) | (with_reducible refine Bxs.drew ?_))) hb2; obtain ⟨k0, k1, k2, k3⟩ := four_cells hx2.b0; have HTM := Kept.mk htm; clear htm hb2)
        | (go_at_call 82; (with_reducible refine (hR.out _ _ HTM.out).mono ?_); rintro e w3 ⟨hb3, rfl⟩; have hx3 : Bxs w [.cells #[.int .i64 q, .int .i64 p, .int .i64 k, .int .i64 m] 23] w3 := Bxs.below (by repeat (first | (with_reducible exact hx2) | (with_reducible refine Bxs.drew ?_))) hb3; obtain ⟨l0, l1, l2, l3⟩ := four_cells hx3.b0; clear hb3)))
    go_wp2
    go_ret
    exact ⟨hx3.1, by rw [hF.out _ HTM.out]; rfl⟩
end Go.Proofs.Ytfhhnfpapgfnmaa

set_option linter.unusedVariables false
set_option linter.unusedSimpArgs false
namespace Go.Proofs.Ytfhhnfpapgfnmaa
open Go Go.RowKit
open FFld (ints)
abbrev rbox (q p k m : Nat) : Obj := .cells #[.int .i64 q, .int .i64 p, .int .i64 k, .int .i64 m] 23
set_option maxRecDepth 20000 in
set_option maxHeartbeats 2000000 in
theorem rpow_any (q p k m a n : Nat) (w : World) (hpk : FFld.PK p k m) (ha : a < p ^ k) (hq : p ^ k ≤ 65536) (hm : MdOk p k m) (hn : n ≤ 70000) :
    Calls Try.prog 56 #[rfv q p k m, .int .i64 a, .int .i64 n] w (RB w (.int .i64 (FFld.ppow hpk a n : Nat))) := by
  obtain ⟨V, hV⟩ : ∃ V, FFld.ppow hpk a n = V := ⟨_, rfl⟩
  have HPW : Kept (FFld.PwAt p k m hpk V 1 a n) := ⟨hV ▸ FFld.PwAt.start hpk a n ha⟩
  rw [hV]
  have hMul := Kept.mk (fun W (x y : Nat) (hx : x < p ^ k) (hy : y < p ^ k) => rmul_any q p k m x y W hpk.p2 hpk.k1 hx hy hq hm)
  have HX0 : Kept (Bxs w [rbox q p k m] (w.alloc (rbox q p k m))) := ⟨(Bxs.start w).alloc (by simp) _⟩
  clear hV ha hq hm
  go_enter Try.func56, Try.ntmps56
  go_wp2
  go_loopw [1, 2, 7] (fun av nv rv wr => ∃ (x n r : Nat), n ≤ 70000 ∧ av = .int .i64 x ∧ nv = .int .i64 n ∧ rv = .int .i64 r ∧ Kept (FFld.PwAt p k m hpk V r x n) ∧ Kept (Bxs w [rbox q p k m] wr)) (fun _ nv _ _ => (intOf nv).toNat)
  case atStart => exact ⟨a, n, 1, hn, rfl, rfl, rfl, HPW, HX0⟩
  case round =>
    obtain ⟨x, n, r, hn, rfl, rfl, rfl, hpw, hbx⟩ := hrel
    by_cases h0 : 0 < n
    · obtain ⟨c0, c1, c2, c3⟩ := four_cells hbx.out.b0
      obtain ⟨n', hn'⟩ : ∃ n', n / 2 = n' := ⟨_, rfl⟩
      have en : (n : Int) / 2 = n' := by rw [← hn']; rfl
      have hlt : n' < n := by omega
      by_cases h1 : n % 2 = 1
      · have HP := Kept.mk (hpw.out.odd h1)
        rw [hn'] at HP
        have e1 : ((n : Int) % 2 == 1) = true := by rw [beq_iff_eq]; omega
        have HR := Kept.mk hpw.out.rl
        have HA := Kept.mk hpw.out.al
        clear hn' h1
        go_wp2_with fail
        refine (hMul.out _ r x HR.out HA.out).mono ?_
        rintro e w2 ⟨hb2, rfl⟩
        have HX2 := Kept.mk (hbx.out.below hb2)
        obtain ⟨d0, d1, d2, d3⟩ := four_cells HX2.out.b0
        clear hb2 c0 c1 c2 c3
        go_wp2_with fail
        refine (hMul.out _ x x HA.out HA.out).mono ?_
        rintro e w3 ⟨hb3, rfl⟩
        have HX3 := Kept.mk (HX2.out.below hb3)
        clear hb3 d0 d1 d2 d3
        go_wp2
        go_roundw
        case rel => exact ⟨_, n', _, by omega, rfl, rfl, rfl, HP, HX3⟩
        case measure => simp [intOf] <;> omega
      · have HP := Kept.mk (hpw.out.even (by omega))
        rw [hn'] at HP
        have e1 : ((n : Int) % 2 == 1) = false := by rw [beq_eq_false_iff_ne]; omega
        have HA := Kept.mk hpw.out.al
        clear hn' h1
        go_wp2_with fail
        refine (hMul.out _ x x HA.out HA.out).mono ?_
        rintro e w3 ⟨hb3, rfl⟩
        have HX3 := Kept.mk (hbx.out.below hb3)
        clear hb3 c0 c1 c2 c3
        go_wp2
        go_roundw
        case rel => exact ⟨_, n', _, by omega, rfl, rfl, rfl, HP, HX3⟩
        case measure => simp [intOf] <;> omega
    · obtain rfl : n = 0 := by omega
      have HR := Kept.mk hpw.out.done
      go_wp2
      go_ret
      exact ⟨hbx.out.1, by rw [HR.out]; rfl⟩
set_option maxRecDepth 20000 in
set_option maxHeartbeats 2000000 in
theorem rinv_any (q p k m a : Nat) (w : World) (hpk : FFld.PK p k m) (ha : a < p ^ k) (hq0 : q = p ^ k) (hq : p ^ k ≤ 65536) (hm : MdOk p k m) :
    Calls Try.prog 115 #[rfv q p k m, .int .i64 a] w (RB w (.int .i64 (FFld.ppow hpk a (q - 2) : Nat))) := by
  have h1 := hpk.one_lt
  obtain ⟨n, hn⟩ : ∃ n, q - 2 = n := ⟨_, rfl⟩
  rw [hn]
  have hP := Kept.mk (fun W => rpow_any q p k m a n W hpk ha hq hm (by omega))
  have HX0 : Kept (Bxs w [rbox q p k m] (w.alloc (rbox q p k m))) := ⟨(Bxs.start w).alloc (by simp) _⟩
  obtain ⟨c0, c1, c2, c3⟩ := four_cells HX0.out.b0
  have e1 : (q : Int) - 2 = n := by omega
  have hql : q ≤ 65536 := by omega
  have hnl : n ≤ 65536 := by omega
  clear hq0 hq hm ha hn h1
  go_enter Try.func115, Try.ntmps115
  go_wp2_with fail
  refine (hP.out _).mono ?_
  rintro e w2 ⟨hb2, rfl⟩
  have HX2 := Kept.mk (HX0.out.below hb2)
  clear hb2
  go_wp2
  go_ret
  exact ⟨HX2.out.1, rfl⟩
end Go.Proofs.Ytfhhnfpapgfnmaa

set_option linter.unusedVariables false
set_option linter.unusedSimpArgs false
namespace Go.Proofs.Ytfhhnfpapgfnmaa
open Go Go.RowKit
open FFld (ints)
theorem tmod_in (a q : Int) (h0 : 1 ≤ q) (hq : q ≤ 65536) : (wrap64 (a.tmod q + q)).tmod q = a % q := by
  have e := Int.mul_tdiv_add_tmod a q
  have h1 := Int.tmod_lt_of_pos a (show 0 < q by omega)
  have h2 : -q < a.tmod q := by
    have := Int.tmod_lt_of_pos (-a) (show 0 < q by omega)
    rw [Int.neg_tmod] at this
    omega
  rw [w64 (by omega) (by omega), Int.tmod_eq_emod_of_nonneg (by omega), Int.add_emod_right]
  conv => rhs; rw [← e, Int.add_comm, Int.add_mul_emod_self_left]
set_option maxRecDepth 20000 in
set_option maxHeartbeats 2000000 in
theorem rin_any (q p k m : Nat) (a : Int) (w : World) (h0 : 1 ≤ q) (hq : q ≤ 65536) (ha0 : -9223372036854775808 ≤ a) (ha1 : a ≤ 9223372036854775807) :
    Calls Try.prog 51 #[rfv q p k m, .int .i64 a] w (RB w (.int .i64 (a % q))) := by
  have HX0 : Kept (Bxs w [rbox q p k m] (w.alloc (rbox q p k m))) := ⟨(Bxs.start w).alloc (by simp) _⟩
  obtain ⟨c0, c1, c2, c3⟩ := four_cells HX0.out.b0
  go_enter Try.func51, Try.ntmps51
  go_wp2
  go_quiet (fail)
  go_wp2
  go_ret
  refine ⟨below_drewN HX0.out.1 _, ?_⟩
  simp
  exact tmod_in a q (by omega) (by omega)
/-- x, y := f.Op(a, g(b)). -/
theorem box_on {w W : World} {os : List Obj} (h : Kept (Bxs w os W)) {W' : World} (hb : Below W.heap.size W W') : Kept (Bxs w os W') := ⟨h.out.below hb⟩
set_option maxRecDepth 20000 in
set_option maxHeartbeats 2000000 in
theorem rsub_any (q p k m a b : Nat) (w : World) (hpk : FFld.PK p k m) (ha : a < p ^ k) (hb : b < p ^ k) (hq : p ^ k ≤ 65536) :
    Calls Try.prog 53 #[rfv q p k m, .int .i64 a, .int .i64 b] w (RB w (.int .i64 (FFld.padd p k a (FFld.pscl p k (p - 1) b) : Nat))) := by
  have HX0 : Kept (Bxs w [rbox q p k m] (w.alloc (rbox q p k m))) := ⟨(Bxs.start w).alloc (by simp) _⟩
  have hN := Kept.mk (fun W => rneg_any q p k m b W hpk.p2 hpk.k1 hb hq)
  have hA := Kept.mk (fun W => radd_any q p k m a (FFld.pscl p k (p - 1) b) W hpk.p2 hpk.k1 ha (FFld.pscl_lt hpk _ _) hq)
  obtain ⟨c0, c1, c2, c3⟩ := four_cells HX0.out.b0
  clear ha hb hq
  go_enter Try.func53, Try.ntmps53
  go_wp2
  go_region_held3 (fun w' => w'.cell? ⟨w.heap.size, 0, none⟩ = some (.int .i64 q) ∧ w'.cell? ⟨w.heap.size, 1, none⟩ = some (.int .i64 p) ∧ w'.cell? ⟨w.heap.size, 2, none⟩ = some (.int .i64 k) ∧ w'.cell? ⟨w.heap.size, 3, none⟩ = some (.int .i64 m))
    (first | exact ⟨c0, c1, c2, c3⟩ | exact ⟨k0, k1, k2, k3⟩ | exact ⟨l0, l1, l2, l3⟩ | go_keep)
    ((first
      | (go_at_call 113; (with_reducible refine (hN.out _).mono ?_); rintro e w2 ⟨hb2, rfl⟩; have hx2 : Bxs w [rbox q p k m] w2 := Bxs.below (by repeat (first | (with_reducible exact HX0.out) | (with_reducible refine Bxs.drew ?_))) hb2; obtain ⟨k0, k1, k2, k3⟩ := four_cells hx2.b0; clear hb2)
      | (go_at_call 52; (with_reducible refine (hA.out _).mono ?_); rintro e w3 ⟨hb3, rfl⟩; have hx3 : Bxs w [rbox q p k m] w3 := Bxs.below (by repeat (first | (with_reducible exact hx2) | (with_reducible refine Bxs.drew ?_))) hb3; obtain ⟨l0, l1, l2, l3⟩ := four_cells hx3.b0; clear hb3)))
  go_wp2
  go_ret
  exact ⟨hx3.1, rfl⟩
set_option maxRecDepth 20000 in
set_option maxHeartbeats 2000000 in
theorem rdiv_any (q p k m a b : Nat) (w : World) (hpk : FFld.PK p k m) (ha : a < p ^ k) (hb : b < p ^ k) (hq0 : q = p ^ k) (hq : p ^ k ≤ 65536) (hm : MdOk p k m) :
    Calls Try.prog 55 #[rfv q p k m, .int .i64 a, .int .i64 b] w (RB w (.int .i64 (FFld.pmul p k m a k (FFld.ppow hpk b (q - 2)) : Nat))) := by
  have HX0 : Kept (Bxs w [rbox q p k m] (w.alloc (rbox q p k m))) := ⟨(Bxs.start w).alloc (by simp) _⟩
  have hN := Kept.mk (fun W => rinv_any q p k m b W hpk hb hq0 hq hm)
  have hA := Kept.mk (fun W => rmul_any q p k m a (FFld.ppow hpk b (q - 2)) W hpk.p2 hpk.k1 ha (FFld.ppow_lt hpk _ _) hq hm)
  obtain ⟨c0, c1, c2, c3⟩ := four_cells HX0.out.b0
  clear ha hb hq hq0 hm
  go_enter Try.func55, Try.ntmps55
  go_wp2
  go_region_held3 (fun w' => w'.cell? ⟨w.heap.size, 0, none⟩ = some (.int .i64 q) ∧ w'.cell? ⟨w.heap.size, 1, none⟩ = some (.int .i64 p) ∧ w'.cell? ⟨w.heap.size, 2, none⟩ = some (.int .i64 k) ∧ w'.cell? ⟨w.heap.size, 3, none⟩ = some (.int .i64 m))
    (first | exact ⟨c0, c1, c2, c3⟩ | exact ⟨k0, k1, k2, k3⟩ | exact ⟨l0, l1, l2, l3⟩ | go_keep)
    ((first
      | (go_at_call 115; (with_reducible refine (hN.out _).mono ?_); rintro e w2 ⟨hb2, rfl⟩; have hx2 : Bxs w [rbox q p k m] w2 := Bxs.below (by repeat (first | (with_reducible exact HX0.out) | (with_reducible refine Bxs.drew ?_))) hb2; obtain ⟨k0, k1, k2, k3⟩ := four_cells hx2.b0; clear hb2)
      | (go_at_call 54; (with_reducible refine (hA.out _).mono ?_); rintro e w3 ⟨hb3, rfl⟩; have hx3 : Bxs w [rbox q p k m] w3 := Bxs.below (by repeat (first | (with_reducible exact hx2) | (with_reducible refine Bxs.drew ?_))) hb3; obtain ⟨l0, l1, l2, l3⟩ := four_cells hx3.b0; clear hb3)))
  go_wp2
  go_ret
  exact ⟨hx3.1, rfl⟩
set_option maxRecDepth 20000 in
set_option maxHeartbeats 2000000 in
theorem rmodulus_any (q p k m : Nat) (w : World) (hp : 2 ≤ p) (hp1 : p ≤ 65536) (hm : m < 1099511627776) :
    Calls Try.prog 24 #[rfv q p k m] w (DigRet p m w) := by
  have HX0 : Kept (Bxs w [rbox q p k m] (w.alloc (rbox q p k m))) := ⟨(Bxs.start w).alloc (by simp) _⟩
  obtain ⟨c0, c1, c2, c3⟩ := four_cells HX0.out.b0
  go_enter Try.func24, Try.ntmps24
  go_wp2_with fail
  refine (rdigits_any m p _ hp hp1 hm).mono ?_
  rintro e w2 ⟨hb2, v, l, rfl, hmi, hd⟩
  have HM := Kept.mk hmi
  have HD := Kept.mk hd
  have HX2 := Kept.mk (HX0.out.below hb2)
  have hsz := HX0.out.1.size
  clear hmi hd hb2
  go_wp2
  go_ret
  exact ⟨HX2.out.1, _, _, rfl, HM.out.lower hsz, HD.out⟩
end Go.Proofs.Ytfhhnfpapgfnmaa

set_option linter.unusedVariables false
set_option linter.unusedSimpArgs false
namespace Go.Proofs.Ytfhhnfpapgfnmaa
open Go Go.RowKit
open FFld (ints)
theorem MdOk.of {D : FFld.FD} (h : D.Pre) : MdOk D.p D.k D.m := ⟨h.mod1, fun h2 => ⟨(h.mod2 h2).1, (h.mod2 h2).2.1⟩⟩
/-- How far the inner search has come: all numbers below r pass, or one fails. -/
def GrAt (D : FFld.FD) (h : FFld.PK D.p D.k D.m) (a r : Nat) (ok : Bool) : Prop := if ok then ∀ i, 2 ≤ i → i < r → FFld.GTest D h a i else ∃ i, 2 ≤ i ∧ i < D.p ^ D.k ∧ ¬ FFld.GTest D h a i
set_option maxRecDepth 20000 in
set_option maxHeartbeats 4000000 in
theorem rgenerator_any (D : FFld.FD) (hD : D.Ok) (w : World) :
    Calls Try.prog 26 #[rfv D.q D.p D.k D.m] w (RB w (.int .i64 (D.g : Nat))) := by
  obtain ⟨q, hqd⟩ : ∃ q, D.p ^ D.k = q := ⟨_, rfl⟩
  have hqq : D.q = q := hqd
  have hpk := hD.pre.pk
  have hq1 : 1 < q := by rw [← hqd]; exact hpk.one_lt
  have hq2 : q ≤ 65536 := by have := hD.pre.small; rw [hqq] at this; exact this
  have hgq : D.g < q := by rw [← hqd]; exact hD.gq
  have hPow := Kept.mk (fun W (a n : Nat) (ha : a < q) (hn : n ≤ 70000) => rpow_any D.q D.p D.k D.m a n W hpk (by rw [hqd]; exact ha) (by rw [hqd]; exact hq2) (MdOk.of hD.pre) hn)
  have HG := Kept.mk (fun (a : Nat) (h1 : 1 ≤ a) (hg : a ≤ D.g) (ht : GrAt D hpk a q true) => hD.gen h1 hg (by rw [hqd]; exact ht))
  have HNG := Kept.mk (fun (a r : Nat) (hg : a ≤ D.g) (ht : GrAt D hpk a r false) => by
    obtain ⟨i, h2, hr, hn⟩ := ht
    exact hD.not_gen hg h2 hr hn)
  have HX0 : Kept (Bxs w [rbox D.q D.p D.k D.m] (w.alloc (rbox D.q D.p D.k D.m))) := ⟨(Bxs.start w).alloc (by simp) _⟩
  have HQ := Kept.mk hqd
  rw [hqq] at hPow HX0 ⊢
  clear hqd hqq
  go_enter Try.func26, Try.ntmps26
  go_wp2
  go_loopw [3] (fun gv wr => ∃ (a : Nat), 1 ≤ a ∧ a ≤ D.g ∧ gv = .int .i64 a ∧ Kept (Bxs w [rbox q D.p D.k D.m] wr)) (fun gv _ => q - (intOf gv).toNat)
  case atStart => exact ⟨1, Nat.le_refl _, hD.g1, rfl, HX0⟩
  case round =>
    obtain ⟨a, ha1, hag, rfl, hbx⟩ := hrel
    go_wp2
    go_loopw [4, 5] (fun ov rv wr => ∃ (ok : Bool) (r : Nat), ov = .bool ok ∧ rv = .int .i64 r ∧ 2 ≤ r ∧ r ≤ 70000 ∧ Kept (ok = true → r ≤ q) ∧ Kept (GrAt D hpk a r ok) ∧ Kept (Bxs w [rbox q D.p D.k D.m] wr)) (fun _ rv _ => 70001 - (intOf rv).toNat)
    case atStart => exact ⟨true, 2, rfl, rfl, Nat.le_refl _, by omega, ⟨fun _ => hq1⟩, ⟨fun i h1 h2 => by omega⟩, hbx⟩
    case round =>
      obtain ⟨ok, r, rfl, rfl, hr2, hr7, hrq, hat, hbx⟩ := hrel
      obtain ⟨c0, c1, c2, c3⟩ := four_cells hbx.out.b0
      cases ok with
      | false =>
        have hN := HNG.out a r hag hat.out
        by_cases hlt : r < q
        · go_wp2
          go_roundw
          case rel => exact ⟨a + 1, by omega, hN, by go_num, hbx⟩
          case measure => simp [intOf] <;> omega
        · go_wp2
          go_roundw
          case rel => exact ⟨a + 1, by omega, hN, by go_num, hbx⟩
          case measure => simp [intOf] <;> omega
      | true =>
        have hrq' := hrq.out rfl
        by_cases hlt : r < q
        · obtain ⟨q1, hq1e⟩ : ∃ q1, q - 1 = q1 := ⟨_, rfl⟩
          obtain ⟨s, hs⟩ : ∃ s, q1 % r = s := ⟨_, rfl⟩
          obtain ⟨d, hd⟩ : ∃ d, q1 / r = d := ⟨_, rfl⟩
          have e0 : IntKind.i64.wrap ((q : Int) - 1) = (q1 : Int) := by rw [show (q : Int) - 1 = (q1 : Int) from by omega]; exact wi (by omega) (by omega)
          have er : (q1 : Int) % r = s := by rw [← hs]; rfl
          have ed : (q1 : Int) / r = d := by rw [← hd]; rfl
          have hdv : r ∣ q1 ↔ s = 0 := by rw [← hs]; exact ⟨Nat.mod_eq_zero_of_dvd, Nat.dvd_of_mod_eq_zero⟩
          have HDV := Kept.mk hdv
          have hrn : ¬ r = 0 := by omega
          have ert : (q1 : Int).tmod r = s := by rw [Int.tmod_eq_emod_of_nonneg (by omega)]; exact er
          have ews : IntKind.i64.wrap (s : Int) = s := wi (by omega) (by rw [← hs]; have := Nat.mod_le q1 r; omega)
          have ewd : IntKind.i64.wrap (d : Int) = d := wi (by omega) (by rw [← hd]; have := Nat.div_le_self q1 r; omega)
          have hr0 : ((r : Int) == 0) = false := by rw [beq_eq_false_iff_ne]; omega
          have hr0' : ¬ (r : Int) = 0 := by omega
          have hdl : d ≤ 70000 := by rw [← hd]; exact Nat.le_trans (Nat.div_le_self _ _) (by omega)
          have HT : Kept (FFld.GTest D hpk a r ↔ (s = 0 → FFld.Prime r → FFld.ppow hpk a d ≠ 1)) := ⟨by unfold FFld.GTest; rw [HQ.out, hq1e, hd, hdv]⟩
          have HY := Kept.mk (fun (h : FFld.GTest D hpk a r) => show GrAt D hpk a (r + 1) true from fun i h2 hi => by
            by_cases e : i = r
            · subst e; exact h
            · exact hat.out i h2 (by omega))
          have HNO := Kept.mk (fun (h : ¬ FFld.GTest D hpk a r) => show GrAt D hpk a (r + 1) false from ⟨r, hr2, by rw [HQ.out]; exact hlt, h⟩)
          clear hq1e hs hd hdv hat
          by_cases hs0 : s = 0
          · subst hs0
            have es : (((0 : Nat) : Int) != 0) = false := rfl
            cases hpr : FFld.isP r with
            | false =>
              have HPR := Kept.mk hpr
              have HR := Kept.mk (HY.out (HT.out.2 (fun _ hp => absurd (FFld.isP_of hp) (by rw [hpr]; simp))))
              clear hpr
              go_wp2
              go_quiet ((go_at_call 88; exact Calls.quiet_of_same ((rprime_any r _ hr7).mono fun e w' h => ⟨by rw [h.2, HPR.out], h.1.symm⟩)))
              go_wp2
              go_roundw
              case rel => exact ⟨true, r + 1, rfl, by go_num, by omega, by omega, ⟨fun _ => hlt⟩, HR, ⟨hbx.out.below (below_drewN (Below.refl _ _) _)⟩⟩
              case measure => simp [intOf] <;> omega
            | true =>
              have hPr := Kept.mk (fun W => (rprime_any r W hr7).mono fun e w' h => show e = .returned (.bool true) ∧ W = w' from ⟨by rw [h.2, hpr], h.1⟩)
              obtain ⟨v, hv⟩ : ∃ v, FFld.ppow hpk a d = v := ⟨_, rfl⟩
              have hPo := Kept.mk (fun W => hPow.out W a d (by omega) hdl)
              rw [hv] at hPo
              have HPP := Kept.mk (FFld.isP_prime hpr)
              clear hpr
              by_cases hv1 : v = 1
              · subst hv1
                have ev : (((1 : Nat) : Int) != 1) = false := rfl
                have HR := Kept.mk (HNO.out (fun h => HT.out.1 h rfl HPP.out hv))
                clear hv
                go_wp2
                go_region_held3 (fun w' => w'.cell? ⟨w.heap.size, 0, none⟩ = some (.int .i64 q) ∧ w'.cell? ⟨w.heap.size, 1, none⟩ = some (.int .i64 D.p) ∧ w'.cell? ⟨w.heap.size, 2, none⟩ = some (.int .i64 D.k) ∧ w'.cell? ⟨w.heap.size, 3, none⟩ = some (.int .i64 D.m))
                  (first | exact ⟨c0, c1, c2, c3⟩ | exact ⟨l0, l1, l2, l3⟩ | go_keep)
                  ((first
                    | (go_at_call 88; (with_reducible refine (hPr.out _).mono ?_); rintro e w2 ⟨rfl, rfl⟩)
                    | (go_at_call 56; (with_reducible refine (hPo.out _).mono ?_); rintro e w3 ⟨hb3, rfl⟩; have hx3 : Bxs w [rbox q D.p D.k D.m] w3 := Bxs.below (by repeat (first | (with_reducible exact hbx.out) | (with_reducible refine Bxs.drew ?_))) hb3; obtain ⟨l0, l1, l2, l3⟩ := four_cells hx3.b0; clear hb3)))
                go_wp2
                go_roundw
                case rel => exact ⟨false, r + 1, rfl, by go_num, by omega, by omega, ⟨fun h => by cases h⟩, HR, ⟨hx3⟩⟩
                case measure => simp [intOf] <;> omega
              · have ev : ((v : Int) != 1) = true := by rw [bne_iff_ne]; omega
                have HR := Kept.mk (HY.out (HT.out.2 (fun _ _ e => hv1 (hv.symm.trans e))))
                clear hv hv1
                go_wp2
                go_region_held3 (fun w' => w'.cell? ⟨w.heap.size, 0, none⟩ = some (.int .i64 q) ∧ w'.cell? ⟨w.heap.size, 1, none⟩ = some (.int .i64 D.p) ∧ w'.cell? ⟨w.heap.size, 2, none⟩ = some (.int .i64 D.k) ∧ w'.cell? ⟨w.heap.size, 3, none⟩ = some (.int .i64 D.m))
                  (first | exact ⟨c0, c1, c2, c3⟩ | exact ⟨l0, l1, l2, l3⟩ | go_keep)
                  ((first
                    | (go_at_call 88; (with_reducible refine (hPr.out _).mono ?_); rintro e w2 ⟨rfl, rfl⟩)
                    | (go_at_call 56; (with_reducible refine (hPo.out _).mono ?_); rintro e w3 ⟨hb3, rfl⟩; have hx3 : Bxs w [rbox q D.p D.k D.m] w3 := Bxs.below (by repeat (first | (with_reducible exact hbx.out) | (with_reducible refine Bxs.drew ?_))) hb3; obtain ⟨l0, l1, l2, l3⟩ := four_cells hx3.b0; clear hb3)))
                go_wp2
                go_roundw
                case rel => exact ⟨true, r + 1, rfl, by go_num, by omega, by omega, ⟨fun _ => hlt⟩, HR, ⟨hx3⟩⟩
                case measure => simp [intOf] <;> omega
          · have es : ((s : Int) != 0) = true := by rw [bne_iff_ne]; omega
            have HR := Kept.mk (HY.out (HT.out.2 (fun h => absurd h hs0)))
            clear hs0
            go_wp2
            go_quiet (fail)
            go_wp2
            go_roundw
            case rel => exact ⟨true, r + 1, rfl, by go_num, by omega, by omega, ⟨fun _ => hlt⟩, HR, ⟨hbx.out.below (below_drewN (Below.refl _ _) _)⟩⟩
            case measure => simp [intOf] <;> omega
        · obtain rfl : r = q := by omega
          have hN := HG.out a ha1 hag hat.out
          go_wp2
          go_ret
          exact ⟨hbx.out.1, by rw [← hN]; rfl⟩
end Go.Proofs.Ytfhhnfpapgfnmaa

set_option linter.unusedVariables false
set_option linter.unusedSectionVars false
set_option linter.unusedSimpArgs false
namespace Go.Proofs.Ytfhhnfpapgfnmaa
namespace FFld
/-! Orders of fields. -/
theorem prime_least {n p : Nat} (hp : 2 ≤ p) (hd : p ∣ n) (h : ∀ i, 2 ≤ i → i < p → ¬ i ∣ n) : Prime p := by
  refine ⟨hp, fun d hdp => ?_⟩
  have hd0 : d ≠ 0 := fun e => by subst e; rw [Nat.zero_dvd] at hdp; omega
  have hle := Nat.le_of_dvd (by omega) hdp
  by_cases h1 : d = 1
  · exact .inl h1
  · right
    rcases Nat.lt_or_ge d p with hlt | hge
    · exact absurd (Nat.dvd_trans hdp hd) (h d (by omega) hlt)
    · omega
theorem prime_pow_eq {p P K : Nat} (hp : Prime p) (hP : Prime P) (h : p ∣ P ^ K) : p = P := by
  induction K with
  | zero => rw [Nat.pow_zero] at h; have := Nat.le_of_dvd (by omega) h; have := hp.1; omega
  | succ K ih =>
    rw [Nat.pow_succ] at h
    rcases hp.dvd_mul h with h1 | h1
    · exact ih h1
    · rcases hP.2 p h1 with h2 | h2
      · have := hp.1; omega
      · exact h2
/-- n times p to the k is a power of a prime only if p divides n, or n is 1. -/
theorem not_power {p P K n k : Nat} (hp : Prime p) (hP : Prime P) (hk : 1 ≤ K) (h : n * p ^ k = P ^ K) (hd : p ∣ P ^ K) (hn : 1 < n) : p ∣ n := by
  have e := prime_pow_eq hp hP hd
  subst e
  rcases Nat.lt_or_ge k K with hlt | hge
  · have e1 : p ^ K = p * p ^ (K - k - 1) * p ^ k := by
      rw [← Nat.pow_succ', ← Nat.pow_add]
      congr 1
      omega
    rw [e1] at h
    have := Nat.eq_of_mul_eq_mul_right (Nat.pow_pos (by have := hp.1; omega)) h
    exact ⟨_, this⟩
  · have h1 : p ^ K ≤ p ^ k := Nat.pow_le_pow_right (by have := hp.1; omega) hge
    have h2 : 2 * p ^ k ≤ n * p ^ k := Nat.mul_le_mul_right _ hn
    have h3 : 0 < p ^ k := Nat.pow_pos (by have := hp.1; omega)
    omega
/-- There is a field of this order. -/
def Fit (q : Int) : Prop := ∃ D : FD, D.Ok ∧ q = D.q
theorem Fit.range {q : Int} (h : Fit q) : 2 ≤ q ∧ q ≤ 65536 := by
  obtain ⟨D, hD, rfl⟩ := h
  have h1 := hD.pre.pk.one_lt
  have h2 := hD.pre.small
  unfold FD.q at *
  omega
theorem Fit.no {p n k : Nat} {q : Int} (hq : q = ((n * p ^ k : Nat) : Int)) (hp : Prime p) (hd : p ∣ n * p ^ k) (hn : 1 < n) (h : ¬ p ∣ n) : ¬ Fit q := by
  rintro ⟨D, hD, e⟩
  have e1 : n * p ^ k = D.p ^ D.k := by unfold FD.q at e; omega
  exact h (not_power hp hD.pre.prime hD.pre.k1 e1 (e1 ▸ hd) hn)
theorem Fit.more {p n : Nat} {P : Nat} (hp : Prime p) (hP : Prime P) (hne : p ≠ P) (h1 : p ∣ n) (h2 : P ∣ n) : ¬ Fit (n : Int) := by
  rintro ⟨D, hD, e⟩
  have e1 : n = D.p ^ D.k := by unfold FD.q at e; omega
  rw [e1] at h1 h2
  exact hne ((prime_pow_eq hp hD.pre.prime h1).trans (prime_pow_eq hP hD.pre.prime h2).symm)
/-- How far the search for a divisor has come. -/
def DvAt_ (p k c d : Nat) (x : Nat) (ok : Bool) : Prop := if ok then (∀ e, 1 ≤ e → e < d → ∀ y, p ^ e ≤ y → y < 2 * p ^ e → pmul p e y 1 (k + 1) c ≠ 0) ∧ ∀ y, p ^ d ≤ y → y < x → pmul p d y 1 (k + 1) c ≠ 0 else ¬ Irr p k c
theorem DvAt_.start (p k c : Nat) : DvAt_ p k c 1 (p ^ 1) true := ⟨fun e h1 h2 => by omega, fun y h1 h2 => by omega⟩
theorem DvAt_.next {p k c d x : Nat} (h : DvAt_ p k c d x true) (hx : pmul p d x 1 (k + 1) c ≠ 0) : DvAt_ p k c d (x + 1) true :=
  ⟨h.1, fun y h1 h2 => by
    by_cases e : y = x
    · subst e; exact hx
    · exact h.2 y h1 (by omega)⟩
theorem DvAt_.fail {p k c d x : Nat} (h1 : 1 ≤ d) (h2 : 2 * d ≤ k) (hx1 : p ^ d ≤ x) (hx2 : x < 2 * p ^ d) (hx : pmul p d x 1 (k + 1) c = 0) (y : Nat) : DvAt_ p k c d y false := fun h => h d h1 h2 x hx1 hx2 hx
theorem DvAt_.row {p k c d : Nat} (h : DvAt_ p k c d (2 * p ^ d) true) : DvAt_ p k c (d + 1) (p ^ (d + 1)) true :=
  ⟨fun e h1 h2 y h3 h4 => by
    by_cases ee : e = d
    · subst ee; exact h.2 y h3 h4
    · exact h.1 e h1 (by omega) y h3 h4, fun y h1 h2 => by omega⟩
theorem DvAt_.done {p k c d x : Nat} (h : DvAt_ p k c d x true) (hd : k < 2 * d) : Irr p k c := fun e h1 h2 y h3 h4 => h.1 e h1 (by omega) y h3 h4
theorem FD.Ok.mod_is {D : FD} (h : D.Ok) (hk : 2 ≤ D.k) {c : Nat} (h1 : D.q ≤ c) (hc : c ≤ D.m) (hi : Irr D.p D.k c) : c = D.m := by
  rcases Nat.lt_or_ge c D.m with hlt | hge
  · exact absurd hi ((h.pre.mod2 hk).2.2.2 c h1 hlt)
  · omega
theorem FD.Ok.mod_not {D : FD} (h : D.Ok) (hk : 2 ≤ D.k) {c : Nat} (hc : c ≤ D.m) (hi : ¬ Irr D.p D.k c) : c + 1 ≤ D.m := by
  rcases Nat.lt_or_ge c D.m with hlt | hge
  · exact hlt
  · have : c = D.m := by omega
    subst this
    exact absurd (h.pre.mod2 hk).2.2.1 hi
end FFld
end Go.Proofs.Ytfhhnfpapgfnmaa

set_option linter.unusedVariables false
set_option linter.unusedSimpArgs false
namespace Go.Proofs.Ytfhhnfpapgfnmaa
open Go Go.RowKit
open FFld (ints)
theorem four_set {w : World} {g : Nat} {a b c d : Value} {T : TypeId} (h : w.heap[g]? = some (.cells #[a, b, c, d] T (0, 0))) (a' b' c' d' : Value) :
    ((((w.setCell ⟨g, 0, none⟩ a').setCell ⟨g, 1, none⟩ b').setCell ⟨g, 2, none⟩ c').setCell ⟨g, 3, none⟩ d').heap[g]? = some (.cells #[a', b', c', d'] T (0, 0)) := by
  have h1 := heap_setCell_same w g 0 _ T a' h
  have h2 := heap_setCell_same _ g 1 _ T b' h1
  have h3 := heap_setCell_same _ g 2 _ T c' h2
  have h4 := heap_setCell_same _ g 3 _ T d' h3
  simpa using h4
theorem four_frz {w : World} {g : Nat} {a b c d : Value} {T : TypeId} (h : w.heap[g]? = some (.cells #[a, b, c, d] T (0, 0))) :
    w.frozen? ⟨g, 0, none⟩ = false ∧ w.frozen? ⟨g, 1, none⟩ = false ∧ w.frozen? ⟨g, 2, none⟩ = false ∧ w.frozen? ⟨g, 3, none⟩ = false :=
  ⟨frozen_of_row w g 0 _ T h, frozen_of_row w g 1 _ T h, frozen_of_row w g 2 _ T h, frozen_of_row w g 3 _ T h⟩
theorem four_end {w W : World} {g : Nat} {a b c d : Value} {T : TypeId} (h : W.heap[g]? = some (.cells #[a, b, c, d] T (0, 0))) (hb : Below w.heap.size w W) (hg : w.heap.size ≤ g) (a' b' c' d' : Value) :
    Below w.heap.size w ((((W.setCell ⟨g, 0, none⟩ a').setCell ⟨g, 1, none⟩ b').setCell ⟨g, 2, none⟩ c').setCell ⟨g, 3, none⟩ d') ∧
    ((((W.setCell ⟨g, 0, none⟩ a').setCell ⟨g, 1, none⟩ b').setCell ⟨g, 2, none⟩ c').setCell ⟨g, 3, none⟩ d').cell? ⟨g, 0, none⟩ = some a' ∧
    ((((W.setCell ⟨g, 0, none⟩ a').setCell ⟨g, 1, none⟩ b').setCell ⟨g, 2, none⟩ c').setCell ⟨g, 3, none⟩ d').cell? ⟨g, 1, none⟩ = some b' ∧
    ((((W.setCell ⟨g, 0, none⟩ a').setCell ⟨g, 1, none⟩ b').setCell ⟨g, 2, none⟩ c').setCell ⟨g, 3, none⟩ d').cell? ⟨g, 2, none⟩ = some c' ∧
    ((((W.setCell ⟨g, 0, none⟩ a').setCell ⟨g, 1, none⟩ b').setCell ⟨g, 2, none⟩ c').setCell ⟨g, 3, none⟩ d').cell? ⟨g, 3, none⟩ = some d' :=
  ⟨(((hb.setCell (p := ⟨g, 0, none⟩) hg _).setCell (p := ⟨g, 1, none⟩) hg _).setCell (p := ⟨g, 2, none⟩) hg _).setCell (p := ⟨g, 3, none⟩) hg _, four_cells (four_set h a' b' c' d')⟩
abbrev rzero : Value := .agg #[.int .i64 0, .int .i64 0, .int .i64 0, .int .i64 0]
abbrev rzbox : Obj := .cells #[.int .i64 0, .int .i64 0, .int .i64 0, .int .i64 0] 23
/-- What New returns: the field, or none. -/
def RnRet (q : Int) (w : World) (e : Ending) (w' : World) : Prop := Below w.heap.size w w' ∧ ((∃ D : FFld.FD, D.Ok ∧ q = D.q ∧ e = .returned (.tuple #[rfv D.q D.p D.k D.m, .bool true])) ∨ (¬ FFld.Fit q ∧ e = .returned (.tuple #[rzero, .bool false])))
set_option maxRecDepth 20000 in
set_option maxHeartbeats 4000000 in
theorem rnew_any (q : Int) (w : World) (hr0 : -9223372036854775808 ≤ q) (hr1 : q ≤ 9223372036854775807) :
    Calls Try.prog 18 #[.int .i64 q] w (RnRet q w) := by
  have HX0 : Kept (Bxs w [rzbox] (w.alloc rzbox)) := ⟨(Bxs.start w).alloc (by simp) _⟩
  by_cases hin : 2 ≤ q ∧ q ≤ 65536
  · obtain ⟨n0, rfl⟩ : ∃ n0 : Nat, q = n0 := ⟨q.toNat, by omega⟩
    have h2 : 2 ≤ n0 := by omega
    have h6 : n0 ≤ 65536 := by omega
    clear hin hr0 hr1
    go_enter Try.func18, Try.ntmps18
    go_wp2
    go_loopw [4] (fun pv wr => ∃ (p : Nat), 2 ≤ p ∧ p ≤ n0 ∧ pv = .int .i64 p ∧ Kept (∀ i, 2 ≤ i → i < p → ¬ i ∣ n0) ∧ w.alloc rzbox = wr) (fun pv _ => n0 - (intOf pv).toNat)
    case atStart => exact ⟨2, Nat.le_refl _, h2, rfl, ⟨fun i h1 h2 => by omega⟩, rfl⟩
    case round =>
      obtain ⟨p, hp2, hpn, rfl, hno, rfl⟩ := hrel
      obtain ⟨s, hs⟩ : ∃ s, n0 % p = s := ⟨_, rfl⟩
      have es : (n0 : Int) % p = s := by rw [← hs]; rfl
      by_cases hs0 : s = 0
      · subst hs0
        have hd : p ∣ n0 := Nat.dvd_of_mod_eq_zero hs
        have hpr := FFld.prime_least hp2 hd hno.out
        have HPR := Kept.mk hpr
        have HD := Kept.mk hd
        have ez : (((0 : Nat) : Int) != 0) = false := rfl
        clear hs hd hpr hno
        go_wp2
        go_loopw [5, 6] (fun kv nv wr => ∃ (k n : Nat), 1 ≤ n ∧ n ≤ 65536 ∧ k ≤ 16 ∧ kv = .int .i64 k ∧ nv = .int .i64 n ∧ Kept (n * p ^ k = n0) ∧ w.alloc rzbox = wr) (fun _ nv _ => (intOf nv).toNat)
        case atStart => exact ⟨0, n0, by omega, h6, by omega, rfl, rfl, ⟨by simp⟩, rfl⟩
        case round =>
          obtain ⟨k, n, hn1, hn6, hk16, rfl, rfl, hnk, rfl⟩ := hrel
          by_cases h1 : 1 < n
          · obtain ⟨s, hs⟩ : ∃ s, n % p = s := ⟨_, rfl⟩
            obtain ⟨n', hn'⟩ : ∃ n', n / p = n' := ⟨_, rfl⟩
            have es : (n : Int) % p = s := by rw [← hs]; rfl
            have en : (n : Int) / p = n' := by rw [← hn']; rfl
            by_cases hs0 : s = 0
            · subst hs0
              have ez : (((0 : Nat) : Int) != 0) = false := rfl
              have hnn : n = p * n' := by rw [← hn']; exact (Nat.mul_div_cancel' (Nat.dvd_of_mod_eq_zero hs)).symm
              have hlt : n' < n := by rw [← hn']; exact Nat.div_lt_self (by omega) hp2
              have hn'1 : 1 ≤ n' := by
                rcases Nat.eq_zero_or_pos n' with h | h
                · subst h; omega
                · exact h
              have HNK : Kept (n' * p ^ (k + 1) = n0) := ⟨by rw [← hnk.out, hnn, Nat.pow_succ, Nat.mul_comm p n', Nat.mul_assoc, Nat.mul_comm p]⟩
              have hk15 : k + 1 ≤ 16 := by
                have h3 : p ^ (k + 1) ≤ n0 := by rw [← HNK.out]; exact Nat.le_mul_of_pos_left _ hn'1
                rcases Nat.lt_or_ge 16 (k + 1) with h | h
                · have h4 : 2 ^ 17 ≤ p ^ (k + 1) := Nat.le_trans (Nat.pow_le_pow_right (by omega) h) (Nat.pow_le_pow_left hp2 _)
                  rw [show (2 : Nat) ^ 17 = 131072 from rfl] at h4
                  generalize p ^ (k + 1) = z at *
                  omega
                · exact h
              clear hs hn' hnn hnk
              go_wp2
              go_roundw
              case rel => exact ⟨k + 1, n', hn'1, by omega, hk15, by go_num, rfl, HNK, trivial⟩
              case measure => simp [intOf] <;> omega
            · have ez : ((s : Int) != 0) = true := by rw [bne_iff_ne]; omega
              have hnf : Kept (¬ FFld.Fit (n0 : Int)) := ⟨FFld.Fit.no (by rw [hnk.out]) HPR.out (by rw [hnk.out]; exact HD.out) h1 (fun h => hs0 (by rw [← hs]; exact Nat.mod_eq_zero_of_dvd h))⟩
              obtain ⟨f0, f1, f2, f3⟩ := four_frz HX0.out.b0
              obtain ⟨c0, c1, c2, c3⟩ := four_cells HX0.out.b0
              clear hs hn' hnk hs0
              go_wp2
              exact bodyPost_ret (v := .tuple #[rzero, .bool false]) (by simp [results, Try.results18, go_sem, c0, c1, c2, c3]) rfl ⟨HX0.out.1, .inr ⟨hnf.out, rfl⟩⟩
          · obtain rfl : n = 1 := by omega
            have hqk : p ^ k = n0 := by have := hnk.out; rw [Nat.one_mul] at this; exact this
            have hk1 : 1 ≤ k := by
              rcases Nat.eq_zero_or_pos k with h | h
              · subst h; rw [Nat.pow_zero] at hqk; omega
              · exact h
            obtain ⟨m, g, hD⟩ := FFld.FD.exists p k HPR.out hk1 (by rw [hqk]; exact h6)
            have hq : (⟨p, k, m, g⟩ : FFld.FD).q = n0 := hqk
            have HQK := Kept.mk hqk
            have HDD := Kept.mk hD
            have HQQ := Kept.mk hq
            obtain ⟨f0, f1, f2, f3⟩ := four_frz HX0.out.b0
            clear hnk hqk hq
            by_cases hk1' : k = 1
            · subst hk1'
              have hm : m = p := hD.pre.mod1 rfl
              have ek : (((1 : Nat) : Int) == 1) = true := rfl
              have HB : Kept (Bxs w [rbox n0 p 1 p] (w.alloc (rbox n0 p 1 p))) := ⟨(Bxs.start w).alloc (by simp) _⟩
              obtain ⟨e0, e1, e2, e3⟩ := four_cells HB.out.b0
              have HM := Kept.mk hm
              clear hD hm
              go_wp2
              exact bodyPost_ret (v := .tuple #[rfv n0 p 1 p, .bool true]) (by simp [results, Try.results18, go_sem, e0, e1, e2, e3]) rfl ⟨HB.out.1, .inl ⟨_, HDD.out, by rw [HQQ.out], by rw [HQQ.out]; show _ = Ending.returned (.tuple #[rfv n0 p 1 m, .bool true]); rw [HM.out]⟩⟩
            · have hk2 : 2 ≤ k := by omega
              have ek : ((k : Int) == 1) = false := by rw [beq_eq_false_iff_ne]; omega
              have hpq : p ^ k ≤ 65536 := by have := HQK.out; omega
              have hqm : n0 ≤ m := by have := (hD.pre.mod2 hk2).1; rw [HQQ.out] at this; exact this
              have hm2 : m < 131072 := by have := (hD.pre.mod2 hk2).2.1; rw [HQQ.out] at this; have e : m < 2 * n0 := this; omega
              have hp256 : p ≤ 256 := by
                rcases Nat.lt_or_ge 256 p with h | h
                · have h3 : p ^ 2 ≤ p ^ k := Nat.pow_le_pow_right (by omega) hk2
                  have h4 := nmul_le (A := p) (B := p) (a := 257) (b := 257) h h
                  rw [Nat.pow_two] at h3
                  omega
                · exact h
              have hpk1 : p ^ (k + 1) ≤ 1099511627776 := by
                rw [Nat.pow_succ]
                exact Nat.le_trans (nmul_le (A := 65536) (B := 256) hpq hp256) (by omega)
              have hmk1 : 131072 ≤ p ^ (k + 1) ∨ 2 * n0 ≤ p ^ (k + 1) := .inr (by rw [Nat.pow_succ', HQK.out]; exact Nat.mul_le_mul_right _ hp2)
              have hRest := Kept.mk (fun W (c x d : Nat) (hd : 1 ≤ d) (hd2 : 2 * d ≤ k) (hc : c ≤ m) (h1 : p ^ d ≤ x) (h2 : x < 2 * p ^ d) => rrest_any c x p d (k + 1) W hp2 (by omega) hd (by
                have := (hD.pre.mod2 hk2).2.1
                rw [HQQ.out] at this
                have e : m < 2 * n0 := this
                have e2 : 2 * n0 ≤ p ^ (k + 1) := by rw [Nat.pow_succ', HQK.out]; exact Nat.mul_le_mul_right _ hp2
                omega) h1 h2 hpk1 (by
                have := Nat.pow_le_pow_right (n := p) (by omega) (show d ≤ k by omega)
                omega))
              have HIS := Kept.mk (fun (c : Nat) (h1 : n0 ≤ c) (hc : c ≤ m) (hi : FFld.Irr p k c) => FFld.FD.Ok.mod_is hD hk2 (c := c) (by rw [HQQ.out]; exact h1) hc hi)
              have HNOT := Kept.mk (fun (c : Nat) (hc : c ≤ m) (hi : ¬ FFld.Irr p k c) => FFld.FD.Ok.mod_not hD hk2 (c := c) hc hi)
              have hk17 : k ≤ 17 := by omega
              have hpd := Kept.mk (fun (d : Nat) (hd : 2 * d ≤ k) => show p ^ d ≤ 256 from by
                rcases Nat.lt_or_ge 256 (p ^ d) with h | h
                · have h3 : p ^ (2 * d) ≤ p ^ k := Nat.pow_le_pow_right (by omega) hd
                  have h4 := nmul_le (A := p ^ d) (B := p ^ d) (a := 257) (b := 257) h h
                  rw [Nat.two_mul, Nat.pow_add] at h3
                  generalize p ^ d * p ^ d = z at *
                  omega
                · exact h)
              have hk16' := hk16
              clear hD hmk1 hpk1 hpq
              go_wp2
              go_loopw [7] (fun mv wr => ∃ (c : Nat), n0 ≤ c ∧ c ≤ m ∧ mv = .int .i64 c ∧ Kept (Bxs w [rzbox] wr)) (fun mv _ => m - (intOf mv).toNat)
              case atStart => exact ⟨n0, Nat.le_refl _, hqm, rfl, HX0⟩
              case round =>
                obtain ⟨c, hc0, hcm, rfl, hbx⟩ := hrel
                go_wp2
                go_loopw [8, 9, 10] (fun ov fv dv wr => ∃ (ok : Bool) (f d : Nat), ov = .bool ok ∧ fv = .int .i64 f ∧ dv = .int .i64 d ∧ 1 ≤ d ∧ d ≤ 17 ∧ f ≤ 65536 ∧ Kept (ok = true → f = p ^ d) ∧ Kept (FFld.DvAt_ p k c d f ok) ∧ Kept (Bxs w [rzbox] wr)) (fun _ _ dv _ => 18 - (intOf dv).toNat)
                case atStart => exact ⟨true, p, 1, rfl, rfl, rfl, Nat.le_refl _, by omega, by omega, ⟨fun _ => (Nat.pow_one p).symm⟩, ⟨by have := FFld.DvAt_.start p k c; rw [Nat.pow_one] at this; exact this⟩, hbx⟩
                case round =>
                  obtain ⟨ok, f, d, rfl, rfl, rfl, hd1, hd17, hf6, hfp, hat, hbx⟩ := hrel
                  cases ok with
                  | false =>
                    have hN := HNOT.out c hcm hat.out
                    by_cases hlt : 2 * d ≤ k
                    · go_wp2
                      go_roundw
                      case rel => exact ⟨c + 1, by omega, hN, by go_num, hbx⟩
                      case measure => simp [intOf] <;> omega
                    · go_wp2
                      go_roundw
                      case rel => exact ⟨c + 1, by omega, hN, by go_num, hbx⟩
                      case measure => simp [intOf] <;> omega
                  | true =>
                    have hfe := hfp.out rfl
                    by_cases hlt : 2 * d ≤ k
                    · have hf256 : f ≤ 256 := by rw [hfe]; exact hpd.out d hlt
                      have HFE := Kept.mk hfe
                      obtain ⟨f', hf'⟩ : ∃ f', f * p = f' := ⟨_, rfl⟩
                      have hf'e : f' = p ^ (d + 1) := by rw [← hf', hfe, Nat.pow_succ]
                      have hf'6 : f' ≤ 65536 := by
                        rw [hf'e]
                        exact Nat.le_trans (Nat.pow_le_pow_right (by omega) (show d + 1 ≤ k by omega)) (by rw [HQK.out]; exact h6)
                      have ef : wrap64 ((f : Int) * p) = f' := wmul hf' (by omega)
                      have HF' := Kept.mk hf'e
                      clear hfe hf' hf'e
                      go_wp2
                      go_loopw [8, 11] (fun ov xv wr => ∃ (ok : Bool) (x : Nat), ov = .bool ok ∧ xv = .int .i64 x ∧ f ≤ x ∧ x ≤ 600 ∧ Kept (ok = true → x ≤ 2 * f) ∧ Kept (FFld.DvAt_ p k c d x ok) ∧ Kept (Bxs w [rzbox] wr)) (fun _ xv _ => 601 - (intOf xv).toNat)
                      case atStart => exact ⟨true, f, rfl, rfl, Nat.le_refl _, by omega, ⟨fun _ => by omega⟩, hat, hbx⟩
                      case round =>
                        obtain ⟨ok, x, rfl, rfl, hfx, hx6, hx2, hat, hbx⟩ := hrel
                        cases ok with
                        | false =>
                          by_cases hxl : x < 2 * f
                          · go_wp2
                            go_roundw
                            case rel => exact ⟨false, f', d + 1, rfl, congrArg (Value.int .i64) ef, by go_num, by omega, by omega, hf'6, ⟨fun h => by cases h⟩, hat, hbx⟩
                            case measure => simp [intOf] <;> omega
                          · go_wp2
                            go_roundw
                            case rel => exact ⟨false, f', d + 1, rfl, congrArg (Value.int .i64) ef, by go_num, by omega, by omega, hf'6, ⟨fun h => by cases h⟩, hat, hbx⟩
                            case measure => simp [intOf] <;> omega
                        | true =>
                          have hx2' := hx2.out rfl
                          by_cases hxl : x < 2 * f
                          · obtain ⟨v, hv⟩ : ∃ v, FFld.pmul p d x 1 (k + 1) c = v := ⟨_, rfl⟩
                            have hC := Kept.mk (fun W => hRest.out W c x d hd1 hlt hcm (by rw [← HFE.out]; exact hfx) (by rw [← HFE.out]; exact hxl))
                            rw [hv] at hC
                            by_cases hv0 : v = 0
                            · subst hv0
                              have HD2 := Kept.mk (FFld.DvAt_.fail hd1 hlt (by rw [← HFE.out]; exact hfx) (by rw [← HFE.out]; exact hxl) hv (x + 1))
                              have ev : (((0 : Nat) : Int) != 0) = false := rfl
                              clear hv
                              go_wp2_with fail
                              refine (hC.out _).mono ?_
                              rintro e w3 ⟨hb3, rfl⟩
                              have HX3 := Kept.mk (hbx.out.below hb3)
                              clear hb3
                              go_wp2
                              go_roundw
                              case rel => exact ⟨false, x + 1, rfl, by go_num, by omega, by omega, ⟨fun h => by cases h⟩, HD2, HX3⟩
                              case measure => simp [intOf] <;> omega
                            · have HD2 := Kept.mk (hat.out.next (by rw [hv]; exact hv0))
                              have ev : ((v : Int) != 0) = true := by rw [bne_iff_ne]; omega
                              clear hv hv0
                              go_wp2_with fail
                              refine (hC.out _).mono ?_
                              rintro e w3 ⟨hb3, rfl⟩
                              have HX3 := Kept.mk (hbx.out.below hb3)
                              clear hb3
                              go_wp2
                              go_roundw
                              case rel => exact ⟨true, x + 1, rfl, by go_num, by omega, by omega, ⟨fun _ => by omega⟩, HD2, HX3⟩
                              case measure => simp [intOf] <;> omega
                          · obtain rfl : x = 2 * f := by omega
                            have HD2 : Kept (FFld.DvAt_ p k c (d + 1) (p ^ (d + 1)) true) := ⟨by have := hat.out; rw [HFE.out] at this; exact this.row⟩
                            rw [← HF'.out] at HD2
                            go_wp2
                            go_roundw
                            case rel => exact ⟨true, f', d + 1, rfl, congrArg (Value.int .i64) ef, by go_num, by omega, by omega, hf'6, ⟨fun _ => HF'.out⟩, HD2, hbx⟩
                            case measure => simp [intOf] <;> omega
                    · have hI := HIS.out c hc0 hcm (hat.out.done (by omega))
                      obtain ⟨f0, f1, f2, f3⟩ := four_frz hbx.out.b0
                      obtain ⟨c0, c1, c2, c3⟩ := four_cells hbx.out.b0
                      obtain ⟨hb, e0, e1, e2, e3⟩ := four_end hbx.out.b0 hbx.out.1 (Nat.le_refl _) (.int .i64 n0) (.int .i64 p) (.int .i64 k) (.int .i64 c)
                      have HB := Kept.mk hb
                      have HI := Kept.mk hI
                      clear hb hI hfe
                      go_wp2
                      exact bodyPost_ret (v := .tuple #[rfv n0 p k c, .bool true]) (by simp [results, Try.results18, go_sem, e0, e1, e2, e3]) rfl ⟨HB.out, .inl ⟨_, HDD.out, by rw [HQQ.out], by rw [HQQ.out]; show _ = Ending.returned (.tuple #[rfv n0 p k m, .bool true]); rw [HI.out]⟩⟩
      · have hlt : p + 1 ≤ n0 := by
          rcases Nat.lt_or_ge p n0 with h | h
          · exact h
          · have : p = n0 := by omega
            subst this
            rw [Nat.mod_self] at hs
            omega
        have HNO := Kept.mk (show ∀ i, 2 ≤ i → i < p + 1 → ¬ i ∣ n0 from fun i h1 h2 hdv => by
          by_cases e : i = p
          · subst e; rw [Nat.mod_eq_zero_of_dvd hdv] at hs; omega
          · exact hno.out i h1 (by omega) hdv)
        have ez : ((s : Int) != 0) = true := by rw [bne_iff_ne]; omega
        clear hs hs0
        go_wp2
        go_roundw
        case rel => exact ⟨p + 1, by omega, hlt, by go_num, HNO, trivial⟩
        case measure => simp [intOf] <;> omega
  · have hnf : Kept (¬ FFld.Fit q) := ⟨fun h => hin h.range⟩
    obtain ⟨f0, f1, f2, f3⟩ := four_frz HX0.out.b0
    obtain ⟨c0, c1, c2, c3⟩ := four_cells HX0.out.b0
    have htest : q < 2 ∨ (¬ q < 2 ∧ 65536 < q) := by omega
    clear hin
    go_enter Try.func18, Try.ntmps18
    rcases htest with h | ⟨h, h'⟩
    all_goals
      go_wp2
      exact bodyPost_ret (v := .tuple #[rzero, .bool false]) (by simp [results, Try.results18, go_sem, c0, c1, c2, c3]) rfl ⟨HX0.out.1, .inr ⟨hnf.out, rfl⟩⟩
end Go.Proofs.Ytfhhnfpapgfnmaa
