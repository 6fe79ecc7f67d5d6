/-
  Texts of the proof, merged by program: Inz Gau Val Md Mf Mg Mh Mj Mk Mm Mn Gt Mo Mq Mr Moe Un Frb Ms.
-/
import Derived.Test.YtdnheaafcbihbaaGreatTq11
import Derived.BigRegion
import Derived.WalkMore
import Derived.BigQuiet
set_option linter.unusedSectionVars false
set_option linter.unusedSimpArgs false
set_option linter.unusedVariables false
set_option maxHeartbeats 16000000
namespace Go.Proofs.YtdnheaafcbihbaaGreat
open Go Go.RowKit
set_option maxRecDepth 20000 in
theorem isum_any {La Lb : Nat} {va vb : Value} {y z : Int} {w : World} (ha : IntV La w va y) (hb : IntV Lb w vb z) (h1 : La <= 1000) (h2 : Lb <= 1000) (hsm : smallB (y + z).natAbs = true) :
 Calls Tryz.prog 287 #[.agg #[], va, vb] w (RetInt 625 w (y + z)) := by
 have ha' := ha
 have hb' := hb
 obtain ⟨sa, ua, rfl, hsa, hna⟩ := ha
 obtain ⟨sb, ub, rfl, hsb, hnb⟩ := hb
 obtain ⟨ao, ka, ca, rfl⟩ := hna.form
 obtain ⟨bo, kb, cb, rfl⟩ := hnb.form
 have HX0 : Kept (Bxs w [.cells #[] 227, .cells #[.bool sa, .slice ao ka ca] 98, .cells #[.bool sb, .slice bo kb cb] 98, .cells #[.bool false, .slice none 0 0] 98] ((((w.alloc (.cells #[] 227)).alloc (.cells #[.bool sa, .slice ao ka ca] 98)).alloc (.cells #[.bool sb, .slice bo kb cb] 98)).alloc (.cells #[.bool false, .slice none 0 0] 98))) := ⟨((((Bxs.start w).alloc (by simp) _).alloc (by simp) _).alloc (by simp) _).alloc (by simp) _⟩
 have HA := Kept.mk (ha'.below HX0.out.1)
 have HB := Kept.mk (hb'.below HX0.out.1)
 obtain ⟨i0, i1, _⟩ := two_cells HX0.out.b1
 obtain ⟨j0, j1, _⟩ := two_cells (HX0.out.2.2 2 _ rfl)
 clear hsa hsb ha' hb'
 go_enter Tryz.func287, Tryz.ntmps287
 go_wp2_with fail
 refine (add_any HA.out HB.out (by omega) (by omega)).mono ?_
 intro e w1 hy
 obtain ⟨hb1, s, ao2, k2, c2, rfl, hI⟩ := YdRet.yes hy hsm
 have HX1 := Kept.mk (HX0.out.below hb1)
 have HI := Kept.mk hI
 have h3 := HX1.out.2.2 3 _ rfl
 have hl : w.heap.size + 3 < w1.heap.size := (Array.getElem?_eq_some_iff.1 h3).1
 obtain ⟨c0, c1, f0, f1⟩ := two_cells h3
 clear hy hb1 hI
 go_wp2
 have hset := two_set h3 (.bool s) (.slice ao2 k2 c2)
 have hgr : w1.grownBy ((w1.setCell ⟨w.heap.size + 3, 0, none⟩ (.bool s)).setCell ⟨w.heap.size + 3, 1, none⟩ (.slice ao2 k2 c2)) (some (w.heap.size + 3)) := growSet (growSet (growRefl _ _) _ _) _ _
 have hI2 := HI.out.keep h3 (fun i m e => by rcases i with _ | _ | i <;> simp at e) hgr
 have hbA : Below ((w1.setCell ⟨w.heap.size + 3, 0, none⟩ (.bool s)).setCell ⟨w.heap.size + 3, 1, none⟩ (.slice ao2 k2 c2)).heap.size ((w1.setCell ⟨w.heap.size + 3, 0, none⟩ (.bool s)).setCell ⟨w.heap.size + 3, 1, none⟩ (.slice ao2 k2 c2)) (((w1.setCell ⟨w.heap.size + 3, 0, none⟩ (.bool s)).setCell ⟨w.heap.size + 3, 1, none⟩ (.slice ao2 k2 c2)).alloc (.cells #[.bool s, .slice ao2 k2 c2] 98)) := (Below.refl _ _).alloc (Nat.le_refl _) _
 have hbb := ((HX1.out.1.setCell (p := ⟨w.heap.size + 3, 0, none⟩) (by simp) (.bool s)).setCell (p := ⟨w.heap.size + 3, 1, none⟩) (by simp) (.slice ao2 k2 c2))
 obtain ⟨q0, q1, _⟩ := two_cells ((hbA.block _ (Array.getElem?_eq_some_iff.1 hset).1).trans hset)
 exact bodyPost_ret (v := .agg #[.bool s, .slice ao2 k2 c2]) (by simp [results, Tryz.results287, go_sem, q0, q1]) rfl ⟨hbb.trans (hbA.mono hbb.size), _, rfl, hI2.below hbA⟩
set_option maxRecDepth 20000 in
theorem iproduct_any {La Lb : Nat} {va vb : Value} {y z : Int} {w : World} (ha : IntV La w va y) (hb : IntV Lb w vb z) (h1 : La <= 1000) (h2 : Lb <= 1000) (hsm : smallB (y * z).natAbs = true) :
 Calls Tryz.prog 286 #[.agg #[], va, vb] w (RetInt 625 w (y * z)) := by
 have ha' := ha
 have hb' := hb
 obtain ⟨sa, ua, rfl, hsa, hna⟩ := ha
 obtain ⟨sb, ub, rfl, hsb, hnb⟩ := hb
 obtain ⟨ao, ka, ca, rfl⟩ := hna.form
 obtain ⟨bo, kb, cb, rfl⟩ := hnb.form
 have HX0 : Kept (Bxs w [.cells #[] 227, .cells #[.bool sa, .slice ao ka ca] 98, .cells #[.bool sb, .slice bo kb cb] 98, .cells #[.bool false, .slice none 0 0] 98] ((((w.alloc (.cells #[] 227)).alloc (.cells #[.bool sa, .slice ao ka ca] 98)).alloc (.cells #[.bool sb, .slice bo kb cb] 98)).alloc (.cells #[.bool false, .slice none 0 0] 98))) := ⟨((((Bxs.start w).alloc (by simp) _).alloc (by simp) _).alloc (by simp) _).alloc (by simp) _⟩
 have HA := Kept.mk (ha'.below HX0.out.1)
 have HB := Kept.mk (hb'.below HX0.out.1)
 obtain ⟨i0, i1, _⟩ := two_cells HX0.out.b1
 obtain ⟨j0, j1, _⟩ := two_cells (HX0.out.2.2 2 _ rfl)
 clear hsa hsb ha' hb'
 go_enter Tryz.func286, Tryz.ntmps286
 go_wp2_with fail
 refine (mul_any HA.out HB.out (by omega) (by omega)).mono ?_
 intro e w1 hy
 obtain ⟨hb1, s, ao2, k2, c2, rfl, hI⟩ := YdRet.yes hy hsm
 have HX1 := Kept.mk (HX0.out.below hb1)
 have HI := Kept.mk hI
 have h3 := HX1.out.2.2 3 _ rfl
 have hl : w.heap.size + 3 < w1.heap.size := (Array.getElem?_eq_some_iff.1 h3).1
 obtain ⟨c0, c1, f0, f1⟩ := two_cells h3
 clear hy hb1 hI
 go_wp2
 have hset := two_set h3 (.bool s) (.slice ao2 k2 c2)
 have hgr : w1.grownBy ((w1.setCell ⟨w.heap.size + 3, 0, none⟩ (.bool s)).setCell ⟨w.heap.size + 3, 1, none⟩ (.slice ao2 k2 c2)) (some (w.heap.size + 3)) := growSet (growSet (growRefl _ _) _ _) _ _
 have hI2 := HI.out.keep h3 (fun i m e => by rcases i with _ | _ | i <;> simp at e) hgr
 have hbA : Below ((w1.setCell ⟨w.heap.size + 3, 0, none⟩ (.bool s)).setCell ⟨w.heap.size + 3, 1, none⟩ (.slice ao2 k2 c2)).heap.size ((w1.setCell ⟨w.heap.size + 3, 0, none⟩ (.bool s)).setCell ⟨w.heap.size + 3, 1, none⟩ (.slice ao2 k2 c2)) (((w1.setCell ⟨w.heap.size + 3, 0, none⟩ (.bool s)).setCell ⟨w.heap.size + 3, 1, none⟩ (.slice ao2 k2 c2)).alloc (.cells #[.bool s, .slice ao2 k2 c2] 98)) := (Below.refl _ _).alloc (Nat.le_refl _) _
 have hbb := ((HX1.out.1.setCell (p := ⟨w.heap.size + 3, 0, none⟩) (by simp) (.bool s)).setCell (p := ⟨w.heap.size + 3, 1, none⟩) (by simp) (.slice ao2 k2 c2))
 obtain ⟨q0, q1, _⟩ := two_cells ((hbA.block _ (Array.getElem?_eq_some_iff.1 hset).1).trans hset)
 exact bodyPost_ret (v := .agg #[.bool s, .slice ao2 k2 c2]) (by simp [results, Tryz.results286, go_sem, q0, q1]) rfl ⟨hbb.trans (hbA.mono hbb.size), _, rfl, hI2.below hbA⟩
end Go.Proofs.YtdnheaafcbihbaaGreat
namespace Go.Proofs.YtdnheaafcbihbaaGreat
namespace FFld
def evz (q : Int) : List Int -> Int
 | [] => 0
 | c :: l => c + q * evz q l
def adz : List Int -> List Int -> List Int
 | [], b => b
 | a, [] => a
 | x :: a, y :: b => (x + y) :: adz a b
theorem evz_cong (q r n m : Int) (h : q = r + n * m) : ∀ l, ∃ k, evz q l = evz r l + n * k
 | [] => ⟨0, by simp [evz]⟩
 | c :: l => by
   obtain ⟨k, hk⟩ := evz_cong q r n m h l
   refine ⟨r * k + m * evz q l, ?_⟩
   simp only [evz]
   have e1 : q * evz q l = r * evz q l + n * m * evz q l := by rw [<- Int.add_mul, <- h]
   have e2 : r * evz q l = r * evz r l + r * (n * k) := by rw [hk, Int.mul_add]
   have e3 : n * (r * k + m * evz q l) = r * (n * k) + n * m * evz q l := by rw [Int.mul_add, Int.mul_left_comm, Int.mul_assoc]
   omega
def pls (n : Nat) : List Nat := (List.range (n + 1)).filter fun f => isP f && (n % f == 0)
def muT (n : Nat) : Int := if (pls n).any (fun f => n % (f * f) == 0) then 0 else if (pls n).length % 2 == 0 then 1 else -1
theorem Facs.perm {n : Nat} {l : List Nat} (h : Facs n l) (hn : 1 <= n) : l.Perm (pls n) := by
 refine (List.perm_ext_iff_of_nodup h.nodup (List.nodup_range.filter _)).2 fun f => ?_
 rw [h.mem, List.mem_filter, List.mem_range, Bool.and_eq_true, isP_iff, beq_iff_eq]
 constructor
 ·intro ⟨h1, h2⟩
  have := Nat.le_of_dvd (by omega) h2
  exact ⟨by omega, h1, Nat.mod_eq_zero_of_dvd h2⟩
 ·intro ⟨_, h1, h2⟩
  exact ⟨h1, Nat.dvd_of_mod_eq_zero h2⟩
theorem mu_zero {n f : Nat} {l : List Nat} (h : Facs n l) (hn : 1 <= n) (hf : f ∈ l) (hz : n % (f * f) = 0) : muT n = 0 := by
 unfold muT
 rw [if_pos]
 exact List.any_eq_true.2 ⟨f, (h.perm hn).mem_iff.1 hf, by rw [hz]; rfl⟩
theorem mu_sign {n : Nat} {l : List Nat} (h : Facs n l) (hn : 1 <= n) (ha : ∀ f ∈ l, n % (f * f) ≠ 0) : muT n = if l.length % 2 = 0 then 1 else -1 := by
 unfold muT
 rw [if_neg, <- (h.perm hn).length_eq]
 ·simp
 ·intro hc
  obtain ⟨f, hf, hz⟩ := List.any_eq_true.1 hc
  exact ha f ((h.perm hn).mem_iff.2 hf) (by simpa using hz)
theorem mu_in : ∀ n : Nat, n < 41 -> -1 <= muT n /\ muT n <= 1 := by decide +kernel
def cfz (n : Nat) : List Int := (List.range (n + 1)).map fun d => if d = 0 then 0 else if n % d = 0 then muT (n / d) else 0
def sumz (n : Nat) : List Int := (List.range (n + 1)).foldl (fun s d => if d = 0 then s else if n % d = 0 then adz s (cfz d) else s) []
theorem gauss_dvd_dec : ∀ n : Nat, n < 41 -> ∀ r : Nat, r < n -> evz (r : Int) (cfz n) % (n : Int) = 0 := by decide +kernel
theorem gauss_dvd {n : Nat} (h1 : 1 <= n) (hn : n <= 40) (q : Int) : ∃ k, evz q (cfz n) = n * k := by
 have hm : 0 <= q % n := Int.emod_nonneg _ (by omega)
 have hl : q % n < n := Int.emod_lt_of_pos _ (by omega)
 obtain ⟨r, hr⟩ : ∃ r : Nat, q % n = r := ⟨(q % n).toNat, by omega⟩
 obtain ⟨k, hk⟩ := evz_cong q (q % n) n (q / n) (by have := Int.emod_add_mul_ediv q n; omega) (cfz n)
 have h0 := gauss_dvd_dec n (by omega) r (by omega)
 rw [hr] at hk
 have h2 := Int.emod_add_mul_ediv (evz (r : Int) (cfz n)) n
 rw [h0] at h2
 exact ⟨evz (r : Int) (cfz n) / n + k, by rw [Int.mul_add]; omega⟩
theorem cfz_len (n : Nat) : (cfz n).length = n + 1 := by simp [cfz]
theorem cfz_get {n d : Nat} (hd : d <= n) : (cfz n)[d]?.getD 0 = if d = 0 then 0 else if n % d = 0 then muT (n / d) else 0 := by
 unfold cfz
 rw [List.getElem?_map, List.getElem?_range (by omega)]
 rfl
def hz (l : List Int) (q : Int) : Nat -> Int
 | 0 => 0
 | i + 1 => hz l q i * q + l[l.length - 1 - i]?.getD 0
theorem hz_evz (l : List Int) (q : Int) : ∀ i, i <= l.length -> hz l q i = evz q (l.drop (l.length - i))
 | 0, _ => by simp [hz, evz]
 | i + 1, hi => by
   have e : l.drop (l.length - (i + 1)) = (l[l.length - 1 - i]?.getD 0) :: l.drop (l.length - i) := by
    rw [List.drop_eq_getElem_cons (by omega)]
    congr 1
    ·rw [List.getElem?_eq_getElem (by omega)]
     simp only [Option.getD_some]
     congr 1
     omega
    ·congr 1
     omega
   rw [e]
   simp only [hz, evz]
   rw [hz_evz l q i (by omega), Int.mul_comm]
   omega
theorem hz_all (l : List Int) (q : Int) : hz l q l.length = evz q l := by
 rw [hz_evz l q _ (Nat.le_refl _), Nat.sub_self, List.drop_zero]
def irrs (q n : Nat) : Int := evz q (cfz n) / n
theorem irrs_mul {q n : Nat} (h1 : 1 <= n) (hn : n <= 40) : (n : Int) * irrs q n = evz q (cfz n) := by
 obtain ⟨k, hk⟩ := gauss_dvd h1 hn q
 unfold irrs
 rw [hk, Int.mul_ediv_cancel_left _ (by omega)]
def dsum (f : Nat -> Int) (n : Nat) : Nat -> Int
 | 0 => 0
 | i + 1 => if n % (i + 1) = 0 then dsum f n i + (i + 1 : Nat) * f (i + 1) else dsum f n i
end FFld
end Go.Proofs.YtdnheaafcbihbaaGreat
namespace Go.Proofs.YtdnheaafcbihbaaGreat
open Go Go.RowKit
namespace FFld
def hzF (F : Nat -> Int) (N : Nat) (q : Int) : Nat -> Int
 | 0 => 0
 | i + 1 => hzF F N q i * q + F (N - 1 - i)
theorem hzF_le {F : Nat -> Int} (hF : ∀ d, -1 <= F d /\ F d <= 1) (N : Nat) {q : Nat} (hq : q <= 65536) : ∀ i, (hzF F N q i).natAbs + 1 <= 2 ^ (17 * i)
 | 0 => by simp [hzF]
 | i + 1 => by
   have ih := hzF_le hF N hq i
   have h1 := hF (N - 1 - i)
   have e : (hzF F N q (i + 1)).natAbs <= (hzF F N q i).natAbs * q + 1 := by
    have e1 : hzF F N q (i + 1) = hzF F N q i * q + F (N - 1 - i) := rfl
    rw [e1]
    have e2 : (hzF F N q i * (q : Int)).natAbs = (hzF F N q i).natAbs * q := by rw [Int.natAbs_mul]; rfl
    omega
   have e3 : (hzF F N q i).natAbs * q <= (hzF F N q i).natAbs * 65536 := Nat.mul_le_mul_left _ hq
   have e4 : 2 ^ (17 * (i + 1)) = 2 ^ (17 * i) * 131072 := by rw [Nat.mul_add, Nat.pow_add]
   have e5 : 1 <= 2 ^ (17 * i) := Nat.pow_pos (by omega)
   omega
end FFld
theorem small_pow {z : Int} {k : Nat} (h : z.natAbs + 1 <= 2 ^ k) (hk : k <= 1000) : smallB z.natAbs = true := by
 unfold smallB
 rw [decide_eq_true_eq]
 have h1 : 2 ^ k <= 2 ^ maxBits := Nat.pow_le_pow_right (by omega) (Nat.le_trans hk (by unfold maxBits; omega))
 have h2 : z.natAbs < 2 ^ maxBits := by omega
 have h3 : ((z.natAbs : Nat) : Int) < ((2 ^ maxBits : Nat) : Int) := by omega
 rw [Int.natCast_pow] at h3
 exact h3
theorem ring_sum : ∀ W, (method 378 227 (.agg #[]) "dauber/field.sum").run Tryz.prog W = .ok (287, .agg #[]) W := fun W => by kernel_rfl
theorem ring_product : ∀ W, (method 378 227 (.agg #[]) "dauber/field.product").run Tryz.prog W = .ok (286, .agg #[]) W := fun W => by kernel_rfl
theorem ring_nil : ∀ W, (nilAhead 378 227 (.agg #[]) "dauber/field.sum").run Tryz.prog W = .ok (some false) W := fun W => by kernel_rfl
set_option maxRecDepth 20000 in
theorem value_any {g N q : Nat} {F : Nat -> Int} {vx : Value} {w : World} (hc : Cz w g N F) (hF : ∀ d, -1 <= F d /\ F d <= 1) (hN : N <= 41) (hx : IntV 1 w vx q) (hq : q <= 65536) :
 Calls Tryz.prog 214 #[.iface 227 (.agg #[]), .slice (some ⟨g, 0, none⟩) N N, vx] w (RetInt 625 w (FFld.hzF F N q N)) := by
 have hx' := hx
 obtain ⟨sx, sv, rfl, hsx, hnx⟩ := hx
 obtain ⟨xo, xk, xc, rfl⟩ := hnx.form
 have hgl := hc.lt
 have HX0 : Kept (Bxs w [.cells #[.bool sx, .slice xo xk xc] 98, .cells #[.bool false, .slice none 0 0] 98, .cells #[.bool false, .slice none 0 0] 98] (((w.alloc (.cells #[.bool sx, .slice xo xk xc] 98)).alloc (.cells #[.bool false, .slice none 0 0] 98)).alloc (.cells #[.bool false, .slice none 0 0] 98))) := ⟨(((Bxs.start w).alloc (by simp) _).alloc (by simp) _).alloc (by simp) _⟩
 have HC := Kept.mk hc
 have HX := Kept.mk hx'
 have HLE := Kept.mk (fun i => FFld.hzF_le hF N hq i)
 have HFB := Kept.mk hF
 have hms := ring_sum
 have hmp := ring_product
 have hmn := ring_nil
 have hz1 : Kept (IntV 625 (((w.alloc (.cells #[.bool sx, .slice xo xk xc] 98)).alloc (.cells #[.bool false, .slice none 0 0] 98)).alloc (.cells #[.bool false, .slice none 0 0] 98)) (.agg #[.bool false, .slice none 0 0]) (FFld.hzF F N q 0)) := ⟨IntV.zero _ _⟩
 clear hc hx' hsx hnx hF
 go_enter Tryz.func214, Tryz.ntmps214
 go_wp2
 go_loopw [8] (fun iv wr => ∃ (i : Nat) (s : Bool) (ro : Option Addr) (rk rc : Nat), i <= N /\ iv = .int .i64 ((N : Int) - 1 - i) /\ Kept (Below w.heap.size w wr) /\ Kept (wr.heap[w.heap.size]? = some (.cells #[.bool sx, .slice xo xk xc] 98 (0, 0))) /\ Kept (wr.heap[w.heap.size + 1]? = some (.cells #[.bool false, .slice none 0 0] 98 (0, 0))) /\ Kept (wr.heap[w.heap.size + 2]? = some (.cells #[.bool s, .slice ro rk rc] 98 (0, 0))) /\ Kept (IntV 625 wr (.agg #[.bool s, .slice ro rk rc]) (FFld.hzF F N q i))) (fun iv _ => (intOf iv + 1).toNat)
 case atStart => exact ⟨0, false, none, 0, 0, Nat.zero_le _, by go_num, ⟨HX0.out.1⟩, ⟨HX0.out.b0⟩, ⟨HX0.out.b1⟩, ⟨HX0.out.2.2 2 _ rfl⟩, hz1⟩
 case round =>
  obtain ⟨i, s, ro, rk, rc, hiN, rfl, hbw, hb5, hb6, hb7, hI⟩ := hrel
  have hbx5 := hb5.out
  have hbx7 := hb7.out
  have hl7 : w.heap.size + 2 < wr.heap.size := (Array.getElem?_eq_some_iff.1 hbx7).1
  by_cases hlt : i < N
  ·obtain ⟨j, hj⟩ : ∃ j, N - 1 - i = j := ⟨_, rfl⟩
   have hj1 : (N : Int) - 1 - i = j := by omega
   rw [hj1]
   have hjN : j < N := by omega
   obtain ⟨sc, co, ck, cc, q2, q3, hci⟩ := (HC.out.below hbw.out).at hjN
   obtain ⟨q0, q1, _⟩ := two_cells hbx5
   obtain ⟨m0, m1, x0, x1⟩ := two_cells hbx7
   obtain ⟨h, hh⟩ : ∃ h, FFld.hzF F N q i = h := ⟨_, rfl⟩
   obtain ⟨h2, hh2⟩ : ∃ h, FFld.hzF F N q (i + 1) = h := ⟨_, rfl⟩
   have hrec : h * q + F j = h2 := by rw [<- hh2, <- hh, <- hj]; rfl
   have HCI := Kept.mk hci
   have HXI := Kept.mk (HX.out.below hbw.out)
   have HBW := Kept.mk hbw.out
   rw [hh] at hI
   have HI := hI
   have b1 := HLE.out i
   have b2 := HLE.out (i + 1)
   rw [hh] at b1
   rw [hh2] at b2
   have hsp : smallB (h * (q : Int)).natAbs = true := small_pow (k := 17 * i + 17) (by
    have e2 : (h * (q : Int)).natAbs = h.natAbs * q := by rw [Int.natAbs_mul]; rfl
    have e3 : h.natAbs * q <= h.natAbs * 65536 := Nat.mul_le_mul_left _ hq
    have e4 : 2 ^ (17 * i + 17) = 2 ^ (17 * i) * 131072 := by rw [Nat.pow_add]
    omega) (by omega)
   have hss : smallB (h * (q : Int) + F j).natAbs = true := by rw [hrec]; exact small_pow b2 (by omega)
   have HPR : Kept (∀ W, IntV 625 W (.agg #[.bool s, .slice ro rk rc]) h -> IntV 1 W (.agg #[.bool sx, .slice xo xk xc]) q -> Calls Tryz.prog 286 #[.agg #[], .agg #[.bool s, .slice ro rk rc], .agg #[.bool sx, .slice xo xk xc]] W (RetInt 625 W (h * q))) := ⟨fun W h1 h2 => iproduct_any h1 h2 (by omega) (by omega) hsp⟩
   have HSU : Kept (∀ W {v2 vc : Value}, IntV 625 W v2 (h * q) -> IntV 1 W vc (F j) -> Calls Tryz.prog 287 #[.agg #[], v2, vc] W (RetInt 625 W h2)) := ⟨fun W v2 vc h1 h2' => by have := isum_any h1 h2' (by omega) (by omega) hss; rewrite [hrec] at this; exact this⟩
   have HH2 : Kept (FFld.hzF F N q (i + 1) = h2) := ⟨hh2⟩
   have hlj : (j : Int) < (N : Int) := by omega
   have hj0 : (0 : Int) <= (j : Int) := by omega
   have hgw : g < wr.heap.size := by omega
   clear hci hh hh2 hrec b1 b2 hsp hss hI hj hbw
   go_wp2
   refine wp_region_held_drew (S := fun w' => w'.cell? ⟨w.heap.size, 0, none⟩ = some (.bool sx) /\ w'.cell? ⟨w.heap.size, 1, none⟩ = some (.slice xo xk xc) /\ w'.cell? ⟨g, j * 2, none⟩ = some (.bool sc) /\ w'.cell? ⟨g, j * 2 + 1, none⟩ = some (.slice co ck cc)) (by kernel_rfl) ⟨q0, q1, q2, q3⟩ (fun hHeld => ?_)
   refine wpAnyH_take (i := 0) (v := ?_) rfl (by kernel_rfl) (by kernel_rfl) (by kernel_rfl) (fun _ _ _ h => h) (Or.inl ⟨by rfl, ?_⟩) (by assumption) ?_
   rotate_left
   ·(intro w hSw; (try dsimp only at hSw); go_simp; (try with_reducible rfl))
   try simp only [Act.put, List.getElem_toArray, List.getElem_cons_succ, List.getElem_cons_zero, List.setIfInBounds_toArray, List.set_cons_zero, List.set_cons_succ]
   refine wpAnyH_take (i := 1) (v := ?_) rfl (by kernel_rfl) (by kernel_rfl) (by kernel_rfl) (fun _ _ _ h => h) (Or.inl ⟨by rfl, ?_⟩) (by assumption) ?_
   rotate_left
   ·(intro w hSw; (try dsimp only at hSw); go_simp; (try with_reducible rfl))
   try simp only [Act.put, List.getElem_toArray, List.getElem_cons_succ, List.getElem_cons_zero, List.setIfInBounds_toArray, List.set_cons_zero, List.set_cons_succ]
   refine wpAnyH_take (i := 3) (v := ?_) rfl (by kernel_rfl) (by kernel_rfl) (by kernel_rfl) (fun _ _ _ h => h) (Or.inl ⟨by rfl, ?_⟩) (by assumption) ?_
   rotate_left
   ·(intro w hSw; (try dsimp only at hSw); go_simp; (try with_reducible rfl))
   try simp only [Act.put, List.getElem_toArray, List.getElem_cons_succ, List.getElem_cons_zero, List.setIfInBounds_toArray, List.set_cons_zero, List.set_cons_succ]
   refine wpAnyH_take (i := 5) (v := ?_) rfl (by kernel_rfl) (by kernel_rfl) (by kernel_rfl) (fun _ _ _ h => h) (Or.inl ⟨by rfl, ?_⟩) (by assumption) ?_
   rotate_left
   ·(intro w hSw; (try dsimp only at hSw); go_simp; (try with_reducible rfl))
   try simp only [Act.put, List.getElem_toArray, List.getElem_cons_succ, List.getElem_cons_zero, List.setIfInBounds_toArray, List.set_cons_zero, List.set_cons_succ]
   refine wpAnyH_take (i := 6) (v := ?_) rfl (by kernel_rfl) (by kernel_rfl) (by kernel_rfl) (fun _ _ _ h => h) (Or.inl ⟨by rfl, ?_⟩) (by assumption) ?_
   rotate_left
   ·(intro w hSw; (try dsimp only at hSw); go_simp; (try with_reducible rfl))
   try simp only [Act.put, List.getElem_toArray, List.getElem_cons_succ, List.getElem_cons_zero, List.setIfInBounds_toArray, List.set_cons_zero, List.set_cons_succ]
   refine wpAnyH_take (i := 7) (v := ?_) rfl (by kernel_rfl) (by kernel_rfl) (by kernel_rfl) (fun _ _ _ h => h) (Or.inl ⟨by rfl, ?_⟩) (by assumption) ?_
   rotate_left
   ·(intro w hSw; (try dsimp only at hSw); go_simp; (try with_reducible rfl))
   try simp only [Act.put, List.getElem_toArray, List.getElem_cons_succ, List.getElem_cons_zero, List.setIfInBounds_toArray, List.set_cons_zero, List.set_cons_succ]
   refine wpAnyH_take (i := 8) (v := ?_) rfl (by kernel_rfl) (by kernel_rfl) (by kernel_rfl) (fun _ _ _ h => h) (Or.inl ⟨by rfl, ?_⟩) (by assumption) ?_
   rotate_left
   ·(intro w hSw; (try dsimp only at hSw); go_simp; (try with_reducible rfl))
   try simp only [Act.put, List.getElem_toArray, List.getElem_cons_succ, List.getElem_cons_zero, List.setIfInBounds_toArray, List.set_cons_zero, List.set_cons_succ]
   refine wpAnyH_take (i := 9) (v := ?_) rfl (by kernel_rfl) (by kernel_rfl) (by kernel_rfl) (fun _ _ _ h => h) (Or.inl ⟨by rfl, ?_⟩) (by assumption) ?_
   rotate_left
   ·(intro w hSw; (try dsimp only at hSw); go_simp; (try with_reducible rfl))
   try simp only [Act.put, List.getElem_toArray, List.getElem_cons_succ, List.getElem_cons_zero, List.setIfInBounds_toArray, List.set_cons_zero, List.set_cons_succ]
   refine wpAnyH_take (i := 10) (v := ?_) rfl (by kernel_rfl) (by kernel_rfl) (by kernel_rfl) (fun _ _ _ h => h) (Or.inl ⟨by rfl, ?_⟩) (by assumption) ?_
   rotate_left
   ·(intro w hSw; (try dsimp only at hSw); go_simp; (try with_reducible rfl))
   try simp only [Act.put, List.getElem_toArray, List.getElem_cons_succ, List.getElem_cons_zero, List.setIfInBounds_toArray, List.set_cons_zero, List.set_cons_succ]
   refine wpAnyH_take (i := 11) (v := ?_) rfl (by kernel_rfl) (by kernel_rfl) (by kernel_rfl) (fun _ _ _ h => h) (Or.inl ⟨by rfl, ?_⟩) (by assumption) ?_
   rotate_left
   ·(intro w hSw; (try dsimp only at hSw); go_simp; (try with_reducible rfl))
   try simp only [Act.put, List.getElem_toArray, List.getElem_cons_succ, List.getElem_cons_zero, List.setIfInBounds_toArray, List.set_cons_zero, List.set_cons_succ]
   refine wpAnyH_ready (rs := [2]) (by kernel_rfl) (by simp) ?_
   refine (AllReadyH.cons rfl (fun K hK => ?_) AllReadyH.nil)
   go_simp
   refine hK.out _ _ ⟨q0, q1, q2, q3⟩ (fun hHeld => ?_)
   clear hK K
   try simp only [Act.put, List.getElem_toArray, List.getElem_cons_succ, List.getElem_cons_zero, List.setIfInBounds_toArray, List.set_cons_zero, List.set_cons_succ]
   refine wpAnyH_ready (rs := [4]) (by kernel_rfl) (by simp) ?_
   refine (AllReadyH.cons rfl (fun K hK => ?_) AllReadyH.nil)
   go_simp
   refine (HPR.out _ (by exact HI.out.below (Below.refl _ _).drew) (by exact HXI.out.below (Below.refl _ _).drew)).mono ?_
   rintro e w2 ⟨hb2, v2, rfl, hI2⟩
   obtain ⟨s2, sv2, rfl, hs2, hn2⟩ := hI2
   obtain ⟨o2, k2, c2, rfl⟩ := hn2.form
   have hR2 : Below wr.heap.size wr w2 := (Below.refl _ _).drew.trans hb2
   have p0 := belowCell hR2 q0
   have p1 := belowCell hR2 q1
   have p2 := belowCell hR2 q2
   have p3 := belowCell hR2 q3
   have HI2 : Kept (IntV 625 w2 (.agg #[.bool s2, .slice o2 k2 c2]) (h * q)) := ⟨⟨_, _, rfl, hs2, hn2⟩⟩
   have HCI2 := Kept.mk (HCI.out.below hR2)
   have HR2 := Kept.mk hR2
   clear hb2 hR2 hs2 hn2
   refine hK.out _ _ ⟨p0, p1, p2, p3⟩ (fun hHeld => ?_)
   clear hK K
   try simp only [Act.put, List.getElem_toArray, List.getElem_cons_succ, List.getElem_cons_zero, List.setIfInBounds_toArray, List.set_cons_zero, List.set_cons_succ]
   refine wpAnyH_ready (rs := [12]) (by kernel_rfl) (by simp) ?_
   refine (AllReadyH.cons rfl (fun K hK => ?_) AllReadyH.nil)
   go_simp
   refine (HSU.out _ HI2.out HCI2.out).mono ?_
   rintro e w3 ⟨hb3, v3, rfl, hI3⟩
   obtain ⟨s3, sv3, rfl, hs3, hn3⟩ := hI3
   obtain ⟨o3, k3, c3, rfl⟩ := hn3.form
   have hR3 : Below wr.heap.size wr w3 := HR2.out.trans (hb3.mono HR2.out.size)
   have r0 := belowCell hR3 q0
   have r1 := belowCell hR3 q1
   have r2 := belowCell hR3 q2
   have r3 := belowCell hR3 q3
   have HI3 : Kept (IntV 625 w3 (.agg #[.bool s3, .slice o3 k3 c3]) h2) := ⟨⟨_, _, rfl, hs3, hn3⟩⟩
   have hx3 := (hR3.block _ (by omega)).trans hbx7
   obtain ⟨t0, t1, y0, y1⟩ := two_cells hx3
   have hl3 : w.heap.size + 2 < w3.heap.size := (Array.getElem?_eq_some_iff.1 hx3).1
   have hset := two_set hx3 (.bool s3) (.slice o3 k3 c3)
   have hgr : w3.grownBy ((w3.setCell ⟨w.heap.size + 2, 0, none⟩ (.bool s3)).setCell ⟨w.heap.size + 2, 1, none⟩ (.slice o3 k3 c3)) (some (w.heap.size + 2)) := growSet (growSet (growRefl _ _) _ _) _ _
   have u0 := (hgr.cell (a := ⟨w.heap.size, 0, none⟩) r0 (by simp))
   have u1 := (hgr.cell (a := ⟨w.heap.size, 1, none⟩) r1 (by simp))
   have u2 := (hgr.cell (a := ⟨g, j * 2, none⟩) r2 (by simp; omega))
   have u3 := (hgr.cell (a := ⟨g, j * 2 + 1, none⟩) r3 (by simp; omega))
   have HI4 := Kept.mk (HI3.out.keep hx3 (fun i m e => by rcases i with _ | _ | i <;> simp at e) hgr)
   have HB4 := Kept.mk (show Below w.heap.size w _ from (((HBW.out.trans (hR3.mono (by omega))).setCell (p := ⟨w.heap.size + 2, 0, none⟩) (by simp) (.bool s3)).setCell (p := ⟨w.heap.size + 2, 1, none⟩) (by simp) (.slice o3 k3 c3)))
   have HST := Kept.mk hset
   have HBX6 := Kept.mk ((hgr.block _ (by omega) (by simp)).trans ((hR3.block _ (by omega)).trans hb6.out))
   have HBX4 := Kept.mk ((hgr.block _ (by omega) (by simp)).trans ((hR3.block _ (by omega)).trans hbx5))
   clear hb3 hR3 hs3 hn3 hset hgr
   refine hK.out _ _ ⟨r0, r1, r2, r3⟩ (fun hHeld => ?_)
   clear hK K
   try simp only [Act.put, List.getElem_toArray, List.getElem_cons_succ, List.getElem_cons_zero, List.setIfInBounds_toArray, List.set_cons_zero, List.set_cons_succ]
   refine wpAnyH_ready (rs := [13]) (by kernel_rfl) (by simp) ?_
   refine (AllReadyH.cons rfl (fun K hK => ?_) AllReadyH.nil)
   go_simp
   refine hK.out _ _ ⟨u0, u1, u2, u3⟩ (fun hHeld => ?_)
   clear hK K
   try simp only [Act.put, List.getElem_toArray, List.getElem_cons_succ, List.getElem_cons_zero, List.setIfInBounds_toArray, List.set_cons_zero, List.set_cons_succ]
   refine wpAnyH_done (by kernel_rfl) ?_ _
   all_goals
    (go_wp2
     go_roundw
     case rel => exact ⟨i + 1, s3, o3, k3, c3, by omega, by go_num, HB4, HBX4, HBX6, HST, by rw [HH2.out]; exact HI4⟩
     case measure => simp [intOf] <;> omega)
  ·obtain rfl : i = N := by omega
   have hj1 : (i : Int) - 1 - i = -1 := by omega
   rw [hj1]
   have h6 := hb6.out
   obtain ⟨m0, m1, _⟩ := two_cells hbx7
   obtain ⟨n0, n1, y0, y1⟩ := two_cells h6
   have hset := two_set h6 (.bool s) (.slice ro rk rc)
   have hgr : wr.grownBy ((wr.setCell ⟨w.heap.size + 1, 0, none⟩ (.bool s)).setCell ⟨w.heap.size + 1, 1, none⟩ (.slice ro rk rc)) (some (w.heap.size + 1)) := growSet (growSet (growRefl _ _) _ _) _ _
   have HI2 := Kept.mk (hI.out.keep h6 (fun i m e => by rcases i with _ | _ | i <;> simp at e) hgr)
   have HB2 := Kept.mk ((hbw.out.setCell (p := ⟨w.heap.size + 1, 0, none⟩) (by simp) (.bool s)).setCell (p := ⟨w.heap.size + 1, 1, none⟩) (by simp) (.slice ro rk rc))
   obtain ⟨q0, q1, _⟩ := two_cells hset
   clear hset hgr
   go_wp2
   exact bodyPost_ret (v := .agg #[.bool s, .slice ro rk rc]) (by simp [results, Tryz.results214, go_sem, q0, q1]) rfl ⟨HB2.out, _, rfl, HI2.out⟩
end Go.Proofs.YtdnheaafcbihbaaGreat
namespace Go.Proofs.YtdnheaafcbihbaaGreat
open Go Go.RowKit Go.Deep
open FFld (ints)


structure Chg (B hi : Nat) (w w' : World) : Prop where
 os : w'.os = w.os
 tape : w'.tape = w.tape
 output : w'.output = w.output
 size : w.heap.size <= w'.heap.size
 block : ∀ k, k < w.heap.size -> (k < B \/ hi <= k) -> w'.heap[k]? = w.heap[k]?
abbrev prv (b G1 G2 n : Nat) : Value := .agg #[.pointer (some ⟨b, 0, none⟩), .slice (some ⟨G1, 0, none⟩) n n, .pointer (some ⟨b, 0, none⟩), .slice (some ⟨G2, 0, none⟩) n n]
abbrev prbox (b G1 G2 n : Nat) : Obj := .cells #[.pointer (some ⟨b, 0, none⟩), .slice (some ⟨G1, 0, none⟩) n n, .pointer (some ⟨b, 0, none⟩), .slice (some ⟨G2, 0, none⟩) n n] 197
def wid (A : List (List Nat)) : Nat := (FFld.rowAt A 0).length
def unitR (n i : Nat) : List Nat := (List.replicate n 0).set i 1
def idM (n : Nat) : List (List Nat) := (List.range n).map (unitR n)
structure ReAt (w : World) (b g5 G1 G2 n i : Nat) (L1 L2 : List RH) (W : World) : Prop where
 bel : Below w.heap.size w W
 b4 : W.heap[w.heap.size]? = some (.cells #[.pointer none, .slice none 0 0, .pointer none, .slice none 0 0] 197 (0, 0))
 b5 : W.heap[g5]? = some (prbox b G1 G2 n)
 o1 : w.heap.size < G1
 o2 : G1 < G2
 o3 : G2 < g5
 d1 : dis L1
 d2 : dis L2
 r1 : ∀ r ∈ L1, ∀ g, r.blk = some g -> G1 < g /\ g < G2
 r2 : ∀ r ∈ L2, ∀ g, r.blk = some g -> g5 < g
 m1 : Mx W G1 L1
 m2 : Mx W G2 L2
 len : L2.length = n
 val : ∀ j, (rowH L2 j).xs = if j < i then unitR n j else []
theorem made_zeros (n : Nat) : madeCells #[.int .i64 0] n = ((ints (List.replicate n 0)).map (Value.int .i64)).toArray := made_row .i64 n
def RcRet (b : Nat) (rows : List (List Nat)) (w : World) (e : Ending) (w' : World) : Prop := Below w.heap.size w w' /\ ∃ G1 G2 L1 L2 hi, e = .returned (prv b G1 G2 rows.length) /\ hi <= w'.heap.size /\ Pr w.heap.size hi w' G1 G2 L1 L2 /\ L1.map RH.xs = rows /\ L2.map RH.xs = idM rows.length
structure ElAt (B hi b G1 G2 n : Nat) (w : World) (sv : Value) (cols : List Nat) (A R : List (List Nat)) (L1 L2 : List RH) (W : World) : Prop where
 hhi : hi <= w.heap.size
 chg : Chg B hi w W
 box : W.heap[w.heap.size]? = some (prbox b G1 G2 n)
 pr : Pr B hi W G1 G2 L1 L2
 a : L1.map RH.xs = A
 r : L2.map RH.xs = R
 cols : Mine 3 .i64 (w.heap.size + 1) W sv (ints cols)
 la : L1.length = n
 lr : L2.length = n
def ElS (B hi b G1 G2 n : Nat) (w : World) (sv : Value) (cols : List Nat) (A R : List (List Nat)) (W : World) : Prop := ∃ L1 L2, ElAt B hi b G1 G2 n w sv cols A R L1 L2 W
section
variable {B hi b G1 G2 n : Nat} {w W W' : World} {sv : Value} {cols : List Nat} {A R : List (List Nat)} {L1 L2 : List RH}
variable {D : FFld.FD} {w0 : World} {wd m : Nat}
end
def ElRet (B hi b G1 G2 n : Nat) (s : FFld.ESt) (w : World) (e : Ending) (w' : World) : Prop := ∃ v, e = .returned v /\ ElS B hi b G1 G2 n w v s.cols s.A s.R w'
end Go.Proofs.YtdnheaafcbihbaaGreat
namespace Go.Proofs.YtdnheaafcbihbaaGreat
open Go Go.RowKit
open FFld (ints)
set_option maxRecDepth 20000 in
theorem order_any {D : FFld.FD} {b : Nat} (w : World) (hf : FldB D w b) :
 Calls Tryz.prog 79 #[.pointer (some ⟨b, 0, none⟩)] w (fun e w' => w = w' /\ e = .returned (.int .i64 D.q)) := by
 obtain ⟨h, T, x, fs, fp, fw, ms, ml, hb, _, _, _⟩ := hf.open
 obtain ⟨c0, c1, c2, c3, c4, c5⟩ := six_cells hb
 go_enter Tryz.func79, Tryz.ntmps79
 go_wp2
 go_ret
 exact ⟨rfl, rfl⟩
set_option maxRecDepth 20000 in
theorem generator_any {D : FFld.FD} {b : Nat} (w : World) (hf : FldB D w b) :
 Calls Tryz.prog 156 #[.pointer (some ⟨b, 0, none⟩)] w (fun e w' => w = w' /\ e = .returned (.int .i64 D.g)) := by
 obtain ⟨h, T, x, fs, fp, fw, ms, ml, hb, _, _, _⟩ := hf.open
 obtain ⟨c0, c1, c2, c3, c4, c5⟩ := six_cells hb
 go_enter Tryz.func156, Tryz.ntmps156
 go_wp2
 go_ret
 exact ⟨rfl, rfl⟩
set_option maxRecDepth 20000 in
theorem fprime_any {D : FFld.FD} {b : Nat} (w : World) (hf : FldB D w b) :
 Calls Tryz.prog 78 #[.pointer (some ⟨b, 0, none⟩)] w (RQ w (.tuple #[.int .i64 D.p, .int .i64 D.k])) := by
 obtain ⟨h, T, x, fs, fp, fw, ms, ml, hb, _, _, _⟩ := hf.open
 obtain ⟨c0, c1, c2, c3, c4, c5⟩ := six_cells hb
 go_enter Tryz.func78, Tryz.ntmps78
 go_wp2
 go_quiet (fail)
 go_wp2
 go_ret2
 exact ⟨rfl, _, rfl⟩
set_option maxRecDepth 20000 in
theorem isElement_any {D : FFld.FD} {b : Nat} (a : Int) (w : World) (hf : FldB D w b) :
 Calls Tryz.prog 212 #[.pointer (some ⟨b, 0, none⟩), .int .i64 a] w (fun e w' => w = w' /\ e = .returned (.bool (decide (0 <= a /\ a < D.q)))) := by
 obtain ⟨h, T, x, fs, fp, fw, ms, ml, hb, _, _, _⟩ := hf.open
 obtain ⟨c0, c1, c2, c3, c4, c5⟩ := six_cells hb
 by_cases h0 : 0 <= a
 ·have hd : decide (a ≥ 0) = true := by simp [h0]
  rw [show decide (0 <= a /\ a < (D.q : Int)) = decide (a < (D.q : Int)) by simp [h0]]
  go_enter Tryz.func212, Tryz.ntmps212
  go_wp2
  go_ret
  exact ⟨rfl, rfl⟩
 ·have hd : decide (a ≥ 0) = false := by simp; omega
  rw [show decide (0 <= a /\ a < (D.q : Int)) = false by simp [h0]]
  go_enter Tryz.func212, Tryz.ntmps212
  go_wp2
  go_ret
  exact ⟨rfl, rfl⟩
end Go.Proofs.YtdnheaafcbihbaaGreat
namespace Go.Proofs.YtdnheaafcbihbaaGreat
open Go Go.RowKit Go.Deep
open FFld (ints)
def sopF (D : FFld.FD) (al bl : List Nat) : Nat -> Nat
 | 0 => 0
 | i + 1 => FFld.padd D.p D.k (sopF D al bl i) (FFld.pmul D.p D.k D.m (al[i]?.getD 0) D.k (bl[i]?.getD 0))
def elsB (D : FFld.FD) (xs : List Int) : Bool := xs.all fun a => decide (0 <= a /\ a < D.q)
set_option maxRecDepth 20000 in
theorem areElements_any {D : FFld.FD} {b : Nat} (v : Value) (xs : List Int) (w : World) (hf : FldB D w b) (h : Sl .i64 w v xs) :
 Calls Tryz.prog 148 #[.pointer (some ⟨b, 0, none⟩), v] w (fun e w' => w = w' /\ e = .returned (.bool (elsB D xs))) := by
 obtain ⟨ao, cap, rfl, hcap, hmax, hc⟩ := h
 obtain ⟨n, hN⟩ : ∃ n, xs.length = n := ⟨_, rfl⟩
 have HI := Kept.mk (fun a => isElement_any a w hf)
 have HC := Kept.mk hc
 rw [hN] at hcap ⊢
 have HN := Kept.mk hN
 unfold maxLen at hmax
 clear hf hc hN
 go_enter Tryz.func148, Tryz.ntmps148
 go_wp2
 go_loopw [9] (fun iv wr => ∃ (i : Nat), i <= n /\ iv = .int .i64 i /\ Kept (elsB D (xs.take i) = true) /\ w = wr) (fun iv _ => n - (intOf iv).toNat)
 case atStart => exact ⟨0, Nat.zero_le _, rfl, ⟨rfl⟩, rfl⟩
 case round =>
  obtain ⟨i, hin, rfl, hat, rfl⟩ := hrel
  by_cases hlt : i < n
  ·obtain ⟨g, o, rfl, hg, hcell⟩ := HC.out i (by rw [HN.out]; exact hlt)
   obtain ⟨a, ha⟩ : ∃ a, xs[i]?.getD 0 = a := ⟨_, rfl⟩
   rw [ha] at hcell
   have hI := Kept.mk (HI.out a)
   have hT : xs.take (i + 1) = xs.take i ++ [a] := by
    rw [List.take_add_one]
    congr 1
    rw [<- ha, List.getElem?_eq_getElem (by rw [HN.out]; exact hlt)]
    rfl
   obtain ⟨t, ht⟩ : ∃ t, decide (0 <= a /\ a < (D.q : Int)) = t := ⟨_, rfl⟩
   rw [ht] at hI
   have HT : Kept (elsB D (xs.take (i + 1)) = t) := ⟨by
    have := hat.out
    unfold elsB at this ⊢
    rw [hT, List.all_append, this]
    simp only [List.all_cons, List.all_nil, Bool.and_true, Bool.true_and]
    exact ht⟩
   clear ha hT ht
   cases t with
   | true =>
     go_wp2_with fail
     refine hI.out.mono ?_
     rintro e w2 ⟨rfl, rfl⟩
     go_wp2
     go_roundw
     case rel => exact ⟨i + 1, by omega, by go_num, HT, trivial⟩
     case measure => simp [intOf] <;> omega
   | false =>
     have HE : Kept (elsB D xs = false) := ⟨by
      have h1 := HT.out
      unfold elsB at h1 ⊢
      rw [<- List.take_append_drop (i + 1) xs, List.all_append, h1]
      rfl⟩
     go_wp2_with fail
     refine hI.out.mono ?_
     rintro e w2 ⟨rfl, rfl⟩
     go_wp2
     go_ret
     exact ⟨rfl, by rw [HE.out]; rfl⟩
  ·obtain rfl : i = n := by omega
   have HE : Kept (elsB D xs = true) := ⟨by have := hat.out; rw [<- HN.out, List.take_length] at this; exact this⟩
   go_wp2
   go_ret
   exact ⟨rfl, by rw [HE.out]; rfl⟩
def rlen (rows : List (List Int)) (i : Nat) : Nat := (rows[i]?.getD []).length
def mErr (D : FFld.FD) (rows : List (List Int)) : Nat :=
 if rows.length = 0 then 0 else if 64 < rows.length \/ 64 < rlen rows 0 then 2 else if rows.all (fun r => r.length == rlen rows 0) then (if rows.all (elsB D) then 0 else 1) else 7
def qErr (D : FFld.FD) (rows : List (List Int)) (bl : List Int) : Nat := if mErr D rows = 0 then (if bl.length = rows.length then (if elsB D bl then 0 else 1) else 7) else mErr D rows
theorem Sl.news_at {K : IntKind} {w : World} {ao : Option Addr} {n cap : Nat} {xs : List Int} (h : Sl K w (.slice ao n cap) xs) (i : Nat) (hi : i < xs.length) : ∃ g o, ao = some ⟨g, o, none⟩ /\ g < w.heap.size /\ w.cell? ⟨g, o + i, none⟩ = some (.int K (xs[i]?.getD 0)) := by
 obtain ⟨ao', cap', e, hc, hm, hx⟩ := h
 simp only [Value.slice.injEq] at e
 obtain ⟨rfl, _, _⟩ := e
 obtain ⟨b, o, e2, h1, h2⟩ := hx i hi
 exact ⟨b, o, e2, h1, h2⟩
def sopV (D : FFld.FD) (s : FFld.ESt) (bl : List Nat) (j : Nat) : Nat := sopF D (FFld.rowAt s.R j) bl (FFld.rowAt s.R j).length
def solF (D : FFld.FD) (s : FFld.ESt) (bl : List Nat) (wd : Nat) : Nat -> List Nat
 | 0 => List.replicate wd 0
 | i + 1 => (solF D s bl wd i).set (s.cols[i]?.getD 0) (sopV D s bl i)
def SvRet (D : FFld.FD) (s : FFld.ESt) (bl : List Nat) (wd n : Nat) (w : World) (e : Ending) (w' : World) : Prop := Below w.heap.size w w' /\ ∃ vx vd, e = .returned (.tuple #[vx, vd]) /\
 ((∃ i, s.cols.length <= i /\ i < n /\ (∀ j, s.cols.length <= j -> j < i -> sopV D s bl j = 0) /\ sopV D s bl i ≠ 0 /\ vx = .slice none 0 0 /\ (∃ g c, vd = .slice (some ⟨g, 0, none⟩) n c) /\ Sl .i64 w' vd (ints (FFld.rowAt s.R i))) \/
  ((∀ j, s.cols.length <= j -> j < n -> sopV D s bl j = 0) /\ vd = .slice none 0 0 /\ (∃ g c, vx = .slice (some ⟨g, 0, none⟩) wd c) /\ Sl .i64 w' vx (ints (solF D s bl wd s.cols.length))))
end Go.Proofs.YtdnheaafcbihbaaGreat
namespace Go.Proofs.YtdnheaafcbihbaaGreat
open Go Go.RowKit
open FFld (ints)
set_option maxRecDepth 20000 in
theorem moebius_any (n : Nat) (w : World) (hn1 : 1 <= n) (hn : n <= 40) :
 Calls Tryz.prog 213 #[.int .i64 n] w (RB w (.int .i64 (FFld.muT n))) := by
 go_enter Tryz.func213, Tryz.ntmps213
 go_wp2_with fail
 refine (factors_any n _ hn1 (by omega)).mono ?_
 rintro e w1 ⟨hb1, v1, l, rfl, hm1, hf1⟩
 obtain ⟨a1, c1, rfl, hc1, hx1⟩ := hm1.sl.form
 rw [FFld.ints_len] at hc1 hm1 ⊢
 obtain ⟨L, hL⟩ : ∃ L, l.length = L := ⟨_, rfl⟩
 have HSL : Kept (Sl .i64 w1 (.slice a1 l.length c1) (ints l)) := ⟨hm1.sl⟩
 have HB1 := Kept.mk hb1
 have HLL := Kept.mk hL
 have HZ := Kept.mk (fun f hf hz => FFld.mu_zero (n := n) (f := f) hf1 hn1 hf hz)
 have HS := Kept.mk (fun h => FFld.mu_sign (n := n) hf1 hn1 h)
 have HP := Kept.mk (fun f hf => (hf1.mem f).1 hf)
 have hl3 : L <= 300 := by have := hf1.len; omega
 rw [hL] at hc1 ⊢
 clear hb1 hm1 hf1 hL hx1
 go_wp2
 go_loopw [3, 9] (fun sv iv wr => ∃ (i : Nat) (s : Int), i <= L /\ iv = .int .i64 i /\ sv = .int .i64 s /\ (s = 1 \/ s = -1) /\ Kept (s = if i % 2 = 0 then 1 else -1) /\ Kept (∀ j, j < i -> n % ((l[j]?.getD 0) * (l[j]?.getD 0)) ≠ 0) /\ w1 = wr) (fun _ iv _ => L - (intOf iv).toNat)
 case atStart => exact ⟨0, 1, Nat.zero_le _, rfl, rfl, .inl rfl, ⟨rfl⟩, ⟨fun j h => absurd h (Nat.not_lt_zero _)⟩, rfl⟩
 case round =>
  obtain ⟨i, s, hiL, rfl, rfl, hs1, hse, hpre, rfl⟩ := hrel
  by_cases hlt : i < L
  ·obtain ⟨bp, op, rfl, hbp, hcell⟩ := HSL.out.news_at i (by rw [FFld.ints_len, HLL.out]; exact hlt)
   have hmem : l[i]?.getD 0 ∈ l := by
    rw [List.getElem?_eq_getElem (by rw [HLL.out]; exact hlt)]
    exact List.getElem_mem _
   obtain ⟨f, hf⟩ : ∃ f, l[i]?.getD 0 = f := ⟨_, rfl⟩
   rw [FFld.ints_get, hf] at hcell
   rw [hf] at hmem
   have hf2 : 2 <= f := (HP.out f hmem).1.1
   have hf40 : f <= 40 := by have := Nat.le_of_dvd (by omega) (HP.out f hmem).2; omega
   obtain ⟨ff, hff⟩ : ∃ x, f * f = x := ⟨_, rfl⟩
   have hff4 : 4 <= ff := by rw [<- hff]; exact Nat.mul_le_mul hf2 hf2
   have hff6 : ff <= 1600 := by rw [<- hff]; exact Nat.mul_le_mul hf40 hf40
   obtain ⟨r, hr⟩ : ∃ x, n % ff = x := ⟨_, rfl⟩
   have eff : (f : Int) * f = ff := by rw [<- hff]; push_cast; rfl
   have ern : (n : Int) % (ff : Int) = r := by rw [<- hr]; rfl
   have ert : (n : Int).tmod (ff : Int) = r := by rw [Int.tmod_eq_emod_of_nonneg (by omega)]; exact ern
   have hz1 : ¬ ((ff : Int) = 0) := by omega
   have hz2 : ¬ (ff = 0) := by omega
   have hz3 : ((ff : Int) == 0) = false := by rw [beq_eq_false_iff_ne]; omega
   by_cases h0 : r = 0
   ·have HM : Kept (FFld.muT n = 0) := ⟨HZ.out f hmem (by rw [hff, hr, h0])⟩
    have er0 : ((r : Int) == 0) = true := by rw [h0]; rfl
    clear hf hff hr h0 hmem
    go_wp2
    go_ret
    exact ⟨HB1.out, by rw [HM.out]; rfl⟩
   ·have er0 : ((r : Int) == 0) = false := by rw [beq_eq_false_iff_ne]; omega
    have HPR : Kept (∀ j, j < i + 1 -> n % ((l[j]?.getD 0) * (l[j]?.getD 0)) ≠ 0) := ⟨fun j hj => by
     by_cases e : j = i
     ·subst e; rw [hf, hff, hr]; exact h0
     ·exact hpre.out j (by omega)⟩
    clear hf hff hr h0 hmem
    rcases hs1 with rfl | rfl
    ·have HSE : Kept ((-1 : Int) = if (i + 1) % 2 = 0 then 1 else -1) := ⟨by
      have := hse.out
      by_cases h : i % 2 = 0
      ·rw [if_neg (by omega)]
      ·rw [if_neg h] at this; omega⟩
     go_wp2
     go_roundw
     case rel => exact ⟨i + 1, -1, by omega, by go_num, rfl, .inr rfl, HSE, HPR, by first | rfl | trivial⟩
     case measure => simp [intOf] <;> omega
    ·have HSE : Kept ((1 : Int) = if (i + 1) % 2 = 0 then 1 else -1) := ⟨by
      have := hse.out
      by_cases h : i % 2 = 0
      ·rw [if_pos h] at this; omega
      ·rw [if_pos (by omega)]⟩
     go_wp2
     go_roundw
     case rel => exact ⟨i + 1, 1, by omega, by go_num, rfl, .inl rfl, HSE, HPR, by first | rfl | trivial⟩
     case measure => simp [intOf] <;> omega
  ·obtain rfl : i = L := by omega
   have HM : Kept (FFld.muT n = s) := ⟨by
    rw [HS.out (fun f hf hz => by
     obtain ⟨j, hj, e⟩ := List.mem_iff_getElem.1 hf
     refine hpre.out j (by rw [<- HLL.out]; exact hj) ?_
     rw [List.getElem?_eq_getElem hj, e]
     exact hz), HLL.out]
    exact hse.out.symm⟩
   go_wp2
   go_ret
   exact ⟨HB1.out, by rw [HM.out]; rfl⟩
end Go.Proofs.YtdnheaafcbihbaaGreat
namespace Go.Proofs.YtdnheaafcbihbaaGreat
namespace FFld
theorem FD.gen_le {p k m g g' : Nat} (h : FD.Ok ⟨p, k, m, g⟩) (h' : FD.Ok ⟨p, k, m, g'⟩) : g' <= g := by
 rcases Nat.lt_or_ge g g' with hlt | hge
 ·exact absurd h.ord (h'.least g h.gq h.g1 hlt)
 ·exact hge
theorem FD.uniq {D D' : FD} (h : D.Ok) (h' : D'.Ok) (e : D.q = D'.q) : D = D' := by
 obtain ⟨p, k, m, g⟩ := D
 obtain ⟨p', k', m', g'⟩ := D'
 have e1 : p ^ k = p' ^ k' := e
 have hk := h.pre.k1
 have hp2 := h.pre.prime.1
 simp only at hk hp2
 have ep : p = p' := prime_pow_eq h.pre.prime h'.pre.prime (K := k') (by rw [<- e1]; exact ⟨p ^ (k - 1), by rw [<- Nat.pow_succ']; congr 1; omega⟩)
 subst ep
 have ek : k = k' := Nat.le_antisymm ((Nat.pow_le_pow_iff_right hp2).1 (Nat.le_of_eq e1)) ((Nat.pow_le_pow_iff_right hp2).1 (Nat.le_of_eq e1.symm))
 subst ek
 have em : m = m' := by
  by_cases h1 : k = 1
  ·exact (h.pre.mod1 h1).trans (h'.pre.mod1 h1).symm
  ·have a := h.pre.mod2 (show 2 <= k by omega)
   have a' := h'.pre.mod2 (show 2 <= k by omega)
   rcases Nat.lt_or_ge m m' with hl | hl
   ·exact absurd a.2.2.1 (a'.2.2.2 m a.1 hl)
   ·rcases Nat.lt_or_ge m' m with hl' | hl'
    ·exact absurd a'.2.2.1 (a.2.2.2 m' a'.1 hl')
    ·exact Nat.le_antisymm hl' hl
 subst em
 have eg : g = g' := Nat.le_antisymm (FD.gen_le h' h) (FD.gen_le h h')
 subst eg
 rfl
end FFld
end Go.Proofs.YtdnheaafcbihbaaGreat
namespace Go.Proofs.YtdnheaafcbihbaaGreat
namespace FFld
namespace Dom
variable {α : Type} (F : Dom α)
def psum (F : Dom α) : List α -> List α -> List α
 | [], m => m
 | a :: l, [] => a :: l
 | a :: l, b :: m => F.add a b :: psum F l m
theorem psum_len : ∀ (l m : List α) (n : Nat), l.length <= n -> m.length <= n -> (F.psum l m).length <= n
 | [], m, n, _, h => h
 | a :: l, [], n, h, _ => h
 | a :: l, b :: m, n, h1, h2 => by
   obtain ⟨n, rfl⟩ : ∃ j, n = j + 1 := ⟨n - 1, by simp only [List.length_cons] at h1; omega⟩
   simp only [psum, List.length_cons] at h1 h2 ⊢
   have := psum_len l m n (by omega) (by omega)
   omega
theorem add4 (a b c d : α) : F.add (F.add a b) (F.add c d) = F.add (F.add a c) (F.add b d) := by
 rw [F.add_assoc, <- F.add_assoc b c d, F.add_comm b c, F.add_assoc c b d, <- F.add_assoc]
theorem eval_psum : ∀ (l m : List α) (x : α), F.eval (F.psum l m) x = F.add (F.eval l x) (F.eval m x)
 | [], m, x => by simp only [psum, eval, F.zero_add]
 | a :: l, [], x => by simp only [psum, eval, F.add_zero]
 | a :: l, b :: m, x => by simp only [psum, eval, eval_psum l m x, F.mul_add]; rw [F.add4]
theorem eval_scale (c : α) : ∀ (l : List α) (x : α), F.eval (l.map (F.mul c)) x = F.mul c (F.eval l x)
 | [], x => by simp only [List.map_nil, eval, F.mul_zero]
 | a :: l, x => by
   simp only [List.map_cons, eval, eval_scale c l x, F.mul_add]
   rw [<- F.mul_assoc, <- F.mul_assoc, F.mul_comm x c]
def Pol (F : Dom α) (n : Nat) (f : α -> α) : Prop := ∃ l : List α, l.length <= n /\ ∀ x, F.eval l x = f x
theorem add_pow_pol (b : α) : ∀ n, ∃ g, F.Pol n g /\ ∀ x, F.pow (F.add x b) n = F.add (F.pow x n) (g x)
 | 0 => ⟨fun _ => F.zero, ⟨[], Nat.le_refl _, fun x => rfl⟩, fun x => by rw [pow_zero, pow_zero, F.add_zero]⟩
 | n + 1 => by
   obtain ⟨g, ⟨l, hl, hg⟩, h⟩ := add_pow_pol b n
   refine ⟨fun x => F.add (F.mul b (F.pow x n)) (F.add (F.mul x (g x)) (F.mul b (g x))), ⟨F.psum ((F.mono n).map (F.mul b)) (F.psum (F.zero :: l) (l.map (F.mul b))), ?_, fun x => ?_⟩, fun x => ?_⟩
   ·refine F.psum_len _ _ _ (by rw [List.length_map, mono_len]; omega) (F.psum_len _ _ _ (by simp; omega) (by rw [List.length_map]; omega))
   ·rw [eval_psum, eval_psum, eval_scale, eval_scale, eval_mono]
    simp only [eval, F.zero_add, hg]
   ·rw [pow_succ, h, pow_succ, F.mul_add, F.add_mul, F.add_mul, F.add_assoc]
    congr 1
    show F.add (F.mul (g x) x) (F.add (F.mul (F.pow x n) b) (F.mul (g x) b)) = F.add (F.mul b (F.pow x n)) (F.add (F.mul x (g x)) (F.mul b (g x)))
    rw [F.mul_comm (g x) x, F.mul_comm (F.pow x n) b, F.mul_comm (g x) b, <- F.add_assoc, <- F.add_assoc, F.add_comm (F.mul x (g x))]
theorem add_pow_all (b : α) {n : Nat} (hn : 1 <= n) (R : List α) (hR : R.Nodup) (hl : n <= R.length) (h : ∀ r ∈ R, F.pow (F.add r b) n = F.add (F.pow r n) (F.pow b n)) (x : α) : F.pow (F.add x b) n = F.add (F.pow x n) (F.pow b n) := by
 obtain ⟨g, ⟨l, hll, hg⟩, hp⟩ := F.add_pow_pol b n
 have hz := F.roots R hR (F.psum l [F.neg (F.pow b n)]) (Nat.le_trans (F.psum_len _ _ n hll (by simp; omega)) hl) (fun r hr => by
  rw [eval_psum, hg]
  simp only [eval, F.mul_zero, F.add_zero]
  have e := h r hr
  rw [hp] at e
  rw [F.add_left_cancel e, F.add_neg]) x
 rw [eval_psum, hg] at hz
 simp only [eval, F.mul_zero, F.add_zero] at hz
 rw [hp, F.eq_of_sub hz]
end Dom
theorem pmul_small {p k m : Nat} (h : PK p k m) (b d : Nat) (hb : b < p ^ k) (hd : d < p) : pmul p k m b k d = pscl p k d b := by
 obtain ⟨j, rfl⟩ : ∃ j, k = j + 1 := ⟨k - 1, by have := h.k1; omega⟩
 simp only [pmul]
 rw [Nat.mod_eq_of_lt hd, Nat.div_eq_of_lt hd, pmul_zero_right h, pshf_zero h, padd_zero h _ (pscl_lt h _ _)]
theorem pscl_small {p k m : Nat} (h : PK p k m) (a d : Nat) (ha : a < p) : pscl p k d a = a * d % p := by
 have hlt : a * d % p < p ^ k := Nat.lt_of_lt_of_le (Nat.mod_lt _ h.p0) (Nat.le_self_pow (by have := h.k1; omega) p)
 refine dig_ext h.p0 k _ _ (pscl_lt h _ _) hlt fun i hi => ?_
 rw [dig_pscl h _ _ _ hi]
 cases i with
 | zero => rw [dig_zero, dig_zero, Nat.mod_mod, Nat.mod_eq_of_lt ha]
 | succ i => rw [dig_succ, dig_succ, Nat.div_eq_of_lt ha, Nat.div_eq_of_lt (Nat.mod_lt _ h.p0), dig_of_zero, Nat.zero_mul, Nat.zero_mod]
theorem small_lt {p k m : Nat} (h : PK p k m) {a : Nat} (ha : a < p) : a < p ^ k := Nat.lt_of_lt_of_le ha (Nat.le_self_pow (by have := h.k1; omega) p)
theorem ppow_small {p k m : Nat} (h : PK p k m) (a : Nat) (ha : a < p) : ∀ n, ppow h a n = a ^ n % p
 | 0 => by rw [ppow_zero h a (small_lt h ha), Nat.pow_zero, Nat.mod_eq_of_lt h.p2]
 | n + 1 => by
   rw [ppow_succ h a n (small_lt h ha), ppow_small h a ha n, pmul_small h _ _ (small_lt h (Nat.mod_lt _ h.p0)) ha, pscl_small h _ _ (Nat.mod_lt _ h.p0), Nat.pow_succ, Nat.mod_mul_mod]
theorem FD.Ok.fermat {D : FD} (h : D.Ok) {a : Nat} (ha : a < D.p ^ D.k) (h0 : a ≠ 0) : ppow h.pre.pk a (D.p ^ D.k - 1) = 1 := by
 have e := (FD.dom h.nzd).fermat (nzl_all h.nzd) (a := ⟨a, ha⟩) (fun e => h0 (congrArg Subtype.val e))
 rw [nzl_len] at e
 rw [ppow_of _ _ _ ha, <- dom_pow h.nzd, e]
 rfl
theorem FD.Ok.pow_q {D : FD} (h : D.Ok) {a : Nat} (ha : a < D.p ^ D.k) : ppow h.pre.pk a (D.p ^ D.k) = a := by
 have h1 := h.pre.pk.one_lt
 obtain ⟨n, hn⟩ : ∃ n, D.p ^ D.k = n + 1 := ⟨D.p ^ D.k - 1, by omega⟩
 by_cases h0 : a = 0
 ·subst h0
  have e := ppow_succ h.pre.pk 0 n ha
  rw [<- hn] at e
  rw [e, pmul_zero_right h.pre.pk]
 ·have e := h.fermat ha h0
  have e2 := ppow_succ h.pre.pk a n ha
  rw [hn, Nat.add_sub_cancel] at e
  rw [<- hn] at e2
  rw [e2, e, pmul_comm h.pre.pk _ _ h1 ha, pmul_by_one h.pre.pk a ha]
theorem fermat_nat {p : Nat} (hp : Prime p) (h6 : p <= 65536) (a : Nat) (ha : a < p) : a ^ p % p = a := by
 obtain ⟨g, hg⟩ := FD.prime_exists p hp h6
 have e := hg.pow_q (a := a) (by show a < p ^ 1; rw [Nat.pow_one]; exact ha)
 have e2 : ppow hg.pre.pk a p = a ^ p % p := ppow_small hg.pre.pk a ha p
 have e3 : ppow hg.pre.pk a (p ^ 1) = a := e
 rw [Nat.pow_one] at e3
 rw [<- e2, e3]
theorem FD.Ok.p6 {D : FD} (h : D.Ok) : D.p <= 65536 := by
 have h1 : D.p <= D.p ^ D.k := Nat.le_self_pow (by have := h.pre.k1; omega) D.p
 have h2 : D.p ^ D.k <= 65536 := h.pre.small
 omega
theorem nodup_map_on {α β : Type} {f : α -> β} : ∀ {l : List α}, l.Nodup -> (∀ a ∈ l, ∀ b ∈ l, f a = f b -> a = b) -> (l.map f).Nodup
 | [], _, _ => List.nodup_nil
 | a :: l, h, hf => by
   obtain ⟨h1, h2⟩ := List.nodup_cons.1 h
   refine List.nodup_cons.2 ⟨fun hm => ?_, nodup_map_on h2 (fun x hx y hy => hf x (List.mem_cons_of_mem _ hx) y (List.mem_cons_of_mem _ hy))⟩
   obtain ⟨c, hc, e⟩ := List.mem_map.1 hm
   have := hf a List.mem_cons_self c (List.mem_cons_of_mem _ hc) e.symm
   subst this
   exact h1 hc
theorem FD.Ok.div_mul {D : FD} (h : D.Ok) {a b : Nat} (ha : a < D.p ^ D.k) (hb : b < D.p ^ D.k) (h0 : b ≠ 0) : pmul D.p D.k D.m (pmul D.p D.k D.m a D.k b) D.k (ppow h.pre.pk b (D.q - 2)) = a := by
 have hk := h.pre.pk
 have h1 := hk.one_lt
 have e := h.fermat hb h0
 have hq : D.p ^ D.k - 1 = D.q - 2 + 1 := by unfold FD.q; omega
 rw [hq, ppow_succ hk _ _ hb] at e
 rw [pmul_assoc hk _ _ _ ha hb (ppow_lt _ _ _), pmul_comm hk b _ hb (ppow_lt _ _ _), e, pmul_by_one hk a ha]
end FFld
end Go.Proofs.YtdnheaafcbihbaaGreat
namespace Go.Proofs.YtdnheaafcbihbaaGreat
open Go Go.RowKit Go.Deep
open FFld (ints)
theorem elsB_ints {D : FFld.FD} {l : List Nat} (h : ∀ a ∈ l, a < D.p ^ D.k) : elsB D (ints l) = true := by
 unfold elsB ints
 rw [List.all_map, List.all_eq_true]
 intro a ha
 have := h a ha
 have hq : D.q = D.p ^ D.k := rfl
 simp only [Function.comp, decide_eq_true_eq]
 rw [hq]
 omega
def DnRet (D : FFld.FD) (s : FFld.ESt) (bl : List Nat) (wd n : Nat) (w : World) (e : Ending) (w' : World) : Prop := Below w.heap.size w w' /\
 ((∃ i vd, s.cols.length <= i /\ i < n /\ sopV D s bl i ≠ 0 /\ e = .returned (.tuple #[vd, .bool true]) /\ Sl .i64 w' vd (ints (FFld.rowAt s.R i)) /\ ∃ ao c, vd = .slice ao n c) \/
  ((∀ j, s.cols.length <= j -> j < n -> sopV D s bl j = 0) /\ e = .returned (.tuple #[.slice none 0 0, .bool false])))
end Go.Proofs.YtdnheaafcbihbaaGreat
