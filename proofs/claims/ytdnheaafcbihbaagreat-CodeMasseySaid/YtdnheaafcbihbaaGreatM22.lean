/-
  Texts of the proof, merged by program: Cmk Bmc Prf Rc3 Rc4 Lma Lh1 Lh2.
-/
import Derived.Test.YtdnheaafcbihbaaGreatM18
import Derived.Test.YtdnheaafcbihbaaGreatM19
import Derived.Test.YtdnheaafcbihbaaGreatM21
import Derived.Test.YtdnheaafcbihbaaGreatM17
import Derived.Test.YtdnheaafcbihbaaGreatM15
set_option linter.unusedVariables false
set_option linter.unusedSimpArgs false
namespace Go.Proofs.YtdnheaafcbihbaaGreat
open Go Go.RowKit Go.Deep
open FFld (ints)
/-- Whether the register with these taps makes the first i elements. -/
def mkP (D : FFld.FD) (ts ss : List Nat) (i : Nat) : Bool := (List.range i).all fun j => decide (j < ts.length ∨ FFld.difF D (1 :: ts) ss j (ts.length + 1) = 0)
theorem mkP_next (D : FFld.FD) (ts ss : List Nat) (i : Nat) : mkP D ts ss (i + 1) = (mkP D ts ss i && decide (i < ts.length ∨ FFld.difF D (1 :: ts) ss i (ts.length + 1) = 0)) := by
  unfold mkP
  rw [List.range_succ, List.all_append]
  simp
theorem mkP_start (D : FFld.FD) (ts ss : List Nat) {i : Nat} (h : i ≤ ts.length) : mkP D ts ss i = true := by
  unfold mkP
  rw [List.all_eq_true]
  intro j hj
  rw [List.mem_range] at hj
  exact decide_eq_true (.inl (by omega))
theorem mkP_no {D : FFld.FD} {ts ss : List Nat} {i n : Nat} (hi : i < n) (ht : ts.length ≤ i) (h : FFld.difF D (1 :: ts) ss i (ts.length + 1) ≠ 0) : mkP D ts ss n = false := by
  cases e : mkP D ts ss n with
  | false => rfl
  | true =>
    unfold mkP at e
    rw [List.all_eq_true] at e
    have := of_decide_eq_true (e i (List.mem_range.2 hi))
    rcases this with h1 | h1
    · omega
    · exact absurd h1 h
open Classical in
/-- The error of Makes. -/
noncomputable def mkE (o : Int) (ts ss : List Int) : Nat := if FFld.Fit o then (if 200 < ss.length then 2 else if belB o ss = false then 1 else if ss.length < ts.length then 1 else if belB o ts = false then 1 else 0) else 20
set_option maxRecDepth 20000 in
set_option maxHeartbeats 4000000 in
theorem cmakes_ok {D : FFld.FD} (hD : D.Ok) (at_ as_ : Option Addr) (ct cs nt ns : Nat) (ts ss : List Nat) (w : World) (ht : Sl .i64 w (.slice at_ nt ct) (ints ts)) (hs : Sl .i64 w (.slice as_ ns cs) (ints ss)) (lt : ts.length = nt) (ls : ss.length = ns) (htq : ∀ a ∈ ts, a < D.p ^ D.k) (hsq : ∀ a ∈ ss, a < D.p ^ D.k) (hn : ns ≤ 200) (hle : nt ≤ ns) :
    Calls Tryz.prog 60 #[.int .i64 D.q, .slice at_ nt ct, .slice as_ ns cs] w (RB w (.tuple #[.bool (mkP D ts ss ns), .int .i64 0])) := by
  have hq6 : D.p ^ D.k ≤ 65536 := hD.pre.small
  have hq0 : D.q = D.p ^ D.k := rfl
  have hq1 := hD.pre.pk.one_lt
  have hse : seqE (D.q : Int) (ints ss) = 0 := by
    unfold seqE
    rw [if_pos ⟨D, hD, rfl⟩, if_neg (by rw [FFld.ints_len]; omega), if_neg (by rw [bel_ints hsq]; simp)]
  have hsc := ccheckSeq_any (D.q : Int) as_ cs (ints ss) w (by rw [FFld.ints_len, ls]; exact hs) (by omega) (by omega)
  rw [hse, FFld.ints_len, ls] at hsc
  have HSC : Kept (Calls Tryz.prog 125 #[.int .i64 D.q, .slice as_ ns cs] w (RB w (.int .i64 0))) := ⟨hsc⟩
  have HB1 : Kept (∀ W, Below w.heap.size w W → Calls Tryz.prog 85 #[.int .i64 D.q, .slice at_ nt ct] W (fun e w' => W = w' ∧ e = .returned (.bool true))) := ⟨fun W hW => by
    have h := careBelow_any (D.q : Int) _ (ints ts) W (ht.below hW)
    rw [bel_ints htq] at h
    exact h⟩
  have HNW := Kept.mk (fun W => fnew_any (D.q : Int) W (by omega) (by omega))
  have HDI : Kept (∀ W b ar cr i, FldB D W b → Sl .i64 W (.slice ar (nt + 1) cr) (ints (1 :: ts)) → Below w.heap.size w W → nt ≤ i → i < ns → Calls Tryz.prog 126 #[.pointer (some ⟨b, 0, none⟩), .slice ar (nt + 1) cr, .slice as_ ns cs, .int .i64 i] W (RB W (.int .i64 (FFld.difF D (1 :: ts) ss i (nt + 1) : Nat)))) := ⟨fun W b ar cr i hf hr hW h1 h2 => by
    have h := cdifference_any hD ar as_ cr cs i (1 :: ts) ss W hf (by rw [List.length_cons, lt]; exact hr) (by rw [ls]; exact hs.below hW) (fun a ha => by
      rcases List.mem_cons.1 ha with rfl | ha
      · exact hq1
      · exact htq a ha) hsq (by rw [List.length_cons]; omega) (by omega) (by omega)
    rw [List.length_cons, lt, ls] at h
    exact h⟩
  have HT := Kept.mk ht
  have HLT := Kept.mk lt
  have HD := Kept.mk hD
  have g1 : decide ((ns : Int) < (nt : Int)) = false := decide_eq_false (by omega)
  obtain ⟨q, hq⟩ : ∃ q, D.q = q := ⟨_, rfl⟩
  rw [hq] at HSC HNW HB1 ⊢
  have HQ := Kept.mk hq
  clear ht hs lt ls htq hsq hse hsc hq hq0 hq1
  go_enter Tryz.func60, Tryz.ntmps60
  go_wp2_with fail
  (with_reducible refine HSC.out.mono ?_)
  rintro e w1 ⟨hb1, rfl⟩
  have HW1 := Kept.mk hb1
  clear hb1 HSC
  go_wp2_with fail
  (with_reducible refine (HB1.out _ HW1.out).mono ?_)
  rintro e w2 ⟨rfl, rfl⟩
  go_wp2_with fail
  (with_reducible refine (HNW.out _).mono ?_)
  rintro e w2 ⟨hb2, ⟨D', b, hq', hle', rfl, hf⟩ | ⟨hno, rfl⟩⟩
  · obtain rfl : D' = D := FFld.FD.uniq hf.ok HD.out (by have := HQ.out; omega)
    have HW2 := Kept.mk (bstep HW1.out hb2)
    have hal : Below w2.heap.size w2 (w2.alloc (.cells #[.int .i64 1] 3)) := (Below.refl _ _).alloc (Nat.le_refl _) _
    have HM : Kept (Mine 3 .i64 w2.heap.size (w2.alloc (.cells #[.int .i64 1] 3)) (.slice (some ⟨w2.heap.size, 0, none⟩) 1 1) [(1 : Int)]) := ⟨crow_mine (Row.new (E := 3) (K := .i64) w2 [(1 : Int)]) rfl (by unfold maxLen; omega) (Nat.le_refl _)⟩
    have HF2 := Kept.mk hf
    have HTA := Kept.mk (HT.out.below (bstep HW2.out hal))
    have HBA := Kept.mk (show w2.heap.size ≤ (w2.alloc (.cells #[.int .i64 1] 3)).heap.size by simp)
    have H1 := Kept.mk (show (([1] : List Int).length + (ints ts).length) * 8 ≤ 140737488355328 by rw [FFld.ints_len, HLT.out]; simp; omega)
    have H2 := Kept.mk (show ([1] : List Int).length + (ints ts).length ≤ maxLen by rw [FFld.ints_len, HLT.out]; unfold maxLen; simp; omega)
    have HAL := Kept.mk hal
    clear hb2 hf hq' hle' hal HB1 HNW
    go_wp2_with (at_builtin; refine wpList_append_sl _ rfl _ _ 22 rfl 3 .i64 8 Tryz.underlying22 info_i64 w2.heap.size _ [(1 : Int)] rfl HM.out HBA.out _ _ rfl HTA.out H1.out H2.out ?_)
    intro v' w5 hm5 hg5
    obtain ⟨ar, cr, rfl, _, _⟩ := hm5.sl.form
    have hl5 : ((1 : Int) :: ints ts).length = nt + 1 := by rw [List.length_cons, FFld.ints_len, HLT.out]
    rw [hl5] at hm5 ⊢
    have hb5 : Below w2.heap.size w2 w5 := HAL.out.grown hg5 HBA.out (fun j hj => by simp [Value.ownBlock] at hj; omega)
    have HR5 : Kept (Sl .i64 w5 (.slice ar (nt + 1) cr) (ints (1 :: ts))) := ⟨hm5.sl⟩
    have HF5 := Kept.mk (HF2.out.below hb5)
    have HW5 := Kept.mk (bstep HW2.out hb5)
    clear hm5 hg5 hl5 hb5 HM HTA HBA H1 H2 HAL HF2 HW2
    go_wp2
    go_loopw [12] (fun iv wr => ∃ (i : Nat), nt ≤ i ∧ i ≤ ns ∧ iv = .int .i64 i ∧ Kept (mkP D' ts ss i = true) ∧ Kept (Below w5.heap.size w5 wr)) (fun iv _ => ns - (intOf iv).toNat)
    case atStart => exact ⟨nt, Nat.le_refl _, hle, rfl, ⟨mkP_start _ _ _ (by rw [HLT.out]; exact Nat.le_refl _)⟩, ⟨Below.refl _ _⟩⟩
    case round =>
      obtain ⟨i, hti, hin, rfl, hat, hbq⟩ := hrel
      by_cases hlt : i < ns
      · obtain ⟨d, hd⟩ : ∃ d, FFld.difF D' (1 :: ts) ss i (nt + 1) = d := ⟨_, rfl⟩
        have HDC := Kept.mk (HDI.out wr b ar cr i (HF5.out.below hbq.out) (HR5.out.below hbq.out) (bstep HW5.out hbq.out) hti hlt)
        rw [hd] at HDC
        by_cases hd0 : d = 0
        · have HN : Kept (mkP D' ts ss (i + 1) = true) := ⟨by rw [mkP_next, hat.out, HLT.out, hd, hd0]; simp⟩
          subst hd0
          clear hd
          go_wp2_with fail
          (with_reducible refine HDC.out.mono ?_)
          rintro e w6 ⟨hb6, rfl⟩
          have HB6 := Kept.mk (bstep hbq.out hb6)
          clear hb6
          go_wp2
          go_roundw
          case rel => exact ⟨i + 1, by omega, by omega, by go_num, HN, HB6⟩
          case measure => simp [intOf] <;> omega
        · have HN : Kept (mkP D' ts ss ns = false) := ⟨mkP_no hlt (by rw [HLT.out]; exact hti) (by rw [HLT.out, hd]; exact hd0)⟩
          have e0 : ((d : Int) != 0) = true := by rw [bne_iff_ne]; omega
          have e1 : ((d : Int) == 0) = false := by rw [beq_eq_false_iff_ne]; omega
          clear hd hd0
          go_wp2_with fail
          (with_reducible refine HDC.out.mono ?_)
          rintro e w6 ⟨hb6, rfl⟩
          have HB6 := Kept.mk (bstep HW5.out (bstep hbq.out hb6))
          clear hb6
          go_wp2
          exact bodyPost_ret (v := .tuple #[.bool false, .int .i64 0]) (by simp [results, Tryz.results60, go_sem]) rfl ⟨HB6.out, by rw [HN.out]⟩
      · obtain rfl : i = ns := by omega
        have HB6 := Kept.mk (bstep HW5.out hbq.out)
        go_wp2
        exact bodyPost_ret (v := .tuple #[.bool true, .int .i64 0]) (by simp [results, Tryz.results60, go_sem]) rfl ⟨HB6.out, by rw [hat.out]⟩
  · exact absurd ⟨D, HD.out, by have := HQ.out; omega⟩ hno
end Go.Proofs.YtdnheaafcbihbaaGreat

set_option linter.unusedVariables false
set_option linter.unusedSimpArgs false
/-! The register that the search finds makes the sequence. -/
namespace Go.Proofs.YtdnheaafcbihbaaGreat
namespace FFld
section
variable {D : FD} (hD : D.Ok)
include hD
theorem serL_padF (p : List Nat) (n : Nat) : serL hD (padF p n) = serL hD p := funext fun i => by
  unfold serL
  rw [padF_get]
theorem serL_plusF {p q : List Nat} {c s : Nat} (hp : ∀ a ∈ p, a < D.p ^ D.k) (hq : ∀ a ∈ q, a < D.p ^ D.k) (hc : c < D.p ^ D.k) : serL hD (plusF D p q c s) = (FD.dom hD.nzd).ser.add (serL hD p) ((FD.dom hD.nzd).ser.mul ((FD.dom hD.nzd).mon1 (toE hD.pre.pk c) s) (serL hD q)) := by
  unfold plusF
  rw [serL_trm, serL_addm hD (padF_lt (Nat.pow_pos hD.pre.pk.p0) hp _) hq hc (by rw [padF_len (by omega)]; omega), serL_padF]
theorem dif_sm {c s : List Nat} (hc : ∀ a ∈ c, a < D.p ^ D.k) (hs : ∀ a ∈ s, a < D.p ^ D.k) (i : Nat) : ∀ n, toE hD.pre.pk (difF D c s i n) = (FD.dom hD.nzd).sm (fun t => (FD.dom hD.nzd).mul (serL hD c t) (serL hD s (i - t))) n
  | 0 => toE_zero hD
  | n + 1 => by
    have h0 := Nat.pow_pos (n := D.k) hD.pre.pk.p0
    rw [difF, toE_add hD (difF_lt hD.pre.pk _ _ _ _) (pmul_lt hD.pre.pk _ _ _), dif_sm hc hs i n, toE_mul hD (getD_lt h0 hc _) (getD_lt h0 hs _)]
    rfl
theorem dif_ser {c s : List Nat} (hc : ∀ a ∈ c, a < D.p ^ D.k) (hs : ∀ a ∈ s, a < D.p ^ D.k) {i n : Nat} (hn : n ≤ i + 1) (hl : c.length ≤ n) : toE hD.pre.pk (difF D c s i n) = (FD.dom hD.nzd).ser.mul (serL hD c) (serL hD s) i := by
  rw [dif_sm hD hc hs]
  have h := (FD.dom hD.nzd).sm_ext (fun t => (FD.dom hD.nzd).mul (serL hD c t) (serL hD s (i - t))) n (fun j hj => by rw [serL_sh hD c j (by omega), Dom.zero_mul]) (i + 1 - n)
  rw [show n + (i + 1 - n) = i + 1 by omega] at h
  exact h.symm
theorem toE_null {a : Nat} (ha : a < D.p ^ D.k) : toE hD.pre.pk a = (FD.dom hD.nzd).zero ↔ a = 0 := by
  constructor
  · intro h
    rw [← toE_zero hD] at h
    exact toE_inj hD.pre.pk ha (Nat.pow_pos hD.pre.pk.p0) h
  · rintro rfl
    exact toE_zero hD
/-- What the state of the search says of the first i elements. -/
structure BmTrue (s : List Nat) (i : Nat) (st : Bm) : Prop where
  a : ∀ j, st.len ≤ j → j < i → (FD.dom hD.nzd).ser.mul (serL hD st.reg) (serL hD s) j = (FD.dom hD.nzd).zero
  r0 : st.reg[0]?.getD 0 = 1
  b : ∀ r : Nat, st.since = r → (∀ j, r + 1 ≤ j + st.len → j < r → (FD.dom hD.nzd).ser.mul (serL hD st.old) (serL hD s) j = (FD.dom hD.nzd).zero) ∧ (FD.dom hD.nzd).ser.mul (serL hD st.old) (serL hD s) r = toE hD.pre.pk st.last
  c : st.since = -1 → st.len = 0
theorem bm_d {s : List Nat} {i : Nat} {st : Bm} (hs : ∀ a ∈ s, a < D.p ^ D.k) (ho : BmOk D i st) : toE hD.pre.pk (bmD D s i st) = (FD.dom hD.nzd).ser.mul (serL hD st.reg) (serL hD s) i :=
  dif_ser hD ho.rq hs (by have := ho.rl; have := ho.li; omega) (Nat.le_refl _)
/-- The coefficient by which the old register is taken. -/
def bmC (D : FD) (h : PK D.p D.k D.m) (s : List Nat) (i : Nat) (st : Bm) : Nat := padd D.p D.k 0 (pscl D.p D.k (D.p - 1) (pmul D.p D.k D.m (bmD D s i st) D.k (ppow h st.last (D.q - 2))))
theorem bm_c {s : List Nat} {i : Nat} {st : Bm} (ho : BmOk D i st) : (FD.dom hD.nzd).add (toE hD.pre.pk (bmD D s i st)) ((FD.dom hD.nzd).mul (toE hD.pre.pk (bmC D hD.pre.pk s i st)) (toE hD.pre.pk st.last)) = (FD.dom hD.nzd).zero := by
  have hd : bmD D s i st < D.p ^ D.k := difF_lt hD.pre.pk _ _ _ _
  have h0 := Nat.pow_pos (n := D.k) hD.pre.pk.p0
  unfold bmC
  rw [toE_add hD h0 (pscl_lt hD.pre.pk _ _), toE_zero hD, Dom.zero_add, toE_neg hD (pmul_lt hD.pre.pk _ _ _), toE_mul hD hd (ppow_lt hD.pre.pk _ _)]
  have hi : (FD.dom hD.nzd).mul (toE hD.pre.pk (ppow hD.pre.pk st.last (D.q - 2))) (toE hD.pre.pk st.last) = (FD.dom hD.nzd).one := inv_ev hD (xs := []) (fun a ha => by cases ha) ho.ls ho.l0
  rw [Dom.mul_comm (FD.dom hD.nzd) ((FD.dom hD.nzd).neg _), Dom.mul_neg, Dom.mul_comm (FD.dom hD.nzd) (toE hD.pre.pk st.last), Dom.mul_assoc, hi, Dom.mul_one, Dom.add_neg]
theorem BmTrue.step {s : List Nat} {i : Nat} {st : Bm} (hs : ∀ a ∈ s, a < D.p ^ D.k) (ho : BmOk D i st) (ht : BmTrue hD s i st) : BmTrue hD s (i + 1) (bmStep D hD.pre.pk s i st) := by
  have hd := bm_d hD hs ho
  have h0 := Nat.pow_pos (n := D.k) hD.pre.pk.p0
  have h1 := ho.s0
  have h2 := ho.s1
  have h3 := ho.li
  unfold bmStep
  split
  · rename_i hz
    refine ⟨fun j h4 h5 => ?_, ht.r0, ht.b, ht.c⟩
    by_cases e : j = i
    · subst e
      rw [hz, toE_zero hD] at hd
      exact hd.symm
    · exact ht.a j h4 (by omega)
  · rename_i hz
    have hcl : bmC D hD.pre.pk s i st < D.p ^ D.k := padd_lt hD.pre.pk _ _
    have hR : serL hD (bmR D hD.pre.pk s i st) = (FD.dom hD.nzd).ser.add (serL hD st.reg) ((FD.dom hD.nzd).ser.mul ((FD.dom hD.nzd).mon1 (toE hD.pre.pk (bmC D hD.pre.pk s i st)) ((i : Int) - st.since).toNat) (serL hD st.old)) := serL_plusF hD ho.rq ho.oq hcl
    have hS : ∀ j, (FD.dom hD.nzd).ser.mul (serL hD (bmR D hD.pre.pk s i st)) (serL hD s) j = (FD.dom hD.nzd).add ((FD.dom hD.nzd).ser.mul (serL hD st.reg) (serL hD s) j) (if j < ((i : Int) - st.since).toNat then (FD.dom hD.nzd).zero else (FD.dom hD.nzd).mul (toE hD.pre.pk (bmC D hD.pre.pk s i st)) ((FD.dom hD.nzd).ser.mul (serL hD st.old) (serL hD s) (j - ((i : Int) - st.since).toNat))) := fun j => by
      rw [hR, Dom.add_mul, Dom.mul_assoc, ← mon_mul]
      rfl
    have hA : ∀ L', st.len ≤ L' → i + 1 ≤ L' + st.len → ∀ j, L' ≤ j → j < i + 1 → (FD.dom hD.nzd).ser.mul (serL hD (bmR D hD.pre.pk s i st)) (serL hD s) j = (FD.dom hD.nzd).zero := fun L' hL1 hL2 j hj1 hj2 => by
      rw [hS j]
      by_cases hr : st.since = -1
      · have := ht.c hr
        omega
      · obtain ⟨r, hr2⟩ : ∃ r : Nat, st.since = r := ⟨st.since.toNat, by omega⟩
        obtain ⟨hb1, hb2⟩ := ht.b r hr2
        by_cases e : j = i
        · subst e
          rw [if_neg (by omega), show j - ((j : Int) - st.since).toNat = r by omega, hb2, ← hd]
          exact bm_c hD ho
        · rw [ht.a j (by omega) (by omega), Dom.zero_add]
          by_cases hj : j < ((i : Int) - st.since).toNat
          · rw [if_pos hj]
          · rw [if_neg hj, hb1 _ (by omega) (by omega), Dom.mul_zero]
    have hR0 : (bmR D hD.pre.pk s i st)[0]?.getD 0 = 1 := by
      have e := congrFun hR 0
      have e2 : (FD.dom hD.nzd).ser.mul ((FD.dom hD.nzd).mon1 (toE hD.pre.pk (bmC D hD.pre.pk s i st)) ((i : Int) - st.since).toNat) (serL hD st.old) 0 = (FD.dom hD.nzd).zero := by rw [mon_mul, if_pos (by omega)]
      have e3 : toE hD.pre.pk ((bmR D hD.pre.pk s i st)[0]?.getD 0) = (FD.dom hD.nzd).add (toE hD.pre.pk (st.reg[0]?.getD 0)) ((FD.dom hD.nzd).ser.mul ((FD.dom hD.nzd).mon1 (toE hD.pre.pk (bmC D hD.pre.pk s i st)) ((i : Int) - st.since).toNat) (serL hD st.old) 0) := e
      rw [e2, Dom.add_zero, ht.r0] at e3
      exact toE_inj hD.pre.pk (getD_lt h0 (plusF_lt hD.pre.pk ho.rq) _) hD.pre.pk.one_lt e3
    split
    · rename_i h7
      refine ⟨hA _ (by simp only []; omega) (by simp only []; omega), hR0, fun r hr => ?_, fun h => ?_⟩
      · have hr' : (i : Int) = r := hr
        obtain rfl : i = r := by omega
        refine ⟨fun j h8 h9 => ht.a j ?_ h9, hd.symm⟩
        simp only [] at h8
        omega
      · have h' : (i : Int) = -1 := h
        omega
    · rename_i h7
      exact ⟨hA _ (Nat.le_refl _) (by simp only []; omega), hR0, ht.b, ht.c⟩
theorem bm_true {s : List Nat} (hs : ∀ a ∈ s, a < D.p ^ D.k) : ∀ i, BmTrue hD s i (bmF D hD.pre.pk s i)
  | 0 => ⟨fun j _ h => by omega, rfl, (fun r h => by have h' : (-1 : Int) = r := h; omega), fun _ => rfl⟩
  | i + 1 => (bm_true hs i).step hD hs (bm_ok hD.pre.pk s i)
end
/-- The search looks at what came before alone. -/
theorem difF_take (D : FD) (c s : List Nat) {i n : Nat} (hi : i < n) : ∀ j, difF D c (s.take n) i j = difF D c s i j
  | 0 => rfl
  | j + 1 => by
    rw [difF, difF, difF_take D c s hi j, List.getElem?_take, if_pos (by omega)]
theorem bm_take {D : FD} (h : PK D.p D.k D.m) (s : List Nat) (n : Nat) : ∀ i, i ≤ n → bmF D h (s.take n) i = bmF D h s i
  | 0, _ => rfl
  | i + 1, hi => by
    rw [bmF, bmF, bm_take h s n i (by omega)]
    unfold bmStep bmR bmD
    rw [difF_take D _ s (by omega)]
/-- The profile has the lengths. -/
theorem bm_prof {D : FD} (h : PK D.p D.k D.m) (s : List Nat) : ∀ n i, i < n → (bmF D h s n).prof[i]?.getD 0 = (bmF D h s (i + 1)).len
  | 0, i, hi => by omega
  | n + 1, i, hi => by
    have hl := (bm_ok h s n).pl
    have hp : (bmF D h s (n + 1)).prof = (bmF D h s n).prof ++ [(bmF D h s (n + 1)).len] := by
      rw [bmF]
      unfold bmStep
      split
      · rfl
      · split <;> rfl
    rw [hp]
    by_cases e : i < n
    · rw [List.getElem?_append_left (by omega)]
      exact bm_prof h s n i e
    · obtain rfl : i = n := by omega
      rw [List.getElem?_append_right (by omega), hl, Nat.sub_self]
      rfl
/-- How the length goes on. -/
theorem bm_next {D : FD} (h : PK D.p D.k D.m) (s : List Nat) (i : Nat) : ((bmF D h s (i + 1)).len = (bmF D h s i).len) ∨ (2 * (bmF D h s i).len ≤ i ∧ (bmF D h s (i + 1)).len = i + 1 - (bmF D h s i).len ∧ bmD D s i (bmF D h s i) ≠ 0) := by
  rw [bmF]
  unfold bmStep
  split
  · exact .inl rfl
  · split
    · rename_i h1 h2
      exact .inr ⟨h2, rfl, h1⟩
    · exact .inl rfl
end FFld
end Go.Proofs.YtdnheaafcbihbaaGreat

set_option linter.unusedVariables false
set_option linter.unusedSimpArgs false
namespace Go.Proofs.YtdnheaafcbihbaaGreat
open Go Go.RowKit Go.Deep
open FFld (ints)
set_option maxRecDepth 20000 in
set_option maxHeartbeats 4000000 in
theorem cProfile_any {D : FFld.FD} (hD : D.Ok) (as_ : Option Addr) (cs n : Nat) (sl : List Nat) (w : World) (hs : Sl .i64 w (.slice as_ n cs) (ints sl)) (hn : sl.length = n) (hsq : ∀ a ∈ sl, a < D.p ^ D.k) (hn2 : n ≤ 200) :
    Calls Tryz.prog 63 #[.int .i64 D.q, .slice as_ n cs] w (fun e w' => Below w.heap.size w w' ∧ ∃ vt, e = .returned (.tuple #[vt, .int .i64 0]) ∧ Sl .i64 w' vt (ints (FFld.bmF D hD.pre.pk sl n).prof)) := by
  have hq6 : D.p ^ D.k ≤ 65536 := hD.pre.small
  have hq0 : D.q = D.p ^ D.k := rfl
  have hse : seqE (D.q : Int) (ints sl) = 0 := by
    unfold seqE
    rw [if_pos ⟨D, hD, rfl⟩, if_neg (by rw [FFld.ints_len]; omega), if_neg (by rw [bel_ints hsq]; simp)]
  have hsc := ccheckSeq_any (D.q : Int) as_ cs (ints sl) w (by rw [FFld.ints_len, hn]; exact hs) (by omega) (by omega)
  rw [hse, FFld.ints_len, hn] at hsc
  have HSC : Kept (Calls Tryz.prog 125 #[.int .i64 D.q, .slice as_ n cs] w (RB w (.int .i64 0))) := ⟨hsc⟩
  have HNW := Kept.mk (fun W => fnew_any (D.q : Int) W (by omega) (by omega))
  have HSH := Kept.mk (fun (W : World) (hW : Below w.heap.size w W) (b : Nat) (hf : FldB D W b) => cshort_any hD as_ cs n sl W hf (hs.below hW) hn hsq hn2)
  have HD := Kept.mk hD
  obtain ⟨q, hq⟩ : ∃ q, D.q = q := ⟨_, rfl⟩
  rw [hq] at HSC HNW ⊢
  have HQ := Kept.mk hq
  clear hs hn hsq hse hsc hq hq0
  go_enter Tryz.func63, Tryz.ntmps63
  go_wp2_with fail
  (with_reducible refine HSC.out.mono ?_)
  rintro e w1 ⟨hb1, rfl⟩
  have HB1 := Kept.mk hb1
  clear hb1
  go_wp2_with fail
  (with_reducible refine (HNW.out _).mono ?_)
  rintro e w2 ⟨hb2, ⟨D', b, hq', hle, rfl, hf⟩ | ⟨hno, rfl⟩⟩
  · obtain rfl : D' = D := FFld.FD.uniq hf.ok HD.out (by have := HQ.out; omega)
    have HB2 := Kept.mk (bstep HB1.out hb2)
    have HS2 := Kept.mk (HSH.out w2 HB2.out b hf)
    clear hb2 hf hq'
    go_wp2_with fail
    (with_reducible refine HS2.out.mono ?_)
    rintro e w3 ⟨hb3, vt, vp, rfl, ht, hp⟩
    have HB3 := Kept.mk (bstep HB2.out hb3)
    have HT := Kept.mk hp
    obtain ⟨ta, tc, rfl, _, _⟩ := ht.form
    obtain ⟨pa, pc, rfl, _, _⟩ := hp.form
    clear hb3 ht hp
    go_wp2
    exact bodyPost_ret (v := .tuple #[.slice pa _ pc, .int .i64 0]) (by simp [results, Tryz.results63, go_sem]) rfl ⟨HB3.out, _, rfl, HT.out⟩
  · exact absurd ⟨D, HD.out, by have := HQ.out; omega⟩ hno
/-- The taps of the register after n elements. -/
def bmT (D : FFld.FD) (h : FFld.PK D.p D.k D.m) (s : List Nat) (n : Nat) : List Nat := (FFld.padF (FFld.bmF D h s n).reg ((FFld.bmF D h s n).len + 1)).drop 1
section
variable {D : FFld.FD} (hD : D.Ok)
theorem bmT_len (s : List Nat) (n : Nat) : (bmT D hD.pre.pk s n).length = (FFld.bmF D hD.pre.pk s n).len := by
  unfold bmT
  rw [List.length_drop, FFld.padF_len (FFld.bm_ok hD.pre.pk s n).rl]
  omega
theorem bmT_lt (s : List Nat) (n : Nat) : ∀ a ∈ bmT D hD.pre.pk s n, a < D.p ^ D.k := fun a ha =>
  FFld.padF_lt (Nat.pow_pos hD.pre.pk.p0) (FFld.bm_ok hD.pre.pk s n).rq _ a (List.mem_of_mem_drop ha)
theorem bmT_cons {s : List Nat} (hs : ∀ a ∈ s, a < D.p ^ D.k) (n : Nat) : 1 :: bmT D hD.pre.pk s n = FFld.padF (FFld.bmF D hD.pre.pk s n).reg ((FFld.bmF D hD.pre.pk s n).len + 1) := by
  have h0 := (FFld.bm_true hD hs n).r0
  have hl := FFld.padF_len (FFld.bm_ok hD.pre.pk s n).rl
  have hg := FFld.padF_get (FFld.bmF D hD.pre.pk s n).reg ((FFld.bmF D hD.pre.pk s n).len + 1) 0
  rw [h0] at hg
  unfold bmT
  cases hP : FFld.padF (FFld.bmF D hD.pre.pk s n).reg ((FFld.bmF D hD.pre.pk s n).len + 1) with
  | nil => rw [hP] at hl; simp at hl
  | cons a l =>
    rw [hP] at hg
    simp only [List.getElem?_cons_zero, Option.getD_some] at hg
    subst hg
    rfl
theorem bmT_dif {s : List Nat} (hs : ∀ a ∈ s, a < D.p ^ D.k) (n j : Nat) (hj : (FFld.bmF D hD.pre.pk s n).len ≤ j) : FFld.toE hD.pre.pk (FFld.difF D (1 :: bmT D hD.pre.pk s n) s j ((bmT D hD.pre.pk s n).length + 1)) = (FFld.FD.dom hD.nzd).ser.mul (FFld.serL hD (FFld.bmF D hD.pre.pk s n).reg) (FFld.serL hD s) j := by
  rw [bmT_cons hD hs, bmT_len hD, FFld.dif_ser hD (FFld.padF_lt (Nat.pow_pos hD.pre.pk.p0) (FFld.bm_ok hD.pre.pk s n).rq _) hs (by omega) (Nat.le_of_eq (FFld.padF_len (FFld.bm_ok hD.pre.pk s n).rl)), FFld.serL_padF]
/-- The register makes the sequence. -/
theorem bm_makes {s : List Nat} (hs : ∀ a ∈ s, a < D.p ^ D.k) (n : Nat) : mkP D (bmT D hD.pre.pk s n) s n = true := by
  unfold mkP
  rw [List.all_eq_true]
  intro j hj
  have hj' := List.mem_range.1 hj
  refine decide_eq_true ?_
  by_cases h : j < (bmT D hD.pre.pk s n).length
  · exact .inl h
  · right
    rw [bmT_len hD] at h
    have h1 := bmT_dif hD hs n j (by omega)
    rw [(FFld.bm_true hD hs n).a j (by omega) hj'] at h1
    exact (FFld.toE_null hD (FFld.difF_lt hD.pre.pk _ _ _ _)).1 h1
/-- Where the length changes the register of what came before fails. -/
theorem bm_fails {s : List Nat} (hs : ∀ a ∈ s, a < D.p ^ D.k) (i : Nat) (hd : FFld.bmD D s i (FFld.bmF D hD.pre.pk s i) ≠ 0) : mkP D (bmT D hD.pre.pk s i) (s.take (i + 1)) (i + 1) = false := by
  have hl := (FFld.bm_ok hD.pre.pk s i).li
  refine mkP_no (i := i) (by omega) (by rw [bmT_len hD]; exact hl) ?_
  rw [FFld.difF_take D _ s (by omega)]
  intro h
  have h1 := bmT_dif hD hs i i hl
  rw [h, FFld.toE_zero hD, ← FFld.bm_d hD hs (FFld.bm_ok hD.pre.pk s i)] at h1
  exact hd ((FFld.toE_null hD (FFld.difF_lt hD.pre.pk _ _ _ _)).1 h1.symm)
theorem bmT_take {s : List Nat} (n : Nat) {i : Nat} (hi : i ≤ n) : bmT D hD.pre.pk (s.take n) i = bmT D hD.pre.pk s i := by
  unfold bmT
  rw [FFld.bm_take hD.pre.pk s n i hi]
end
end Go.Proofs.YtdnheaafcbihbaaGreat

set_option linter.unusedVariables false
set_option linter.unusedSimpArgs false
namespace Go.Proofs.YtdnheaafcbihbaaGreat
open Go Go.RowKit Go.Deep
open FFld (ints)
end Go.Proofs.YtdnheaafcbihbaaGreat

set_option linter.unusedVariables false
set_option linter.unusedSimpArgs false
namespace Go.Proofs.YtdnheaafcbihbaaGreat
open Go Go.RowKit Go.Deep
open FFld (ints)
abbrev rcdbox (o : Int) (ao : Option Addr) (n cap : Nat) (k : Int) : Obj := .cells #[.int .i64 o, .slice ao n cap, .int .i64 k] 24
end Go.Proofs.YtdnheaafcbihbaaGreat

set_option linter.unusedVariables false
set_option linter.unusedSimpArgs false
namespace Go.Proofs.YtdnheaafcbihbaaGreat
open Go Go.RowKit Go.Deep
open FFld (ints)
end Go.Proofs.YtdnheaafcbihbaaGreat

set_option linter.unusedVariables false
set_option linter.unusedSimpArgs false
namespace Go.Proofs.YtdnheaafcbihbaaGreat
open Go Go.RowKit Go.Deep
open FFld (ints)
/-- Whether a list has a number. -/
def hasB (l : List Int) (n : Int) : Bool := l.any fun a => decide (a = n)
/-- What order returns: the order of a field. -/
def OdRet (n most : Int) (w : World) (e : Ending) (w' : World) : Prop := Below w.heap.size w w' ∧ ∃ (D : FFld.FD), D.Ok ∧ ((D.q : Int) ≤ most ∨ D.q ≤ 16) ∧ e = .returned (.int .i64 D.q)
def s3L : List Nat := [2, 3, 4, 5, 7, 8, 9, 11, 13, 16]
theorem s3_fit (t : Nat) (ht : t < 10) : FFld.Fit ((s3L[t]?.getD 0 : Nat) : Int) ∧ s3L[t]?.getD 0 ≤ 16 := by
  have h : ∀ p k : Nat, FFld.isP p = true → 1 ≤ k → p ^ k ≤ 16 → FFld.Fit ((p ^ k : Nat) : Int) ∧ p ^ k ≤ 16 := fun p k hp hk hq => ⟨FFld.fit_pow (FFld.prime_of hp) hk (by omega), hq⟩
  have : t = 0 ∨ t = 1 ∨ t = 2 ∨ t = 3 ∨ t = 4 ∨ t = 5 ∨ t = 6 ∨ t = 7 ∨ t = 8 ∨ t = 9 := by omega
  rcases this with rfl | rfl | rfl | rfl | rfl | rfl | rfl | rfl | rfl | rfl
  · exact h 2 1 (by decide) (by decide) (by decide)
  · exact h 3 1 (by decide) (by decide) (by decide)
  · exact h 2 2 (by decide) (by decide) (by decide)
  · exact h 5 1 (by decide) (by decide) (by decide)
  · exact h 7 1 (by decide) (by decide) (by decide)
  · exact h 2 3 (by decide) (by decide) (by decide)
  · exact h 3 2 (by decide) (by decide) (by decide)
  · exact h 11 1 (by decide) (by decide) (by decide)
  · exact h 13 1 (by decide) (by decide) (by decide)
  · exact h 2 4 (by decide) (by decide) (by decide)
abbrev s3box : Obj := .cells #[.int .i64 2, .int .i64 3, .int .i64 4, .int .i64 5, .int .i64 7, .int .i64 8, .int .i64 9, .int .i64 11, .int .i64 13, .int .i64 16] 109
theorem s3_cell {W : World} {g : Nat} (h : W.heap[g]? = some s3box) (t : Nat) (ht : t < 10) : W.cell? ⟨g, t, none⟩ = some (.int .i64 ((s3L[t]?.getD 0 : Nat) : Int)) := by
  rw [cell_of_row W g t _ _ (0, 0) h]
  have : t = 0 ∨ t = 1 ∨ t = 2 ∨ t = 3 ∨ t = 4 ∨ t = 5 ∨ t = 6 ∨ t = 7 ∨ t = 8 ∨ t = 9 := by omega
  rcases this with rfl | rfl | rfl | rfl | rfl | rfl | rfl | rfl | rfl | rfl <;> rfl
set_option maxRecDepth 20000 in
set_option maxHeartbeats 4000000 in
theorem order3_any (n most : Int) (w : World) (h0 : -9223372036854775808 ≤ n) (h1 : n ≤ 9223372036854775807) :
    Calls Tryz.prog 58 #[.int .i64 n, .int .i64 most] w (OdRet n most w) := by
  have HR := Kept.mk (fun W => rnew_any n W h0 h1)
  have HX0 : Kept (Bxs w [s3box] (w.alloc s3box)) := ⟨(Bxs.start w).alloc (by simp) _⟩
  obtain ⟨U, hU⟩ : ∃ U, IntKind.u64.wrap n = U := ⟨_, rfl⟩
  obtain ⟨hU0, hU1⟩ : 0 ≤ U ∧ U ≤ 18446744073709551615 := by rw [← hU, IntKind.wrap_u64]; omega
  obtain ⟨t, ht⟩ : ∃ t : Nat, U % 10 = (t : Int) := ⟨(U % 10).toNat, by omega⟩
  have ht10 : t < 10 := by omega
  obtain ⟨sm, hsm⟩ : ∃ s, s3L[t]?.getD 0 = s := ⟨_, rfl⟩
  obtain ⟨hfit, hs16⟩ := s3_fit t ht10
  rw [hsm] at hfit hs16
  obtain ⟨D', hD', hq'⟩ := hfit
  have HFIT : Kept (D'.Ok ∧ (D'.q : Int) = sm) := ⟨⟨hD', hq'.symm⟩⟩
  have hu0 : 0 ≤ U % 10 := by omega
  have hu1 : U % 10 < 10 := by omega
  have hu2 : (U % 10).toNat = t := by omega
  clear hD' hq'
  go_enter Tryz.func58, Tryz.ntmps58
  go_wp2_with fail
  refine (HR.out _).mono ?_
  rintro e w1 ⟨hb1, h⟩
  have HX1 := Kept.mk (HX0.out.below hb1)
  clear hb1 HX0
  rcases h with ⟨D, hD, hq, rfl⟩ | ⟨hn, rfl⟩
  · have HX2 := Kept.mk (HX1.out.below ((Below.refl _ _).alloc (Nat.le_refl _) (rbox D.q D.p D.k D.m)))
    clear HX1
    by_cases hle : n ≤ most
    · have HRS : Kept (D.Ok ∧ (D.q : Int) = n ∧ n ≤ most) := ⟨⟨hD, by omega, hle⟩⟩
      have eg : decide (n ≤ most) = true := decide_eq_true hle
      clear hD hq ht hU hsm hle
      go_wp2
      go_ret
      exact ⟨HX2.out.1, D, HRS.out.1, .inl (by have := HRS.out.2; omega), by rw [HRS.out.2.1]; rfl⟩
    · have eg : decide (n ≤ most) = false := decide_eq_false hle
      have hcell := s3_cell HX2.out.b0 t ht10
      rw [hsm] at hcell
      clear hD hq hsm ht hle
      go_wp2
      go_ret
      exact ⟨HX2.out.1, D', HFIT.out.1, .inr (by have := HFIT.out.2; omega), by rw [HFIT.out.2]; rfl⟩
  · have HX2 := Kept.mk (HX1.out.below ((Below.refl _ _).alloc (Nat.le_refl _) rzbox))
    have hcell := s3_cell HX2.out.b0 t ht10
    rw [hsm] at hcell
    clear HX1 hn hsm ht
    go_wp2
    go_ret
    exact ⟨HX2.out.1, D', HFIT.out.1, .inr (by have := HFIT.out.2; omega), by rw [HFIT.out.2]; rfl⟩
end Go.Proofs.YtdnheaafcbihbaaGreat

set_option linter.unusedVariables false
set_option linter.unusedSimpArgs false
namespace Go.Proofs.YtdnheaafcbihbaaGreat
open Go Go.RowKit Go.Deep
open FFld (ints)
/-- A number of any list as an element. -/
def elE (q : Nat) (xs : List Int) (i : Nat) : Nat := if i < xs.length then (IntKind.u64.wrap (xs[i]?.getD 0) % (q : Int)).toNat else 0
theorem umod_nat (q : Nat) (hq : 1 ≤ q) (a : Int) : ∃ U r : Nat, IntKind.u64.wrap a = U ∧ (U : Int) % (q : Int) = r ∧ (U : Int).tmod (q : Int) = r ∧ r < q ∧ (IntKind.u64.wrap a % (q : Int)).toNat = r ∧ U ≤ 18446744073709551615 := by
  have h0 : 0 ≤ IntKind.u64.wrap a ∧ IntKind.u64.wrap a ≤ 18446744073709551615 := by rw [IntKind.wrap_u64]; omega
  obtain ⟨U, hU⟩ : ∃ U : Nat, IntKind.u64.wrap a = U := ⟨(IntKind.u64.wrap a).toNat, by omega⟩
  have e : (U : Int) % (q : Int) = ((U % q : Nat) : Int) := by omega
  refine ⟨U, U % q, hU, e, ?_, Nat.mod_lt _ (by omega), ?_, by omega⟩
  · rw [Int.tmod_eq_emod_of_nonneg (by omega)]
    exact e
  · rw [hU, e]
    rfl
theorem elE_lt {q : Nat} (hq : 1 ≤ q) (xs : List Int) (i : Nat) : elE q xs i < q := by
  unfold elE
  split
  · obtain ⟨U, r, _, _, _, h, e, _⟩ := umod_nat q hq (xs[i]?.getD 0)
    rw [e]
    exact h
  · omega
def elL (q : Nat) (xs : List Int) (len : Nat) : List Nat := (List.range len).map (elE q xs)
theorem elL_len (q : Nat) (xs : List Int) (len : Nat) : (elL q xs len).length = len := by simp [elL]
theorem elL_lt {q : Nat} (hq : 1 ≤ q) (xs : List Int) (len : Nat) : ∀ a ∈ elL q xs len, a < q := fun a ha => by
  obtain ⟨i, _, rfl⟩ := List.mem_map.1 ha
  exact elE_lt hq xs i
theorem elL_next (q : Nat) (xs : List Int) (i : Nat) : elL q xs (i + 1) = elL q xs i ++ [elE q xs i] := by
  unfold elL
  rw [List.range_succ, List.map_append]
  rfl
set_option maxRecDepth 20000 in
set_option maxHeartbeats 4000000 in
theorem elements_any (q len : Nat) (v : Value) (xs : List Int) (w : World) (h : Sl .i64 w v xs) (hi : I64s xs) (hq1 : 1 ≤ q) (hq6 : q ≤ 65536) (hlen : len ≤ 1000) :
    Calls Tryz.prog 37 #[.int .i64 q, v, .int .i64 len] w (RetM w (ints (elL q xs len))) := by
  obtain ⟨ao, cap, rfl, hcap, hmax, hc⟩ := h
  obtain ⟨n, hN⟩ : ∃ n, xs.length = n := ⟨_, rfl⟩
  have HC := Kept.mk hc
  have HBD := Kept.mk hi
  rw [hN] at hcap ⊢
  have HN := Kept.mk hN
  unfold maxLen at hmax
  have eq1 : IntKind.u64.wrap (q : Int) = q := by rw [IntKind.wrap_u64]; omega
  have eq0 : ¬ ((q : Int) = 0) := by omega
  have eq2 : ¬ (q = 0) := by omega
  clear hc hN hi
  go_enter Tryz.func37, Tryz.ntmps37
  go_wp2
  go_loopw [7, 8] (fun ov iv wr => ∃ (i : Nat) (l : List Nat), i ≤ len ∧ iv = .int .i64 i ∧ l.length = i ∧ Kept (elL q xs i = l) ∧ Kept (Mine 3 .i64 w.heap.size wr ov (ints l)) ∧ Kept (Below w.heap.size w wr)) (fun _ iv _ => len - (intOf iv).toNat)
  case atStart => exact ⟨0, [], Nat.zero_le _, rfl, rfl, ⟨rfl⟩, ⟨Mine.nil _ _ _ _⟩, ⟨Below.refl _ _⟩⟩
  case round =>
    obtain ⟨i, l, hik, rfl, hll, hat, hmn, hbw⟩ := hrel
    obtain ⟨ov0, oc, rfl, hoc, hom⟩ := hmn.out.sl.form
    rw [FFld.ints_len, hll] at hoc hmn ⊢
    by_cases hlt : i < len
    · by_cases hin : i < n
      · obtain ⟨g, o, rfl, hg, hcell⟩ := HC.out i (by rw [HN.out]; exact hin)
        obtain ⟨a, ha⟩ : ∃ a, xs[i]?.getD 0 = a := ⟨_, rfl⟩
        have hab : -9223372036854775808 ≤ a ∧ a ≤ 9223372036854775807 := by
          rw [← ha, List.getElem?_eq_getElem (by rw [HN.out]; exact hin)]
          exact HBD.out _ (List.getElem_mem _)
        obtain ⟨a0, a1⟩ := hab
        rw [ha] at hcell
        have p0 := belowCell hbw.out hcell
        obtain ⟨U, r, hU, hr1, hr2, hrq, hr3, hUm⟩ := umod_nat q hq1 a
        have HL : Kept (elL q xs (i + 1) = l ++ [r]) := ⟨by rw [elL_next, hat.out]; unfold elE; rw [if_pos (by rw [HN.out]; exact hin), ha, hr3]⟩
        clear ha hcell hr3
        have hal : Below wr.heap.size wr (wr.alloc (.cells #[.int .i64 (r : Nat)] 3)) := (Below.refl _ _).alloc (Nat.le_refl _) _
        have HM3 := Kept.mk (hmn.out.alloc (.cells #[.int .i64 (r : Nat)] 3))
        have HNW := Kept.mk (new_one (K := .i64) (x := ((r : Nat) : Int)) (w := wr.alloc (.cells #[.int .i64 (r : Nat)] 3)) (b := wr.heap.size) (o := 0) (by exact (Row.new (E := 3) (K := .i64) wr [((r : Nat) : Int)]).cell (i := 0) (by simp)))
        have hsz := hbw.out.size
        have HBB := Kept.mk (show w.heap.size ≤ (wr.alloc (.cells #[.int .i64 (r : Nat)] 3)).heap.size by simp; omega)
        have HBQ := Kept.mk (hbw.out.alloc hsz (.cells #[.int .i64 (r : Nat)] 3))
        have HOW := Kept.mk HM3.out.own
        have H1 := Kept.mk (show ((ints l).length + [((r : Nat) : Int)].length) * 8 ≤ 140737488355328 by rw [FFld.ints_len, hll]; simp; omega)
        have H2 := Kept.mk (show (ints l).length + [((r : Nat) : Int)].length ≤ maxLen by rw [FFld.ints_len, hll]; unfold maxLen; simp; omega)
        clear hal
        go_wp2_with (at_builtin; refine wpList_append_mine _ rfl _ _ 22 (by rfl) 3 .i64 8 Tryz.underlying22 info_i64 w.heap.size (.slice ov0 i oc) (ints l) (by rfl) HM3.out HBB.out ⟨wr.heap.size, 0, none⟩ 1 1 [((r : Nat) : Int)] (by rfl) rfl HNW.out H1.out H2.out ?_)
        intro v' w5 hm5 hg5 hn5
        have HM5 := Kept.mk hm5
        have HB5 := Kept.mk (HBQ.out.grown hg5 HBB.out (fun j hj => (HOW.out j hj).1))
        clear hm5 hg5 hn5
        go_wp2
        go_roundw
        case rel => exact ⟨i + 1, l ++ [r], by omega, by go_num, by simp [hll], HL, ⟨by rw [FFld.ints_append]; exact HM5.out⟩, HB5⟩
        case measure => simp [intOf] <;> omega
      · have HL : Kept (elL q xs (i + 1) = l ++ [0]) := ⟨by rw [elL_next, hat.out]; unfold elE; rw [if_neg (by rw [HN.out]; exact hin)]⟩
        have hal : Below wr.heap.size wr (wr.alloc (.cells #[.int .i64 (0 : Nat)] 3)) := (Below.refl _ _).alloc (Nat.le_refl _) _
        have HM3 := Kept.mk (hmn.out.alloc (.cells #[.int .i64 (0 : Nat)] 3))
        have HNW := Kept.mk (new_one (K := .i64) (x := ((0 : Nat) : Int)) (w := wr.alloc (.cells #[.int .i64 (0 : Nat)] 3)) (b := wr.heap.size) (o := 0) (by exact (Row.new (E := 3) (K := .i64) wr [((0 : Nat) : Int)]).cell (i := 0) (by simp)))
        have hsz := hbw.out.size
        have HBB := Kept.mk (show w.heap.size ≤ (wr.alloc (.cells #[.int .i64 (0 : Nat)] 3)).heap.size by simp; omega)
        have HBQ := Kept.mk (hbw.out.alloc hsz (.cells #[.int .i64 (0 : Nat)] 3))
        have HOW := Kept.mk HM3.out.own
        have H1 := Kept.mk (show ((ints l).length + [((0 : Nat) : Int)].length) * 8 ≤ 140737488355328 by rw [FFld.ints_len, hll]; simp; omega)
        have H2 := Kept.mk (show (ints l).length + [((0 : Nat) : Int)].length ≤ maxLen by rw [FFld.ints_len, hll]; unfold maxLen; simp; omega)
        clear hal
        go_wp2_with (at_builtin; refine wpList_append_mine _ rfl _ _ 22 (by rfl) 3 .i64 8 Tryz.underlying22 info_i64 w.heap.size (.slice ov0 i oc) (ints l) (by rfl) HM3.out HBB.out ⟨wr.heap.size, 0, none⟩ 1 1 [((0 : Nat) : Int)] (by rfl) rfl HNW.out H1.out H2.out ?_)
        intro v' w5 hm5 hg5 hn5
        have HM5 := Kept.mk hm5
        have HB5 := Kept.mk (HBQ.out.grown hg5 HBB.out (fun j hj => (HOW.out j hj).1))
        clear hm5 hg5 hn5
        go_wp2
        go_roundw
        case rel => exact ⟨i + 1, l ++ [0], by omega, by go_num, by simp [hll], HL, ⟨by rw [FFld.ints_append]; exact HM5.out⟩, HB5⟩
        case measure => simp [intOf] <;> omega
    · obtain rfl : i = len := by omega
      go_wp2
      go_ret
      exact ⟨hbw.out, _, rfl, by rw [hat.out]; exact hmn.out⟩
/-- Different places of any numbers. -/
def plF (xs : List Int) (n most : Nat) : Nat → List Nat
  | 0 => []
  | i + 1 => if (plF xs n most i).length < most ∧ elE n xs i ∉ plF xs n most i then plF xs n most i ++ [elE n xs i] else plF xs n most i
end Go.Proofs.YtdnheaafcbihbaaGreat
