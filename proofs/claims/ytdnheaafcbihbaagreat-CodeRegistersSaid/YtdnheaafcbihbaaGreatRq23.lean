/-
  Texts of the proof, merged by program: Fth Cpa Cer Ce2 Ce4 Rcv.
-/
import Derived.Test.YtdnheaafcbihbaaGreatRq22
import Derived.WalkMore
set_option linter.unusedSimpArgs false
set_option linter.unusedVariables false
set_option maxHeartbeats 16000000
namespace Go.Proofs.YtdnheaafcbihbaaGreat
open Go Go.RowKit Go.Deep
open FFld (ints)
def ThRet (D : FFld.FD) (h : FFld.PK D.p D.k D.m) (xs ys : List Nat) (n : Nat) (w : World) (e : Ending) (w' : World) : Prop := Below w.heap.size w w' /\
 ((∃ i j, j < i /\ i < n /\ xs[i]?.getD 0 = xs[j]?.getD 0 /\ e = .returned (.tuple #[.slice none 0 0, .int .i64 1])) \/
  ((∀ a, a < n -> FFld.thA D xs a ≠ 0) /\ ∃ v, e = .returned (.tuple #[v, .int .i64 0]) /\ Sl .i64 w' v (ints (FFld.trm (FFld.thR D h xs ys n n)))))
set_option maxRecDepth 20000 in
theorem fthrough_good {D : FFld.FD} {b : Nat} (hD : D.Ok) (vx vy : Value) (xs ys : List Nat) (n : Nat) (w : World) (hf : FldB D w b) (hx : Sl .i64 w vx (ints xs)) (hy : Sl .i64 w vy (ints ys)) (hxq : ∀ a ∈ xs, a < D.p ^ D.k) (hyq : ∀ a ∈ ys, a < D.p ^ D.k) (lx : xs.length = n) (ly : ys.length = n) (hn : n <= 200) :
 Calls Tryz.prog 75 #[.pointer (some ⟨b, 0, none⟩), vx, vy] w (ThRet D hD.pre.pk xs ys n w) := by
 have hk := hD.pre.pk
 have H1 := Kept.mk (areElements_any vx (ints xs) w hf hx)
 have H2 := Kept.mk (areElements_any vy (ints ys) w hf hy)
 rw [elsB_ints hxq] at H1
 rw [elsB_ints hyq] at H2
 obtain ⟨ax, cx, hvx, hcx, hmx⟩ := hx.form
 obtain ⟨ay, cy, hvy, hcy, hmy⟩ := hy.form
 subst hvx hvy
 rw [FFld.ints_len, lx] at hx hcx H1 ⊢
 rw [FFld.ints_len, ly] at hy hcy H2 ⊢
 obtain ⟨h, T, xv, fs, fp, fw, ms, hb, ho, hna⟩ := hf.open2
 have HF := Kept.mk hf
 have HX := Kept.mk hx
 have HY := Kept.mk hy
 have HXQ := Kept.mk hxq
 have HYQ := Kept.mk hyq
 have HLX := Kept.mk lx
 have HLY := Kept.mk ly
 have HO := Kept.mk ho
 have HHB := Kept.mk hb
 have hmp := ho.mp
 have hcp := ho.cp
 have hbl : b < w.heap.size := hf.lt
 have e200 : decide ((200 : Int) < n) = false := by rw [decide_eq_false_iff_not]; omega
 clear hf hx hy hxq hyq lx ly ho hb
 go_enter Tryz.func75, Tryz.ntmps75
 go_wp2_with fail
 refine H1.out.mono ?_
 rintro e w1 ⟨rfl, rfl⟩
 go_wp2_with fail
 refine H2.out.mono ?_
 rintro e w1 ⟨rfl, rfl⟩
 go_wp2_with (at_make; refine wpList_make_zeros _ rfl _ _ 22 rfl 3 .i64 Tryz.underlying22 info_i64 _ _ n rfl rfl (by omega) (by omega) (by omega) ?_)
 intro w3 hrow hbel
 rw [FFld.ints_rep] at hrow
 have HW3 := Kept.mk hrow.wv
 have HB3 := Kept.mk (show Below w.heap.size w w3 by simpa using hbel)
 obtain ⟨g, hg⟩ : ∃ g, w.heap.size = g := ⟨_, rfl⟩
 rw [hg] at HW3
 have hg3 := HW3.out.lt
 have hal : Below w3.heap.size w3 (w3.alloc (.cells #[.int .i64 1] 3)) := (Below.refl _ _).alloc (Nat.le_refl _) _
 have HW4 : Kept (Wv (w3.alloc (.cells #[.int .i64 1] 3)) g (FFld.thR D hk xs ys n 0)) := ⟨HW3.out.below hal⟩
 have HV4 : Kept (Wv (w3.alloc (.cells #[.int .i64 1] 3)) w3.heap.size (FFld.thV D xs 0)) := ⟨(Row.new (E := 3) (K := .i64) w3 [(1 : Int)]).wv (l := [1])⟩
 have HB4 := Kept.mk (bstep HB3.out hal)
 have HNG := Kept.mk hg
 have hbg : b ≠ g := by omega
 rw [hg] at hbl
 clear hrow hbel hal H1 H2 HW3 hg e200
 go_wp2
 try rw [HNG.out]
 go_loopw [9, 44] (fun vv iv wr => ∃ (i gv cv : Nat), i <= n /\ iv = .int .i64 i /\ vv = .slice (some ⟨gv, 0, none⟩) (i + 1) cv /\ g < gv /\ i + 1 <= cv /\ cv <= maxLen /\ Kept (Wv wr gv (FFld.thV D xs i)) /\ Kept (Wv wr g (FFld.thR D hk xs ys n i)) /\ Kept (∀ a, a < i -> FFld.thA D xs a ≠ 0) /\ Kept (Below w.heap.size w wr)) (fun _ iv _ => n - (intOf iv).toNat)
 case atStart => exact ⟨0, w3.heap.size, 1, Nat.zero_le _, rfl, rfl, hg3, Nat.le_refl _, by unfold maxLen; omega, HV4, HW4, ⟨fun a ha => absurd ha (Nat.not_lt_zero _)⟩, HB4⟩
 case round =>
  clear HV4 HW4 HB4 hg3
  obtain ⟨i, gv, cv, hin, rfl, rfl, hgv, hcv, hmv, hwv, hwr, hnd, hbx⟩ := hrel
  by_cases hlt : i < n
  ·obtain ⟨bx, ox, rfl, hbx0, cxx⟩ := (HX.out.below hbx.out).news_at i (by rw [FFld.ints_len, HLX.out]; exact hlt)
   obtain ⟨x, hxe⟩ : ∃ x, xs[i]?.getD 0 = x := ⟨_, rfl⟩
   rw [FFld.ints_get, hxe] at cxx
   have hxq : x < D.p ^ D.k := by rw [<- hxe]; exact FFld.at_lt hD HXQ.out i
   obtain ⟨c0, _⟩ := six_cells ((hbx.out.block b (by rw [HNG.out]; exact hbl)).trans HHB.out)
   have HAT : Kept (FFld.hornF D (FFld.thV D xs i) x (FFld.thV D xs i).length = FFld.thA D xs i) := ⟨by unfold FFld.thA; rw [hxe]⟩
   have HV := Kept.mk (gvalue_any h (.slice (some ⟨gv, 0, none⟩) (i + 1) cv) (FFld.thV D xs i) x w wr HO.out hna hbx.out (hwv.out.sl (FFld.thV_len D xs i).symm hcv hmv) (FFld.thV_lt hk xs i) hxq (by rw [FFld.thV_len]; omega))
   rw [HAT.out] at HV
   obtain ⟨at_, hat⟩ : ∃ a, FFld.thA D xs i = a := ⟨_, rfl⟩
   rw [hat] at HV
   have HATE := Kept.mk hat
   have HXE := Kept.mk hxe
   have HXL := Kept.mk hxq
   have hatq : at_ < D.p ^ D.k := by rw [<- hat]; exact FFld.thA_lt hD HXQ.out i
   have HATQ := Kept.mk hatq
   have hx6 : x <= 65536 := by have : D.p ^ D.k <= 65536 := hD.pre.small; omega
   have ha6 : at_ <= 65536 := by have : D.p ^ D.k <= 65536 := hD.pre.small; omega
   clear hxe hxq hat hatq HAT
   go_wp2_with fail
   refine HV.out.mono ?_
   rintro e w4 ⟨hb4, rfl⟩
   have HB4 := Kept.mk (bstep hbx.out hb4)
   have HWV := Kept.mk (hwv.out.below hb4)
   have HWR := Kept.mk (hwr.out.below hb4)
   have d0 := belowCell hb4 c0
   clear hb4 HV c0 cxx
   by_cases hA : at_ = 0
   ·subst hA
    have HDU := Kept.mk (FFld.thA_dup hD HXQ.out HATE.out)
    go_wp2
    go_ret2
    obtain ⟨j, hj, e⟩ := HDU.out
    exact ⟨HB4.out, .inl ⟨i, j, hj, hlt, e, rfl⟩⟩
   ·have eA : ((at_ : Int) == 0) = false := by rw [beq_eq_false_iff_ne]; omega
    obtain ⟨by_, oy, rfl, hby, cyy⟩ := (HY.out.below HB4.out).news_at i (by rw [FFld.ints_len, HLY.out]; exact hlt)
    obtain ⟨y, hye⟩ : ∃ y, ys[i]?.getD 0 = y := ⟨_, rfl⟩
    rw [FFld.ints_get, hye] at cyy
    have hyq : y < D.p ^ D.k := by rw [<- hye]; exact FFld.at_lt hD HYQ.out i
    obtain ⟨R, hR⟩ : ∃ R, FFld.thR D hk xs ys n i = R := ⟨_, rfl⟩
    have HRL : Kept (R.length = n) := ⟨by rw [<- hR]; exact FFld.thR_len D hk xs ys n i⟩
    have HRQ : Kept (∀ a ∈ R, a < D.p ^ D.k) := ⟨by rw [<- hR]; exact FFld.thR_lt hk xs ys n i⟩
    obtain ⟨rv, hrv⟩ : ∃ r, FFld.hornF D R x R.length = r := ⟨_, rfl⟩
    have hrvq : rv < D.p ^ D.k := by rw [<- hrv]; exact FFld.hornF_lt hk _ _ _
    obtain ⟨mi, hmi⟩ : ∃ m, FFld.padd D.p D.k y (FFld.pscl D.p D.k (D.p - 1) rv) = m := ⟨_, rfl⟩
    have hmiq : mi < D.p ^ D.k := by rw [<- hmi]; exact FFld.padd_lt hk _ _
    obtain ⟨iv, hiv⟩ : ∃ v, FFld.ppow hk at_ (D.q - 2) = v := ⟨_, rfl⟩
    have hivq : iv < D.p ^ D.k := by rw [<- hiv]; exact FFld.ppow_lt _ _ _
    obtain ⟨co, hco⟩ : ∃ c, FFld.pmul D.p D.k D.m mi D.k iv = c := ⟨_, rfl⟩
    have hcoq : co < D.p ^ D.k := by rw [<- hco]; exact FFld.pmul_lt hk _ _ _
    have HNX : Kept (FFld.thR D hk xs ys n (i + 1) = FFld.addm D R 0 (FFld.thV D xs i) co) := ⟨by simp only [FFld.thR]; unfold FFld.misF; rw [hR, HXE.out, hye, hrv, hmi, HATE.out, hiv, hco]⟩
    have HND : Kept (∀ a, a < i + 1 -> FFld.thA D xs a ≠ 0) := ⟨fun a ha => by
     by_cases e : a = i
     ·rw [e, HATE.out]; exact hA
     ·exact hnd.out a (by omega)⟩
    rw [hR] at HWR
    have HG := Kept.mk (fun W (hW : Below w4.heap.size w4 W) => gvalue_any h (.slice (some ⟨g, 0, none⟩) n n) R x w W HO.out hna (bstep HB4.out hW) ((HWR.out.below hW).sl HRL.out.symm (Nat.le_refl _) (by unfold maxLen; omega)) HRQ.out HXL.out (by rw [HRL.out]; omega))
    rw [hrv] at HG
    have HDF := Kept.mk (fun W (hW : Below w4.heap.size w4 W) => difference_any (b := b) y rv W (HF.out.below (bstep HB4.out hW)) hyq hrvq)
    rw [hmi] at HDF
    have hy6 : y <= 65536 := by have : D.p ^ D.k <= 65536 := hD.pre.small; omega
    have hr6 : rv <= 65536 := by have : D.p ^ D.k <= 65536 := hD.pre.small; omega
    have hm6 : mi <= 65536 := by have : D.p ^ D.k <= 65536 := hD.pre.small; omega
    have HIV := Kept.mk (fun W (hW : Below w.heap.size w W) => inverse_any hD at_ W (HF.out.below hW) HATQ.out hA)
    rw [hiv] at HIV
    have HPR := Kept.mk (fun W (hW : Below w.heap.size w W) => HO.out.product W hW mi iv hmiq hivq)
    rw [hco] at HPR
    have HCQ := Kept.mk hcoq
    have HNE := Kept.mk (FFld.thV_lt hk xs i)
    have HVL := Kept.mk (FFld.thV_len D xs i)
    have HVN : Kept (FFld.thV D xs (i + 1) = FFld.mulL D (FFld.thV D xs i) [FFld.pscl D.p D.k (D.p - 1) x, 1]) := ⟨by simp only [FFld.thV]; rw [HXE.out]⟩
    have HVN2 : Kept ((FFld.thV D xs (i + 1)).length = i + 1 + 1) := ⟨FFld.thV_len D xs (i + 1)⟩
    obtain ⟨V, hV⟩ : ∃ V, FFld.thV D xs i = V := ⟨_, rfl⟩
    rw [hV] at HNX HWV HNE HVL HVN
    have HLIN := Kept.mk (FFld.lin_lt hk x)
    clear hye hyq hR hrv hrvq hmi hmiq hiv hivq hco hcoq hV hwv hwr hnd hbx hA
    go_wp2
    go_region_held3 (fun w' => w'.cell? ⟨b, 0, none⟩ = some (.iface T xv) /\ w'.cell? ⟨by_, oy + i, none⟩ = some (.int .i64 y))
     (first | exact ⟨l0, ly⟩ | exact ⟨k0, ky⟩ | exact ⟨d0, cyy⟩ | go_keep)
     ((first
       | (go_at_call 149; (with_reducible refine (HG.out _ (by repeat (first | (with_reducible exact Below.refl _ _) | (with_reducible exact HC3.out) | (with_reducible exact HC2.out) | (with_reducible exact HC1.out) | (with_reducible refine Below.drew ?_)))).mono ?_); rintro e v1 ⟨hb1, rfl⟩; have HC1 : Kept (Below w4.heap.size w4 v1) := ⟨bstep (by repeat (first | (with_reducible exact Below.refl _ _) | (with_reducible exact HC3.out) | (with_reducible exact HC2.out) | (with_reducible exact HC1.out) | (with_reducible refine Below.drew ?_))) hb1⟩; have k0 := belowCell HC1.out d0; have ky := belowCell HC1.out cyy; clear hb1)
       | (go_at_call 150; (with_reducible refine (HDF.out _ (by repeat (first | (with_reducible exact Below.refl _ _) | (with_reducible exact HC3.out) | (with_reducible exact HC2.out) | (with_reducible exact HC1.out) | (with_reducible refine Below.drew ?_)))).mono ?_); rintro e v2 ⟨hb2, rfl⟩; have HC2 : Kept (Below w4.heap.size w4 v2) := ⟨bstep (by repeat (first | (with_reducible exact Below.refl _ _) | (with_reducible exact HC3.out) | (with_reducible exact HC2.out) | (with_reducible exact HC1.out) | (with_reducible refine Below.drew ?_))) hb2⟩; have l0 := belowCell HC2.out d0; have ly := belowCell HC2.out cyy; clear hb2)))
    have HB5 := Kept.mk (bstep HB4.out HC2.out)
    have HWV5 := Kept.mk (HWV.out.below HC2.out)
    have HWR5 := Kept.mk (HWR.out.below HC2.out)
    have HIV5 := Kept.mk (fun W (hW : Below v2.heap.size v2 W) => HIV.out W (bstep HB5.out hW))
    have HPR5 := Kept.mk (fun W (hW : Below v2.heap.size v2 W) => HPR.out W (bstep HB5.out hW))
    have HAM := Kept.mk (fun W (hW : Below v2.heap.size v2 W) => addMultiple_any (D := D) (b := b) (g := g) (s := 0) (n := n) (cc := n) (ao := some ⟨gv, 0, none⟩) (cap := cv) w W HF.out (bstep HB5.out hW) (by rw [HNG.out]; exact Nat.le_refl _) R (HWR5.out.below hW) HRQ.out V (fun j hj => ⟨gv, 0, rfl, by omega, ((HWV5.out.below hW).lt), by have := (HWV5.out.below hW).cell (i := j) hj; rw [Nat.zero_add]; exact this⟩) HNE.out (by rw [HRL.out, HVL.out]; omega) (by rw [HVL.out]; omega) co HCQ.out (by rw [HVL.out]; omega))
    rw [HVL.out] at HAM
    have m0 := l0
    clear HC1 HC2 HG HDF HIV HPR k0 ky l0 ly d0 cyy HB4 HWV HWR
    go_wp2
    go_region_held3 (fun w' => w'.cell? ⟨b, 0, none⟩ = some (.iface T xv))
     (first | exact q0 | exact p0 | exact n0 | exact m0 | go_keep)
     ((first
       | (go_at_call 152; (with_reducible refine (HIV5.out _ (by repeat (first | (with_reducible exact Below.refl _ _) | (with_reducible exact HD3.out) | (with_reducible exact HD2.out) | (with_reducible exact HD1.out) | (with_reducible refine Below.drew ?_)))).mono ?_); rintro e u1 ⟨hb1, rfl⟩; have HD1 : Kept (Below v2.heap.size v2 u1) := ⟨bstep (by repeat (first | (with_reducible exact Below.refl _ _) | (with_reducible exact HD3.out) | (with_reducible exact HD2.out) | (with_reducible exact HD1.out) | (with_reducible refine Below.drew ?_))) hb1⟩; have n0 := belowCell HD1.out m0; clear hb1)
       | (go_at_call 151; (with_reducible refine (HAM.out _ (by repeat (first | (with_reducible exact Below.refl _ _) | (with_reducible exact HD3.out) | (with_reducible exact HD2.out) | (with_reducible exact HD1.out) | (with_reducible refine Below.drew ?_)))).mono ?_); rintro e u3 ⟨rfl, hg3, hw3⟩; have q0 := hg3.cell p0 (by simpa using hbg))
       | ((with_reducible refine (HPR5.out _ (by repeat (first | (with_reducible exact Below.refl _ _) | (with_reducible exact HD3.out) | (with_reducible exact HD2.out) | (with_reducible exact HD1.out) | (with_reducible refine Below.drew ?_)))).mono ?_); rintro e u2 ⟨hb2, rfl⟩; have HD2 : Kept (Below v2.heap.size v2 u2) := ⟨bstep (by repeat (first | (with_reducible exact Below.refl _ _) | (with_reducible exact HD3.out) | (with_reducible exact HD2.out) | (with_reducible exact HD1.out) | (with_reducible refine Below.drew ?_))) hb2⟩; have p0 := belowCell HD2.out m0; clear hb2)))
    rw [<- HNX.out] at hw3
    have HW7 := Kept.mk hw3
    have HB7 := Kept.mk (belowGrow hg3 (bstep HB5.out HD2.out) (by rw [HNG.out]; exact Nat.le_refl _))
    have HV7 := Kept.mk ((HWV5.out.below HD2.out).other hg3 (by omega))
    have HNEG := Kept.mk (fun W (hW : Below w.heap.size w W) => negative_any x W (HF.out.below hW) HXL.out)
    clear HD1 HD2 hg3 hw3 HIV5 HPR5 HAM n0 p0 q0 m0 HWV5 HWR5 HB5
    obtain ⟨z, hz⟩ : ∃ z, FFld.pscl D.p D.k (D.p - 1) x = z := ⟨_, rfl⟩
    rw [hz] at HNEG HVN HLIN
    have hz6 : z <= 65536 := by have : D.p ^ D.k <= 65536 := hD.pre.small; have := HLIN.out z List.mem_cons_self; omega
    clear hz
    go_wp2_with fail
    refine (HNEG.out _ HB7.out).mono ?_
    rintro e w8 ⟨hb8, rfl⟩
    have hal : Below w8.heap.size w8 (w8.alloc (.cells #[.int .i64 z, .int .i64 1] 3)) := (Below.refl _ _).alloc (Nat.le_refl _) _
    have HB8 := Kept.mk (bstep (bstep HB7.out hb8) hal)
    have HW8 := Kept.mk ((HW7.out.below hb8).below hal)
    have HV8 := Kept.mk ((HV7.out.below hb8).below hal)
    have HS2 := Kept.mk (two_sl w8 (z : Int) 1)
    have HML := Kept.mk (multiply_new hD (.slice (some ⟨gv, 0, none⟩) (i + 1) cv) (.slice (some ⟨w8.heap.size, 0, none⟩) 2 2) V [z, 1] (w8.alloc (.cells #[.int .i64 z, .int .i64 1] 3)) (HF.out.below HB8.out) (HV8.out.sl HVL.out.symm hcv hmv) HS2.out HNE.out HLIN.out (by rw [HVL.out]; omega) (by simp) (by rw [HVL.out]; simp))
    rw [<- HVN.out, HVN2.out] at HML
    have hgs : g < (w8.alloc (.cells #[.int .i64 z, .int .i64 1] 3)).heap.size := HW8.out.lt
    clear hal hb8 HNEG HS2 HW7 HV7 HB7
    go_wp2_with fail
    refine HML.out.mono ?_
    rintro e w9 ⟨hb9, rfl, hw9⟩
    have HB9 := Kept.mk (bstep HB8.out hb9)
    have HW9 := Kept.mk (HW8.out.below hb9)
    have hsz : (w8.alloc (.cells #[.int .i64 z, .int .i64 1] 3)).heap.size = w8.heap.size + 1 := by simp
    rw [hsz] at hw9 hgs
    have HV9 := Kept.mk hw9
    clear hb9 hw9 HML HB8 HW8 HV8
    go_wp2
    go_roundw
    case rel => exact ⟨i + 1, _, i + 1 + 1, by omega, by go_num, rfl, hgs, Nat.le_refl _, by unfold maxLen; omega, HV9, HW9, HND, HB9⟩
    case measure => simp [intOf] <;> omega
  ·obtain rfl : i = n := by omega
   obtain ⟨R, hR⟩ : ∃ R, FFld.thR D hk xs ys i i = R := ⟨_, rfl⟩
   have HRL : Kept (R.length = i) := ⟨by rw [<- hR]; exact FFld.thR_len D hk xs ys i i⟩
   have HRE := Kept.mk hR
   rw [hR] at hwr
   have HTR := Kept.mk (trimmed_any R (some ⟨g, 0, none⟩) i wr (by have := hwr.out.sl (n := i) (c := i) HRL.out.symm (Nat.le_refl _) (by unfold maxLen; omega); rw [HRL.out]; exact this))
   rw [HRL.out] at HTR
   clear hR
   go_wp2_with fail
   refine HTR.out.mono ?_
   rintro e w4 ⟨rfl, n', hn', rfl, hz, ht⟩
   have HTE := Kept.mk (FFld.trm_is (l := R) (n := n') (by rw [HRL.out]; exact hn') hz ht)
   have HSL : Kept (Sl .i64 wr (.slice (some ⟨g, 0, none⟩) n' n') (ints (FFld.trm R))) := ⟨by rw [HTE.out]; exact (hwr.out.take n').sl (by rw [List.length_take, HRL.out]; omega) (Nat.le_refl _) (by unfold maxLen; omega)⟩
   clear hz ht
   go_wp2
   go_ret2
   exact ⟨hbx.out, .inr ⟨hnd.out, _, rfl, by rw [HRE.out]; exact HSL.out⟩⟩
abbrev rcv (b : Nat) (pv ev : Value) (k r : Nat) : Value := .agg #[.pointer (some ⟨b, 0, none⟩), pv, ev, .int .i64 k, .int .i64 r]
abbrev rcbox (b : Nat) (pv ev : Value) (k r : Nat) : Obj := .cells #[.pointer (some ⟨b, 0, none⟩), pv, ev, .int .i64 k, .int .i64 r] 119
abbrev fabox (u v : Value) : Obj := .cells #[u, v] 36
theorem five_cells_ {w : World} {g : Nat} {a b c d e : Value} {T : TypeId} (h : w.heap[g]? = some (.cells #[a, b, c, d, e] T (0, 0))) :
 w.cell? ⟨g, 0, none⟩ = some a /\ w.cell? ⟨g, 1, none⟩ = some b /\ w.cell? ⟨g, 2, none⟩ = some c /\ w.cell? ⟨g, 3, none⟩ = some d /\ w.cell? ⟨g, 4, none⟩ = some e :=
 ⟨by rw [cell_of_row w g 0 _ T (0, 0) h]; rfl, by rw [cell_of_row w g 1 _ T (0, 0) h]; rfl, by rw [cell_of_row w g 2 _ T (0, 0) h]; rfl, by rw [cell_of_row w g 3 _ T (0, 0) h]; rfl, by rw [cell_of_row w g 4 _ T (0, 0) h]; rfl⟩
set_option maxRecDepth 20000 in
theorem clongest_any (b n cx k rad : Nat) (ax : Option Addr) (ev : Value) (w : World) (hr : rad <= n) (hn : n <= 1000) :
 Calls Tryz.prog 164 #[rcv b (.slice ax n cx) ev k rad] w (RB w (.int .i64 ((n - rad : Nat) : Int))) := by
 have HX0 : Kept (Bxs w [rcbox b (.slice ax n cx) ev k rad] (w.alloc (rcbox b (.slice ax n cx) ev k rad))) := ⟨(Bxs.start w).alloc (by simp) _⟩
 obtain ⟨c0, c1, c2, c3, c4⟩ := five_cells_ HX0.out.b0
 have e1 : ((n - rad : Nat) : Int) = (n : Int) - rad := by omega
 rw [e1]
 go_enter Tryz.func164, Tryz.ntmps164
 go_wp2
 go_ret
 exact ⟨HX0.out.1, rfl⟩
theorem Sl.not_box_ {K : IntKind} {w : World} {v : Value} {xs : List Int} {g : Nat} {cs : Array Value} {T : TypeId} {fr : Nat × Nat} (h : Sl K w v xs) (hg : w.heap[g]? = some (.cells cs T fr)) (hc : ∀ (i : Nat) (n : Int), cs[i]? ≠ some (Value.int K n)) : live v ≠ some g := by
 intro hl
 obtain ⟨ao, cap, rfl, hcap, hm, hx⟩ := h
 by_cases h0 : 0 < xs.length
 ·obtain ⟨b, o, rfl, hb, hcell⟩ := hx 0 h0
  have := live_own hl
  simp only [Value.ownBlock, Option.some.injEq] at this
  subst this
  rw [cell_of_row w b (o + 0) cs T fr hg] at hcell
  exact hc _ _ hcell
 ·have : xs.length = 0 := by omega
  rw [this] at hl
  cases ao <;> simp [live] at hl
def GaRet {D : FFld.FD} (hD : D.Ok) (xs ys : List Nat) (n rad : Nat) (w : World) (e : Ending) (w' : World) : Prop := Below w.heap.size w w' /\ ∃ (vq ve : Value) (Q E bf el : List Nat), e = .returned (.agg #[vq, ve]) /\ Sl .i64 w' vq (ints Q) /\ Sl .i64 w' ve (ints E) /\ FFld.GaoOk hD xs ys n bf Q el E /\ Q.length + rad <= n /\ n < bf.length + rad
set_option maxRecDepth 20000 in
theorem cpair_any {D : FFld.FD} {b : Nat} (hD : D.Ok) (ax ay : Option Addr) (cx cy k rad n : Nat) (xs ys : List Nat) (w : World) (hf : FldB D w b) (hx : Sl .i64 w (.slice ax n cx) (ints xs)) (hy : Sl .i64 w (.slice ay n cy) (ints ys)) (lx : xs.length = n) (ly : ys.length = n) (hxq : ∀ a ∈ xs, a < D.p ^ D.k) (hyq : ∀ a ∈ ys, a < D.p ^ D.k) (hd : ∀ i j, j < i -> i < n -> xs[i]?.getD 0 ≠ xs[j]?.getD 0) (hn : n <= 64) (hr : rad <= n) (hk6 : k <= 64) :
 Calls Tryz.prog 92 #[rcv b (.slice ax n cx) (.slice ay n cy) k rad] w (GaRet hD xs ys n rad w) := by
 have hq6 : D.p ^ D.k <= 65536 := hD.pre.small
 have hk := hD.pre.pk
 have hq1 := hk.one_lt
 have HX0 : Kept (Bxs w [rcbox b (.slice ax n cx) (.slice ay n cy) k rad, fabox (.slice none 0 0) (.slice none 0 0)] ((w.alloc (rcbox b (.slice ax n cx) (.slice ay n cy) k rad)).alloc (fabox (.slice none 0 0) (.slice none 0 0)))) := ⟨((Bxs.start w).alloc (by simp) _).alloc (by simp) _⟩
 obtain ⟨mi, hmi⟩ : ∃ mi, FFld.padd D.p D.k 0 (FFld.pscl D.p D.k (D.p - 1) 1) = mi := ⟨_, rfl⟩
 have hmlt : mi < D.p ^ D.k := by rw [<- hmi]; exact FFld.padd_lt hk _ _
 have hmE : FFld.toE hk mi = (FFld.FD.dom hD.nzd).neg (FFld.FD.dom hD.nzd).one := by
  rw [<- hmi, FFld.toE_add hD (Nat.pow_pos hk.p0) (FFld.pscl_lt hk _ _), FFld.toE_neg hD hq1, FFld.toE_zero hD, FFld.toE_one hD, FFld.Dom.zero_add]
 have HSB := Kept.mk (fun (W : World) (hW : Below w.heap.size w W) => fsub_any (0 : Int) (1 : Int) W (hf.below hW) (by omega) (by omega) (by omega) (by omega) 0 1 (by simp) (md_nat hq1) (Nat.pow_pos hk.p0) hq1)
 rw [hmi] at HSB
 have HTH := Kept.mk (fun (W : World) (hW : Below w.heap.size w W) => fthrough_good hD (.slice ax n cx) (.slice ay n cy) xs ys n W (hf.below hW) (hx.below hW) (hy.below hW) hxq hyq lx ly (by omega))
 have HVN := Kept.mk (fun (W : World) (hW : Below w.heap.size w W) => cvanish_any hD ax cx xs W (hf.below hW) (by rw [lx]; exact hx.below hW) hxq (by omega))
 rw [lx] at HVN
 have HLO := Kept.mk (fun (W : World) => clongest_any b n cx k rad ax (.slice ay n cy) W hr (by omega))
 have HDV := Kept.mk (fun (W : World) (hW : Below w.heap.size w W) (vp vq : Value) (pl ql : List Nat) (h1 : Sl .i64 W vp (ints pl)) (h2 : Sl .i64 W vq (ints ql)) (hp : ∀ a ∈ pl, a < D.p ^ D.k) (hq : ∀ a ∈ ql, a < D.p ^ D.k) (tp : FFld.Tz pl) (tq : FFld.Tz ql) (h0 : 0 < ql.length) (lp : pl.length <= 200) (lq : ql.length <= 200) =>
  fpdivide_any vp vq pl ql W (hf.below hW) h1 h2 (cErr_poly hp tp lp) (cErr_poly hq tq lq) hD hp hq h0 tq (by omega) (by omega))
 have HPR := Kept.mk (fun (W : World) (hW : Below w.heap.size w W) (af : Option Addr) (cf : Nat) (p q : List Nat) (hs : Sls W af [ints p, ints q]) (h1 : 2 <= cf) (h2 : cf <= maxLen) (hp : ∀ a ∈ p, a < D.p ^ D.k) (hq : ∀ a ∈ q, a < D.p ^ D.k) (tp : FFld.Tz p) (tq : FFld.Tz q) (lp : p.length <= 100) (lq : q.length <= 100) => cproduct_any hD af cf [p, q] W (hf.below hW) hs h1 h2 (fun l hl => by
  rcases List.mem_cons.1 hl with rfl | hl
  ·exact hp
  ·obtain rfl := List.mem_singleton.1 hl
   exact hq) (fun l hl => by
  rcases List.mem_cons.1 hl with rfl | hl
  ·exact tp
  ·obtain rfl := List.mem_singleton.1 hl
   exact tq) (fun l hl => by
  rcases List.mem_cons.1 hl with rfl | hl
  ·omega
  ·obtain rfl := List.mem_singleton.1 hl
   omega) (fun i hi => by
  have h1 := FFld.mulL_one (D := D) hD hp tp
  rcases i with _ | _ | _ | i
  ·simp [FFld.prodF]
  ·show (FFld.mulL D [1] p).length <= 200
   rw [h1]
   omega
  ·show (FFld.mulL D (FFld.mulL D [1] p) q).length <= 200
   rw [h1]
   by_cases hz : p.length = 0 \/ q.length = 0
   ·unfold FFld.mulL
    rw [if_pos hz]
    simp
   ·rw [FFld.mulL_len_is (by omega) (by omega)]
    omega
  ·simp at hi) (by simp))
 have HPL := Kept.mk (fun (W : World) (hW : Below w.heap.size w W) (ap aq : Option Addr) (cp cq : Nat) (pl ql : List Nat) (h1 : Sl .i64 W (.slice ap pl.length cp) (ints pl)) (h2 : Sl .i64 W (.slice aq ql.length cq) (ints ql)) (hp : ∀ a ∈ pl, a < D.p ^ D.k) (hq : ∀ a ∈ ql, a < D.p ^ D.k) (lp : pl.length <= 200) (lq : ql.length <= 200) => cplus_any hD ap aq cp cq pl ql mi 0 W (hf.below hW) h1 h2 hp hq hmlt (by omega) (by omega))
 have HGS := Kept.mk (fun (nw : List Nat) (h1 : ∀ a ∈ nw, a < D.p ^ D.k) (h2 : FFld.Tz nw) (h3 : nw.length <= n) (h4 : ∀ j, j < n -> FFld.evE hD nw (FFld.plE hD xs j) = FFld.plE hD ys j) => FFld.GaoOk.start hD hxq h1 h2 h3 (FFld.thV_tz hD (by omega)) h4)
 have HGN := Kept.mk (fun (bf nw el e : List Nat) (h : FFld.GaoOk hD xs ys n bf nw el e) (h0 : nw.length ≠ 0) => FFld.GaoOk.next hD h h0 hmlt hmE)
 have HNW : Kept ((∀ a, a < n -> FFld.thA D xs a ≠ 0) -> FFld.GaoOk hD xs ys n (FFld.thV D xs n) (FFld.trm (FFld.thR D hD.pre.pk xs ys n n)) [] [1]) := ⟨fun hA => HGS.out _ (FFld.trm_lt (FFld.thR_lt hk xs ys n n)) (FFld.trm_tz _) (by have h1 := FFld.trm_len_le (FFld.thR D hk xs ys n n); rw [FFld.thR_len] at h1; exact h1) fun j hj => by rw [FFld.evE_trm]; exact FFld.thR_ev hD hxq hyq n (Nat.le_refl _) hA j hj⟩
 have HVL : Kept (n < (FFld.thV D xs n).length + rad) := ⟨by rw [FFld.thV_len]; omega⟩
 have HDS := Kept.mk hd
 have HNL := Kept.mk (fun (bf nw el e : List Nat) (h : FFld.GaoOk hD xs ys n bf nw el e) => (⟨by have := h.len; have := h.low; have := h.up; omega, by have := h.len; have := h.low; have := h.up; omega, by have := h.len; have := h.low; have := h.up; omega, by have := h.len; have := h.low; have := h.up; omega⟩ : bf.length <= 66 /\ nw.length <= 66 /\ el.length <= 66 /\ e.length <= 66))
 clear hf hx hy lx ly hxq hyq hmi hmlt hmE hq1 hd HGS
 go_enter Tryz.func92, Tryz.ntmps92
 obtain ⟨c0, c1, c2, c3, c4⟩ := five_cells_ HX0.out.b0
 go_wp2_with fail
 refine (HSB.out _ HX0.out.1).mono ?_
 rintro e w1 ⟨hb1, rfl⟩
 have HX1 := Kept.mk (HX0.out.below hb1)
 clear hb1 c0 c1 c2 c3 c4 HSB
 obtain ⟨c0, c1, c2, c3, c4⟩ := five_cells_ HX1.out.b0
 go_wp2_with fail
 refine (HTH.out _ HX1.out.1).mono ?_
 rintro e w2 ⟨hb2, ⟨i, j, hji, hin, hxx, rfl⟩ | ⟨hA, v4, rfl, hs4⟩⟩
 ·exact absurd hxx (HDS.out i j hji hin)
 ·have HGA := Kept.mk (HNW.out hA)
  obtain ⟨NW, hNW⟩ : ∃ l, FFld.trm (FFld.thR D hD.pre.pk xs ys n n) = l := ⟨_, rfl⟩
  rw [hNW] at HGA hs4
  obtain ⟨a4, m4, rfl, _, _⟩ := hs4.form
  have HX2 := Kept.mk (HX1.out.below hb2)
  have HS4 := Kept.mk hs4
  clear hb2 hA hs4 hNW HNW c0 c1 c2 c3 c4
  obtain ⟨c0, c1, c2, c3, c4⟩ := five_cells_ HX2.out.b0
  go_wp2_with fail
  refine (HVN.out _ HX2.out.1).mono ?_
  rintro e w3 ⟨hb3, v3, rfl, hs3⟩
  have HX3 := Kept.mk (HX2.out.below hb3)
  have HS4' := Kept.mk (HS4.out.below hb3)
  have HS3 := Kept.mk hs3
  obtain ⟨a3, m3, rfl, _, _⟩ := hs3.form
  have hal : Below w3.heap.size w3 (w3.alloc (.cells #[.int .i64 1] 3)) := (Below.refl _ _).alloc (Nat.le_refl _) _
  have HSe : Kept (Sl .i64 (w3.alloc (.cells #[.int .i64 1] 3)) (.slice (some ⟨w3.heap.size, 0, none⟩) 1 1) (ints [1])) := ⟨cone_sl w3 1⟩
  have HSb := Kept.mk (HS3.out.below hal)
  have HSn := Kept.mk (HS4'.out.below hal)
  have HXb := Kept.mk (HX3.out.below hal)
  have HSl : Kept (Sl .i64 (w3.alloc (.cells #[.int .i64 1] 3)) (.slice none 0 0) (ints [])) := ⟨Sl.nil _ _⟩
  clear hb3 hs3 hal HS4 HS4' HS3 HX3 HX2 HX1 c0 c1 c2 c3 c4 HTH HVN
  go_wp2
  go_loopw [6, 7, 8, 9] (fun bv nv lv ev wr => ∃ (bf nw el e : List Nat), Kept (Sl .i64 wr bv (ints bf)) /\ Kept (Sl .i64 wr nv (ints nw)) /\ Kept (Sl .i64 wr lv (ints el)) /\ Kept (Sl .i64 wr ev (ints e)) /\ Kept (FFld.GaoOk hD xs ys n bf nw el e) /\ Kept (n < bf.length + rad) /\ Kept (Bxs w [rcbox b (.slice ax n cx) (.slice ay n cy) k rad, fabox (.slice none 0 0) (.slice none 0 0)] wr)) (fun _ nv _ _ _ => sliceLen nv)
  case atStart => exact ⟨_, _, _, _, HSb, HSn, HSl, HSe, HGA, HVL, HXb⟩
  case round =>
   clear HSb HSn HSl HSe HGA HVL HXb
   obtain ⟨bf, nw, el, e, hsb, hsn, hsl, hse, hga, hlo, hbx⟩ := hrel
   obtain ⟨hl1, hl2, hl3, hl4⟩ := HNL.out _ _ _ _ hga.out
   obtain ⟨an, mn, rfl, hmn, hmn'⟩ := hsn.out.form
   obtain ⟨ab, mb, rfl, _, _⟩ := hsb.out.form
   obtain ⟨al, ml, rfl, _, _⟩ := hsl.out.form
   obtain ⟨ae, me, rfl, hme, hme'⟩ := hse.out.form
   simp only [FFld.ints_len] at hsb hsn hsl hse hmn hme ⊢
   obtain ⟨c0, c1, c2, c3, c4⟩ := five_cells_ hbx.out.b0
   obtain ⟨nn, hnn⟩ : ∃ x, nw.length = x := ⟨_, rfl⟩
   have HNN := Kept.mk hnn
   have HHL : Kept (bf.length <= 66 /\ nw.length <= 66 /\ el.length <= 66 /\ e.length <= 66) := ⟨⟨hl1, hl2, hl3, hl4⟩⟩
   obtain ⟨nb, hnb⟩ : ∃ x, bf.length = x := ⟨_, rfl⟩
   obtain ⟨nl, hnl⟩ : ∃ x, el.length = x := ⟨_, rfl⟩
   obtain ⟨ne, hne⟩ : ∃ x, e.length = x := ⟨_, rfl⟩
   have HNE := Kept.mk hne
   have HNL2 := Kept.mk hnl
   rw [hnn] at hsn hl2 hmn
   rw [hnb] at hsb hl1
   rw [hnl] at hsl hl3
   rw [hne] at hse hl4 hme
   try rw [hnn, hnb, hnl, hne]
   clear hnn hnb hnl hne
   go_wp2_with fail
   refine (HLO.out _).mono ?_
   rintro e' w4 ⟨hb4, rfl⟩
   have HX4 := Kept.mk (hbx.out.below hb4)
   have HSB4 := Kept.mk (hsb.out.below hb4)
   have HSN4 := Kept.mk (hsn.out.below hb4)
   have HSL4 := Kept.mk (hsl.out.below hb4)
   have HSE4 := Kept.mk (hse.out.below hb4)
   clear hb4 hsb hsn hsl hse hbx c0 c1 c2 c3 c4
   obtain ⟨c0, c1, c2, c3, c4⟩ := five_cells_ HX4.out.b0
   by_cases hgo : n - rad < nn
   ·have g1 : decide (((n - rad : Nat) : Int) < nn) = true := decide_eq_true (by omega)
    have hn0 : nw.length ≠ 0 := by rw [HNN.out]; omega
    have HNX := Kept.mk (HGN.out _ _ _ _ hga.out hn0)
    have HLT := Kept.mk (FFld.rst_short hD hga.out.nlt hga.out.blt (by omega) (by rcases hga.out.tn with h | h; exact absurd h hn0; exact h))
    have HDC := Kept.mk (HDV.out w4 HX4.out.1 _ _ bf nw HSB4.out HSN4.out hga.out.blt hga.out.nlt hga.out.tb hga.out.tn (by omega) (by have := HHL.out.1; omega) (by have := HHL.out.2.1; omega))
    have HQQ := Kept.mk (FFld.quoF_lt (D := D) hD.pre.pk nw (FFld.invT D hD.pre.pk nw) bf)
    have HQT := Kept.mk (FFld.quo_tz hD hga.out.nlt hga.out.blt (by omega) (by rcases hga.out.tn with h | h; exact absurd h hn0; exact h) hga.out.tb)
    have HQL := Kept.mk (FFld.quoF_len D nw (FFld.invT D hD.pre.pk nw) bf)
    have HML := Kept.mk (FFld.mulL_lt (D := D) hD.pre.pk (FFld.quoF D nw (FFld.invT D hD.pre.pk nw) bf) e)
    have HPE : Kept (FFld.prodF D [FFld.quoF D nw (FFld.invT D hD.pre.pk nw) bf, e] [FFld.quoF D nw (FFld.invT D hD.pre.pk nw) bf, e].length = FFld.mulL D (FFld.quoF D nw (FFld.invT D hD.pre.pk nw) bf) e) := ⟨by
     show FFld.mulL D (FFld.mulL D [1] (FFld.quoF D nw (FFld.invT D hD.pre.pk nw) bf)) e = _
     rw [FFld.mulL_one hD HQQ.out HQT.out]⟩
    have HNLO : Kept (n < nw.length + rad) := ⟨by rw [HNN.out]; omega⟩
    obtain ⟨qu, hqu⟩ : ∃ l, FFld.quoF D nw (FFld.invT D hD.pre.pk nw) bf = l := ⟨_, rfl⟩
    obtain ⟨rs, hrs⟩ : ∃ l, FFld.rstF D nw (FFld.invT D hD.pre.pk nw) bf = l := ⟨_, rfl⟩
    rw [hqu] at HNX HDC HQQ HQT HQL HML HPE
    rw [hrs] at HNX HDC HLT
    clear hqu hrs hn0
    go_wp2_with fail
    refine HDC.out.mono ?_
    rintro e'' w5 ⟨hb5, vq, vr, rfl, hsq, hsr⟩
    obtain ⟨qa, qc, rfl, hqc, hqc'⟩ := hsq.form
    obtain ⟨ra, rc, rfl, hrc, hrc'⟩ := hsr.form
    rw [FFld.ints_len] at hsq hqc hsr hrc ⊢
    rw [FFld.ints_len]
    have HX5 := Kept.mk (HX4.out.below hb5)
    have HSN5 := Kept.mk (HSN4.out.below hb5)
    have HSL5 := Kept.mk (HSL4.out.below hb5)
    have HSE5 := Kept.mk (HSE4.out.below hb5)
    have HSQ5 := Kept.mk hsq
    have HSR5 := Kept.mk hsr
    obtain ⟨nq, hnq⟩ : ∃ x, qu.length = x := ⟨_, rfl⟩
    obtain ⟨nr, hnr⟩ : ∃ x, rs.length = x := ⟨_, rfl⟩
    have HNQ := Kept.mk hnq
    have HNR := Kept.mk hnr
    rw [hnq] at HSQ5 ⊢
    rw [hnr] at HSR5 ⊢
    clear hb5 hsq hsr hnq hnr HX4 HSB4 HSN4 HSL4 HSE4 HDC c0 c1 c2 c3 c4
    obtain ⟨c0, c1, c2, c3, c4⟩ := five_cells_ HX5.out.b0
    obtain ⟨PE, hPE⟩ : ∃ l, FFld.mulL D qu e = l := ⟨_, rfl⟩
    have HPLL : Kept (PE.length <= 150) := ⟨by
     rw [<- hPE]
     by_cases hz : qu.length = 0 \/ e.length = 0
     ·unfold FFld.mulL
      rw [if_pos hz]
      simp
     ·rw [FFld.mulL_len_is (by omega) (by omega)]
      have := HQL.out
      have := HHL.out
      omega⟩
    rw [hPE] at HNX HPE HML
    have HPX : Kept (∀ W, Below w.heap.size w W -> ∀ pa pc, Sl .i64 W (.slice al nl ml) (ints el) -> Sl .i64 W (.slice pa PE.length pc) (ints PE) -> Calls Tryz.prog 165 #[.pointer (some ⟨b, 0, none⟩), .slice al nl ml, .slice pa PE.length pc, .int .i64 mi, .int .i64 0] W (fun e' w' => Below W.heap.size W w' /\ ∃ v, e' = .returned v /\ Sl .i64 w' v (ints (FFld.plusF D el PE mi 0)))) := ⟨fun W hW pa pc h1 h2 => by
     have h := HPL.out W hW al pa ml pc el PE (by rw [HNL2.out]; exact h1) h2 hga.out.llt HML.out (by have := HHL.out; omega) (by have := HPLL.out; omega)
     rw [HNL2.out] at h
     refine h.mono ?_
     rintro e' w' ⟨hb, rfl, hw⟩
     refine ⟨hb, _, rfl, hw.sl rfl ?_ ?_⟩
     ·unfold FFld.plusF
      refine Nat.le_trans (FFld.trm_len_le _) ?_
      rw [FFld.addm_len, FFld.padF_len (by omega), HNL2.out]
      exact Nat.le_refl _
     ·have := HPLL.out
      unfold maxLen
      omega⟩
    have HPRX : Kept (∀ W, Below w.heap.size w W -> ∀ af, Sls W af [ints qu, ints e] -> Calls Tryz.prog 166 #[.pointer (some ⟨b, 0, none⟩), .slice af 2 2] W (fun e' w' => Below W.heap.size W w' /\ ∃ v, e' = .returned v /\ Sl .i64 w' v (ints PE))) := ⟨fun W hW af h => by
     have h2 := HPR.out W hW af 2 qu e h (Nat.le_refl _) (by decide) HQQ.out hga.out.elt HQT.out hga.out.te (by have := HQL.out; have := HHL.out; omega) (by have := HHL.out; omega)
     rw [HPE.out] at h2
     exact h2⟩
    have hal : Below w5.heap.size w5 ((w5.alloc (.cells #[.slice qa nq qc, .slice ae ne me] 22)).drew) := ((Below.refl _ _).alloc (Nat.le_refl _) _).drew
    have hblk : ((w5.alloc (.cells #[.slice qa nq qc, .slice ae ne me] 22)).drew).heap[w5.heap.size]? = some (.cells #[.slice qa nq qc, .slice ae ne me] 22 (0, 0)) := heap_alloc_new w5 _
    have e0 := belowCell hal c0
    clear hPE HPR HPL HPE HDV
    go_upto_region 9 with fail
    refine wp_region_held_drew (S := fun w' => w'.cell? ⟨w.heap.size, 0, none⟩ = some (.pointer (some ⟨b, 0, none⟩))) (by kernel_rfl) c0 (fun hHeld => ?_)
    refine wpAnyH_take (i := 0) (v := ?_) rfl (by kernel_rfl) (by kernel_rfl) (by kernel_rfl) (fun _ _ _ h => h) (Or.inl ⟨by rfl, ?_⟩) (by assumption) ?_
    rotate_left
    ·(intro w hSw; (try dsimp only at hSw); go_simp; (try with_reducible rfl))
    try simp only [Act.put, List.getElem_toArray, List.getElem_cons_succ, List.getElem_cons_zero, List.setIfInBounds_toArray, List.set_cons_zero, List.set_cons_succ]
    refine wpAnyH_take (i := 1) (v := ?_) rfl (by kernel_rfl) (by kernel_rfl) (by kernel_rfl) (fun _ _ _ h => h) (Or.inl ⟨by rfl, ?_⟩) (by assumption) ?_
    rotate_left
    ·(intro w hSw; (try dsimp only at hSw); go_simp; (try with_reducible rfl))
    try simp only [Act.put, List.getElem_toArray, List.getElem_cons_succ, List.getElem_cons_zero, List.setIfInBounds_toArray, List.set_cons_zero, List.set_cons_succ]
    refine wpAnyH_take (i := 2) (v := ?_) rfl (by kernel_rfl) (by kernel_rfl) (by kernel_rfl) (fun _ _ _ h => h) (Or.inl ⟨by rfl, ?_⟩) (by assumption) ?_
    rotate_left
    ·(intro w hSw; (try dsimp only at hSw); go_simp; (try with_reducible rfl))
    try simp only [Act.put, List.getElem_toArray, List.getElem_cons_succ, List.getElem_cons_zero, List.setIfInBounds_toArray, List.set_cons_zero, List.set_cons_succ]
    refine wpAnyH_take (i := 3) (v := ?_) rfl (by kernel_rfl) (by kernel_rfl) (by kernel_rfl) (fun _ _ _ h => h) (Or.inl ⟨by rfl, ?_⟩) (by assumption) ?_
    rotate_left
    ·(intro w hSw; (try dsimp only at hSw); go_simp; (try with_reducible rfl))
    try simp only [Act.put, List.getElem_toArray, List.getElem_cons_succ, List.getElem_cons_zero, List.setIfInBounds_toArray, List.set_cons_zero, List.set_cons_succ]
    refine wpAnyH_take (i := 4) (v := ?_) rfl (by kernel_rfl) (by kernel_rfl) (by kernel_rfl) (fun _ _ _ h => h) (Or.inl ⟨by rfl, ?_⟩) (by assumption) ?_
    rotate_left
    ·(intro w hSw; (try dsimp only at hSw); go_simp; (try with_reducible rfl))
    try simp only [Act.put, List.getElem_toArray, List.getElem_cons_succ, List.getElem_cons_zero, List.setIfInBounds_toArray, List.set_cons_zero, List.set_cons_succ]
    refine wpAnyH_take (i := 5) (v := ?_) rfl (by kernel_rfl) (by kernel_rfl) (by kernel_rfl) (fun _ _ _ h => h) (Or.inl ⟨by rfl, ?_⟩) (by assumption) ?_
    rotate_left
    ·(intro w hSw; (try dsimp only at hSw); go_simp; (try with_reducible rfl))
    try simp only [Act.put, List.getElem_toArray, List.getElem_cons_succ, List.getElem_cons_zero, List.setIfInBounds_toArray, List.set_cons_zero, List.set_cons_succ]
    refine wpAnyH_take (i := 6) (v := ?_) rfl (by kernel_rfl) (by kernel_rfl) (by kernel_rfl) (fun _ _ _ h => h) (Or.inl ⟨by rfl, ?_⟩) (by assumption) ?_
    rotate_left
    ·(intro w hSw; (try dsimp only at hSw); go_simp; (try with_reducible rfl))
    try simp only [Act.put, List.getElem_toArray, List.getElem_cons_succ, List.getElem_cons_zero, List.setIfInBounds_toArray, List.set_cons_zero, List.set_cons_succ]
    refine wpAnyH_take (i := 9) (v := ?_) rfl (by kernel_rfl) (by kernel_rfl) (by kernel_rfl) (fun _ _ _ h => h) (Or.inl ⟨by rfl, ?_⟩) (by assumption) ?_
    rotate_left
    ·(intro w hSw; (try dsimp only at hSw); go_simp; (try with_reducible rfl))
    try simp only [Act.put, List.getElem_toArray, List.getElem_cons_succ, List.getElem_cons_zero, List.setIfInBounds_toArray, List.set_cons_zero, List.set_cons_succ]
    refine wpAnyH_ready (rs := [7]) (by kernel_rfl) (by simp) ?_
    refine (AllReadyH.cons rfl (fun K hK => ?_) AllReadyH.nil)
    go_simp
    refine hK.out _ _ e0 (fun hHeld => ?_)
    clear hK K
    try simp only [Act.put, List.getElem_toArray, List.getElem_cons_succ, List.getElem_cons_zero, List.setIfInBounds_toArray, List.set_cons_zero, List.set_cons_succ]
    obtain ⟨W6, hW6⟩ : ∃ W, (w5.alloc (.cells #[.slice qa nq qc, .slice ae ne me] 22)).drew = W := ⟨_, rfl⟩
    rw [hW6] at hal hblk e0 ⊢
    clear hW6
    have HX6 := Kept.mk (HX5.out.below hal)
    have HSN6 := Kept.mk (HSN5.out.below hal)
    have HSL6 := Kept.mk (HSL5.out.below hal)
    have HSE6 := Kept.mk (HSE5.out.below hal)
    have HSR6 := Kept.mk (HSR5.out.below hal)
    have HSQ6 := Kept.mk (HSQ5.out.below hal)
    have HSS : Kept (Sls W6 (some ⟨w5.heap.size, 0, none⟩) [ints qu, ints e]) := ⟨fun i hi => by
     obtain ⟨k0, k1, _, _⟩ := two_cells hblk
     have hl : w5.heap.size < W6.heap.size := (Array.getElem?_eq_some_iff.1 hblk).1
     rcases i with _ | _ | i
     ·exact ⟨w5.heap.size, 0, _, rfl, hl, k0, HSQ6.out⟩
     ·exact ⟨w5.heap.size, 0, _, rfl, hl, k1, HSE6.out⟩
     ·simp at hi
      omega⟩
    clear hal hblk HX5 HSN5 HSL5 HSE5 HSR5 HSQ5
    refine wpAnyH_ready (rs := [8]) (by kernel_rfl) (by simp) ?_
    refine (AllReadyH.cons rfl (fun K hK => ?_) AllReadyH.nil)
    go_simp
    refine (HPRX.out _ HX6.out.1 _ HSS.out).mono ?_
    rintro e' w7 ⟨hb7, vp, rfl, hsp⟩
    obtain ⟨pa, pc, rfl, _, _⟩ := hsp.form
    rw [FFld.ints_len] at hsp ⊢
    have HX7 := Kept.mk (HX6.out.below hb7)
    have HSN7 := Kept.mk (HSN6.out.below hb7)
    have HSL7 := Kept.mk (HSL6.out.below hb7)
    have HSE7 := Kept.mk (HSE6.out.below hb7)
    have HSR7 := Kept.mk (HSR6.out.below hb7)
    have HSP7 := Kept.mk hsp
    have e7 := belowCell hb7 e0
    clear hb7 hsp e0 HX6 HSN6 HSL6 HSE6 HSR6 HSQ6 HSS
    refine hK.out _ _ e7 (fun hHeld => ?_)
    clear hK K
    try simp only [Act.put, List.getElem_toArray, List.getElem_cons_succ, List.getElem_cons_zero, List.setIfInBounds_toArray, List.set_cons_zero, List.set_cons_succ]
    refine wpAnyH_ready (rs := [10]) (by kernel_rfl) (by simp) ?_
    refine (AllReadyH.cons rfl (fun K hK => ?_) AllReadyH.nil)
    go_simp
    refine (HPX.out _ HX7.out.1 _ _ HSL7.out HSP7.out).mono ?_
    rintro e' w8 ⟨hb8, vs, rfl, hss⟩
    obtain ⟨sa, sc, rfl, _, _⟩ := hss.form
    have HX8 := Kept.mk (HX7.out.below hb8)
    have HSN8 := Kept.mk (HSN7.out.below hb8)
    have HSE8 := Kept.mk (HSE7.out.below hb8)
    have HSR8 := Kept.mk (HSR7.out.below hb8)
    have HSS8 := Kept.mk hss
    have e8 := belowCell hb8 e7
    clear hb8 hss e7 HX7 HSN7 HSL7 HSE7 HSR7 HSP7
    refine hK.out _ _ e8 (fun hHeld => ?_)
    clear hK K
    try simp only [Act.put, List.getElem_toArray, List.getElem_cons_succ, List.getElem_cons_zero, List.setIfInBounds_toArray, List.set_cons_zero, List.set_cons_succ]
    refine wpAnyH_ready (rs := [11]) (by kernel_rfl) (by simp) ?_
    refine (AllReadyH.cons rfl (fun K hK => ?_) AllReadyH.nil)
    go_simp
    refine hK.out _ _ e8 (fun hHeld => ?_)
    clear hK K
    try simp only [Act.put, List.getElem_toArray, List.getElem_cons_succ, List.getElem_cons_zero, List.setIfInBounds_toArray, List.set_cons_zero, List.set_cons_succ]
    refine wpAnyH_done (by kernel_rfl) ?_ _
    go_wp2
    go_roundw
    case rel => exact ⟨_, _, _, _, HSN8, HSR8, HSE8, HSS8, HNX, HNLO, HX8⟩
    case measure =>
     have h1 := HLT.out
     rw [HNR.out, HNN.out] at h1
     simp only [sliceLen]
     omega
   ·have g1 : decide (((n - rad : Nat) : Int) < nn) = false := decide_eq_false (by omega)
    obtain ⟨d0, d1, f0, f1⟩ := two_cells HX4.out.b1
    have HQL : Kept (nw.length + rad <= n) := ⟨by rw [HNN.out]; omega⟩
    have hset := two_set HX4.out.b1 (.slice an nn mn) (.slice ae ne me)
    have hgr : w4.grownBy ((w4.setCell ⟨w.heap.size + 1, 0, none⟩ (.slice an nn mn)).setCell ⟨w.heap.size + 1, 1, none⟩ (.slice ae ne me)) (some (w.heap.size + 1)) := growSet (growSet (growRefl _ _) _ _) _ _
    have HSN6 : Kept (Sl .i64 ((w4.setCell ⟨w.heap.size + 1, 0, none⟩ (.slice an nn mn)).setCell ⟨w.heap.size + 1, 1, none⟩ (.slice ae ne me)) (.slice an nn mn) (ints nw)) := ⟨HSN4.out.kept hgr (fun k hk e => HSN4.out.not_box_ HX4.out.b1 (fun i m e => by rcases i with _ | _ | i <;> simp at e) (hk.trans e.symm))⟩
    have HSE6 : Kept (Sl .i64 ((w4.setCell ⟨w.heap.size + 1, 0, none⟩ (.slice an nn mn)).setCell ⟨w.heap.size + 1, 1, none⟩ (.slice ae ne me)) (.slice ae ne me) (ints e)) := ⟨HSE4.out.kept hgr (fun k hk e => HSE4.out.not_box_ HX4.out.b1 (fun i m e => by rcases i with _ | _ | i <;> simp at e) (hk.trans e.symm))⟩
    have HB6 : Kept (Below w.heap.size w ((w4.setCell ⟨w.heap.size + 1, 0, none⟩ (.slice an nn mn)).setCell ⟨w.heap.size + 1, 1, none⟩ (.slice ae ne me))) := ⟨(HX4.out.1.setCell (p := ⟨w.heap.size + 1, 0, none⟩) (by simp) _).setCell (p := ⟨w.heap.size + 1, 1, none⟩) (by simp) _⟩
    obtain ⟨t0, t1, _, _⟩ := two_cells hset
    clear hset hgr
    go_wp2
    exact bodyPost_ret (v := .agg #[.slice an nn mn, .slice ae ne me]) (by simp [results, Tryz.results92, go_sem, t0, t1]) rfl ⟨HB6.out, _, _, _, _, _, _, rfl, HSN6.out, HSE6.out, hga.out, HQL.out, hlo.out⟩
abbrev nilv : Value := .slice none 0 0
abbrev rczv : Value := .agg #[.pointer none, nilv, nilv, .int .i64 0, .int .i64 0]
abbrev rczb : Obj := .cells #[.pointer none, nilv, nilv, .int .i64 0, .int .i64 0] 119
theorem five_free {w : World} {g : Nat} {a b c d e : Value} {T : TypeId} (h : w.heap[g]? = some (.cells #[a, b, c, d, e] T (0, 0))) :
 w.frozen? ⟨g, 0, none⟩ = false /\ w.frozen? ⟨g, 1, none⟩ = false /\ w.frozen? ⟨g, 2, none⟩ = false /\ w.frozen? ⟨g, 3, none⟩ = false /\ w.frozen? ⟨g, 4, none⟩ = false :=
 ⟨frozen_of_row w g 0 _ T h, frozen_of_row w g 1 _ T h, frozen_of_row w g 2 _ T h, frozen_of_row w g 3 _ T h, frozen_of_row w g 4 _ T h⟩
theorem five_set_ {w : World} {g : Nat} {a b c d e : Value} {T : TypeId} (h : w.heap[g]? = some (.cells #[a, b, c, d, e] T (0, 0))) (a' b' c' d' e' : Value) :
 (((((w.setCell ⟨g, 0, none⟩ a').setCell ⟨g, 1, none⟩ b').setCell ⟨g, 2, none⟩ c').setCell ⟨g, 3, none⟩ d').setCell ⟨g, 4, none⟩ e').heap[g]? = some (.cells #[a', b', c', d', e'] T (0, 0)) := by
 have h1 := heap_setCell_same w g 0 _ T a' h
 have h2 := heap_setCell_same _ g 1 _ T b' h1
 have h3 := heap_setCell_same _ g 2 _ T c' h2
 have h4 := heap_setCell_same _ g 3 _ T d' h3
 have h5 := heap_setCell_same _ g 4 _ T e' h4
 simpa using h5
structure BadC (o k : Int) (ao : Option Addr) (n cap : Nat) (xs : List Int) (r : Nat) (w : World) : Prop where
 sl : Sl .i64 w (.slice ao n cap) xs
 len : xs.length = n
 o0 : -9223372036854775808 <= o
 o1 : o <= 9223372036854775807
 k0 : -9223372036854775808 <= k
 k1 : k <= 9223372036854775807
 is : chkE o xs k = r
 ne : r ≠ 0
section
variable {o k : Int} {ao : Option Addr} {n cap : Nat} {xs : List Int} {r : Nat}
end
section
variable {o k : Int} {ao : Option Addr} {n cap : Nat} {xs : List Int} {r : Nat}
end
section
variable {o k : Int} {ao : Option Addr} {n cap : Nat} {xs : List Int} {r : Nat}
end
structure RcAt (b B g k rad : Nat) (pv ev : Value) (P W : List Nat) (w : World) : Prop where
 box : w.heap[g]? = some (rcbox b pv ev k rad)
 pm : Mine 3 .i64 B w pv (ints P)
 em : Mine 3 .i64 B w ev (ints W)
 ne : ∀ j, pv.ownBlock = some j -> ev.ownBlock ≠ some j
 gB : g < B
theorem RcAt.below {b B g k rad : Nat} {pv ev : Value} {P W : List Nat} {w w' : World} (h : RcAt b B g k rad pv ev P W w) (hb : Below w.heap.size w w') : RcAt b B g k rad pv ev P W w' :=
 ⟨(hb.block _ (Array.getElem?_eq_some_iff.1 h.box).1).trans h.box, h.pm.below hb, h.em.below hb, h.ne, h.gB⟩
theorem Mine.setOther {B g i : Nat} {w : World} {v x : Value} {xs : List Int} (h : Mine 3 .i64 B w v xs) (hg : g < B) : Mine 3 .i64 B (w.setCell ⟨g, i, none⟩ x) v xs := by
 refine h.kept (growSet (growRefl _ (some g)) _ _) ?_
 cases hv : v.ownBlock with
 | none => exact .inl rfl
 | some j => exact .inr (fun e => by have := (h.own j hv).1; cases e; omega)
theorem RcAt.point {b B g k rad x : Nat} {pv ev v' : Value} {P W : List Nat} {w w' : World} (h : RcAt b B g k rad pv ev P W w) (hm : Mine 3 .i64 B w' v' (ints (P ++ [x]))) (hg : w.grownBy w' pv.ownBlock) (hn : v'.ownBlock = pv.ownBlock \/ Frm w.heap.size v') : RcAt b B g k rad v' ev (P ++ [x]) W (w'.setCell ⟨g, 1, none⟩ v') := by
 have hgB := h.gB
 have hb : w'.heap[g]? = some (rcbox b pv ev k rad) := (hg.block g (Array.getElem?_eq_some_iff.1 h.box).1 (fun e => by have := (h.pm.own g e.symm).1; omega)).trans h.box
 refine ⟨?_, hm.setOther hgB, Mine.setOther (h.em.kept hg ?_) hgB, fun j hj e => ?_, hgB⟩
 ·have := heap_setCell_same w' g 1 _ _ v' hb
  simpa using this
 ·cases hv : ev.ownBlock with
  | none => exact .inl rfl
  | some j => exact .inr (fun e => h.ne j e.symm hv)
 ·rcases hn with h1 | h1
  ·exact h.ne j (h1 ▸ hj) e
  ·have h2 := h1 j hj
   have h3 := (h.em.own j e).2
   omega
theorem RcAt.element {b B g k rad x : Nat} {pv ev v' : Value} {P W : List Nat} {w w' : World} (h : RcAt b B g k rad pv ev P W w) (hm : Mine 3 .i64 B w' v' (ints (W ++ [x]))) (hg : w.grownBy w' ev.ownBlock) (hn : v'.ownBlock = ev.ownBlock \/ Frm w.heap.size v') : RcAt b B g k rad pv v' P (W ++ [x]) (w'.setCell ⟨g, 2, none⟩ v') := by
 have hgB := h.gB
 have hb : w'.heap[g]? = some (rcbox b pv ev k rad) := (hg.block g (Array.getElem?_eq_some_iff.1 h.box).1 (fun e => by have := (h.em.own g e.symm).1; omega)).trans h.box
 refine ⟨?_, Mine.setOther (h.pm.kept hg ?_) hgB, hm.setOther hgB, fun j hj e => ?_, hgB⟩
 ·have := heap_setCell_same w' g 2 _ _ v' hb
  simpa using this
 ·cases hv : pv.ownBlock with
  | none => exact .inl rfl
  | some j => exact .inr (fun e => h.ne j hv e.symm)
 ·rcases hn with h1 | h1
  ·exact h.ne j hj (h1 ▸ e)
  ·have h2 := h1 j e
   have h3 := (h.pm.own j hj).2
   omega
def kpF (es : List Int) (i : Nat) : List Nat := (List.range i).filter fun j => es.all fun e => decide (e ≠ (j : Int))
theorem kpF_next (es : List Int) (i : Nat) : kpF es (i + 1) = if es.all (fun e => decide (e ≠ (i : Int))) = true then kpF es i ++ [i] else kpF es i := by
 unfold kpF
 rw [List.range_succ, List.filter_append, List.filter_cons, List.filter_nil]
 split
 ·rfl
 ·rw [List.append_nil]
end Go.Proofs.YtdnheaafcbihbaaGreat
