/-
  Texts of the proof, merged by program: Rtn Ttw Tpe.
-/
import Derived.Test.YtdnheaafcbihbaaGreatTq23
set_option linter.unusedSimpArgs false
set_option linter.unusedVariables false
set_option maxHeartbeats 16000000
namespace Go.Proofs.YtdnheaafcbihbaaGreat
open Go Go.RowKit Go.Deep
open FFld (ints)
set_option maxRecDepth 20000 in
theorem fminimal_any {D : FFld.FD} {b : Nat} (hD : D.Ok) (y : Int) (a t : Nat) (w : World) (hf : FldB D w b) (hx0 : -9223372036854775808 <= y) (hx1 : y <= 9223372036854775807) (hr : y % D.q = a) (ha : a < D.p ^ D.k) (ht : MinT hD.pre.pk a t) :
 Calls Tryz.prog 80 #[.pointer (some ⟨b, 0, none⟩), .int .i64 y] w (fun e w' => Below w.heap.size w w' /\ ∃ v, e = .returned v /\ Sl .i64 w' v (ints (minF D hD.pre.pk a t))) := by
 have hk40 : D.k <= 40 := FFld.len_of_pow (Nat.pow_le_pow_left hD.pre.prime.1 _) (show D.p ^ D.k <= 1099511627776 by have h6 : D.p ^ D.k <= 65536 := hD.pre.small; omega)
 have HR := Kept.mk (fun W (hf : FldB D W b) => show Calls Tryz.prog 158 #[.pointer (some ⟨b, 0, none⟩), .int .i64 y] W (fun e w' => W = w' /\ e = .returned (.int .i64 (a : Nat))) from by rw [<- hr]; exact reduced_any y W hf hx0 hx1)
 have HL := Kept.mk (fun i => cjg_lt hD.pre.pk a ha i)
 have ha6 := el_le hD ha
 have HC := Kept.mk (fun W (hf : FldB D W b) => conjugates_any hD a W hf ha)
 have HN := Kept.mk (fun W x (hf : FldB D W b) (hx : x < D.p ^ D.k) => negative_any x W hf hx)
 have HPD := Kept.mk (fun vp vq pl ql W (hf : FldB D W b) h1 h2 h3 h4 h5 h6 => multiply_any hD vp vq pl ql W hf h1 h2 h3 h4 h5 h6)
 have HT := Kept.mk ht
 have ht1 := ht.1
 have htk := ht.2.1
 have HF := Kept.mk hf
 have hal : ∀ W : World, Below W.heap.size W (W.alloc (.cells #[.int .i64 1] 3)) := fun W => (Below.refl _ _).alloc (Nat.le_refl _) _
 have HS1 : Kept (Sl .i64 (w.alloc (.cells #[.int .i64 1] 3)) (.slice (some ⟨w.heap.size, 0, none⟩) 1 1) (ints (minF D hD.pre.pk a 0))) := ⟨one_sln w 1⟩
 have HF1 := Kept.mk (hf.below (hal w))
 have HB1 := Kept.mk (hal w)
 clear ha ht hr hf
 go_enter Tryz.func80, Tryz.ntmps80
 go_wp2_with fail
 refine (HR.out _ HF1.out).mono ?_
 rintro e w2 ⟨rfl, rfl⟩
 go_wp2_with fail
 refine (HC.out _ HF1.out).mono ?_
 rintro e w3 ⟨hb3, v, xs, rfl, hsl, hxl, hxs⟩
 obtain ⟨k, hk⟩ : ∃ k, D.k = k := ⟨_, rfl⟩
 obtain ⟨a1, cp1, rfl, hc1, hm1⟩ := hsl.form
 rw [hk] at hxl htk hk40
 rw [FFld.ints_len, hxl] at hc1 hsl ⊢
 have HC1 := Kept.mk (hsl.cells (Nat.le_refl _))
 have HX := Kept.mk (fun j (hj : j < k) => hxs j (by rw [hk]; exact hj))
 have HXL := Kept.mk hxl
 have HS3 := Kept.mk (HS1.out.below hb3)
 have HB3 := Kept.mk (bstep HB1.out hb3)
 have HTE : Kept (t < k -> cjg hD.pre.pk a t = a) := ⟨fun h => HT.out.2.2.2 (by rw [hk]; exact h)⟩
 clear hsl hb3 hxs hk hal hxl HF1 HB1 HS1
 go_wp2
 go_loopw [5, 17] (fun ov iv wr => ∃ (i oc : Nat) (oa : Option Addr), i <= t /\ iv = .int .i64 i /\ ov = .slice oa (i + 1) oc /\ Kept (Sl .i64 wr (.slice oa (i + 1) oc) (ints (minF D hD.pre.pk a i))) /\ Kept (Below w3.heap.size w3 wr)) (fun _ iv _ => t - (intOf iv).toNat)
 case atStart => exact ⟨0, 1, _, Nat.zero_le _, rfl, rfl, HS3, ⟨Below.refl _ _⟩⟩
 case round =>
  obtain ⟨i, oc, oa, hit, rfl, rfl, hso, hbw⟩ := hrel
  have HFW := Kept.mk (HF.out.below (bstep HB3.out hbw.out))
  by_cases hlt : i < t
  ·have hik : i < k := by omega
   obtain ⟨bb, o, rfl, ic⟩ := HC1.out _ hbw.out i (by rw [HXL.out]; exact hik)
   obtain ⟨c, hc⟩ : ∃ c, cjg hD.pre.pk a i = c := ⟨_, rfl⟩
   rw [HX.out i hik, hc] at ic
   have hcl : c < D.p ^ D.k := by rw [<- hc]; exact HL.out i
   have hc6 : c <= 65536 := el_le hD hcl
   obtain ⟨z, hz⟩ : ∃ z, FFld.pscl D.p D.k (D.p - 1) c = z := ⟨_, rfl⟩
   have hzq : z < D.p ^ D.k := by rw [<- hz]; exact FFld.pscl_lt hD.pre.pk _ _
   have HNX : Kept (minF D hD.pre.pk a (i + 1) = FFld.mulL D (minF D hD.pre.pk a i) [z, 1]) := ⟨by simp only [minF]; rw [hc, hz]⟩
   have hN := Kept.mk (fun W hf => HN.out W c hf hcl)
   rw [hz] at hN
   have HZ2 := Kept.mk (two_lt hD.pre.pk hzq)
   have HML : Kept ((minF D hD.pre.pk a i).length <= 100000) := ⟨by rw [minF_len]; omega⟩
   have HMQ := Kept.mk (minF_lt hD.pre.pk a i)
   have hal : ∀ W : World, Below W.heap.size W (W.alloc (.cells #[.int .i64 (z : Int), .int .i64 1] 3)) := fun W => (Below.refl _ _).alloc (Nat.le_refl _) _
   have hne : 0 < i -> ¬ (c : Int) = (a : Int) := fun h0 e => HT.out.2.2.1 i h0 hlt (by rw [hc]; omega)
   have HNE := Kept.mk hne
   clear hz hc hzq hcl hne
   by_cases hi0 : i = 0
   ·subst hi0
    rw [Nat.add_zero] at ic
    have eg : decide (((0 : Nat) : Int) > 0) = false := rfl
    go_wp2_with fail
    refine (hN.out _ HFW.out).mono ?_
    rintro e v3 ⟨hb3, rfl⟩
    have HF4 := Kept.mk ((HFW.out.below hb3).below (hal v3))
    have HSO := Kept.mk ((hso.out.below hb3).below (hal v3))
    have HS2 := Kept.mk (two_sl v3 (z : Int) 1)
    have HB4 := Kept.mk (bstep hb3 (hal v3))
    clear hb3
    go_wp2_with fail
    refine (HPD.out _ _ _ [z, 1] _ HF4.out HSO.out HS2.out HMQ.out HZ2.out HML.out (by simp)).mono ?_
    rintro e v5 ⟨hb5, vo, rfl, hs5⟩
    have HB9 := Kept.mk (bstep hbw.out (bstep HB4.out hb5))
    obtain ⟨oa5, oc5, rfl, ho5, hm5⟩ := hs5.form
    have e5 : (ints (FFld.mulL D (minF D hD.pre.pk a 0) [z, 1])).length = 0 + 1 + 1 := by rw [FFld.ints_len, <- HNX.out, minF_len]
    have HS5 : Kept (Sl .i64 v5 (.slice oa5 (0 + 1 + 1) oc5) (ints (minF D hD.pre.pk a (0 + 1)))) := ⟨by
     rw [HNX.out]
     rw [e5] at hs5
     exact hs5⟩
    rw [e5]
    clear hs5 e5 ho5 hb5
    go_wp2
    go_roundw
    case rel => exact ⟨0 + 1, oc5, oa5, by omega, by go_num, rfl, HS5, HB9⟩
    case measure => simp [intOf] <;> omega
   ·have eg : decide ((i : Int) > 0) = true := by rw [decide_eq_true_eq]; omega
    have e1 : ((c : Int) == (a : Int)) = false := by rw [beq_eq_false_iff_ne]; exact HNE.out (by omega)
    go_wp2_with fail
    refine (HR.out _ HFW.out).mono ?_
    rintro e w5 ⟨rfl, rfl⟩
    go_wp2_with fail
    refine (hN.out _ HFW.out).mono ?_
    rintro e v3 ⟨hb3, rfl⟩
    have HF4 := Kept.mk ((HFW.out.below hb3).below (hal v3))
    have HSO := Kept.mk ((hso.out.below hb3).below (hal v3))
    have HS2 := Kept.mk (two_sl v3 (z : Int) 1)
    have HB4 := Kept.mk (bstep hb3 (hal v3))
    clear hb3
    go_wp2_with fail
    refine (HPD.out _ _ _ [z, 1] _ HF4.out HSO.out HS2.out HMQ.out HZ2.out HML.out (by simp)).mono ?_
    rintro e v5 ⟨hb5, vo, rfl, hs5⟩
    have HB9 := Kept.mk (bstep hbw.out (bstep HB4.out hb5))
    obtain ⟨oa5, oc5, rfl, ho5, hm5⟩ := hs5.form
    have e5 : (ints (FFld.mulL D (minF D hD.pre.pk a i) [z, 1])).length = i + 1 + 1 := by rw [FFld.ints_len, <- HNX.out, minF_len]
    have HS5 : Kept (Sl .i64 v5 (.slice oa5 (i + 1 + 1) oc5) (ints (minF D hD.pre.pk a (i + 1)))) := ⟨by
     rw [HNX.out]
     rw [e5] at hs5
     exact hs5⟩
    rw [e5]
    clear hs5 e5 ho5 hb5
    go_wp2
    go_roundw
    case rel => exact ⟨i + 1, oc5, oa5, by omega, by go_num, rfl, HS5, HB9⟩
    case measure => simp [intOf] <;> omega
  ·obtain rfl : i = t := by omega
   by_cases hik : i < k
   ·obtain ⟨bb, o, rfl, ic⟩ := HC1.out _ hbw.out i (by rw [HXL.out]; exact hik)
    rw [HX.out i hik, HTE.out hik] at ic
    have eg : decide ((i : Int) > 0) = true := by rw [decide_eq_true_eq]; omega
    have e1 : ((a : Int) == (a : Int)) = true := by simp
    go_wp2_with fail
    refine (HR.out _ HFW.out).mono ?_
    rintro e w5 ⟨rfl, rfl⟩
    go_wp2
    go_ret
    exact ⟨bstep HB3.out hbw.out, _, rfl, hso.out⟩
   ·go_wp2
    go_ret
    exact ⟨bstep HB3.out hbw.out, _, rfl, hso.out⟩
def t10L : List Nat := [4, 8, 9, 16, 25, 27, 32, 49, 64, 81]
abbrev t10box : Obj := .cells #[.int .i64 4, .int .i64 8, .int .i64 9, .int .i64 16, .int .i64 25, .int .i64 27, .int .i64 32, .int .i64 49, .int .i64 64, .int .i64 81] 109
theorem t10_fit (t : Nat) (ht : t < 10) : FFld.Fit ((t10L[t]?.getD 0 : Nat) : Int) /\ 4 <= t10L[t]?.getD 0 /\ t10L[t]?.getD 0 <= 81 := by
 have h : ∀ p k : Nat, FFld.isP p = true -> 1 <= k -> 4 <= p ^ k -> p ^ k <= 81 -> FFld.Fit ((p ^ k : Nat) : Int) /\ 4 <= p ^ k /\ p ^ k <= 81 := fun p k hp hk h5 hq => ⟨FFld.fit_pow (FFld.prime_of hp) hk (by omega), h5, hq⟩
 have : t = 0 \/ t = 1 \/ t = 2 \/ t = 3 \/ t = 4 \/ t = 5 \/ t = 6 \/ t = 7 \/ t = 8 \/ t = 9 := by omega
 rcases this with rfl | rfl | rfl | rfl | rfl | rfl | rfl | rfl | rfl | rfl
 ·exact h 2 2 (by decide) (by decide) (by decide) (by decide)
 ·exact h 2 3 (by decide) (by decide) (by decide) (by decide)
 ·exact h 3 2 (by decide) (by decide) (by decide) (by decide)
 ·exact h 2 4 (by decide) (by decide) (by decide) (by decide)
 ·exact h 5 2 (by decide) (by decide) (by decide) (by decide)
 ·exact h 3 3 (by decide) (by decide) (by decide) (by decide)
 ·exact h 2 5 (by decide) (by decide) (by decide) (by decide)
 ·exact h 7 2 (by decide) (by decide) (by decide) (by decide)
 ·exact h 2 6 (by decide) (by decide) (by decide) (by decide)
 ·exact h 3 4 (by decide) (by decide) (by decide) (by decide)
theorem t10_cell {W : World} {g : Nat} (h : W.heap[g]? = some t10box) (t : Nat) (ht : t < 10) : W.cell? ⟨g, t, none⟩ = some (.int .i64 ((t10L[t]?.getD 0 : Nat) : Int)) := by
 rw [cell_of_row W g t _ _ (0, 0) h]
 have : t = 0 \/ t = 1 \/ t = 2 \/ t = 3 \/ t = 4 \/ t = 5 \/ t = 6 \/ t = 7 \/ t = 8 \/ t = 9 := by omega
 rcases this with rfl | rfl | rfl | rfl | rfl | rfl | rfl | rfl | rfl | rfl <;> rfl
theorem take_next4 {α : Type} {xs : List α} {i : Nat} {d : α} (h : i < xs.length) : xs.take (i + 1) = xs.take i ++ [xs[i]?.getD d] := by
 rw [List.take_add_one, List.getElem?_eq_getElem h]
 rfl
theorem prime_fd {D : FFld.FD} (hD : D.Ok) : ∃ D' : FFld.FD, D'.Ok /\ D'.p = D.p /\ D'.k = 1 := by
 obtain ⟨g, hg⟩ := FFld.FD.prime_exists D.p hD.pre.prime hD.p6
 exact ⟨_, hg, rfl, rfl⟩
set_option maxRecDepth 20000 in
theorem topTraces_any (a b2 b3 : Int) (w : World) (a0 : -9223372036854775808 <= a) (a1 : a <= 9223372036854775807) (b0 : -9223372036854775808 <= b2) (b1 : b2 <= 9223372036854775807) (c0 : -9223372036854775808 <= b3) (c1 : b3 <= 9223372036854775807) :
 Calls Tryz.prog 17 #[.int .i64 a, .int .i64 b2, .int .i64 b3] w (RB w (.bool true)) := by
 have HX0 : Kept (Bxs w [t10box] (w.alloc t10box)) := ⟨(Bxs.start w).alloc (by simp) _⟩
 obtain ⟨t0, ht0⟩ : ∃ t, smE a 10 = t := ⟨_, rfl⟩
 have ht10 : t0 < 10 := by rw [<- ht0]; exact smE_lt a (by decide)
 have HS0 := Kept.mk (tsmall_any a 10 9 (w.alloc t10box) a0 a1 (by decide) (by decide) rfl)
 rw [ht0] at HS0
 obtain ⟨q, hq⟩ : ∃ q, t10L[t0]?.getD 0 = q := ⟨_, rfl⟩
 obtain ⟨hfit, hq4, hq81⟩ := t10_fit t0 ht10
 have hcell := t10_cell HX0.out.b0 t0 ht10
 rw [hq] at hfit hq4 hq81 hcell
 have HFIT := Kept.mk hfit
 have HNW := Kept.mk (fun W => fnew_any (q : Int) W (by omega) (by omega))
 have HBX := Kept.mk HX0.out.1
 clear ht0 hq hfit
 go_enter Tryz.func17, Tryz.ntmps17
 go_wp2_with fail
 (with_reducible refine HS0.out.mono ?_)
 rintro e w0 ⟨rfl, rfl⟩
 go_wp2_with fail
 (with_reducible refine (HNW.out _).mono ?_)
 rintro e w3 ⟨hb3, h⟩
 rcases h with ⟨D, b, hqd, hbb, rfl, hf⟩ | ⟨hn, rfl⟩
 ·obtain rfl : q = D.q := by omega
  have HF := Kept.mk hf
  have HD := Kept.mk hf.ok
  have HB3 := Kept.mk (bstep HBX.out hb3)
  have hk := hf.ok.pre.pk
  obtain ⟨x0, hx0⟩ : ∃ x, smE b2 (D.q - 1) = x := ⟨_, rfl⟩
  obtain ⟨y0, hy0⟩ : ∃ x, smE b3 (D.q - 1) = x := ⟨_, rfl⟩
  have hx0l : x0 < D.q - 1 := by rw [<- hx0]; exact smE_lt _ (by omega)
  have hy0l : y0 < D.q - 1 := by rw [<- hy0]; exact smE_lt _ (by omega)
  obtain ⟨q2, hq2⟩ : ∃ x, D.q - 2 = x := ⟨_, rfl⟩
  have eq2 : (D.q : Int) - 2 = (q2 : Int) := by omega
  have HSX := Kept.mk (fun W => tsmall_any b2 (D.q - 1) (q2 : Int) W b0 b1 (by omega) (by omega) (by omega))
  have HSY := Kept.mk (fun W => tsmall_any b3 (D.q - 1) (q2 : Int) W c0 c1 (by omega) (by omega) (by omega))
  rw [hx0] at HSX
  rw [hy0] at HSY
  obtain ⟨x, hx⟩ : ∃ x, 1 + x0 = x := ⟨_, rfl⟩
  obtain ⟨c, hc⟩ : ∃ x, 1 + y0 = x := ⟨_, rfl⟩
  have ex : (1 : Int) + (x0 : Int) = (x : Int) := by omega
  have ec : (1 : Int) + (y0 : Int) = (c : Int) := by omega
  have hxq : x < D.p ^ D.k := by show x < D.q; omega
  have hcq : c < D.p ^ D.k := by show c < D.q; omega
  obtain ⟨t, ht⟩ := MinT.exists hk x
  have ht6 : t <= 6 := by
   have h1 := ht.2.1
   have h2 : 2 ^ D.k <= D.p ^ D.k := Nat.pow_le_pow_left hf.ok.pre.prime.1 _
   have h3 : D.k <= 6 := by
    apply Classical.byContradiction
    intro hc
    have h4 : 128 <= 2 ^ D.k := Nat.le_trans (show 128 <= 2 ^ 7 by decide) (Nat.pow_le_pow_right (by decide) (by omega))
    have h5 : D.p ^ D.k = D.q := rfl
    omega
   omega
  have ht1 := ht.1
  obtain ⟨D', hD', hp', hk'⟩ := prime_fd hf.ok
  obtain ⟨N, hN⟩ : ∃ N, 4 * t + 4 = N := ⟨_, rfl⟩
  have hTS := FFld.tr_short hf.ok hD' hp' hk' hxq hcq ht (N := N) (by omega)
  have hq' : D'.q = D.p := by show D'.p ^ D'.k = D.p; rw [hk', Nat.pow_one, hp']
  have hpq : D.p <= D.q := by
   have h := Nat.pow_le_pow_right (n := D.p) (by have := hk.p2; omega) hk.k1
   rw [Nat.pow_one] at h
   exact h
  have HTAP := Kept.mk (FFld.tapL_lt hf.ok hxq ht)
  have HSS := Kept.mk (FFld.sS_lt hf.ok (a := x) hcq N)
  have HQ' : Kept (D'.p ^ D'.k = D.p) := ⟨hq'⟩
  have HML := Kept.mk (FFld.minF_len hf.ok (a := x) t)
  have HMQ := Kept.mk (FFld.minF_small hf.ok hxq ht)
  have HMIN : Kept (∀ W, Below w3.heap.size w3 W -> Calls Tryz.prog 80 #[.pointer (some ⟨b, 0, none⟩), .int .i64 (x : Nat)] W (fun e w' => Below W.heap.size W w' /\ ∃ v, e = .returned v /\ Sl .i64 w' v (ints (minF D hf.ok.pre.pk x t)))) := ⟨fun W hW => fminimal_any hf.ok (x : Int) x t W (hf.below hW) (by omega) (by omega) (by show (x : Int) % ((D.q : Nat) : Int) = x; exact Int.emod_eq_of_lt (by omega) (by omega)) hxq ht⟩
  have HTRC : Kept (∀ W, Below w3.heap.size w3 W -> ∀ y : Nat, y < D.p ^ D.k -> Calls Tryz.prog 81 #[.pointer (some ⟨b, 0, none⟩), .int .i64 (y : Nat)] W (RB W (.int .i64 (FFld.trN hf.ok y : Nat)))) := ⟨fun W hW y hy => trace_any hf.ok (y : Int) W (hf.below hW) (by omega) (by have : y < D.q := hy; omega) y (by show (y : Int) % ((D.q : Nat) : Int) = y; exact Int.emod_eq_of_lt (by omega) (by have : y < D.q := hy; omega)) hy⟩
  have HMUL : Kept (∀ W, Below w3.heap.size w3 W -> ∀ y : Nat, y < D.p ^ D.k -> Calls Tryz.prog 82 #[.pointer (some ⟨b, 0, none⟩), .int .i64 (y : Nat), .int .i64 (x : Nat)] W (RB W (.int .i64 (FFld.pmul D.p D.k D.m y D.k x : Nat)))) := ⟨fun W hW y hy => fmul_any (y : Int) (x : Int) W (hf.below hW) (by omega) (by have : y < D.q := hy; omega) (by omega) (by omega) y x (by show (y : Int) % ((D.q : Nat) : Int) = y; exact Int.emod_eq_of_lt (by omega) (by have : y < D.q := hy; omega)) (by show (x : Int) % ((D.q : Nat) : Int) = x; exact Int.emod_eq_of_lt (by omega) (by omega)) hy hxq⟩
  have HORD := Kept.mk (fun W (hW : Below w3.heap.size w3 W) => order_any W (hf.below hW))
  have HPRI := Kept.mk (fun W (hW : Below w3.heap.size w3 W) => (fprime_any W (hf.below hW)).mono fun e w' h => RQ.rb h)
  have HTP := Kept.mk (fun y (hy : y < D.p ^ D.k) => FFld.trN_lt hf.ok hy)
  have HYL := Kept.mk (fun i => FFld.yS_lt (D := D) (a := x) hk hcq i)
  have HMK : Kept (∀ W at_ as_ ct cs, Sl .i64 W (.slice at_ t ct) (ints (FFld.tapL hf.ok x t)) -> Sl .i64 W (.slice as_ N cs) (ints (FFld.sS hf.ok x c N)) -> Calls Tryz.prog 60 #[.int .i64 D.p, .slice at_ t ct, .slice as_ N cs] W (RB W (.tuple #[.bool true, .int .i64 0]))) := ⟨fun W at_ as_ ct cs h1 h2 => by
   have h := cmakes_ok hD' at_ as_ ct cs t N (FFld.tapL hf.ok x t) (FFld.sS hf.ok x c N) W h1 h2 (FFld.tapL_len hf.ok x t) (FFld.sS_len hf.ok x c N) (fun z hz => by rw [HQ'.out]; exact HTAP.out z hz) (fun z hz => by rw [HQ'.out]; exact HSS.out z hz) (by omega) (by omega)
   rw [hTS.1, hq'] at h
   exact h⟩
  have HSH : Kept (∀ W as_ cs, Sl .i64 W (.slice as_ N cs) (ints (FFld.sS hf.ok x c N)) -> Calls Tryz.prog 62 #[.int .i64 D.p, .slice as_ N cs] W (fun e w' => Below W.heap.size W w' /\ ∃ vt, e = .returned (.tuple #[vt, .int .i64 0]) /\ Sl .i64 w' vt (ints (bmT D' hD'.pre.pk (FFld.sS hf.ok x c N) N)))) := ⟨fun W as_ cs h2 => by
   have h := cShortest_any hD' as_ cs N (FFld.sS hf.ok x c N) W h2 (FFld.sS_len hf.ok x c N) (fun z hz => by rw [HQ'.out]; exact HSS.out z hz) (by omega)
   rw [hq'] at h
   exact h⟩
  have HNIL := Kept.mk hTS.2.1
  have HYES := Kept.mk hTS.2.2
  have HNX := Kept.mk (fun i => FFld.sS_next hf.ok x c i)
  have HSL := Kept.mk (fun i => FFld.sS_len hf.ok x c i)
  have HSG := Kept.mk (fun i (h : i < N) => FFld.sS_get hf.ok x c h)
  have HTL := Kept.mk (FFld.tapL_len hf.ok x t)
  have HTG := Kept.mk (fun i (h : i < t) => FFld.tapL_get hf.ok x h)
  obtain ⟨ml, hml⟩ : ∃ l, minF D hf.ok.pre.pk x t = l := ⟨_, rfl⟩
  obtain ⟨tl, htl⟩ : ∃ l, FFld.tapL hf.ok x t = l := ⟨_, rfl⟩
  obtain ⟨sN, hsN⟩ : ∃ f : Nat -> List Nat, FFld.sS hf.ok x c = f := ⟨_, rfl⟩
  obtain ⟨trF, htrF⟩ : ∃ f : Nat -> Nat, FFld.trN hf.ok = f := ⟨_, rfl⟩
  obtain ⟨yF, hyF⟩ : ∃ f : Nat -> Nat, FFld.yS D x c = f := ⟨_, rfl⟩
  obtain ⟨bT, hbT⟩ : ∃ l, bmT D' hD'.pre.pk (FFld.sS hf.ok x c N) N = l := ⟨_, rfl⟩
  rw [hbT] at HSH HNIL HYES
  rw [hsN] at HMK HSH HNIL HYES HNX HSL HSG HSS
  rw [htl] at HMK HYES HTL HTG HTAP
  rw [hml] at HMIN HML HTG HMQ
  rw [htrF, hyF] at HNX HSG
  rw [htrF] at HTRC HTP
  rw [hyF] at HYL
  have HY1 : Kept (∀ i, FFld.pmul D.p D.k D.m (yF i) D.k x = yF (i + 1)) := ⟨fun i => by rw [<- hyF]; rfl⟩
  have HY0 : Kept (yF 0 = c) := ⟨by rw [<- hyF]; rfl⟩
  have HS00 : Kept (sN 0 = []) := ⟨by rw [<- hsN]; rfl⟩
  have eN : (4 : Int) * (t : Int) + 4 = (N : Int) := by omega
  clear hml htl hsN htrF hyF hbT hTS hf hb3 hqd hbb HNW HX0 HBX HS0 hcell hx0 hy0 ht hx hc
  go_wp2_with fail
  (with_reducible refine (HPRI.out _ (Below.refl _ _)).mono ?_)
  rintro e w4 ⟨hb4, rfl⟩
  have HB4 := Kept.mk hb4
  clear hb4
  go_wp2_with fail
  (with_reducible refine (HORD.out _ HB4.out).mono ?_)
  rintro e w0 ⟨rfl, rfl⟩
  go_wp2_with fail
  (with_reducible refine (HSX.out _).mono ?_)
  rintro e w0 ⟨rfl, rfl⟩
  go_wp2_with fail
  (with_reducible refine (HORD.out _ HB4.out).mono ?_)
  rintro e w0 ⟨rfl, rfl⟩
  go_wp2_with fail
  (with_reducible refine (HSY.out _).mono ?_)
  rintro e w0 ⟨rfl, rfl⟩
  go_wp2_with fail
  (with_reducible refine (HMIN.out _ HB4.out).mono ?_)
  rintro e w5 ⟨hb5, vm, rfl, hsm⟩
  obtain ⟨am, cm, rfl, hcm1, hcm2⟩ := hsm.form
  rw [FFld.ints_len, HML.out] at hsm hcm1 ⊢
  have HSM := Kept.mk hsm
  have HB5 := Kept.mk (bstep HB4.out hb5)
  obtain ⟨t1, ht1'⟩ : ∃ x, t + 1 = x := ⟨_, rfl⟩
  rw [ht1'] at hcm1 HSM ⊢
  have et1 : (t1 : Int) - 1 = (t : Int) := by omega
  unfold maxLen at hcm2
  clear hsm hb5 HSX HSY HORD HPRI HMIN HB4
  go_wp2
  go_loopw [16, 17, 18, 19] (fun sv yv av iv wr => ∃ (i y : Nat) (bb : Bool) (pa : Option Addr) (pc : Nat), i <= N /\ iv = .int .i64 i /\ sv = .slice pa i pc /\ yv = .int .i64 y /\ av = .bool bb /\ Kept (yF i = y) /\ Kept (bb = true ↔ ∀ j, j < i -> trF (yF j) = 0) /\ Kept (Mine 3 .i64 w5.heap.size wr (.slice pa i pc) (ints (sN i))) /\ Kept (Below w5.heap.size w5 wr)) (fun _ _ _ iv _ => N - (intOf iv).toNat)
  case atStart => exact ⟨0, c, true, none, 0, Nat.zero_le _, rfl, rfl, rfl, rfl, HY0, ⟨⟨fun _ j hj => by omega, fun _ => rfl⟩⟩, ⟨by rw [HS00.out]; exact Mine.nil _ _ _ _⟩, ⟨Below.refl _ _⟩⟩
  case round =>
   obtain ⟨i, y, bb, pa, pc, hin, rfl, rfl, rfl, rfl, hyy, hall, hmn, hbw⟩ := hrel
   have hwsz := HB5.out.size
   have HBR := Kept.mk (HB5.out.trans (hbw.out.mono hwsz))
   by_cases hlt : i < N
   ·have hyq : y < D.p ^ D.k := by rw [<- hyy.out]; exact HYL.out i
    obtain ⟨r, hr⟩ : ∃ r, trF y = r := ⟨_, rfl⟩
    have htr : trF y = r := hr
    have HTR := Kept.mk (fun W hW => HTRC.out W hW y hyq)
    rw [hr] at HTR
    have hrp : r <= 81 := by
     have h := HTP.out y hyq
     rw [hr] at h
     omega
    have HSN : Kept (sN (i + 1) = sN i ++ [r]) := ⟨by rw [HNX.out, hyy.out, hr]⟩
    go_wp2_with fail
    (with_reducible refine (HTR.out _ HBR.out).mono ?_)
    rintro e w7 ⟨hb7, rfl⟩
    have HBR7 := Kept.mk (bstep HBR.out hb7)
    replace hmn := Kept.mk (hmn.out.below hb7)
    replace hbw := Kept.mk (bstep hbw.out hb7)
    clear hb7 HBR
    have hil : (sN i).length = i := HSL.out i
    have hal : Below w7.heap.size w7 (w7.alloc (.cells #[.int .i64 (r : Nat)] 3)) := (Below.refl _ _).alloc (Nat.le_refl _) _
    have HM3 := Kept.mk (hmn.out.alloc (.cells #[.int .i64 (r : Nat)] 3))
    have hsz := hbw.out.size
    have HBB := Kept.mk (show w5.heap.size <= (w7.alloc (.cells #[.int .i64 (r : Nat)] 3)).heap.size by simp; omega)
    have HBQ := Kept.mk (hbw.out.alloc hsz (.cells #[.int .i64 (r : Nat)] 3))
    have HOW := Kept.mk HM3.out.own
    clear hal
    have HNW := Kept.mk (new_one (K := .i64) (x := ((r : Nat) : Int)) (w := w7.alloc (.cells #[.int .i64 (r : Nat)] 3)) (b := w7.heap.size) (o := 0) (by exact (Row.new (E := 3) (K := .i64) w7 [((r : Nat) : Int)]).cell (i := 0) (by simp)))
    have H1 := Kept.mk (show ((ints (sN i)).length + [((r : Nat) : Int)].length) * 8 <= 140737488355328 by rw [FFld.ints_len, hil]; simp; omega)
    have H2 := Kept.mk (show (ints (sN i)).length + [((r : Nat) : Int)].length <= maxLen by rw [FFld.ints_len, hil]; unfold maxLen; simp; omega)
    go_wp2_with (at_builtin; refine wpList_append_parts _ rfl _ _ 22 (by rfl) 3 .i64 8 Tryz.underlying22 info_i64 (w5.heap.size) (.slice pa i pc) (ints (sN i)) (by rfl) HM3.out HBB.out ⟨w7.heap.size, 0, none⟩ 1 1 [((r : Nat) : Int)] (by rfl) rfl HNW.out H1.out H2.out ?_)
    intro va nv vc w9 hlv hm5 hg5 hn5
    obtain rfl : nv = i + 1 := by rw [<- hlv]; simp [FFld.ints_len, hil]
    have HM5 : Kept (Mine 3 .i64 w5.heap.size w9 (.slice va (i + 1) vc) (ints (sN (i + 1)))) := ⟨by rw [HSN.out, FFld.ints_append]; exact hm5⟩
    have HB9 := Kept.mk (HBQ.out.grown hg5 HBB.out (fun j hj => (HOW.out j hj).1))
    have HBw9 := Kept.mk (HB5.out.trans (HB9.out.mono hwsz))
    cases bb with
    | false =>
      have HALL : Kept (false = true ↔ ∀ j, j < i + 1 -> trF (yF j) = 0) := ⟨⟨(fun e => by cases e), fun h => hall.out.2 fun j hj => h j (by omega)⟩⟩
      clear hlv hm5 hg5 hn5
      have HBA := HBw9
      have HMA := HM5
      have HBV := HB9
      clear HM5 HBw9 HB9
      obtain ⟨wA, rfl⟩ : ∃ W, W = w9 := ⟨_, rfl⟩
      go_wp2_with fail
      (with_reducible refine (HMUL.out _ HBA.out _ hyq).mono ?_)
      rintro e wC ⟨hbC, rfl⟩
      have HMC := Kept.mk (HMA.out.below hbC)
      have HBC := Kept.mk (bstep HBV.out hbC)
      clear hbC HMA HBV HBA
      go_wp2
      go_roundw
      case rel => exact ⟨i + 1, _, false, va, vc, by omega, by go_num, rfl, rfl, rfl, ⟨by rw [<- HY1.out i, hyy.out]⟩, ⟨by first | exact HALL.out | exact ⟨fun _ => HALL.out.1 trivial, fun _ => rfl⟩ | exact ⟨(fun e => by cases e), fun h => (HALL.out.2 h).elim⟩⟩, HMC, HBC⟩
      case measure => simp [intOf] <;> omega
    | true =>
      by_cases hr0 : r = 0
      ·subst hr0
       have HALL : Kept (true = true ↔ ∀ j, j < i + 1 -> trF (yF j) = 0) := ⟨⟨fun _ j hj => by
        rcases Nat.lt_or_ge j i with h | h
        ·exact hall.out.1 rfl j h
        ·obtain rfl : j = i := by omega
         rw [hyy.out, hr], fun _ => rfl⟩⟩
       clear hlv hm5 hg5 hn5
       go_wp2_with fail
       (with_reducible refine (HTR.out _ HBw9.out).mono ?_)
       rintro e wA ⟨hbA, rfl⟩
       have HBA := Kept.mk (bstep HBw9.out hbA)
       have HMA := Kept.mk (HM5.out.below hbA)
       have HBV := Kept.mk (bstep HB9.out hbA)
       clear hbA HM5 HBw9 HB9
       try rw [htr]
       go_wp2_with fail
       (with_reducible refine (HMUL.out _ HBA.out _ hyq).mono ?_)
       rintro e wC ⟨hbC, rfl⟩
       have HMC := Kept.mk (HMA.out.below hbC)
       have HBC := Kept.mk (bstep HBV.out hbC)
       clear hbC HMA HBV HBA
       go_wp2
       go_roundw
       case rel => exact ⟨i + 1, _, true, va, vc, by omega, by go_num, rfl, rfl, rfl, ⟨by rw [<- HY1.out i, hyy.out]⟩, ⟨by first | exact HALL.out | exact ⟨fun _ => HALL.out.1 trivial, fun _ => rfl⟩ | exact ⟨(fun e => by cases e), fun h => (HALL.out.2 h).elim⟩⟩, HMC, HBC⟩
       case measure => simp [intOf] <;> omega
      ·have er0 : ((r : Int) == 0) = false := by rw [beq_eq_false_iff_ne]; omega
       have HALL : Kept (false = true ↔ ∀ j, j < i + 1 -> trF (yF j) = 0) := ⟨⟨fun e => (by cases e), fun h => absurd (by rw [<- hr, <- hyy.out]; exact h i (by omega)) hr0⟩⟩
       clear hlv hm5 hg5 hn5
       go_wp2_with fail
       (with_reducible refine (HTR.out _ HBw9.out).mono ?_)
       rintro e wA ⟨hbA, rfl⟩
       have HBA := Kept.mk (bstep HBw9.out hbA)
       have HMA := Kept.mk (HM5.out.below hbA)
       have HBV := Kept.mk (bstep HB9.out hbA)
       clear hbA HM5 HBw9 HB9
       try rw [htr]
       go_wp2_with fail
       (with_reducible refine (HMUL.out _ HBA.out _ hyq).mono ?_)
       rintro e wC ⟨hbC, rfl⟩
       have HMC := Kept.mk (HMA.out.below hbC)
       have HBC := Kept.mk (bstep HBV.out hbC)
       clear hbC HMA HBV HBA
       go_wp2
       go_roundw
       case rel => exact ⟨i + 1, _, false, va, vc, by omega, by go_num, rfl, rfl, rfl, ⟨by rw [<- HY1.out i, hyy.out]⟩, ⟨by first | exact HALL.out | exact ⟨fun _ => HALL.out.1 trivial, fun _ => rfl⟩ | exact ⟨(fun e => by cases e), fun h => (HALL.out.2 h).elim⟩⟩, HMC, HBC⟩
       case measure => simp [intOf] <;> omega
   ·obtain rfl : N = i := by omega
    obtain ⟨w6, rfl⟩ : ∃ W, W = wr := ⟨_, rfl⟩
    have HSV := Kept.mk hmn.out.sl
    have HB6 := HBR
    have HALN := hall
    have HB56 := Kept.mk hbw.out
    clear HTRC HMUL hyy hmn hbw hall hlt hin HB5 HBR
    go_wp2
    go_loopw [20, 21] (fun tv iv wr => ∃ (j j1 : Nat) (pa2 : Option Addr) (pc2 : Nat), j <= t /\ j1 = j + 1 /\ iv = .int .i64 j1 /\ tv = .slice pa2 j pc2 /\ Kept (Mine 3 .i64 w6.heap.size wr (.slice pa2 j pc2) (ints (tl.take j))) /\ Kept (Below w6.heap.size w6 wr)) (fun _ iv _ => t + 1 - (intOf iv).toNat)
    case atStart => exact ⟨0, 1, none, 0, Nat.zero_le _, rfl, rfl, rfl, ⟨Mine.nil _ _ _ _⟩, ⟨Below.refl _ _⟩⟩
    case round =>
     obtain ⟨j, j1, pa2, pc2, hjt, hj1, rfl, rfl, hmn, hbw⟩ := hrel
     by_cases hlt : j < t
     ·have ej : (t : Int) - (j1 : Int) = ((t - 1 - j : Nat) : Int) := by omega
      obtain ⟨bm_, om, rfl, hbm, hcc⟩ := ((HSM.out.below HB56.out).below hbw.out).news_ (t - 1 - j) (by rw [FFld.ints_len, HML.out]; omega)
      rw [FFld.ints_get] at hcc
      obtain ⟨r, hr⟩ : ∃ r, ml[t - 1 - j]?.getD 0 = r := ⟨_, rfl⟩
      rw [hr] at hcc
      rw [show t - 1 - j = t - (j + 1) by omega] at hcc
      have hj2 : t - 1 - j < t1 := by omega
      have hle1 : j1 <= t := by omega
      have htk : (tl.take j).length = j := by rw [List.length_take, HTL.out]; omega
      have HTN : Kept (tl.take (j + 1) = tl.take j ++ [r]) := ⟨by
       rw [take_next4 (d := 0) (by rw [HTL.out]; exact hlt), HTG.out j hlt, hr]⟩
      clear hr
      have hal : Below wr.heap.size wr (wr.alloc (.cells #[.int .i64 (r : Nat)] 3)) := (Below.refl _ _).alloc (Nat.le_refl _) _
      have HM3 := Kept.mk (hmn.out.alloc (.cells #[.int .i64 (r : Nat)] 3))
      have hsz := hbw.out.size
      have HBB := Kept.mk (show w6.heap.size <= (wr.alloc (.cells #[.int .i64 (r : Nat)] 3)).heap.size by simp; omega)
      have HBQ := Kept.mk (hbw.out.alloc hsz (.cells #[.int .i64 (r : Nat)] 3))
      have HOW := Kept.mk HM3.out.own
      clear hal
      have HNW := Kept.mk (new_one (K := .i64) (x := ((r : Nat) : Int)) (w := wr.alloc (.cells #[.int .i64 (r : Nat)] 3)) (b := wr.heap.size) (o := 0) (by exact (Row.new (E := 3) (K := .i64) wr [((r : Nat) : Int)]).cell (i := 0) (by simp)))
      have H1 := Kept.mk (show ((ints (tl.take j)).length + [((r : Nat) : Int)].length) * 8 <= 140737488355328 by rw [FFld.ints_len, htk]; simp; omega)
      have H2 := Kept.mk (show (ints (tl.take j)).length + [((r : Nat) : Int)].length <= maxLen by rw [FFld.ints_len, htk]; unfold maxLen; simp; omega)
      go_wp2_with (at_builtin; refine wpList_append_parts _ rfl _ _ 22 (by rfl) 3 .i64 8 Tryz.underlying22 info_i64 (w6.heap.size) (.slice pa2 j pc2) (ints (tl.take j)) (by rfl) HM3.out HBB.out ⟨wr.heap.size, 0, none⟩ 1 1 [((r : Nat) : Int)] (by rfl) rfl HNW.out H1.out H2.out ?_)
      intro va nv vc w9 hlv hm5 hg5 hn5
      obtain rfl : nv = j + 1 := by rw [<- hlv]; simp [FFld.ints_len, htk]
      have HM5 : Kept (Mine 3 .i64 w6.heap.size w9 (.slice va (j + 1) vc) (ints (tl.take (j + 1)))) := ⟨by rw [HTN.out, FFld.ints_append]; exact hm5⟩
      have HB9 := Kept.mk (HBQ.out.grown hg5 HBB.out (fun j hj => (HOW.out j hj).1))
      clear hlv hm5 hg5 hn5
      go_wp2
      go_roundw
      case rel => exact ⟨j + 1, j1 + 1, va, vc, by omega, by omega, by go_num, rfl, HM5, HB9⟩
      case measure => simp [intOf] <;> omega
     ·obtain rfl : t = j := by omega
      have hle1 : ¬ j1 <= t := by omega
      have HTV : Kept (Sl .i64 wr (.slice pa2 t pc2) (ints tl)) := ⟨by
       have h := hmn.out.sl
       rw [List.take_of_length_le (by rw [HTL.out]; exact Nat.le_refl _)] at h
       exact h⟩
      have HSW := Kept.mk (HSV.out.below hbw.out)
      have HB7 := Kept.mk (bstep HB6.out hbw.out)
      have HMKW := Kept.mk (HMK.out wr pa2 pa pc2 pc HTV.out HSW.out)
      clear hmn hbw
      go_wp2_with fail
      (with_reducible refine HMKW.out.mono ?_)
      rintro e wA ⟨hbA, rfl⟩
      have HTA := Kept.mk (HTV.out.below hbA)
      have HSA := Kept.mk (HSW.out.below hbA)
      have HB8 := Kept.mk (bstep HB7.out hbA)
      have HSHW := Kept.mk (HSH.out wA pa pc HSA.out)
      clear hbA HTV HSW
      go_wp2_with fail
      (with_reducible refine HSHW.out.mono ?_)
      rintro e wC ⟨hbC, vt, rfl, hvt⟩
      have HTC := Kept.mk (HTA.out.below hbC)
      have HB9 := Kept.mk (bstep HB8.out hbC)
      have HVT := Kept.mk hvt
      clear hbC hvt HTA HSA
      cases bb with
      | true =>
        have HE : Kept (bT = []) := ⟨HNIL.out fun i hi => by rw [HSG.out i hi]; exact HALN.out.1 rfl i hi⟩
        rw [HE.out] at HVT
        obtain ⟨avt, cvt, rfl, _, _⟩ := HVT.out.form
        rw [show (ints []).length = 0 from rfl]
        go_wp2_with fail
        (with_reducible refine (three_any _).mono ?_)
        rintro e wE ⟨hbE, rfl⟩
        have HBZ := Kept.mk (HB3.out.trans ((bstep HB9.out hbE).mono HB3.out.size))
        clear hbE
        go_wp2
        go_ret
        exact ⟨HBZ.out, rfl⟩
      | false =>
        have HE : Kept (bT = tl) := ⟨HYES.out (by
         apply Classical.byContradiction
         intro hno
         have h := HALN.out.2 fun j hj => by
          apply Classical.byContradiction
          intro h0
          exact hno ⟨j, hj, by rw [HSG.out j hj]; exact h0⟩
         cases h)⟩
        rw [HE.out] at HVT
        have HSAM := Kept.mk (samet_eq vt (.slice pa2 t pc2) (ints tl) wC HVT.out HTC.out (by rw [FFld.ints_len, HTL.out]; omega))
        obtain ⟨avt, cvt, rfl, _, _⟩ := HVT.out.form
        rw [FFld.ints_len, HTL.out] at HSAM ⊢
        go_wp2_with fail
        (with_reducible refine HSAM.out.mono ?_)
        rintro e wD ⟨hbD, rfl⟩
        have HB10 := Kept.mk (bstep HB9.out hbD)
        clear hbD
        go_wp2_with fail
        (with_reducible refine (three_any _).mono ?_)
        rintro e wE ⟨hbE, rfl⟩
        have HBZ := Kept.mk (HB3.out.trans ((bstep HB10.out hbE).mono HB3.out.size))
        clear hbE
        go_wp2
        go_ret
        exact ⟨HBZ.out, rfl⟩
 ·exact absurd HFIT.out hn
structure In1 (wc : World) (gc q k : Nat) (pv : Value) (L : List Nat) (W : World) : Prop where
 gz : wc.heap.size = gc
 bel : Below wc.heap.size wc W
 bg : W.heap[gc]? = some (.cells #[.int .i64 q, pv, .int .i64 k] 27)
 mn : Mine 3 .i64 (gc + 1) W pv (ints L)
section
variable {wc W W' : World} {gc q k : Nat} {pv v' : Value} {L L' : List Nat}
theorem In1.start (wc : World) (q k : Nat) : In1 wc wc.heap.size q k (.slice none 0 0) [] (wc.alloc (cdbox q none 0 0 k)) :=
 ⟨rfl, (Below.refl _ _).alloc (Nat.le_refl _) _, heap_alloc_new wc _, Mine.nil _ _ _ _⟩
theorem In1.below (h : In1 wc gc q k pv L W) (hb : Below W.heap.size W W') : In1 wc gc q k pv L W' :=
 ⟨h.gz, h.bel.trans (hb.mono h.bel.size), (hb.block _ (Array.getElem?_eq_some_iff.1 h.bg).1).trans h.bg, h.mn.below hb⟩
theorem In1.push (h : In1 wc gc q k pv L W) (hm : Mine 3 .i64 (gc + 1) W' v' (ints L')) (hg : W.grownBy W' pv.ownBlock) : W'.heap[gc]? = some (.cells #[.int .i64 q, pv, .int .i64 k] 27) /\ In1 wc gc q k v' L' (W'.setCell ⟨gc, 1, none⟩ v') := by
 have hgz := h.gz
 have hgs := (Array.getElem?_eq_some_iff.1 h.bg).1
 have hne : some gc ≠ pv.ownBlock := fun e => by have := (h.mn.own gc e.symm).1; omega
 have hbx := (hg.block gc hgs hne).trans h.bg
 refine ⟨hbx, hgz, ?_, ?_, Mine.setOther hm (by omega)⟩
 ·exact (h.bel.grown hg h.bel.size (fun j hj => by have := (h.mn.own j hj).1; omega)).setCell (p := ⟨gc, 1, none⟩) (by simp; omega) _
 ·have := heap_setCell_same W' gc 1 _ _ v' hbx
  simpa using this
end
end Go.Proofs.YtdnheaafcbihbaaGreat
