/-
  Texts of the proof, merged by program: Tpw.
-/
import Derived.Test.YtdnheaafcbihbaaGreatTq24
set_option linter.unusedSimpArgs false
set_option linter.unusedVariables false
set_option maxHeartbeats 16000000
namespace Go.Proofs.YtdnheaafcbihbaaGreat
open Go Go.RowKit Go.Deep
open FFld (ints)
set_option maxRecDepth 20000 in
theorem topInterpolates_any (a : Int) (v1 : Value) (xs1 : List Int) (v2 : Value) (xs2 : List Int) (w : World) (a0 : -9223372036854775808 <= a) (a1 : a <= 9223372036854775807) (s1 : Sl .i64 w v1 xs1) (w1 : I64s xs1) (s2 : Sl .i64 w v2 xs2) (w2 : I64s xs2) :
 Calls Tryz.prog 16 #[.int .i64 a, v1, v2] w (RB w (.bool true)) := by
 have HX0 : Kept (Bxs w [t8box] (w.alloc t8box)) := ⟨(Bxs.start w).alloc (by simp) _⟩
 obtain ⟨t, ht⟩ : ∃ t, smE a 8 = t := ⟨_, rfl⟩
 have ht8 : t < 8 := by rw [<- ht]; exact smE_lt a (by decide)
 have HS0 := Kept.mk (tsmall_any a 8 7 (w.alloc t8box) a0 a1 (by decide) (by decide) rfl)
 rw [ht] at HS0
 obtain ⟨q, hq⟩ : ∃ q, t8L[t]?.getD 0 = q := ⟨_, rfl⟩
 obtain ⟨hfit, hq5, hq31⟩ := t8_fit t ht8
 have hcell := t8_cell HX0.out.b0 t ht8
 rw [hq] at hfit hq5 hq31 hcell
 have HFIT := Kept.mk hfit
 have HNW := Kept.mk (fun W => fnew_any (q : Int) W (by omega) (by omega))
 have HBX := Kept.mk HX0.out.1
 have HS1 : Kept (∀ W, Below w.heap.size w W -> Sl .i64 W v1 xs1) := ⟨fun W hW => s1.below hW⟩
 have HS2 : Kept (∀ W, Below w.heap.size w W -> Sl .i64 W v2 xs2) := ⟨fun W hW => s2.below hW⟩
 have HI1 := Kept.mk w1
 have HI2 := Kept.mk w2
 obtain ⟨ao1, c1, rfl, hc1, hm1⟩ := s1.form
 obtain ⟨ao2, c2, rfl, hc2, hm2⟩ := s2.form
 obtain ⟨n1, hn1⟩ : ∃ n, xs1.length = n := ⟨_, rfl⟩
 obtain ⟨n2, hn2⟩ : ∃ n, xs2.length = n := ⟨_, rfl⟩
 rw [hn1] at hc1 HS1 ⊢
 rw [hn2] at hc2 HS2 ⊢
 have HN1 := Kept.mk hn1
 have HN2 := Kept.mk hn2
 unfold maxLen at hm1 hm2
 clear ht hq hfit s1 s2 w1 w2 hn1 hn2
 go_enter Tryz.func16, Tryz.ntmps16
 go_wp2_with fail
 (with_reducible refine HS0.out.mono ?_)
 rintro e w0 ⟨rfl, rfl⟩
 go_wp2_with fail
 (with_reducible refine (HNW.out _).mono ?_)
 rintro e w3 ⟨hb3, h⟩
 rcases h with ⟨D, b, hqd, hbb, rfl, hf⟩ | ⟨hn, rfl⟩
 ·obtain rfl : q = D.q := by omega
  have HF := Kept.mk hf
  have HD := Kept.mk hf.ok
  have HB3 := Kept.mk (bstep HBX.out hb3)
  obtain ⟨n, hn⟩ : ∃ n, D.q = n + 1 := ⟨D.q - 1, by omega⟩
  have HN := Kept.mk hn
  have hn4 : 4 <= n := by omega
  have hn30 : n <= 30 := by omega
  obtain ⟨q, hq⟩ : ∃ q, D.q = q := ⟨_, rfl⟩
  have HQ := Kept.mk hq
  rw [hq] at hn hq5 hq31 hcell
  try rw [hq]
  have en : (q : Int) - 1 = (n : Int) := by omega
  have em : (n : Int) - 1 = ((n - 1 : Nat) : Int) := by omega
  obtain ⟨mm, hmm, hmm4, hmmn⟩ : ∃ mm : Nat, min (4 : Int) ((n - 1 : Nat) : Int) = (mm : Int) /\ mm <= 4 /\ mm + 1 <= n := ⟨min 4 (n - 1), by omega, by omega, by omega⟩
  obtain ⟨k0, hk0⟩ : ∃ k0, smE (n1 : Int) (mm + 1) = k0 := ⟨_, rfl⟩
  have hk0l : k0 < mm + 1 := by rw [<- hk0]; exact smE_lt _ (by omega)
  have HSM := Kept.mk (fun W => tsmall_any (n1 : Int) (mm + 1) (mm : Int) W (by omega) (by omega) (by omega) (by omega) (by omega))
  rw [hk0] at HSM
  obtain ⟨k, hk⟩ : ∃ k, 1 + k0 = k := ⟨_, rfl⟩
  have ek : (1 : Int) + (k0 : Int) = (k : Int) := by omega
  have hk1 : 1 <= k := by omega
  have hkn : k <= n := by omega
  clear hf hb3 hqd hbb HNW HX0 HBX HS0 hcell hk0 hk hn ht8 hq
  go_wp2_with fail
  (with_reducible refine (HSM.out _).mono ?_)
  rintro e w0 ⟨rfl, rfl⟩
  have HI := Kept.mk (In1.start w3 q k)
  obtain ⟨gc, hgc⟩ : ∃ x, w3.heap.size = x := ⟨_, rfl⟩
  rw [hgc] at HI
  go_wp2
  try rw [hgc]
  clear hgc HSM
  go_loopw [14] (fun iv wr => ∃ (i : Nat) (pa : Option Addr) (pc : Nat), i <= n /\ iv = .int .i64 i /\ Kept (In1 w3 gc q k (.slice pa i pc) (ptL i) wr)) (fun iv _ => n - (intOf iv).toNat)
  case atStart => exact ⟨0, none, 0, Nat.zero_le _, rfl, HI⟩
  case round =>
   clear HI
   obtain ⟨i, pa, pc, hin, rfl, hi⟩ := hrel
   obtain ⟨d0, d1, d2, f0, f1, f2⟩ := three_cells hi.out.bg
   by_cases hlt : i < n
   ·obtain ⟨i1, hi1⟩ : ∃ x, i + 1 = x := ⟨_, rfl⟩
    have hal : Below wr.heap.size wr (wr.alloc (.cells #[.int .i64 (i1 : Nat)] 3)) := (Below.refl _ _).alloc (Nat.le_refl _) _
    have HTB := Kept.mk (hi.out.below hal)
    have HM3 := Kept.mk HTB.out.mn
    have hgs := (Array.getElem?_eq_some_iff.1 hi.out.bg).1
    have HBB : Kept (gc + 1 <= (wr.alloc (.cells #[.int .i64 (i1 : Nat)] 3)).heap.size) := ⟨by have := hal.size; omega⟩
    have ei : (i : Int) + 1 = (i1 : Int) := by omega
    have HI1' := Kept.mk hi1
    clear hal
    have HNW := Kept.mk (new_one (K := .i64) (x := ((i1 : Nat) : Int)) (w := wr.alloc (.cells #[.int .i64 (i1 : Nat)] 3)) (b := wr.heap.size) (o := 0) (by exact (Row.new (E := 3) (K := .i64) wr [((i1 : Nat) : Int)]).cell (i := 0) (by simp)))
    have H1 := Kept.mk (show ((ints (ptL i)).length + [((i1 : Nat) : Int)].length) * 8 <= 140737488355328 by rw [FFld.ints_len, ptL_len]; simp; omega)
    have H2 := Kept.mk (show (ints (ptL i)).length + [((i1 : Nat) : Int)].length <= maxLen by rw [FFld.ints_len, ptL_len]; unfold maxLen; simp; omega)
    go_wp2_with (at_builtin; refine wpList_append_parts _ rfl _ _ 22 (by rfl) 3 .i64 8 Tryz.underlying22 info_i64 (gc + 1) (.slice pa i pc) (ints (ptL i)) (by rfl) HM3.out HBB.out ⟨wr.heap.size, 0, none⟩ 1 1 [((i1 : Nat) : Int)] (by rfl) rfl HNW.out H1.out H2.out ?_)
    intro va nv vc w5 hlv hm5 hg5 hn5
    obtain rfl : nv = i1 := by rw [<- hlv, <- HI1'.out]; simp [FFld.ints_len, ptL_len]
    have HP := Kept.mk (HTB.out.push (L' := ptL nv) (by rw [<- HI1'.out, ptL_next, FFld.ints_append, HI1'.out]; exact hm5) hg5)
    obtain ⟨d0, d1, d2, f0, f1, f2⟩ := three_cells HP.out.1
    have HP2 := Kept.mk HP.out.2
    clear hlv hm5 hg5 hn5 HTB HM3 HP
    go_wp2
    go_roundw
    case rel => exact ⟨nv, va, vc, by omega, by go_num, HP2⟩
    case measure => simp [intOf] <;> omega
   ·obtain rfl : n = i := by omega
    obtain ⟨w4, rfl⟩ : ∃ W, W = wr := ⟨_, rfl⟩
    have HB4 := Kept.mk (bstep HB3.out (show Below w3.heap.size w3 w4 from hi.out.bel))
    have HF4 := Kept.mk (HF.out.below hi.out.bel)
    clear d0 d1 d2 f0 f1 f2 hlt hin
    go_wp2
    go_loopw [16, 17] (fun mv iv wr => ∃ (i : Nat) (l : List Nat), i <= k /\ iv = .int .i64 i /\ l.length = i /\ Kept (∀ a ∈ l, a < q) /\ Kept (Mine 3 .i64 w4.heap.size wr mv (ints l)) /\ Kept (Below w4.heap.size w4 wr)) (fun _ iv _ => k - (intOf iv).toNat)
    case atStart => exact ⟨0, [], Nat.zero_le _, rfl, rfl, ⟨fun a ha => by cases ha⟩, ⟨Mine.nil _ _ _ _⟩, ⟨Below.refl _ _⟩⟩
    case round =>
     obtain ⟨i, l, hik, rfl, hll, hlq, hmn, hbw⟩ := hrel
     obtain ⟨ov0, oc, rfl, hoc, hom⟩ := hmn.out.sl.form
     rw [FFld.ints_len, hll] at hoc hmn ⊢
     by_cases hlt : i < k
     ·by_cases hi1 : i < n1
      ·obtain ⟨g, o, rfl, hg, hcell⟩ := (HS1.out wr (bstep HB4.out hbw.out)).news_ i (by rw [HN1.out]; exact hi1)
       obtain ⟨a, ha⟩ : ∃ a, xs1[i]?.getD 0 = a := ⟨_, rfl⟩
       have hab : -9223372036854775808 <= a /\ a <= 9223372036854775807 := by
        rw [<- ha, List.getElem?_eq_getElem (by rw [HN1.out]; exact hi1)]
        exact HI1.out _ (List.getElem_mem _)
       obtain ⟨a0, a1⟩ := hab
       rw [ha] at hcell
       have HSM := Kept.mk (tsmall_any a q (n : Int) wr a0 a1 (by omega) (by omega) (by omega))
       obtain ⟨x, hx⟩ : ∃ x, smE a q = x := ⟨_, rfl⟩
       rw [hx] at HSM
       have hxq : x < q := by rw [<- hx]; exact smE_lt a (by omega)
       have HLQ : Kept (∀ a ∈ l ++ [x], a < q) := ⟨fun a ha => by
        rcases List.mem_append.1 ha with h | h
        ·exact hlq.out a h
        ·obtain rfl := List.mem_singleton.1 h
         exact hxq⟩
       clear ha hx
       go_wp2_with fail
       (with_reducible refine HSM.out.mono ?_)
       rintro e w0 ⟨rfl, rfl⟩
       have hal : Below wr.heap.size wr (wr.alloc (.cells #[.int .i64 (x : Nat)] 3)) := (Below.refl _ _).alloc (Nat.le_refl _) _
       have HM3 := Kept.mk (hmn.out.alloc (.cells #[.int .i64 (x : Nat)] 3))
       have hsz := hbw.out.size
       have HBB := Kept.mk (show w4.heap.size <= (wr.alloc (.cells #[.int .i64 (x : Nat)] 3)).heap.size by simp; omega)
       have HBQ := Kept.mk (hbw.out.alloc hsz (.cells #[.int .i64 (x : Nat)] 3))
       have HOW := Kept.mk HM3.out.own
       clear hal
       have HNW := Kept.mk (new_one (K := .i64) (x := ((x : Nat) : Int)) (w := wr.alloc (.cells #[.int .i64 (x : Nat)] 3)) (b := wr.heap.size) (o := 0) (by exact (Row.new (E := 3) (K := .i64) wr [((x : Nat) : Int)]).cell (i := 0) (by simp)))
       have H1 := Kept.mk (show ((ints l).length + [((x : Nat) : Int)].length) * 8 <= 140737488355328 by rw [FFld.ints_len, hll]; simp; omega)
       have H2 := Kept.mk (show (ints l).length + [((x : Nat) : Int)].length <= maxLen by rw [FFld.ints_len, hll]; unfold maxLen; simp; omega)
       go_wp2_with (at_builtin; refine wpList_append_parts _ rfl _ _ 22 (by rfl) 3 .i64 8 Tryz.underlying22 info_i64 (w4.heap.size) (.slice ov0 i oc) (ints l) (by rfl) HM3.out HBB.out ⟨wr.heap.size, 0, none⟩ 1 1 [((x : Nat) : Int)] (by rfl) rfl HNW.out H1.out H2.out ?_)
       intro va nv vc w5 hlv hm5 hg5 hn5
       obtain rfl : nv = i + 1 := by rw [<- hlv]; simp [FFld.ints_len, hll]
       have HM5 : Kept (Mine 3 .i64 w4.heap.size w5 (.slice va (i + 1) vc) (ints (l ++ [x]))) := ⟨by rw [FFld.ints_append]; exact hm5⟩
       have HB5 := Kept.mk (HBQ.out.grown hg5 HBB.out (fun j hj => (HOW.out j hj).1))
       clear hlv hm5 hg5 hn5
       go_wp2
       go_roundw
       case rel => exact ⟨i + 1, l ++ [x], by omega, by go_num, by simp [hll], HLQ, HM5, HB5⟩
       case measure => simp [intOf] <;> omega
      ·have HLQ : Kept (∀ a ∈ l ++ [1], a < q) := ⟨fun a ha => by
        rcases List.mem_append.1 ha with h | h
        ·exact hlq.out a h
        ·obtain rfl := List.mem_singleton.1 h
         omega⟩
       have hal : Below wr.heap.size wr (wr.alloc (.cells #[.int .i64 (1 : Nat)] 3)) := (Below.refl _ _).alloc (Nat.le_refl _) _
       have HM3 := Kept.mk (hmn.out.alloc (.cells #[.int .i64 (1 : Nat)] 3))
       have hsz := hbw.out.size
       have HBB := Kept.mk (show w4.heap.size <= (wr.alloc (.cells #[.int .i64 (1 : Nat)] 3)).heap.size by simp; omega)
       have HBQ := Kept.mk (hbw.out.alloc hsz (.cells #[.int .i64 (1 : Nat)] 3))
       have HOW := Kept.mk HM3.out.own
       clear hal
       have HNW := Kept.mk (new_one (K := .i64) (x := ((1 : Nat) : Int)) (w := wr.alloc (.cells #[.int .i64 (1 : Nat)] 3)) (b := wr.heap.size) (o := 0) (by exact (Row.new (E := 3) (K := .i64) wr [((1 : Nat) : Int)]).cell (i := 0) (by simp)))
       have H1 := Kept.mk (show ((ints l).length + [((1 : Nat) : Int)].length) * 8 <= 140737488355328 by rw [FFld.ints_len, hll]; simp; omega)
       have H2 := Kept.mk (show (ints l).length + [((1 : Nat) : Int)].length <= maxLen by rw [FFld.ints_len, hll]; unfold maxLen; simp; omega)
       go_wp2_with (at_builtin; refine wpList_append_parts _ rfl _ _ 22 (by rfl) 3 .i64 8 Tryz.underlying22 info_i64 (w4.heap.size) (.slice ov0 i oc) (ints l) (by rfl) HM3.out HBB.out ⟨wr.heap.size, 0, none⟩ 1 1 [((1 : Nat) : Int)] (by rfl) rfl HNW.out H1.out H2.out ?_)
       intro va nv vc w5 hlv hm5 hg5 hn5
       obtain rfl : nv = i + 1 := by rw [<- hlv]; simp [FFld.ints_len, hll]
       have HM5 : Kept (Mine 3 .i64 w4.heap.size w5 (.slice va (i + 1) vc) (ints (l ++ [1]))) := ⟨by rw [FFld.ints_append]; exact hm5⟩
       have HB5 := Kept.mk (HBQ.out.grown hg5 HBB.out (fun j hj => (HOW.out j hj).1))
       clear hlv hm5 hg5 hn5
       go_wp2
       go_roundw
       case rel => exact ⟨i + 1, l ++ [1], by omega, by go_num, by simp [hll], HLQ, HM5, HB5⟩
       case measure => simp [intOf] <;> omega
     ·obtain rfl : k = i := by omega
      obtain ⟨w5, rfl⟩ : ∃ W, W = wr := ⟨_, rfl⟩
      have HIB := Kept.mk (hi.out.below hbw.out)
      obtain ⟨d0, d1, d2, f0, f1, f2⟩ := three_cells HIB.out.bg
      have HCV := Kept.mk (ptL_codeV HD.out HN.out hn30 hk1 hkn)
      have HLL := Kept.mk hll
      have HMQ : Kept (∀ a ∈ l, a < D.p ^ D.k) := ⟨fun a ha => by have h := hlq.out a ha; rw [<- HQ.out] at h; exact h⟩
      have HEN : Kept (Calls Tryz.prog 23 #[cdv q pa n pc k, .slice ov0 k oc] w5 (EnRet D (ptL n) l n w5)) := ⟨by
       have h := cencode_ok HD.out pa ov0 pc oc n k (ptL n) l w5 HIB.out.mn.sl hmn.out.sl HCV.out HLL.out HMQ.out
       rw [HQ.out] at h
       exact h⟩
      have HF5 := Kept.mk (HF4.out.below hbw.out)
      have HB5 := Kept.mk (bstep HB4.out hbw.out)
      have HMS := Kept.mk hmn.out.sl
      clear hi hll hlq hmn hbw HF4 HB4
      go_wp2_with fail
      (with_reducible refine HEN.out.mono ?_)
      rintro e w6 ⟨hb6, wa, wc, rfl, hws⟩
      have HWS := Kept.mk hws
      have HB6 := Kept.mk (bstep HB5.out hb6)
      have HI6 := Kept.mk (HIB.out.below hb6)
      have HF6 := Kept.mk (HF5.out.below hb6)
      have HM6 := Kept.mk (HMS.out.below hb6)
      obtain ⟨ws, hwe⟩ : ∃ z, FFld.valsF D l (ptL n) n = z := ⟨_, rfl⟩
      have HWE := Kept.mk hwe
      rw [hwe] at HWS
      have e3 : ((n : Int) != (n : Int)) = false := by simp
      have HWL : Kept (ws.length = n) := ⟨by rw [<- HWE.out, FFld.valsF_len, ptL_len]⟩
      have HWQ : Kept (∀ a ∈ ws, a < D.p ^ D.k) := ⟨by
       rw [<- HWE.out]
       intro a ha
       unfold FFld.valsF at ha
       obtain ⟨j, _, rfl⟩ := List.mem_map.1 ha
       split
       ·exact FFld.hornF_lt HD.out.pre.pk _ _ _
       ·exact Nat.pow_pos HD.out.pre.pk.p0⟩
      clear hb6 hws hwe HEN HIB HF5 HB5 HMS d0 d1 d2 f0 f1 f2
      go_wp2
      go_loopw [21, 25] (fun pv iv wr => ∃ (i c : Nat) (pp : Option Addr) (pc2 : Nat) (L : List Nat), i <= n2 /\ iv = .int .i64 i /\ pv = .slice pp c pc2 /\ L.length = c /\ c <= k /\ Kept (L.Nodup /\ ∀ a ∈ L, a < n) /\ Kept (Mine 3 .i64 w6.heap.size wr (.slice pp c pc2) (ints L)) /\ Kept (Below w6.heap.size w6 wr)) (fun _ iv _ => n2 - (intOf iv).toNat)
      case atStart => exact ⟨0, 0, none, 0, [], Nat.zero_le _, rfl, rfl, rfl, Nat.zero_le _, ⟨⟨List.nodup_nil, fun a ha => by cases ha⟩⟩, ⟨Mine.nil _ _ _ _⟩, ⟨Below.refl _ _⟩⟩
      case round =>
       obtain ⟨i, c, pp, pc2, L, hin, rfl, rfl, hlc, hck, hnd, hmn, hbv⟩ := hrel
       have HLC := Kept.mk hlc
       obtain ⟨_, hpcm⟩ : c <= pc2 /\ pc2 <= maxLen := by
        obtain ⟨_, _, e, h1, h2, _⟩ := hmn.out.sl
        simp only [Value.slice.injEq] at e
        obtain ⟨_, h3, h4⟩ := e
        rw [<- h3, <- h4] at h1
        exact ⟨h1, by rw [h4]; exact h2⟩
       unfold maxLen at hpcm
       by_cases hgo : i < n2 /\ c < k
       ·obtain ⟨hlt, hcl⟩ := hgo
        obtain ⟨g, o, rfl, hg, hcell⟩ := (HS2.out wr (bstep HB6.out hbv.out)).news_ i (by rw [HN2.out]; exact hlt)
        obtain ⟨a, ha⟩ : ∃ a, xs2[i]?.getD 0 = a := ⟨_, rfl⟩
        have hab : -9223372036854775808 <= a /\ a <= 9223372036854775807 := by
         rw [<- ha, List.getElem?_eq_getElem (by rw [HN2.out]; exact hlt)]
         exact HI2.out _ (List.getElem_mem _)
        obtain ⟨a0, a1⟩ := hab
        rw [ha] at hcell
        have HSM := Kept.mk (tsmall_any a n ((n - 1 : Nat) : Int) wr a0 a1 (by omega) (by omega) (by omega))
        obtain ⟨x, hx⟩ : ∃ x, smE a n = x := ⟨_, rfl⟩
        rw [hx] at HSM
        have hxn : x < n := by rw [<- hx]; exact smE_lt a (by omega)
        have HHS := Kept.mk (thas_any (.slice pp c pc2) (ints L) (x : Int) wr hmn.out.sl)
        rw [has_ints] at HHS
        clear ha hx
        go_wp2_with fail
        (with_reducible refine HSM.out.mono ?_)
        rintro e w0 ⟨rfl, rfl⟩
        by_cases hmem : x ∈ L
        ·rw [decide_eq_true hmem] at HHS
         clear hmem
         go_wp2_with fail
         (with_reducible refine HHS.out.mono ?_)
         rintro e w0 ⟨rfl, rfl⟩
         go_wp2
         go_roundw
         case rel => exact ⟨i + 1, c, pp, pc2, L, by omega, by go_num, rfl, hlc, hck, hnd, hmn, hbv⟩
         case measure => simp [intOf] <;> omega
        ·rw [decide_eq_false hmem] at HHS
         have HN2' : Kept ((L ++ [x]).Nodup /\ (∀ a ∈ L ++ [x], a < n)) := ⟨⟨by
          rw [List.nodup_append]
          refine ⟨hnd.out.1, by simp, fun a ha b hb e => ?_⟩
          obtain rfl := List.mem_singleton.1 hb
          exact hmem (e ▸ ha), fun a ha => by
          rcases List.mem_append.1 ha with h | h
          ·exact hnd.out.2 a h
          ·obtain rfl := List.mem_singleton.1 h
           exact hxn⟩⟩
         clear hmem
         go_wp2_with fail
         (with_reducible refine HHS.out.mono ?_)
         rintro e w0 ⟨rfl, rfl⟩
         have hal : Below wr.heap.size wr (wr.alloc (.cells #[.int .i64 (x : Nat)] 3)) := (Below.refl _ _).alloc (Nat.le_refl _) _
         have HM3 := Kept.mk (hmn.out.alloc (.cells #[.int .i64 (x : Nat)] 3))
         have hsz := hbv.out.size
         have HBB := Kept.mk (show w6.heap.size <= (wr.alloc (.cells #[.int .i64 (x : Nat)] 3)).heap.size by simp; omega)
         have HBQ := Kept.mk (hbv.out.alloc hsz (.cells #[.int .i64 (x : Nat)] 3))
         have HOW := Kept.mk HM3.out.own
         clear hal
         have HNW := Kept.mk (new_one (K := .i64) (x := ((x : Nat) : Int)) (w := wr.alloc (.cells #[.int .i64 (x : Nat)] 3)) (b := wr.heap.size) (o := 0) (by exact (Row.new (E := 3) (K := .i64) wr [((x : Nat) : Int)]).cell (i := 0) (by simp)))
         have H1 := Kept.mk (show ((ints L).length + [((x : Nat) : Int)].length) * 8 <= 140737488355328 by rw [FFld.ints_len, hlc]; simp; omega)
         have H2 := Kept.mk (show (ints L).length + [((x : Nat) : Int)].length <= maxLen by rw [FFld.ints_len, hlc]; unfold maxLen; simp; omega)
         go_wp2_with (at_builtin; refine wpList_append_parts _ rfl _ _ 22 (by rfl) 3 .i64 8 Tryz.underlying22 info_i64 (w6.heap.size) (.slice pp c pc2) (ints L) (by rfl) HM3.out HBB.out ⟨wr.heap.size, 0, none⟩ 1 1 [((x : Nat) : Int)] (by rfl) rfl HNW.out H1.out H2.out ?_)
         intro va nv vc w5 hlv hm5 hg5 hn5
         obtain rfl : nv = c + 1 := by rw [<- hlv]; simp [FFld.ints_len, hlc]
         have HM5 : Kept (Mine 3 .i64 w6.heap.size w5 (.slice va (c + 1) vc) (ints (L ++ [x]))) := ⟨by rw [FFld.ints_append]; exact hm5⟩
         have HB5 := Kept.mk (HBQ.out.grown hg5 HBB.out (fun j hj => (HOW.out j hj).1))
         clear hlv hm5 hg5 hn5
         go_wp2
         go_roundw
         case rel => exact ⟨i + 1, c + 1, _, _, _, by omega, by go_num, rfl, by simp [hlc], by omega, HN2', HM5, HB5⟩
         case measure => simp [intOf] <;> omega
       ·have hend : (i < n2 /\ ¬ c < k) \/ ¬ i < n2 := by omega
        clear hgo
        rcases hend with ⟨h1, h2⟩ | h1 <;>
        (go_wp2
         go_loopw [21, 27] (fun pv iv wr => ∃ (i c : Nat) (pp : Option Addr) (pc2 : Nat) (L : List Nat), i <= n /\ iv = .int .i64 i /\ pv = .slice pp c pc2 /\ L.length = c /\ c <= k /\ Kept (L.Nodup /\ ∀ a ∈ L, a < n) /\ Kept (c = k \/ ∀ j, j < i -> j ∈ L) /\ Kept (Mine 3 .i64 w6.heap.size wr (.slice pp c pc2) (ints L)) /\ Kept (Below w6.heap.size w6 wr)) (fun _ iv _ => n - (intOf iv).toNat)
         case atStart => exact ⟨0, c, pp, pc2, L, Nat.zero_le _, rfl, rfl, hlc, hck, hnd, ⟨.inr fun j hj => absurd hj (Nat.not_lt_zero _)⟩, hmn, hbv⟩
         case round =>
          clear hnd hmn hbv HLC hlc hck hpcm hin
          obtain ⟨i, c, pp, pc2, L, hin, rfl, rfl, hlc, hck, hnd, hall, hmn, hbv⟩ := hrel
          have HLC := Kept.mk hlc
          obtain ⟨_, hpcm⟩ : c <= pc2 /\ pc2 <= maxLen := by
           obtain ⟨_, _, e, h1, h2, _⟩ := hmn.out.sl
           simp only [Value.slice.injEq] at e
           obtain ⟨_, h3, h4⟩ := e
           rw [<- h3, <- h4] at h1
           exact ⟨h1, by rw [h4]; exact h2⟩
          unfold maxLen at hpcm
          by_cases hlt : i < n
          ·by_cases hcl : c < k
           ·have HHS := Kept.mk (thas_any (.slice pp c pc2) (ints L) (i : Int) wr hmn.out.sl)
            rw [has_ints] at HHS
            have hal0 : ∀ j, j < i -> j ∈ L := by
             rcases hall.out with h | h
             ·omega
             ·exact h
            by_cases hmem : i ∈ L
            ·rw [decide_eq_true hmem] at HHS
             have HA2 : Kept (c = k \/ ∀ j, j < i + 1 -> j ∈ L) := ⟨.inr fun j hj => by
              rcases Nat.lt_or_ge j i with h | h
              ·exact hal0 j h
              ·obtain rfl : j = i := by omega
               exact hmem⟩
             clear hmem hal0
             go_wp2_with fail
             (with_reducible refine HHS.out.mono ?_)
             rintro e w0 ⟨rfl, rfl⟩
             go_wp2
             go_roundw
             case rel => exact ⟨i + 1, c, pp, pc2, L, by omega, by go_num, rfl, hlc, hck, hnd, HA2, hmn, hbv⟩
             case measure => simp [intOf] <;> omega
            ·rw [decide_eq_false hmem] at HHS
             have HN2' : Kept ((L ++ [i]).Nodup /\ (∀ a ∈ L ++ [i], a < n)) := ⟨⟨by
              rw [List.nodup_append]
              refine ⟨hnd.out.1, by simp, fun a ha b hb e => ?_⟩
              obtain rfl := List.mem_singleton.1 hb
              exact hmem (e ▸ ha), fun a ha => by
              rcases List.mem_append.1 ha with h | h
              ·exact hnd.out.2 a h
              ·obtain rfl := List.mem_singleton.1 h
               exact hlt⟩⟩
             have HA2 : Kept (c + 1 = k \/ ∀ j, j < i + 1 -> j ∈ L ++ [i]) := ⟨.inr fun j hj => by
              rcases Nat.lt_or_ge j i with h | h
              ·exact List.mem_append.2 (.inl (hal0 j h))
              ·obtain rfl : j = i := by omega
               exact List.mem_append.2 (.inr (List.mem_singleton.2 rfl))⟩
             clear hmem hal0
             go_wp2_with fail
             (with_reducible refine HHS.out.mono ?_)
             rintro e w0 ⟨rfl, rfl⟩
             have hal : Below wr.heap.size wr (wr.alloc (.cells #[.int .i64 (i : Nat)] 3)) := (Below.refl _ _).alloc (Nat.le_refl _) _
             have HM3 := Kept.mk (hmn.out.alloc (.cells #[.int .i64 (i : Nat)] 3))
             have hsz := hbv.out.size
             have HBB := Kept.mk (show w6.heap.size <= (wr.alloc (.cells #[.int .i64 (i : Nat)] 3)).heap.size by simp; omega)
             have HBQ := Kept.mk (hbv.out.alloc hsz (.cells #[.int .i64 (i : Nat)] 3))
             have HOW := Kept.mk HM3.out.own
             clear hal
             have HNW := Kept.mk (new_one (K := .i64) (x := ((i : Nat) : Int)) (w := wr.alloc (.cells #[.int .i64 (i : Nat)] 3)) (b := wr.heap.size) (o := 0) (by exact (Row.new (E := 3) (K := .i64) wr [((i : Nat) : Int)]).cell (i := 0) (by simp)))
             have H1 := Kept.mk (show ((ints L).length + [((i : Nat) : Int)].length) * 8 <= 140737488355328 by rw [FFld.ints_len, hlc]; simp; omega)
             have H2 := Kept.mk (show (ints L).length + [((i : Nat) : Int)].length <= maxLen by rw [FFld.ints_len, hlc]; unfold maxLen; simp; omega)
             go_wp2_with (at_builtin; refine wpList_append_parts _ rfl _ _ 22 (by rfl) 3 .i64 8 Tryz.underlying22 info_i64 (w6.heap.size) (.slice pp c pc2) (ints L) (by rfl) HM3.out HBB.out ⟨wr.heap.size, 0, none⟩ 1 1 [((i : Nat) : Int)] (by rfl) rfl HNW.out H1.out H2.out ?_)
             intro va nv vc w5 hlv hm5 hg5 hn5
             obtain rfl : nv = c + 1 := by rw [<- hlv]; simp [FFld.ints_len, hlc]
             have HM5 : Kept (Mine 3 .i64 w6.heap.size w5 (.slice va (c + 1) vc) (ints (L ++ [i]))) := ⟨by rw [FFld.ints_append]; exact hm5⟩
             have HB5 := Kept.mk (HBQ.out.grown hg5 HBB.out (fun j hj => (HOW.out j hj).1))
             clear hlv hm5 hg5 hn5
             go_wp2
             go_roundw
             case rel => exact ⟨i + 1, c + 1, _, _, _, by omega, by go_num, rfl, by simp [hlc], by omega, HN2', HA2, HM5, HB5⟩
             case measure => simp [intOf] <;> omega
           ·have HA2 : Kept (c = k \/ ∀ j, j < i + 1 -> j ∈ L) := ⟨.inl (by omega)⟩
            go_wp2
            go_roundw
            case rel => exact ⟨i + 1, c, pp, pc2, L, by omega, by go_num, rfl, hlc, hck, hnd, HA2, hmn, hbv⟩
            case measure => simp [intOf] <;> omega
          ·obtain rfl : n = i := by omega
           have hcl : c = k := by
            rcases hall.out with h | h
            ·exact h
            ·have := full_nodup hnd.out.1 h hlc
             omega
           subst hcl
           obtain ⟨w7, rfl⟩ : ∃ W, W = wr := ⟨_, rfl⟩
           have HB7 := Kept.mk (bstep HB6.out hbv.out)
           have HI7 := Kept.mk (HI6.out.below hbv.out)
           have HF7 := Kept.mk (HF6.out.below hbv.out)
           have HM7 := Kept.mk (HM6.out.below hbv.out)
           have HW7 := Kept.mk (HWS.out.below hbv.out)
           have HPL := Kept.mk hmn.out.sl
           have HND := hnd
           clear HLC hpcm hin hlt hck hnd hall hmn hbv
           go_wp2_with (at_make; refine wpList_make_zeros _ rfl _ _ 22 rfl 3 .i64 Tryz.underlying22 info_i64 _ _ n rfl rfl (by omega) (by omega) (by omega) ?_)
           intro w8 hrow hbel
           rw [FFld.ints_rep] at hrow
           have HV8 : Kept (Wv w8 w7.heap.size (lftF (outL L n) ws n 0)) := ⟨by rw [lftF_zero]; exact hrow.wv⟩
           have HB8 := Kept.mk (show Below w7.heap.size w7 w8 by simpa using hbel)
           obtain ⟨gv, hgv⟩ : ∃ x, w7.heap.size = x := ⟨_, rfl⟩
           rw [hgv] at HV8
           try rw [hgv]
           have HI5 : Kept (In5 w7 gv (.slice none 0 0) (.slice none 0 0) (.slice none 0 0) (atL (ptL n) (inL L 0)) (atL ws (inL L 0)) (outL L 0) (lftF (outL L n) ws n 0) w8) := ⟨⟨hgv, HB8.out, Mine.nil _ _ _ _, Mine.nil _ _ _ _, Mine.nil _ _ _ _, HV8.out, Apart.nil _, Apart.nil _, Apart.nil _⟩⟩
           clear hrow hbel hgv HV8 HB8
           go_wp2
           go_loopw [22, 23, 24, 29] (fun xv yv ev iv wr => ∃ (i a e : Nat) (px py pe : Option Addr) (qx qy qe : Nat), i <= n /\ iv = .int .i64 i /\ xv = .slice px a qx /\ yv = .slice py a qy /\ ev = .slice pe e qe /\ (inL L i).length = a /\ (outL L i).length = e /\ a + e = i /\ Kept (In5 w7 gv (.slice px a qx) (.slice py a qy) (.slice pe e qe) (atL (ptL n) (inL L i)) (atL ws (inL L i)) (outL L i) (lftF (outL L n) ws n i) wr)) (fun _ _ _ iv _ => n - (intOf iv).toNat)
           case atStart => exact ⟨0, 0, 0, none, none, none, 0, 0, 0, Nat.zero_le _, rfl, rfl, rfl, rfl, rfl, rfl, rfl, HI5⟩
           case round =>
            clear HI5
            obtain ⟨i, a, e, px, py, pe, qx, qy, qe, hin, rfl, rfl, rfl, rfl, hia, hoe, hae, h5⟩ := hrel
            have hwl := h5.out.wv.lt
            have HIA := Kept.mk hia
            have HOE := Kept.mk hoe
            clear hia hoe
            by_cases hlt : i < n
            ·have HHS := Kept.mk (thas_any (.slice pp c pc2) (ints L) (i : Int) wr (HPL.out.below h5.out.bel))
             rw [has_ints] at HHS
             by_cases hmem : i ∈ L
             ·rw [decide_eq_true hmem] at HHS
              have HIN : Kept (inL L (i + 1) = inL L i ++ [i]) := ⟨inL_in hmem⟩
              have HON : Kept (outL L (i + 1) = outL L i) := ⟨outL_in hmem⟩
              have HLN : Kept ((lftF (outL L n) ws n i).set i (ws[i]?.getD 0) = lftF (outL L n) ws n (i + 1)) := ⟨lftF_out (fun h => (outL_mem.1 h).2 hmem)⟩
              clear hmem
              go_wp2_with fail
              (with_reducible refine HHS.out.mono ?_)
              rintro e_ w0 ⟨rfl, rfl⟩
              have HIW := Kept.mk (HI7.out.below h5.out.bel)
              obtain ⟨d0, d1, d2, f0, f1, f2⟩ := three_cells HIW.out.bg
              obtain ⟨gp, op, rfl, hgp, cpi⟩ := HIW.out.mn.sl.news_ i (by rw [FFld.ints_len, ptL_len]; exact hlt)
              rw [FFld.ints_get] at cpi
              obtain ⟨x, hx⟩ : ∃ y, (ptL n)[i]?.getD 0 = y := ⟨_, rfl⟩
              rw [hx] at cpi
              have HX := Kept.mk hx
              have HM3 := Kept.mk (h5.out.x.alloc (.cells #[.int .i64 (x : Nat)] 3))
              clear hx
              have HBB := Kept.mk (show gv + 1 <= (wr.alloc (.cells #[.int .i64 (x : Nat)] 3)).heap.size by simp; omega)
              have HNW := Kept.mk (new_one (K := .i64) (x := ((x : Nat) : Int)) (w := wr.alloc (.cells #[.int .i64 (x : Nat)] 3)) (b := wr.heap.size) (o := 0) (by exact (Row.new (E := 3) (K := .i64) wr [((x : Nat) : Int)]).cell (i := 0) (by simp)))
              have H1 := Kept.mk (show ((ints (atL (ptL n) (inL L i))).length + [((x : Nat) : Int)].length) * 8 <= 140737488355328 by rw [FFld.ints_len, atL_len, HIA.out]; simp; omega)
              have H2 := Kept.mk (show (ints (atL (ptL n) (inL L i))).length + [((x : Nat) : Int)].length <= maxLen by rw [FFld.ints_len, atL_len, HIA.out]; unfold maxLen; simp; omega)
              go_wp2_with (at_builtin; refine wpList_append_parts _ rfl _ _ 22 (by rfl) 3 .i64 8 Tryz.underlying22 info_i64 (gv + 1) (.slice px a qx) (ints (atL (ptL n) (inL L i))) (by rfl) HM3.out HBB.out ⟨wr.heap.size, 0, none⟩ 1 1 [((x : Nat) : Int)] (by rfl) rfl HNW.out H1.out H2.out ?_)
              intro va1 nv1 vc1 u1 hlv hm5 hg5 hn5
              obtain rfl : nv1 = a + 1 := by rw [<- hlv]; simp [FFld.ints_len, atL_len, HIA.out]
              have H51 := Kept.mk (h5.out.pushX (L' := atL (ptL n) (inL L (i + 1))) (by rw [HIN.out, atL_app, FFld.ints_append, HX.out]; exact hm5) hg5 hn5)
              clear hlv hm5 hg5 hn5 HM3 HBB HNW H1 H2 d0 d1 d2 f0 f1 f2 cpi hgp hwl HHS HIW HX h5
              obtain ⟨gw, ow, rfl, hgw, cwi⟩ := (HW7.out.below H51.out.bel).news_ i (by rw [FFld.ints_len, HWL.out]; exact hlt)
              rw [FFld.ints_get] at cwi
              obtain ⟨y, hy⟩ : ∃ y, ws[i]?.getD 0 = y := ⟨_, rfl⟩
              rw [hy] at cwi HLN
              have HY := Kept.mk hy
              have HYK := Kept.mk hy
              have HM3 := Kept.mk (H51.out.y.alloc (.cells #[.int .i64 (y : Nat)] 3))
              have hwl := H51.out.wv.lt
              clear hy
              have HBB := Kept.mk (show gv + 1 <= (u1.alloc (.cells #[.int .i64 (y : Nat)] 3)).heap.size by simp; omega)
              have HNW := Kept.mk (new_one (K := .i64) (x := ((y : Nat) : Int)) (w := u1.alloc (.cells #[.int .i64 (y : Nat)] 3)) (b := u1.heap.size) (o := 0) (by exact (Row.new (E := 3) (K := .i64) u1 [((y : Nat) : Int)]).cell (i := 0) (by simp)))
              have H1 := Kept.mk (show ((ints (atL ws (inL L i))).length + [((y : Nat) : Int)].length) * 8 <= 140737488355328 by rw [FFld.ints_len, atL_len, HIA.out]; simp; omega)
              have H2 := Kept.mk (show (ints (atL ws (inL L i))).length + [((y : Nat) : Int)].length <= maxLen by rw [FFld.ints_len, atL_len, HIA.out]; unfold maxLen; simp; omega)
              go_wp2_with (at_builtin; refine wpList_append_parts _ rfl _ _ 22 (by rfl) 3 .i64 8 Tryz.underlying22 info_i64 (gv + 1) (.slice py a qy) (ints (atL ws (inL L i))) (by rfl) HM3.out HBB.out ⟨u1.heap.size, 0, none⟩ 1 1 [((y : Nat) : Int)] (by rfl) rfl HNW.out H1.out H2.out ?_)
              intro va2 nv2 vc2 u2 hlv hm5 hg5 hn5
              obtain rfl : nv2 = a + 1 := by rw [<- hlv]; simp [FFld.ints_len, atL_len, HIA.out]
              have H52 := Kept.mk (H51.out.pushY (L' := atL ws (inL L (i + 1))) (by rw [HIN.out, atL_app, FFld.ints_append, HY.out]; exact hm5) hg5 hn5)
              clear hlv hm5 hg5 hn5 HM3 HBB HNW H1 H2 hgw cwi hwl HY H51
              obtain ⟨gw2, ow2, e2, hgw, cwi⟩ := (HW7.out.below H52.out.bel).news_ i (by rw [FFld.ints_len, HWL.out]; exact hlt)
              obtain ⟨rfl, rfl⟩ : gw2 = gw /\ ow2 = ow := by simp at e2; exact ⟨e2.1.symm, e2.2.symm⟩
              rw [FFld.ints_get] at cwi
              obtain ⟨z, hz⟩ : ∃ y, ws[i]?.getD 0 = y := ⟨_, rfl⟩
              rw [hz] at cwi
              obtain rfl : z = y := by rw [<- hz, <- HYK.out]
              have k0 := H52.out.wv.cell (i := i) (by rw [lftF_len]; exact hlt)
              have k1 := H52.out.wv.free i
              have H53 := Kept.mk (H52.out.put i z)
              rw [HLN.out] at H53
              clear hz
              go_wp2
              go_roundw
              case rel => exact ⟨i + 1, a + 1, e, va1, va2, pe, vc1, vc2, qe, by omega, by go_num, rfl, rfl, rfl, by rw [HIN.out, List.length_append, HIA.out]; rfl, by rw [HON.out]; exact HOE.out, by omega, by rw [HON.out]; exact H53⟩
              case measure => simp [intOf] <;> omega
             ·rw [decide_eq_false hmem] at HHS
              have HIN : Kept (inL L (i + 1) = inL L i) := ⟨inL_out hmem⟩
              have HON : Kept (outL L (i + 1) = outL L i ++ [i]) := ⟨outL_out hmem⟩
              have HLN : Kept (lftF (outL L n) ws n i = lftF (outL L n) ws n (i + 1)) := ⟨(lftF_in (outL_mem.2 ⟨hlt, hmem⟩)).symm⟩
              clear hmem
              go_wp2_with fail
              (with_reducible refine HHS.out.mono ?_)
              rintro e_ w0 ⟨rfl, rfl⟩
              have HM3 := Kept.mk (h5.out.e.alloc (.cells #[.int .i64 (i : Nat)] 3))
              have HBB := Kept.mk (show gv + 1 <= (wr.alloc (.cells #[.int .i64 (i : Nat)] 3)).heap.size by simp; omega)
              have HNW := Kept.mk (new_one (K := .i64) (x := ((i : Nat) : Int)) (w := wr.alloc (.cells #[.int .i64 (i : Nat)] 3)) (b := wr.heap.size) (o := 0) (by exact (Row.new (E := 3) (K := .i64) wr [((i : Nat) : Int)]).cell (i := 0) (by simp)))
              have H1 := Kept.mk (show ((ints (outL L i)).length + [((i : Nat) : Int)].length) * 8 <= 140737488355328 by rw [FFld.ints_len, HOE.out]; simp; omega)
              have H2 := Kept.mk (show (ints (outL L i)).length + [((i : Nat) : Int)].length <= maxLen by rw [FFld.ints_len, HOE.out]; unfold maxLen; simp; omega)
              go_wp2_with (at_builtin; refine wpList_append_parts _ rfl _ _ 22 (by rfl) 3 .i64 8 Tryz.underlying22 info_i64 (gv + 1) (.slice pe e qe) (ints (outL L i)) (by rfl) HM3.out HBB.out ⟨wr.heap.size, 0, none⟩ 1 1 [((i : Nat) : Int)] (by rfl) rfl HNW.out H1.out H2.out ?_)
              intro va3 nv3 vc3 u3 hlv hm5 hg5 hn5
              obtain rfl : nv3 = e + 1 := by rw [<- hlv]; simp [FFld.ints_len, HOE.out]
              have H53 := Kept.mk (h5.out.pushE (L' := outL L (i + 1)) (by rw [HON.out, FFld.ints_append]; exact hm5) hg5 hn5)
              rw [HLN.out, <- HIN.out] at H53
              clear hlv hm5 hg5 hn5 HM3 HBB HNW H1 H2 hwl HHS h5
              go_wp2
              go_roundw
              case rel => exact ⟨i + 1, a, e + 1, px, py, va3, qx, qy, vc3, by omega, by go_num, rfl, rfl, rfl, by rw [HIN.out]; exact HIA.out, by rw [HON.out, List.length_append, HOE.out]; rfl, by omega, H53⟩
              case measure => simp [intOf] <;> omega
            ·skip
             obtain rfl : n = i := by omega
             obtain ⟨w9, rfl⟩ : ∃ W, W = wr := ⟨_, rfl⟩
             obtain rfl : c = a := by rw [<- HIA.out, inL_len HND.out.1 HND.out.2, hlc]
             have HB9 := Kept.mk (bstep HB7.out h5.out.bel)
             have HI9 := Kept.mk (HI7.out.below h5.out.bel)
             have HF9 := Kept.mk (HF7.out.below h5.out.bel)
             have HM9 := Kept.mk (HM7.out.below h5.out.bel)
             have HW9 := Kept.mk (HW7.out.below h5.out.bel)
             have HX9 := Kept.mk h5.out.x.sl
             have HY9 := Kept.mk h5.out.y.sl
             have HE9 := Kept.mk h5.out.e.sl
             have HV9 := Kept.mk h5.out.wv
             obtain ⟨S, hS⟩ : ∃ S, inL L n = S := ⟨_, rfl⟩
             have HSN : Kept (S.Nodup /\ (∀ a ∈ S, a < n) /\ S.length = c) := ⟨by rw [<- hS]; exact ⟨inL_nodup L n, fun a ha => (inL_mem.1 ha).1, HIA.out⟩⟩
             obtain ⟨E, hE⟩ : ∃ E, outL L n = E := ⟨_, rfl⟩
             have HEN : Kept (E.Nodup /\ (∀ a ∈ E, a < n) /\ E.length = e) := ⟨by rw [<- hE]; exact ⟨outL_nodup L n, fun a ha => (outL_mem.1 ha).1, HOE.out⟩⟩
             rw [hS] at HX9 HY9
             rw [hE] at HE9 HV9
             have HCX := Kept.mk (atL_codeV HD.out HCV.out HSN.out.1 HSN.out.2.1 HSN.out.2.2 hk1)
             have HYQ : Kept (∀ a ∈ atL ws S, a < D.p ^ D.k) := ⟨fun a ha => by
              obtain ⟨j, _, rfl⟩ := List.mem_map.1 ha
              exact FFld.getD_lt (Nat.pow_pos HD.out.pre.pk.p0) HWQ.out j⟩
             have HTH := Kept.mk (fthrough_own HD.out (.slice px c qx) (.slice py c qy) (atL (ptL n) S) (atL ws S) c w9 HF9.out HX9.out HY9.out HCX.out.lt HYQ.out HCX.out.len (by rw [atL_len]; exact HSN.out.2.2) (by omega))
             clear h5 hS hE hlc HIA HOE HND HPL HI7 HF7 HM7 HW7 HB7 hwl hlt hin HX9 HY9 HYQ
             go_wp2_with fail
             (with_reducible refine HTH.out.mono ?_)
             rintro e_ w10 ⟨hb10, ⟨i1, i2, h1', h2', h3', rfl⟩ | ⟨hA, vp, rfl, hmp⟩⟩
             ·exact absurd h3' (HCX.out.dif i1 i2 h1' h2')
             ·have htr := atL_back HD.out HCV.out HSN.out.1 HSN.out.2.1 HSN.out.2.2 hk1 HMQ.out HLL.out hA
              rw [HWE.out] at htr
              rw [htr] at hmp
              obtain ⟨ap, cp, rfl, hcp, hcm⟩ := hmp.sl.form
              rw [FFld.ints_len] at hmp hcp ⊢
              obtain ⟨np, hnp⟩ : ∃ x, (FFld.trm l).length = x := ⟨_, rfl⟩
              rw [hnp] at hmp hcp ⊢
              have hnc : np <= c := by rw [<- hnp, <- HLL.out]; exact FFld.trm_len_le l
              have HNP := Kept.mk hnp
              have HMP : Kept (Mine 3 .i64 w9.heap.size w10 (.slice ap np cp) (ints (FFld.padF (FFld.trm l) np))) := ⟨by
               have h : FFld.padF (FFld.trm l) np = FFld.trm l := by unfold FFld.padF; rw [hnp]; simp
               rw [h]
               exact hmp⟩
              have HB10 := Kept.mk (bstep HB9.out hb10)
              have HI10 := Kept.mk (HI9.out.below hb10)
              have HM10 := Kept.mk (HM9.out.below hb10)
              have HW10 := Kept.mk (HW9.out.below hb10)
              have HE10 := Kept.mk (HE9.out.below hb10)
              have HV10 := Kept.mk (HV9.out.below hb10)
              have HB9' := Kept.mk hb10
              have HEB : Kept (belB (n : Int) (ints E) = true) := ⟨bel_lt HEN.out.2.1⟩
              have HDF : Kept (difB (ints E) e = true) := ⟨by rw [<- HEN.out.2.2]; exact dif_nodup HEN.out.1⟩
              obtain ⟨vs, hvs⟩ : ∃ z, lftF E ws n n = z := ⟨_, rfl⟩
              have hwv' := HV10.out
              rw [hvs] at hwv'
              have hvl : vs.length = n := by rw [<- hvs]; exact lftF_len _ _ _ _
              have hvq : ∀ a ∈ vs, a < D.p ^ D.k := by rw [<- hvs]; exact lftF_lt (Nat.pow_pos HD.out.pre.pk.p0) HWQ.out _ _
              have hkv : kpL (ints E) n vs = kpL (ints E) n ws := by rw [<- hvs]; exact lftF_kp
              have hkp := kp_len HEB.out HDF.out (by rw [FFld.ints_len]; exact HEN.out.2.2)
              have ht0 : (n - e - c) / 2 = 0 := by omega
              have hnm : Near D (kpL (ints E) n (ptL n)) (kpL (ints E) n ws) c 0 (FFld.trm l) := near_msg HCV.out.len HMQ.out HLL.out (by rw [HWE.out, disF_self]; exact Nat.le_refl _)
              have hdc := cdecode_own HD.out pa (some ⟨gv, 0, none⟩) pe pc n qe n e c (ptL n) vs (ints E) w10 HI10.out.mn.sl (hwv'.sl hvl.symm (Nat.le_refl _) (by unfold maxLen; omega)) HE10.out HCV.out hvl (by rw [FFld.ints_len]; exact HEN.out.2.2) hvq (by omega) HEB.out HDF.out
              rw [ht0, hkv, HQ.out] at hdc
              have HDC : Kept (Calls Tryz.prog 25 #[cdv q pa n pc c, .slice (some ⟨gv, 0, none⟩) n n, .slice pe e qe] w10 (fun e' w' => Below w10.heap.size w10 w' /\ ∃ (da : Option Addr) (dc : Nat), e' = .returned (.tuple #[.slice da n dc, .int .i64 0]) /\ Mine 3 .i64 w10.heap.size w' (.slice da n dc) (ints ws))) := ⟨hdc.mono fun e' w' h => by
               obtain ⟨hb, ⟨Po, v, hN, rfl, hsv⟩ | ⟨hno, _⟩⟩ := h
               ·obtain rfl := near_uniq HD.out (kpL_len _ _ _) (kpL_lt HCV.out.len HCV.out.lt) (by have h := kpL_dif (es := ints E) HCV.out.dif; rw [kpL_len] at h; exact h) (by omega) hN hnm
                rw [HCV.out.len, vals_trm', HWE.out] at hsv
                obtain ⟨da, dc, rfl, _, _⟩ := hsv.sl.form
                rw [FFld.ints_len, HWL.out] at hsv ⊢
                exact ⟨hb, da, dc, rfl, hsv⟩
               ·exact absurd hnm (hno _)⟩
              obtain ⟨d0, d1, d2, f0, f1, f2⟩ := three_cells HI10.out.bg
              clear hwv' hvs hvl hvq hkv hkp ht0 hnm hdc htr hA hmp hnp hb10 HI9 HF9 HE9 HV9 HTH HCX HSN HEB HDF HE10 HV10
              go_wp2_with fail
              (with_reducible refine HDC.out.mono ?_)
              rintro e_ w11 ⟨hb11, da, dc, rfl, hmd⟩
              have HAP : Kept (Apart (.slice ap np cp) (.slice da n dc)) := ⟨fun j h1 h2 => by
               have h3 := (HMP.out.own j h1).2
               have h4 := (hmd.own j h2).1
               omega⟩
              have HP11 := Kept.mk (HMP.out.below hb11)
              have HD11 := Kept.mk hmd
              have HB11 := Kept.mk (show Below w9.heap.size w9 w11 from bstep HB9'.out hb11)
              clear HMP hb11 hmd HB10 HI10 HM10 HW10 HB9' HDC d0 d1 d2 f0 f1 f2
              go_wp2
              go_loopw [30] (fun pv wr => ∃ (j : Nat) (ap : Option Addr) (cp : Nat), np <= j /\ j <= c /\ pv = .slice ap j cp /\ Kept (Mine 3 .i64 w9.heap.size wr (.slice ap j cp) (ints (FFld.padF (FFld.trm l) j))) /\ Kept (Mine 3 .i64 w10.heap.size wr (.slice da n dc) (ints ws)) /\ Kept (Apart (.slice ap j cp) (.slice da n dc)) /\ Kept (Below w9.heap.size w9 wr)) (fun pv _ => c - sliceLen pv)
              case atStart => exact ⟨np, ap, cp, Nat.le_refl _, hnc, rfl, HP11, HD11, HAP, HB11⟩
              case round =>
               clear HP11 HD11 HAP HB11 hcp hcm
               obtain ⟨j, ap, cp, hnj, hjc, rfl, hmp, hmd, hap, hbw⟩ := hrel
               have HPJ : Kept ((FFld.padF (FFld.trm l) j).length = j) := ⟨FFld.padF_len (by rw [HNP.out]; exact hnj)⟩
               by_cases hlt : j < c
               ·have HM3 := Kept.mk (hmp.out.alloc (.cells #[.int .i64 (0 : Nat)] 3))
                have hsz := hbw.out.size
                have HBB := Kept.mk (show w9.heap.size <= (wr.alloc (.cells #[.int .i64 (0 : Nat)] 3)).heap.size by simp; omega)
                have HBQ := Kept.mk (hbw.out.alloc hsz (.cells #[.int .i64 (0 : Nat)] 3))
                have HOW := Kept.mk HM3.out.own
                have HNW := Kept.mk (new_one (K := .i64) (x := ((0 : Nat) : Int)) (w := wr.alloc (.cells #[.int .i64 (0 : Nat)] 3)) (b := wr.heap.size) (o := 0) (by exact (Row.new (E := 3) (K := .i64) wr [((0 : Nat) : Int)]).cell (i := 0) (by simp)))
                have H1 := Kept.mk (show ((ints (FFld.padF (FFld.trm l) j)).length + [((0 : Nat) : Int)].length) * 8 <= 140737488355328 by rw [FFld.ints_len, HPJ.out]; simp; omega)
                have H2 := Kept.mk (show (ints (FFld.padF (FFld.trm l) j)).length + [((0 : Nat) : Int)].length <= maxLen by rw [FFld.ints_len, HPJ.out]; unfold maxLen; simp; omega)
                go_wp2_with (at_builtin; refine wpList_append_parts _ rfl _ _ 22 (by rfl) 3 .i64 8 Tryz.underlying22 info_i64 (w9.heap.size) (.slice ap j cp) (ints (FFld.padF (FFld.trm l) j)) (by rfl) HM3.out HBB.out ⟨wr.heap.size, 0, none⟩ 1 1 [((0 : Nat) : Int)] (by rfl) rfl HNW.out H1.out H2.out ?_)
                intro va nv vc w5 hlv hm5 hg5 hn5
                obtain rfl : nv = j + 1 := by rw [<- hlv]; simp [FFld.ints_len, HPJ.out]
                have HM5 : Kept (Mine 3 .i64 w9.heap.size w5 (.slice va (j + 1) vc) (ints (FFld.padF (FFld.trm l) (j + 1)))) := ⟨by rw [padF_next (by rw [HNP.out]; exact hnj), FFld.ints_append]; exact hm5⟩
                have HD5 := Kept.mk (hmd.out.stays hap.out hg5)
                have HA5 := Kept.mk (hap.out.move hmd.out hn5)
                have HB5 := Kept.mk (HBQ.out.grown hg5 HBB.out (fun j hj => (HOW.out j hj).1))
                clear hlv hm5 hg5 hn5
                go_wp2
                go_roundw
                case rel => exact ⟨j + 1, va, vc, by omega, by omega, rfl, HM5, HD5, HA5, HB5⟩
                case measure => simp [sliceLen] <;> omega
               ·obtain rfl : c = j := by omega
                have HPC : Kept (FFld.padF (FFld.trm l) c = l) := ⟨pad_trm HLL.out⟩
                rw [HPC.out] at hmp
                have HSA := Kept.mk (samet_eq (.slice ap c cp) (.slice ov0 c oc) (ints l) wr hmp.out.sl (HM9.out.below hbw.out) (by rw [FFld.ints_len, HLL.out]; omega))
                have HSD := Kept.mk (fun W (hW : Below wr.heap.size wr W) => samet_eq (.slice da n dc) (.slice wa n wc) (ints ws) W (hmd.out.sl.below hW) ((HW9.out.below hbw.out).below hW) (by rw [FFld.ints_len, HWL.out]; omega))
                have HB12 := Kept.mk (bstep HB9.out hbw.out)
                clear hmp hmd hap hbw HM9 HW9 HB9
                go_wp2_with fail
                (with_reducible refine HSA.out.mono ?_)
                rintro e_ w12 ⟨hb12, rfl⟩
                have HB13 := Kept.mk (bstep HB12.out hb12)
                have HSE := Kept.mk (HSD.out _ hb12)
                clear hb12 HSD HSA
                go_wp2_with fail
                (with_reducible refine HSE.out.mono ?_)
                rintro e_ w13 ⟨hb13, rfl⟩
                have HB14 := Kept.mk (bstep HB13.out hb13)
                clear hb13 HSE
                go_wp2_with fail
                (with_reducible refine (three_any _).mono ?_)
                rintro e_ w14 ⟨hb14, rfl⟩
                have HBZ := Kept.mk (bstep HB14.out hb14)
                clear hb14
                go_wp2
                go_ret
                exact ⟨HBZ.out, rfl⟩
)
 ·exact absurd HFIT.out hn
end Go.Proofs.YtdnheaafcbihbaaGreat
