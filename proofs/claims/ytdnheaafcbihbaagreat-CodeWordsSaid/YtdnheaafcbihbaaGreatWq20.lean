/-
  Texts of the proof, merged by program: Cvn Cpl Mu2 Rtq Rtc1 Rtm.
-/
import Derived.Test.YtdnheaafcbihbaaGreatWq19
set_option linter.unusedSimpArgs false
set_option linter.unusedVariables false
set_option maxHeartbeats 16000000
namespace Go.Proofs.YtdnheaafcbihbaaGreat
open Go Go.RowKit Go.Deep
open FFld (ints)
namespace FFld
def linF (D : FD) (x : Nat) : List Nat := [padd D.p D.k 0 (pscl D.p D.k (D.p - 1) x), 1]
theorem linF_is {D : FD} (hk : PK D.p D.k D.m) (x : Nat) : linF D x = [pscl D.p D.k (D.p - 1) x, 1] := by
 unfold linF
 rw [padd_comm hk, padd_zero hk _ (pscl_lt hk _ _)]
theorem prod_thV {D : FD} (hk : PK D.p D.k D.m) (xs : List Nat) : ∀ i, i <= xs.length -> prodF D (xs.map (linF D)) i = thV D xs i
 | 0, _ => rfl
 | i + 1, hi => by
   show mulL D (prodF D (xs.map (linF D)) i) ((xs.map (linF D))[i]?.getD []) = mulL D (thV D xs i) [pscl D.p D.k (D.p - 1) (xs[i]?.getD 0), 1]
   rw [prod_thV hk xs i (by omega), List.getElem?_map, List.getElem?_eq_getElem (by omega)]
   show mulL D _ (linF D xs[i]) = mulL D _ [pscl D.p D.k (D.p - 1) xs[i], 1]
   rw [linF_is hk]
theorem linF_lt {D : FD} (hk : PK D.p D.k D.m) (x : Nat) : ∀ a ∈ linF D x, a < D.p ^ D.k := by
 rw [linF_is hk]
 exact lin_lt hk x
theorem thV_tz {D : FD} (hD : D.Ok) {xs : List Nat} {n : Nat} (hn : n <= xs.length) : Tz (thV D xs n) := by
 have hk := hD.pre.pk
 rw [<- prod_thV hk xs n hn]
 exact prodF_tz hD (fun l hl => by obtain ⟨x, _, rfl⟩ := List.mem_map.1 hl; exact linF_lt hk x) (fun l hl => by obtain ⟨x, _, rfl⟩ := List.mem_map.1 hl; exact .inr (by simp [linF])) n (by simpa using hn)
end FFld
theorem crow_mine {E : TypeId} {K : IntKind} {w : World} {g B n : Nat} {xs : List Int} (h : Row E K w g xs) (hn : n = xs.length) (hm : n <= maxLen) (hB : B <= g) : Mine E K B w (.slice (some ⟨g, 0, none⟩) n n) xs := by
 subst hn
 refine .inr ⟨g, _, _, rfl, hB, h, Nat.le_refl _, by simp, hm, ?_⟩
 simp only [List.toList_toArray]
 exact List.take_of_length_le (by simp)
set_option maxRecDepth 20000 in
theorem cvanish_any {D : FFld.FD} {b : Nat} (hD : D.Ok) (ax : Option Addr) (cx : Nat) (xs : List Nat) (w : World) (hf : FldB D w b) (h : Sl .i64 w (.slice ax xs.length cx) (ints xs)) (hxq : ∀ a ∈ xs, a < D.p ^ D.k) (hl : xs.length <= 100) :
 Calls Tryz.prog 163 #[.pointer (some ⟨b, 0, none⟩), .slice ax xs.length cx] w (fun e w' => Below w.heap.size w w' /\ ∃ v, e = .returned v /\ Sl .i64 w' v (ints (FFld.thV D xs xs.length))) := by
 have hq6 : D.p ^ D.k <= 65536 := hD.pre.small
 have hk := hD.pre.pk
 have HSB := Kept.mk (fun (W : World) (hW : Below w.heap.size w W) (x : Nat) (hx : x < D.p ^ D.k) => fsub_any (0 : Int) (x : Int) W (hf.below hW) (by omega) (by omega) (by omega) (by omega) 0 x (by simp) (md_nat hx) (Nat.pow_pos hk.p0) hx)
 have HPL : ∀ i, i <= (xs.map (FFld.linF D)).length -> (FFld.prodF D (xs.map (FFld.linF D)) i).length <= 200 := fun i hi => by
  have hi' : i <= xs.length := by simpa using hi
  rw [FFld.prod_thV hk xs i hi', FFld.thV_len]
  omega
 have HPR := Kept.mk (fun (W : World) (hW : Below w.heap.size w W) (af : Option Addr) (cf : Nat) (hs : Sls W af ((xs.map (FFld.linF D)).map ints)) (h1 : xs.length <= cf) (h2 : cf <= maxLen) => cproduct_any hD af cf (xs.map (FFld.linF D)) W (hf.below hW) hs (by simpa using h1) h2 (fun l hl => by obtain ⟨x, _, rfl⟩ := List.mem_map.1 hl; exact FFld.linF_lt hk x) (fun l hl => by obtain ⟨x, _, rfl⟩ := List.mem_map.1 hl; exact .inr (by simp [FFld.linF])) (fun l hl => by obtain ⟨x, _, rfl⟩ := List.mem_map.1 hl; simp [FFld.linF]) (HPL) (by simp; omega))
 have HPV : Kept (FFld.prodF D (xs.map (FFld.linF D)) (xs.map (FFld.linF D)).length = FFld.thV D xs xs.length) := ⟨by rw [List.length_map]; exact FFld.prod_thV hk xs _ (Nat.le_refl _)⟩
 have HXS := Kept.mk h
 have HXQ := Kept.mk hxq
 rw [HPV.out] at HPR
 simp only [List.length_map] at HPR
 obtain ⟨n, hn⟩ : ∃ n, xs.length = n := ⟨_, rfl⟩
 rw [hn] at HPR HXS hl ⊢
 have HN := Kept.mk hn
 have HPK := Kept.mk hk
 clear hf h hxq hn hk HPL
 go_enter Tryz.func163, Tryz.ntmps163
 go_wp2
 go_loopw [5, 10] (fun ov iv wr => ∃ (i : Nat) (L : List (Value × List Int)) (ov0 : Option Addr) (oc : Nat), i <= n /\ iv = .int .i64 i /\ ov = .slice ov0 i oc /\ L.length = i /\ Kept (L.map (·.2) = ((xs.take i).map (FFld.linF D)).map ints) /\ Kept (Rws w.heap.size wr (.slice ov0 i oc) L) /\ Kept (Below w.heap.size w wr)) (fun _ iv _ => n - (intOf iv).toNat)
 case atStart => exact ⟨0, [], none, 0, Nat.zero_le _, rfl, rfl, rfl, ⟨rfl⟩, ⟨Rws.nil _ _⟩, ⟨Below.refl _ _⟩⟩
 case round =>
  obtain ⟨i, L, ov0, oc, hin, rfl, rfl, hll, HL, hrw, hbw⟩ := hrel
  by_cases hlt : i < n
  ·obtain ⟨ax', cx', e, hcx, hmx, hcc⟩ := HXS.out.below hbw.out
   simp only [Value.slice.injEq] at e
   obtain ⟨rfl, e2, rfl⟩ := e
   clear e2
   obtain ⟨bx, ox, rfl, hbx, hcell⟩ := hcc i (by rw [FFld.ints_len, HN.out]; exact hlt)
   rw [FFld.ints_get] at hcell
   rw [FFld.ints_len, HN.out] at hcx
   have hxlt := FFld.getD_lt (Nat.pow_pos HPK.out.p0) HXQ.out i
   have HT : Kept (((xs.take (i + 1)).map (FFld.linF D)).map ints = L.map (·.2) ++ [ints (FFld.linF D (xs[i]?.getD 0))]) := ⟨by rw [HL.out, map_take_next' (d := 0) (by rw [HN.out]; exact hlt), List.map_append]; rfl⟩
   obtain ⟨x, hx⟩ : ∃ x, xs[i]?.getD 0 = x := ⟨_, rfl⟩
   rw [hx] at hcell hxlt HT
   have HC := Kept.mk (HSB.out wr hbw.out x hxlt)
   have HLE : Kept (ints (FFld.linF D x) = [((FFld.padd D.p D.k 0 (FFld.pscl D.p D.k (D.p - 1) x) : Nat) : Int), 1]) := ⟨rfl⟩
   obtain ⟨y, hy⟩ : ∃ y, FFld.padd D.p D.k 0 (FFld.pscl D.p D.k (D.p - 1) x) = y := ⟨_, rfl⟩
   rw [hy] at HC HLE
   rw [HLE.out] at HT
   clear hx hy hcc hxlt
   go_wp2_with fail
   refine HC.out.mono ?_
   rintro e w3 ⟨hb3, rfl⟩
   have HB3 := Kept.mk (bstep hbw.out hb3)
   have hsz := hbw.out.size
   have hsz3 := hb3.size
   have hal : Below w3.heap.size w3 (w3.alloc (.cells #[.int .i64 (y : Nat), .int .i64 1] 3)) := (Below.refl _ _).alloc (Nat.le_refl _) _
   have hrow : Mine 3 .i64 w.heap.size (w3.alloc (.cells #[.int .i64 (y : Nat), .int .i64 1] 3)) (.slice (some ⟨w3.heap.size, 0, none⟩) 2 2) [((y : Nat) : Int), 1] := crow_mine (Row.new w3 [((y : Nat) : Int), 1]) rfl (by decide) (by omega)
   have HW4 := Kept.mk ((hrw.out.below hb3).below hal)
   have HB4 := Kept.mk (bstep HB3.out hal)
   have HM4 := Kept.mk hrow
   have HNE : Kept (∀ k, (Value.slice (some ⟨w3.heap.size, 0, none⟩) 2 2).ownBlock = some k -> (Value.slice ov0 i oc).ownBlock ≠ some k) := ⟨fun k hk e => by
    have h2 := (hrw.out.own.own k e).2
    simp [Value.ownBlock] at hk
    omega⟩
   have hal5 : Below (w3.alloc (.cells #[.int .i64 (y : Nat), .int .i64 1] 3)).heap.size (w3.alloc (.cells #[.int .i64 (y : Nat), .int .i64 1] 3)) ((w3.alloc (.cells #[.int .i64 (y : Nat), .int .i64 1] 3)).alloc (.cells #[.slice (some ⟨w3.heap.size, 0, none⟩) 2 2] 22)) := (Below.refl _ _).alloc (Nat.le_refl _) _
   have HW5 := Kept.mk (HW4.out.below hal5)
   have HB5 := Kept.mk (bstep HB4.out hal5)
   have HM5 := Kept.mk (HM4.out.below hal5)
   have HON := Kept.mk HW5.out.own
   have HNW : Kept (∀ j u, ([Value.slice (some ⟨w3.heap.size, 0, none⟩) 2 2])[j]? = some u -> ((w3.alloc (.cells #[.int .i64 (y : Nat), .int .i64 1] 3)).alloc (.cells #[.slice (some ⟨w3.heap.size, 0, none⟩) 2 2] 22)).cell? ((⟨w3.heap.size + 1, 0, none⟩ : Addr).add j) = some u) := ⟨by
    have h := rows_one (W := (w3.alloc (.cells #[.int .i64 (y : Nat), .int .i64 1] 3))) (rv := (.slice (some ⟨w3.heap.size, 0, none⟩) 2 2))
    have e : (w3.alloc (.cells #[.int .i64 (y : Nat), .int .i64 1] 3)).heap.size = w3.heap.size + 1 := by simp
    rw [e] at h
    exact h⟩
   have H0 := Kept.mk HM4.out.one
   have H1 : Kept ((L.map (·.1)).length = i) := ⟨by rw [List.length_map, hll]⟩
   have HBB : Kept (w.heap.size <= ((w3.alloc (.cells #[.int .i64 (y : Nat), .int .i64 1] 3)).alloc (.cells #[.slice (some ⟨w3.heap.size, 0, none⟩) 2 2] 22)).heap.size) := ⟨by simp; omega⟩
   clear hb3 hal hal5 hrow HW4 hcell hbw hrw HM4
   go_wp2_with (at_builtin; refine wpList_append_w _ rfl _ _ 39 (by rfl) 22 (.slice none 0 0) 24 Tryz.underlying39 info_rows (by rfl) w.heap.size (.slice ov0 i oc) (L.map (·.1)) (by rfl) HON.out HBB.out ⟨w3.heap.size + 1, 0, none⟩ 1 (.slice (some ⟨w3.heap.size, 0, none⟩) 2 2) (by rfl) HNW.out H0.out i H1.out (by omega) (by omega) ?_)
   intro v' w5 ho5 hg5 hv5
   have HR6 := Kept.mk (HW5.out.push HM5.out HNE.out ho5 hg5 (by simpa using hv5))
   have hown := HON.out.own
   have HB6 := Kept.mk (HB5.out.grown hg5 HBB.out (fun j hj => (hown j hj).1))
   obtain ⟨ao', cap', hv', _, _⟩ := HR6.out.sls
   clear ho5 hg5 hv5 hown
   go_wp2
   go_roundw
   case rel => exact ⟨i + 1, L ++ [(.slice (some ⟨w3.heap.size, 0, none⟩) 2 2, [((y : Nat) : Int), 1])], ao', cap', by omega, by go_num, by rw [hv']; simp [hll], by simp [hll], ⟨by rw [HT.out, List.map_append]; rfl⟩, by rw [hv'] at HR6; simpa [hll] using HR6, HB6⟩
   case measure => simp [intOf] <;> omega
  ·obtain rfl : i = n := by omega
   obtain ⟨ao', cap', hv', h1, h2, hs⟩ := hrw.out.sls
   have e3 : L.map (·.2) = (xs.map (FFld.linF D)).map ints := by rw [HL.out, List.take_of_length_le (by rw [HN.out]; exact Nat.le_refl _)]
   rw [e3] at hs
   rw [hll] at hv' h1
   simp only [Value.slice.injEq] at hv'
   obtain ⟨rfl, _, rfl⟩ := hv'
   have HC := Kept.mk (HPR.out wr hbw.out _ _ hs h1 h2)
   clear hs h1 h2 e3
   go_wp2_with fail
   refine HC.out.mono ?_
   rintro e w2 ⟨hb2, v2, rfl, hs2⟩
   have HB2 := Kept.mk (bstep hbw.out hb2)
   have HS2 := Kept.mk hs2
   clear hb2 hs2
   go_wp2
   go_ret
   exact ⟨HB2.out, _, rfl, HS2.out⟩
end Go.Proofs.YtdnheaafcbihbaaGreat
namespace Go.Proofs.YtdnheaafcbihbaaGreat
open Go Go.RowKit
open FFld (ints)
set_option maxRecDepth 20000 in
theorem cplus_any {D : FFld.FD} {b : Nat} (hD : D.Ok) (ap aq : Option Addr) (cp cq : Nat) (pl ql : List Nat) (c s : Nat) (w : World) (hf : FldB D w b) (hp : Sl .i64 w (.slice ap pl.length cp) (ints pl)) (hq : Sl .i64 w (.slice aq ql.length cq) (ints ql)) (hpq : ∀ a ∈ pl, a < D.p ^ D.k) (hqq : ∀ a ∈ ql, a < D.p ^ D.k) (hc : c < D.p ^ D.k) (hl : pl.length <= 1000) (hl2 : s + ql.length <= 1000) :
 Calls Tryz.prog 165 #[.pointer (some ⟨b, 0, none⟩), .slice ap pl.length cp, .slice aq ql.length cq, .int .i64 c, .int .i64 s] w (fun e w' => Below w.heap.size w w' /\ e = .returned (.slice (some ⟨w.heap.size, 0, none⟩) (FFld.plusF D pl ql c s).length (max pl.length (s + ql.length))) /\ Wv w' w.heap.size (FFld.plusF D pl ql c s)) := by
 have hq6 : D.p ^ D.k <= 65536 := hD.pre.small
 obtain ⟨N, hN⟩ : ∃ N, max pl.length (s + ql.length) = N := ⟨_, rfl⟩
 have hN1 : pl.length <= N := by omega
 have hN2 : s + ql.length <= N := by omega
 have hN3 : N <= 1000 := by omega
 have HPD := Kept.mk (cpadded_any ap cp pl N w hp hN1 (by omega))
 have HNN := Kept.mk hN
 have eN1 : (max (pl.length : Int) ((s : Int) + (ql.length : Int))) = N := by omega
 have HAMB := Kept.mk (fun (W : World) (hW : Below w.heap.size w W) (hr : Wv W w.heap.size (FFld.padF pl N)) => caddMultiple_any (s := s) (n := N - s) (cc := N - s) (cap := cq) w W hD hf hW (Nat.le_refl _) (FFld.padF pl N) hr (FFld.padF_lt (Nat.pow_pos hD.pre.pk.p0) hpq N) ql (qc_of hq hW (Nat.le_refl _)) hqq (by rw [FFld.padF_len hN1]; exact hN2) (by omega) c hc (by omega))
 have HAMA := Kept.mk (fun (hsN : s = N) (W : World) (hW : Below w.heap.size w W) (hr : Wv W w.heap.size (FFld.padF pl N)) => caddMultiple_any (s := 0) (n := 0) (cc := 0) (cap := cq) w W hD hf hW (Nat.le_refl _) (FFld.padF pl N) hr (FFld.padF_lt (Nat.pow_pos hD.pre.pk.p0) hpq N) ql (qc_of hq hW (Nat.le_refl _)) hqq (by rw [FFld.padF_len hN1]; omega) (by omega) c hc (by omega))
 have HAE : Kept (s = N -> FFld.addm D (FFld.padF pl N) 0 ql c = FFld.addm D (FFld.padF pl N) s ql c) := ⟨fun hsN => by
  have e : ql = [] := List.eq_nil_of_length_eq_zero (by omega)
  rw [e]
  rfl⟩
 have HPF : Kept ((FFld.addm D (FFld.padF pl N) s ql c).length = N) := ⟨by rw [FFld.addm_len, FFld.padF_len hN1]⟩
 have HPE : Kept (FFld.plusF D pl ql c s = FFld.trm (FFld.addm D (FFld.padF pl N) s ql c)) := ⟨by unfold FFld.plusF; rw [hN]⟩
 obtain ⟨np, hnp⟩ : ∃ n, pl.length = n := ⟨_, rfl⟩
 obtain ⟨nq, hnq⟩ : ∃ n, ql.length = n := ⟨_, rfl⟩
 rw [hnp] at eN1 hN1 HPD ⊢
 rw [hnq] at eN1 hN2 HAMA HAMB ⊢
 rw [hnp, hnq] at hN
 rw [hN]
 obtain ⟨g, hg⟩ : ∃ g, w.heap.size = g := ⟨_, rfl⟩
 have HGG := Kept.mk hg
 rw [hg] at HAMA HAMB HPD
 have hc6 : c <= 65536 := by omega
 clear hf hp hq hpq hqq hc hnp hnq hl hl2 hN
 go_enter Tryz.func165, Tryz.ntmps165
 by_cases hsN : s = N
 ·obtain rfl : N = s := hsN.symm
  rcases Nat.lt_or_ge np (N + nq) with hm | hm
  ·have hq0 : nq = 0 := by omega
   subst hq0
   have dm : (np : Int) < N := by omega
   clear eN1
   go_wp2_with fail
   try rw [Int.max_eq_right (Int.le_of_lt dm)]
   (with_reducible refine HPD.out.mono ?_)
   rintro e w1 ⟨hb1, rfl, hr1⟩
   have HB1 := Kept.mk hb1
   have HAM1 := Kept.mk (HAMA.out (by first | rfl | trivial) w1 (HGG.out ▸ hb1) hr1)
   clear hb1 hr1 HAMA HAMB HPD
   go_wp2_with fail
   (with_reducible refine HAM1.out.mono ?_)
   rintro e w2 ⟨rfl, hgr, hw2⟩
   rw [HAE.out (by first | rfl | trivial)] at hw2
   have HB2 : Kept (Below w.heap.size w w2) := ⟨belowGrow hgr (by rw [HGG.out]; exact HB1.out) (by rw [HGG.out]; exact Nat.le_refl _)⟩
   have HT := Kept.mk (ctrimmed_any (FFld.addm D (FFld.padF pl N) N ql c) (some ⟨g, 0, none⟩) N w2 (hw2.sl rfl (by rw [HPF.out]; exact Nat.le_refl _) (by unfold maxLen; omega)))
   have HW2 := Kept.mk hw2
   rw [HPF.out, <- HPE.out] at HT
   clear hgr hw2
   go_wp2_with fail
   (with_reducible refine HT.out.mono ?_)
   rintro e w3 ⟨rfl, rfl⟩
   go_wp2
   go_ret
   rw [HGG.out]
   refine ⟨by rw [<- HGG.out]; exact HB2.out, rfl, ?_⟩
   rw [HPE.out]
   exact HW2.out.take _
  ·have hq0 : nq = 0 := by omega
   subst hq0
   obtain rfl : np = N := by omega
   clear eN1
   go_wp2_with fail
   (with_reducible refine HPD.out.mono ?_)
   rintro e w1 ⟨hb1, rfl, hr1⟩
   have HB1 := Kept.mk hb1
   have HAM1 := Kept.mk (HAMA.out (by first | rfl | trivial) w1 (HGG.out ▸ hb1) hr1)
   clear hb1 hr1 HAMA HAMB HPD
   go_wp2_with fail
   (with_reducible refine HAM1.out.mono ?_)
   rintro e w2 ⟨rfl, hgr, hw2⟩
   rw [HAE.out (by first | rfl | trivial)] at hw2
   have HB2 : Kept (Below w.heap.size w w2) := ⟨belowGrow hgr (by rw [HGG.out]; exact HB1.out) (by rw [HGG.out]; exact Nat.le_refl _)⟩
   have HT := Kept.mk (ctrimmed_any (FFld.addm D (FFld.padF pl np) np ql c) (some ⟨g, 0, none⟩) np w2 (hw2.sl rfl (by rw [HPF.out]; exact Nat.le_refl _) (by unfold maxLen; omega)))
   have HW2 := Kept.mk hw2
   rw [HPF.out, <- HPE.out] at HT
   clear hgr hw2
   go_wp2_with fail
   (with_reducible refine HT.out.mono ?_)
   rintro e w3 ⟨rfl, rfl⟩
   go_wp2
   go_ret
   rw [HGG.out]
   refine ⟨by rw [<- HGG.out]; exact HB2.out, rfl, ?_⟩
   rw [HPE.out]
   exact HW2.out.take _
 ·rcases Nat.lt_or_ge np (s + nq) with hm | hm
  ·have eN2 : (s : Int) + (nq : Int) = N := by omega
   have dm : (np : Int) < N := by omega
   have hsn : s < N := by omega
   clear eN1
   go_wp2_with fail
   try rw [Int.max_eq_right (Int.le_of_lt dm)]
   (with_reducible refine HPD.out.mono ?_)
   rintro e w1 ⟨hb1, rfl, hr1⟩
   have HB1 := Kept.mk hb1
   have HAM1 := Kept.mk (HAMB.out w1 (HGG.out ▸ hb1) hr1)
   clear hb1 hr1 HAMA HAMB HPD
   go_wp2_with fail
   (with_reducible refine HAM1.out.mono ?_)
   rintro e w2 ⟨rfl, hgr, hw2⟩
   have HB2 : Kept (Below w.heap.size w w2) := ⟨belowGrow hgr (by rw [HGG.out]; exact HB1.out) (by rw [HGG.out]; exact Nat.le_refl _)⟩
   have HT := Kept.mk (ctrimmed_any (FFld.addm D (FFld.padF pl N) s ql c) (some ⟨g, 0, none⟩) N w2 (hw2.sl rfl (by rw [HPF.out]; exact Nat.le_refl _) (by unfold maxLen; omega)))
   have HW2 := Kept.mk hw2
   rw [HPF.out, <- HPE.out] at HT
   clear hgr hw2
   go_wp2_with fail
   (with_reducible refine HT.out.mono ?_)
   rintro e w3 ⟨rfl, rfl⟩
   go_wp2
   go_ret
   rw [HGG.out]
   refine ⟨by rw [<- HGG.out]; exact HB2.out, rfl, ?_⟩
   rw [HPE.out]
   exact HW2.out.take _
  ·obtain rfl : np = N := by omega
   have dm : (s : Int) + (nq : Int) <= np := by omega
   have hsn : s < np := by omega
   clear eN1
   go_wp2_with fail
   try rw [Int.max_eq_left dm]
   (with_reducible refine HPD.out.mono ?_)
   rintro e w1 ⟨hb1, rfl, hr1⟩
   have HB1 := Kept.mk hb1
   have HAM1 := Kept.mk (HAMB.out w1 (HGG.out ▸ hb1) hr1)
   clear hb1 hr1 HAMA HAMB HPD
   go_wp2_with fail
   (with_reducible refine HAM1.out.mono ?_)
   rintro e w2 ⟨rfl, hgr, hw2⟩
   have HB2 : Kept (Below w.heap.size w w2) := ⟨belowGrow hgr (by rw [HGG.out]; exact HB1.out) (by rw [HGG.out]; exact Nat.le_refl _)⟩
   have HT := Kept.mk (ctrimmed_any (FFld.addm D (FFld.padF pl np) s ql c) (some ⟨g, 0, none⟩) np w2 (hw2.sl rfl (by rw [HPF.out]; exact Nat.le_refl _) (by unfold maxLen; omega)))
   have HW2 := Kept.mk hw2
   rw [HPF.out, <- HPE.out] at HT
   clear hgr hw2
   go_wp2_with fail
   (with_reducible refine HT.out.mono ?_)
   rintro e w3 ⟨rfl, rfl⟩
   go_wp2
   go_ret
   rw [HGG.out]
   refine ⟨by rw [<- HGG.out]; exact HB2.out, rfl, ?_⟩
   rw [HPE.out]
   exact HW2.out.take _
set_option maxRecDepth 20000 in
theorem multiply_new {D : FFld.FD} {b : Nat} (hD : D.Ok) (vp vq : Value) (pl ql : List Nat) (w : World) (hf : FldB D w b) (hp : Sl .i64 w vp (ints pl)) (hq : Sl .i64 w vq (ints ql)) (hpq : ∀ a ∈ pl, a < D.p ^ D.k) (hqq : ∀ a ∈ ql, a < D.p ^ D.k) (hpl : pl.length <= 100000) (hqll : ql.length <= 100000) (h0 : ¬ (pl.length = 0 \/ ql.length = 0)) :
 Calls Tryz.prog 153 #[.pointer (some ⟨b, 0, none⟩), vp, vq] w (fun e w' => Below w.heap.size w w' /\ e = .returned (.slice (some ⟨w.heap.size, 0, none⟩) (FFld.mulL D pl ql).length (FFld.mulL D pl ql).length) /\ Wv w' w.heap.size (FFld.mulL D pl ql)) := by
 obtain ⟨ap, cp, rfl, hcp, hmp⟩ := hp.form
 obtain ⟨aq, cq, rfl, hcq, hmq⟩ := hq.form
 rw [FFld.ints_len] at hcp hcq
 have HPS := Kept.mk hp
 have HQS := Kept.mk hq
 have HF := Kept.mk hf
 have HPQ := Kept.mk hpq
 have HQQ := Kept.mk hqq
 clear hp hq hf hpq hqq
 rw [FFld.ints_len, FFld.ints_len] at *
 ·have hL : FFld.mulL D pl ql = FFld.mulF D pl ql pl.length := by unfold FFld.mulL; rw [if_neg h0]
  rw [hL]
  have e1 : ((pl.length : Int) == 0) = false := by rw [beq_eq_false_iff_ne]; omega
  have e2 : ((ql.length : Int) == 0) = false := by rw [beq_eq_false_iff_ne]; omega
  obtain ⟨n, hn⟩ : ∃ n, pl.length + ql.length - 1 = n := ⟨_, rfl⟩
  have en : (pl.length : Int) + ql.length - 1 = n := by omega
  have HN : Kept (∀ i, (FFld.mulF D pl ql i).length = n) := ⟨fun i => by rw [FFld.mulF_len, hn]⟩
  have hlen : pl.length + ql.length = n + 1 := by omega
  have hn6 : n <= 200000 := by omega
  rw [FFld.mulF_len, hn]
  have HZ : Kept (FFld.mulF D pl ql 0 = List.replicate n 0) := ⟨by simp only [FFld.mulF]; rw [hn]⟩
  obtain ⟨np, hnp⟩ : ∃ np, pl.length = np := ⟨_, rfl⟩
  obtain ⟨nq, hnq⟩ : ∃ nq, ql.length = nq := ⟨_, rfl⟩
  have HNP := Kept.mk hnp
  have HNQ := Kept.mk hnq
  have HCP := Kept.mk (HPS.out.cells (Nat.le_refl _))
  rw [hnp] at hcp hpl e1 en hlen h0 ⊢
  rw [hnq] at hcq hqll e2 en hlen h0
  rw [hnq]
  clear hL hn hnp hnq
  go_enter Tryz.func153, Tryz.ntmps153
  go_wp2_with (at_make; refine wpList_make_zeros _ rfl _ _ 22 rfl 3 .i64 Tryz.underlying22 info_i64 _ _ n rfl rfl (by omega) (by omega) (by omega) ?_)
  intro w3 hrow hbel
  rw [FFld.ints_rep] at hrow
  have HW3 := Kept.mk hrow.wv
  have HB3 := Kept.mk hbel
  clear hrow hbel
  go_wp2
  go_loopw [27] (fun iv wr => ∃ i : Nat, i <= np /\ iv = .int .i64 i /\ Kept (Wv wr w.heap.size (FFld.mulF D pl ql i)) /\ Kept (Below w.heap.size w wr)) (fun iv _ => np - (intOf iv).toNat)
  case atStart => exact ⟨0, Nat.zero_le _, rfl, ⟨by rw [HZ.out]; exact HW3.out⟩, HB3⟩
  case round =>
   obtain ⟨i, hi, rfl, hwv, hbl⟩ := hrel
   by_cases hlt : i < np
   ·obtain ⟨bp, op, rfl, hcell⟩ := HCP.out _ hbl.out i (by rw [HNP.out]; exact hlt)
    obtain ⟨c, hc⟩ : ∃ c, pl[i]?.getD 0 = c := ⟨_, rfl⟩
    have hcq2 : c < D.p ^ D.k := by rw [<- hc]; exact FFld.getD_lt (Nat.pow_pos hD.pre.pk.p0) HPQ.out i
    rw [hc] at hcell
    obtain ⟨R, hR⟩ : ∃ R, FFld.mulF D pl ql i = R := ⟨_, rfl⟩
    have hRl : R.length = n := by rw [<- hR]; exact HN.out i
    have HRQ : Kept (∀ a ∈ R, a < D.p ^ D.k) := ⟨by rw [<- hR]; exact FFld.mulF_lt hD.pre.pk pl ql i⟩
    have HNX : Kept (FFld.mulF D pl ql (i + 1) = FFld.addm D R i ql c) := ⟨by simp only [FFld.mulF]; rw [hR, hc]⟩
    rw [hR] at hwv
    have hAm := Kept.mk (fun (n' cc : Nat) (hn' : ql.length <= n') => addMultiple_any (s := i) (n := n') (cc := cc) (cap := cq) w wr HF.out hbl.out (Nat.le_refl _) R hwv.out HRQ.out ql (HQS.out.qc hbl.out (Nat.le_refl _)) HQQ.out (by rw [hRl, HNQ.out]; omega) hn' c hcq2 (by rw [HNQ.out]; omega))
    rw [HNQ.out] at hAm
    have hs1 : (i : Int) <= (n : Int) := by omega
    have hs2 : i <= n := by omega
    have hs3 : (0 : Int) <= (i : Int) := by omega
    have hs6 : ((i : Int) < 0) = False := by simp
    clear hc hR hcq2
    go_wp2_with fail
    refine (hAm.out _ _ (by omega)).mono ?_
    rintro e w7 ⟨rfl, hg7, hw7⟩
    have HW7 := Kept.mk hw7
    have HB7 := Kept.mk (belowGrow hg7 hbl.out (Nat.le_refl _))
    clear hg7 hw7 hAm
    go_wp2
    go_roundw
    case rel => exact ⟨i + 1, by omega, by go_num, ⟨by rw [HNX.out]; exact HW7.out⟩, HB7⟩
    case measure => simp [intOf] <;> omega
   ·obtain rfl : i = np := by omega
    have HS := Kept.mk (hwv.out.sl (n := n) (c := n) (HN.out i).symm (Nat.le_refl _) (by unfold maxLen; omega))
    go_wp2
    go_ret
    exact ⟨hbl.out, rfl, hwv.out⟩
end Go.Proofs.YtdnheaafcbihbaaGreat
namespace Go.Proofs.YtdnheaafcbihbaaGreat
open Go Go.RowKit Go.Deep
open FFld (ints)
set_option maxRecDepth 20000 in
theorem rproductp_any {D : FFld.FD} (hD : D.Ok) (vp vq : Value) (pl ql : List Nat) (w : World) (hp : Sl .i64 w vp (ints pl)) (hq : Sl .i64 w vq (ints ql)) (hpq : ∀ a ∈ pl, a < D.p ^ D.k) (hqq : ∀ a ∈ ql, a < D.p ^ D.k) (hpl : pl.length <= 100000) (hqll : ql.length <= 100000) :
 Calls Tryz.prog 45 #[rfv D.q D.p D.k D.m, vp, vq] w (fun e w' => Below w.heap.size w w' /\ ∃ v, e = .returned v /\ Sl .i64 w' v (ints (FFld.mulL D pl ql))) := by
 obtain ⟨ap, cp, hvp, hcp, hmp⟩ := hp.form
 obtain ⟨aq, cq, hvq, hcq, hmq⟩ := hq.form
 subst hvp hvq
 rw [FFld.ints_len] at hcp hcq
 have HPS := Kept.mk hp
 have HQS := Kept.mk hq
 have HPQ := Kept.mk hpq
 have HQQ := Kept.mk hqq
 clear hp hq hpq hqq
 rw [FFld.ints_len, FFld.ints_len]
 rw [FFld.ints_len] at HPS
 rw [FFld.ints_len] at HQS
 have HX0 : Kept (Bxs w [rbox D.q D.p D.k D.m] (w.alloc (rbox D.q D.p D.k D.m))) := ⟨(Bxs.start w).alloc (by simp) _⟩
 by_cases h0 : pl.length = 0 \/ ql.length = 0
 ·have hL : FFld.mulL D pl ql = [] := by unfold FFld.mulL; rw [if_pos h0]
  have HS : Kept (Sl .i64 (w.alloc (rbox D.q D.p D.k D.m)) (.slice none 0 0) (ints [])) := ⟨Sl.nil _ _⟩
  rw [hL]
  by_cases h1 : pl.length = 0
  ·obtain ⟨np, hnp⟩ : ∃ np, pl.length = np := ⟨_, rfl⟩
   rw [hnp] at h1 ⊢
   subst h1
   clear HPS HQS h0 hL hnp
   go_enter Tryz.func45, Tryz.ntmps45
   go_wp2
   go_ret
   exact ⟨HX0.out.1, .slice none 0 0, rfl, HS.out⟩
  ·have h2 : ql.length = 0 := by omega
   have e1 : ((pl.length : Int) == 0) = false := by rw [beq_eq_false_iff_ne]; omega
   obtain ⟨nq, hnq⟩ : ∃ nq, ql.length = nq := ⟨_, rfl⟩
   rw [hnq] at h2 ⊢
   subst h2
   clear HPS HQS h0 hL hnq
   go_enter Tryz.func45, Tryz.ntmps45
   go_wp2
   go_ret
   exact ⟨HX0.out.1, .slice none 0 0, rfl, HS.out⟩
 ·have hL : FFld.mulL D pl ql = FFld.mulF D pl ql pl.length := by unfold FFld.mulL; rw [if_neg h0]
  rw [hL]
  have e1 : ((pl.length : Int) == 0) = false := by rw [beq_eq_false_iff_ne]; omega
  have e2 : ((ql.length : Int) == 0) = false := by rw [beq_eq_false_iff_ne]; omega
  obtain ⟨n, hn⟩ : ∃ n, pl.length + ql.length - 1 = n := ⟨_, rfl⟩
  have en : (pl.length : Int) + ql.length - 1 = n := by omega
  have HN : Kept (∀ i, (FFld.mulF D pl ql i).length = n) := ⟨fun i => by rw [FFld.mulF_len, hn]⟩
  have hlen : pl.length + ql.length = n + 1 := by omega
  have hn6 : n <= 200000 := by omega
  have HZ : Kept (FFld.mulF D pl ql 0 = List.replicate n 0) := ⟨by simp only [FFld.mulF]; rw [hn]⟩
  obtain ⟨np, hnp⟩ : ∃ np, pl.length = np := ⟨_, rfl⟩
  obtain ⟨nq, hnq⟩ : ∃ nq, ql.length = nq := ⟨_, rfl⟩
  have HNP := Kept.mk hnp
  have HNQ := Kept.mk hnq
  have hq6 : D.p ^ D.k <= 65536 := hD.pre.small
  have HM := Kept.mk (fun W x y (hx : x < D.p ^ D.k) (hy : y < D.p ^ D.k) => rmul_any D.q D.p D.k D.m x y W hD.pre.pk.p2 hD.pre.pk.k1 hx hy hq6 (md_ok hD))
  have HA := Kept.mk (fun W x y (hx : x < D.p ^ D.k) (hy : y < D.p ^ D.k) => radd_any D.q D.p D.k D.m x y W hD.pre.pk.p2 hD.pre.pk.k1 hx hy hq6)
  rw [hnp] at hcp hpl e1 en hlen h0 ⊢
  rw [hnq] at hcq hqll e2 en hlen h0 ⊢
  rw [hnp] at HPS
  rw [hnq] at HQS
  clear hL hn hnp hnq h0 hq6
  go_enter Tryz.func45, Tryz.ntmps45
  go_wp2_with (at_make; refine wpList_make_zeros _ rfl _ _ 22 rfl 3 .i64 Tryz.underlying22 info_i64 _ _ n rfl rfl (by omega) (by omega) (by omega) ?_)
  intro w3 hrow hbel
  rw [FFld.ints_rep] at hrow
  have HW3 := Kept.mk hrow.wv
  have HX3 := Kept.mk (HX0.out.below (by simpa using hbel))
  obtain ⟨g, hg⟩ : ∃ g, w.heap.size + 1 = g := ⟨_, rfl⟩
  rw [hg] at HW3
  clear hrow hbel HX0 en
  go_wp2
  try rw [hg]
  have hlg : w.heap.size < g := by omega
  clear hg
  go_loopw [8] (fun iv wr => ∃ i : Nat, i <= np /\ iv = .int .i64 i /\ Kept (Wv wr g (FFld.mulF D pl ql i)) /\ Kept (Bxs w [rbox D.q D.p D.k D.m] wr)) (fun iv _ => np - (intOf iv).toNat)
  case atStart => exact ⟨0, Nat.zero_le _, rfl, ⟨by rw [HZ.out]; exact HW3.out⟩, HX3⟩
  case round =>
   obtain ⟨i, hi, rfl, hwv0, hbx0⟩ := hrel
   by_cases hlt : i < np
   ·obtain ⟨R, hR⟩ : ∃ R, FFld.mulF D pl ql i = R := ⟨_, rfl⟩
    have HRL : Kept (R.length = n) := ⟨by rw [<- hR]; exact HN.out i⟩
    have HRQ : Kept (∀ a ∈ R, a < D.p ^ D.k) := ⟨by rw [<- hR]; exact FFld.mulF_lt hD.pre.pk pl ql i⟩
    obtain ⟨c, hc⟩ : ∃ c, pl[i]?.getD 0 = c := ⟨_, rfl⟩
    have HNX : Kept (FFld.mulF D pl ql (i + 1) = FFld.addmF D R i ql c nq) := ⟨by simp only [FFld.mulF]; rw [hR, hc]; unfold FFld.addm; rw [HNQ.out]⟩
    have HC := Kept.mk hc
    rw [hR] at hwv0
    clear hR hc
    go_wp2
    go_loopw [9] (fun jv wr => ∃ j : Nat, j <= nq /\ jv = .int .i64 j /\ Kept (Wv wr g (FFld.addmF D R i ql c j)) /\ Kept (Bxs w [rbox D.q D.p D.k D.m] wr)) (fun jv _ => nq - (intOf jv).toNat)
    case atStart => exact ⟨0, Nat.zero_le _, rfl, hwv0, hbx0⟩
    case round =>
     clear hwv0 hbx0
     obtain ⟨j, hj, rfl, hwv, hbx⟩ := hrel
     by_cases hlt2 : j < nq
     ·obtain ⟨bp, op, hap, hnp, hbp, ip⟩ := (HPS.out.qc hbx.out.1 (Nat.le_of_lt hlg)) i (by rw [HNP.out]; exact hlt)
      obtain ⟨bq, oq, haq, hnq, hbq, iq⟩ := (HQS.out.qc hbx.out.1 (Nat.le_of_lt hlg)) j (by rw [HNQ.out]; exact hlt2)
      subst hap haq
      rw [HC.out] at ip
      obtain ⟨y, hy⟩ : ∃ y, ql[j]?.getD 0 = y := ⟨_, rfl⟩
      rw [hy] at iq
      obtain ⟨i0, i1, i2, i3⟩ := four_cells hbx.out.b0
      have hcq2 : c < D.p ^ D.k := by rw [<- HC.out]; exact FFld.getD_lt (Nat.pow_pos hD.pre.pk.p0) HPQ.out i
      have hyq : y < D.p ^ D.k := by rw [<- hy]; exact FFld.getD_lt (Nat.pow_pos hD.pre.pk.p0) HQQ.out j
      have hlen2 : (FFld.addmF D R i ql c j).length = n := by rw [FFld.addmF_len]; exact HRL.out
      have hij : i + j < n := by omega
      have t1 := hwv.out.cell (i := i + j) (by omega)
      obtain ⟨u, hu⟩ : ∃ u, (FFld.addmF D R i ql c j)[i + j]?.getD 0 = u := ⟨_, rfl⟩
      have huq : u < D.p ^ D.k := by rw [<- hu]; exact FFld.getD_lt (Nat.pow_pos hD.pre.pk.p0) (FFld.addmF_lt hD.pre.pk i ql c j HRQ.out) _
      rw [hu] at t1
      obtain ⟨z, hz⟩ : ∃ z, FFld.pmul D.p D.k D.m c D.k y = z := ⟨_, rfl⟩
      have hzq : z < D.p ^ D.k := by rw [<- hz]; exact FFld.pmul_lt hD.pre.pk _ _ _
      obtain ⟨v, hv⟩ : ∃ v, FFld.padd D.p D.k u z = v := ⟨_, rfl⟩
      have HV : Kept ((FFld.addmF D R i ql c j).set (i + j) v = FFld.addmF D R i ql c (j + 1)) := ⟨by simp only [FFld.addmF]; rw [hu, hy, FFld.pmul_comm hD.pre.pk _ _ hyq hcq2, hz, hv]⟩
      have hM := Kept.mk (fun W => HM.out W c y hcq2 hyq)
      rw [hz] at hM
      have hA := Kept.mk (fun W => HA.out W u z huq hzq)
      rw [hv] at hA
      have hi0 : (i : Int) + j = ((i + j : Nat) : Int) := by omega
      have ewi : IntKind.i64.wrap ((i : Int) + j) = (i : Int) + j := wi (by omega) (by omega)
      have hij1 : (i : Int) + j < (n : Int) := by omega
      have hij2 : (0 : Int) <= (i : Int) + j := by omega
      have hij3 : ((i : Int) + j).toNat = i + j := by omega
      clear hu hy hz hv huq hzq hcq2 hyq hlen2 hi0
      go_wp2
      refine wp_region_held_drew (S := fun w' => w'.cell? ⟨w.heap.size, 0, none⟩ = some (.int .i64 D.q) /\ w'.cell? ⟨w.heap.size, 1, none⟩ = some (.int .i64 D.p) /\ w'.cell? ⟨w.heap.size, 2, none⟩ = some (.int .i64 D.k) /\ w'.cell? ⟨w.heap.size, 3, none⟩ = some (.int .i64 D.m) /\ w'.cell? ⟨bp, op + i, none⟩ = some (.int .i64 c) /\ w'.cell? ⟨bq, oq + j, none⟩ = some (.int .i64 y)) (by kernel_rfl) ⟨i0, i1, i2, i3, ip, iq⟩ (fun hHeld => ?_)
      refine wpAnyH_take (i := 0) (v := ?_) rfl (by kernel_rfl) (by kernel_rfl) (by kernel_rfl) (fun _ _ _ h => h) (Or.inl ⟨by rfl, ?_⟩) (by assumption) ?_
      rotate_left
      ·(intro w hSw; (try dsimp only at hSw); go_simp; (try with_reducible rfl))
      try simp only [Act.put, List.getElem_toArray, List.getElem_cons_succ, List.getElem_cons_zero, List.setIfInBounds_toArray, List.set_cons_zero, List.set_cons_succ]
      refine wpAnyH_take (i := 1) (v := ?_) rfl (by kernel_rfl) (by kernel_rfl) (by kernel_rfl) (fun _ _ _ h => h) (Or.inl ⟨by rfl, ?_⟩) (by assumption) ?_
      rotate_left
      ·(intro w hSw; (try dsimp only at hSw); go_simp; (try with_reducible rfl))
      try simp only [Act.put, List.getElem_toArray, List.getElem_cons_succ, List.getElem_cons_zero, List.setIfInBounds_toArray, List.set_cons_zero, List.set_cons_succ]
      refine wpAnyH_take (i := 2) (v := ?_) rfl (by kernel_rfl) (by kernel_rfl) (by kernel_rfl) (fun _ _ _ h => h) (Or.inl ⟨by rfl, ?_⟩) (by assumption) ?_
      rotate_left
      ·(intro w hSw; (try dsimp only at hSw); go_simp; (try with_reducible rfl))
      try simp only [Act.put, List.getElem_toArray, List.getElem_cons_succ, List.getElem_cons_zero, List.setIfInBounds_toArray, List.set_cons_zero, List.set_cons_succ]
      refine wpAnyH_take (i := 3) (v := ?_) rfl (by kernel_rfl) (by kernel_rfl) (by kernel_rfl) (fun _ _ _ h => h) (Or.inl ⟨by rfl, ?_⟩) (by assumption) ?_
      rotate_left
      ·(intro w hSw; (try dsimp only at hSw); go_simp; (try with_reducible rfl))
      try simp only [Act.put, List.getElem_toArray, List.getElem_cons_succ, List.getElem_cons_zero, List.setIfInBounds_toArray, List.set_cons_zero, List.set_cons_succ]
      refine wpAnyH_take (i := 4) (v := ?_) rfl (by kernel_rfl) (by kernel_rfl) (by kernel_rfl) (fun _ _ _ h => h) (Or.inl ⟨by rfl, ?_⟩) (by assumption) ?_
      rotate_left
      ·(intro w hSw; (try dsimp only at hSw); go_simp; (try with_reducible rfl))
      try simp only [Act.put, List.getElem_toArray, List.getElem_cons_succ, List.getElem_cons_zero, List.setIfInBounds_toArray, List.set_cons_zero, List.set_cons_succ]
      refine wpAnyH_take (i := 5) (v := ?_) rfl (by kernel_rfl) (by kernel_rfl) (by kernel_rfl) (fun _ _ _ h => h) (Or.inl ⟨by rfl, ?_⟩) (by assumption) ?_
      rotate_left
      ·(intro w hSw; (try dsimp only at hSw); go_simp; (try with_reducible rfl))
      try simp only [Act.put, List.getElem_toArray, List.getElem_cons_succ, List.getElem_cons_zero, List.setIfInBounds_toArray, List.set_cons_zero, List.set_cons_succ]
      refine wpAnyH_take (i := 6) (v := ?_) rfl (by kernel_rfl) (by kernel_rfl) (by kernel_rfl) (fun _ _ _ h => h) (Or.inl ⟨by rfl, ?_⟩) (by assumption) ?_
      rotate_left
      ·(intro w hSw; (try dsimp only at hSw); go_simp; (try with_reducible rfl))
      try simp only [Act.put, List.getElem_toArray, List.getElem_cons_succ, List.getElem_cons_zero, List.setIfInBounds_toArray, List.set_cons_zero, List.set_cons_succ]
      refine wpAnyH_take (i := 7) (v := ?_) rfl (by kernel_rfl) (by kernel_rfl) (by kernel_rfl) (fun _ _ _ h => h) (Or.inl ⟨by rfl, ?_⟩) (by assumption) ?_
      rotate_left
      ·(intro w hSw; (try dsimp only at hSw); go_simp; (try with_reducible rfl))
      try simp only [Act.put, List.getElem_toArray, List.getElem_cons_succ, List.getElem_cons_zero, List.setIfInBounds_toArray, List.set_cons_zero, List.set_cons_succ]
      refine wpAnyH_take (i := 8) (v := ?_) rfl (by kernel_rfl) (by kernel_rfl) (by kernel_rfl) (fun _ _ _ h => h) (Or.inl ⟨by rfl, ?_⟩) (by assumption) ?_
      rotate_left
      ·(intro w hSw; (try dsimp only at hSw); go_simp; (try with_reducible rfl))
      try simp only [Act.put, List.getElem_toArray, List.getElem_cons_succ, List.getElem_cons_zero, List.setIfInBounds_toArray, List.set_cons_zero, List.set_cons_succ]
      refine wpAnyH_take (i := 9) (v := ?_) rfl (by kernel_rfl) (by kernel_rfl) (by kernel_rfl) (fun _ _ _ h => h) (Or.inl ⟨by rfl, ?_⟩) (by assumption) ?_
      rotate_left
      ·(intro w hSw; (try dsimp only at hSw); go_simp; (try with_reducible rfl))
      try simp only [Act.put, List.getElem_toArray, List.getElem_cons_succ, List.getElem_cons_zero, List.setIfInBounds_toArray, List.set_cons_zero, List.set_cons_succ]
      refine wpAnyH_take (i := 11) (v := ?_) rfl (by kernel_rfl) (by kernel_rfl) (by kernel_rfl) (fun _ _ _ h => h) (Or.inl ⟨by rfl, ?_⟩) (by assumption) ?_
      rotate_left
      ·(intro w hSw; (try dsimp only at hSw); go_simp; (try with_reducible rfl))
      try simp only [Act.put, List.getElem_toArray, List.getElem_cons_succ, List.getElem_cons_zero, List.setIfInBounds_toArray, List.set_cons_zero, List.set_cons_succ]
      refine wpAnyH_take (i := 12) (v := ?_) rfl (by kernel_rfl) (by kernel_rfl) (by kernel_rfl) (fun _ _ _ h => h) (Or.inl ⟨by rfl, ?_⟩) (by assumption) ?_
      rotate_left
      ·(intro w hSw; (try dsimp only at hSw); go_simp; (try with_reducible rfl))
      try simp only [Act.put, List.getElem_toArray, List.getElem_cons_succ, List.getElem_cons_zero, List.setIfInBounds_toArray, List.set_cons_zero, List.set_cons_succ]
      refine wpAnyH_take (i := 13) (v := ?_) rfl (by kernel_rfl) (by kernel_rfl) (by kernel_rfl) (fun _ _ _ h => h) (Or.inl ⟨by rfl, ?_⟩) (by assumption) ?_
      rotate_left
      ·(intro w hSw; (try dsimp only at hSw); go_simp; (try with_reducible rfl))
      try simp only [Act.put, List.getElem_toArray, List.getElem_cons_succ, List.getElem_cons_zero, List.setIfInBounds_toArray, List.set_cons_zero, List.set_cons_succ]
      refine wpAnyH_take (i := 14) (v := ?_) rfl (by kernel_rfl) (by kernel_rfl) (by kernel_rfl) (fun _ _ _ h => h) (Or.inl ⟨by rfl, ?_⟩) (by assumption) ?_
      rotate_left
      ·(intro w hSw; (try dsimp only at hSw); go_simp; (try with_reducible rfl))
      try simp only [Act.put, List.getElem_toArray, List.getElem_cons_succ, List.getElem_cons_zero, List.setIfInBounds_toArray, List.set_cons_zero, List.set_cons_succ]
      refine wpAnyH_take (i := 15) (v := ?_) rfl (by kernel_rfl) (by kernel_rfl) (by kernel_rfl) (fun _ _ _ h => h) (Or.inl ⟨by rfl, ?_⟩) (by assumption) ?_
      rotate_left
      ·(intro w hSw; (try dsimp only at hSw); go_simp; (try with_reducible rfl))
      try simp only [Act.put, List.getElem_toArray, List.getElem_cons_succ, List.getElem_cons_zero, List.setIfInBounds_toArray, List.set_cons_zero, List.set_cons_succ]
      refine wpAnyH_take (i := 16) (v := ?_) rfl (by kernel_rfl) (by kernel_rfl) (by kernel_rfl) (fun _ _ _ h => h) (Or.inl ⟨by rfl, ?_⟩) (by assumption) ?_
      rotate_left
      ·(intro w hSw; (try dsimp only at hSw); go_simp; (try with_reducible rfl))
      try simp only [Act.put, List.getElem_toArray, List.getElem_cons_succ, List.getElem_cons_zero, List.setIfInBounds_toArray, List.set_cons_zero, List.set_cons_succ]
      refine wpAnyH_take (i := 17) (v := ?_) rfl (by kernel_rfl) (by kernel_rfl) (by kernel_rfl) (fun _ _ _ h => h) (Or.inl ⟨by rfl, ?_⟩) (by assumption) ?_
      rotate_left
      ·(intro w hSw; (try dsimp only at hSw); go_simp; (try with_reducible rfl))
      try simp only [Act.put, List.getElem_toArray, List.getElem_cons_succ, List.getElem_cons_zero, List.setIfInBounds_toArray, List.set_cons_zero, List.set_cons_succ]
      refine wpAnyH_take (i := 18) (v := ?_) rfl (by kernel_rfl) (by kernel_rfl) (by kernel_rfl) (fun _ _ _ h => h) (Or.inl ⟨by rfl, ?_⟩) (by assumption) ?_
      rotate_left
      ·(intro w hSw; (try dsimp only at hSw); go_simp; (try with_reducible rfl))
      try simp only [Act.put, List.getElem_toArray, List.getElem_cons_succ, List.getElem_cons_zero, List.setIfInBounds_toArray, List.set_cons_zero, List.set_cons_succ]
      refine wpAnyH_take (i := 19) (v := ?_) rfl (by kernel_rfl) (by kernel_rfl) (by kernel_rfl) (fun _ _ _ h => h) (Or.inl ⟨by rfl, ?_⟩) (by assumption) ?_
      rotate_left
      ·(intro w hSw; (try dsimp only at hSw); go_simp; (try with_reducible rfl))
      try simp only [Act.put, List.getElem_toArray, List.getElem_cons_succ, List.getElem_cons_zero, List.setIfInBounds_toArray, List.set_cons_zero, List.set_cons_succ]
      refine wpAnyH_ready (rs := [10, 20]) (by kernel_rfl) (by simp) ?_
      refine AllReadyH.cons rfl (fun K hK => ?_) (AllReadyH.cons rfl (fun K hK => ?_) AllReadyH.nil)
      ·go_simp
       refine hK.out _ _ ⟨i0, i1, i2, i3, ip, iq⟩ (fun hHeld => ?_)
       clear hK K
       try simp only [Act.put, List.getElem_toArray, List.getElem_cons_succ, List.getElem_cons_zero, List.setIfInBounds_toArray, List.set_cons_zero, List.set_cons_succ]
       refine wpAnyH_ready (rs := [20]) (by kernel_rfl) (by simp) ?_
       refine (AllReadyH.cons rfl (fun K hK => ?_) AllReadyH.nil)
       go_simp
       refine (hM.out _).mono ?_
       rintro e w2 ⟨hb2, rfl⟩
       have HR2 : Kept (Below wr.heap.size wr w2) := ⟨(Below.refl _ _).drew.trans hb2⟩
       have j0 := belowCell HR2.out i0
       have j1 := belowCell HR2.out i1
       have j2 := belowCell HR2.out i2
       have j3 := belowCell HR2.out i3
       have jp := belowCell HR2.out ip
       have jq := belowCell HR2.out iq
       have t2 := belowCell HR2.out t1
       clear hb2
       refine hK.out _ _ ⟨j0, j1, j2, j3, jp, jq⟩ (fun hHeld => ?_)
       clear hK K
       try simp only [Act.put, List.getElem_toArray, List.getElem_cons_succ, List.getElem_cons_zero, List.setIfInBounds_toArray, List.set_cons_zero, List.set_cons_succ]
       refine wpAnyH_ready (rs := [21]) (by kernel_rfl) (by simp) ?_
       refine (AllReadyH.cons rfl (fun K hK => ?_) AllReadyH.nil)
       go_simp
       refine (hA.out _).mono ?_
       rintro e w3 ⟨hb3, rfl⟩
       have HR3 := Kept.mk (bstep HR2.out hb3)
       have k0 := belowCell hb3 j0
       have k1 := belowCell hb3 j1
       have k2 := belowCell hb3 j2
       have k3 := belowCell hb3 j3
       have kp := belowCell hb3 jp
       have kq := belowCell hb3 jq
       have t3 := belowCell hb3 t2
       have HW3 := Kept.mk (hwv.out.below HR3.out)
       have z3 := HW3.out.free (i + j)
       have HX3 := Kept.mk (hbx.out.below HR3.out)
       have hgs : w3.grownBy (w3.setCell ⟨g, i + j, none⟩ (.int .i64 v)) (some g) := growSet (growRefl _ _) _ _
       have m0 := hgs.cell k0 (by simp; omega)
       have m1 := hgs.cell k1 (by simp; omega)
       have m2 := hgs.cell k2 (by simp; omega)
       have m3 := hgs.cell k3 (by simp; omega)
       have mp := hgs.cell kp (by simpa using hnp)
       have mq := hgs.cell kq (by simpa using hnq)
       have HX4 := Kept.mk (HX3.out.grown hgs (fun k hk => by cases hk; simp; omega))
       clear hb3
       refine hK.out _ _ ⟨k0, k1, k2, k3, kp, kq⟩ (fun hHeld => ?_)
       clear hK K
       try simp only [Act.put, List.getElem_toArray, List.getElem_cons_succ, List.getElem_cons_zero, List.setIfInBounds_toArray, List.set_cons_zero, List.set_cons_succ]
       refine wpAnyH_take (i := 22) (v := ?_) rfl (by kernel_rfl) (by kernel_rfl) (by kernel_rfl) (fun _ _ _ h => h) (Or.inl ⟨by rfl, ?_⟩) (by assumption) ?_
       rotate_left
       ·(intro w hSw; (try dsimp only at hSw); go_simp; (try with_reducible rfl))
       try simp only [Act.put, List.getElem_toArray, List.getElem_cons_succ, List.getElem_cons_zero, List.setIfInBounds_toArray, List.set_cons_zero, List.set_cons_succ]
       refine wpAnyH_ready (rs := [23]) (by kernel_rfl) (by simp) ?_
       refine (AllReadyH.cons rfl (fun K hK => ?_) AllReadyH.nil)
       go_simp
       refine hK.out _ _ ⟨m0, m1, m2, m3, mp, mq⟩ (fun hHeld => ?_)
       clear hK K
       try simp only [Act.put, List.getElem_toArray, List.getElem_cons_succ, List.getElem_cons_zero, List.setIfInBounds_toArray, List.set_cons_zero, List.set_cons_succ]
       refine wpAnyH_done (by kernel_rfl) ?_ _
       go_wp2
       go_roundw
       case rel => exact ⟨j + 1, by omega, by go_num, ⟨by have := HW3.out.set (i := i + j) v; rw [HV.out] at this; exact this⟩, HX4⟩
       case measure => simp [intOf] <;> omega
      ·go_simp
       refine (hM.out _).mono ?_
       rintro e w2 ⟨hb2, rfl⟩
       have HR2 : Kept (Below wr.heap.size wr w2) := ⟨(Below.refl _ _).drew.trans hb2⟩
       have j0 := belowCell HR2.out i0
       have j1 := belowCell HR2.out i1
       have j2 := belowCell HR2.out i2
       have j3 := belowCell HR2.out i3
       have jp := belowCell HR2.out ip
       have jq := belowCell HR2.out iq
       have t2 := belowCell HR2.out t1
       clear hb2
       refine hK.out _ _ ⟨j0, j1, j2, j3, jp, jq⟩ (fun hHeld => ?_)
       clear hK K
       try simp only [Act.put, List.getElem_toArray, List.getElem_cons_succ, List.getElem_cons_zero, List.setIfInBounds_toArray, List.set_cons_zero, List.set_cons_succ]
       refine wpAnyH_ready (rs := [10]) (by kernel_rfl) (by simp) ?_
       refine (AllReadyH.cons rfl (fun K hK => ?_) AllReadyH.nil)
       go_simp
       refine hK.out _ _ ⟨j0, j1, j2, j3, jp, jq⟩ (fun hHeld => ?_)
       clear hK K
       try simp only [Act.put, List.getElem_toArray, List.getElem_cons_succ, List.getElem_cons_zero, List.setIfInBounds_toArray, List.set_cons_zero, List.set_cons_succ]
       refine wpAnyH_ready (rs := [21]) (by kernel_rfl) (by simp) ?_
       refine (AllReadyH.cons rfl (fun K hK => ?_) AllReadyH.nil)
       go_simp
       refine (hA.out _).mono ?_
       rintro e w3 ⟨hb3, rfl⟩
       have HR3 := Kept.mk (bstep HR2.out hb3)
       have k0 := belowCell hb3 j0
       have k1 := belowCell hb3 j1
       have k2 := belowCell hb3 j2
       have k3 := belowCell hb3 j3
       have kp := belowCell hb3 jp
       have kq := belowCell hb3 jq
       have t3 := belowCell hb3 t2
       have HW3 := Kept.mk (hwv.out.below HR3.out)
       have z3 := HW3.out.free (i + j)
       have HX3 := Kept.mk (hbx.out.below HR3.out)
       have hgs : w3.grownBy (w3.setCell ⟨g, i + j, none⟩ (.int .i64 v)) (some g) := growSet (growRefl _ _) _ _
       have m0 := hgs.cell k0 (by simp; omega)
       have m1 := hgs.cell k1 (by simp; omega)
       have m2 := hgs.cell k2 (by simp; omega)
       have m3 := hgs.cell k3 (by simp; omega)
       have mp := hgs.cell kp (by simpa using hnp)
       have mq := hgs.cell kq (by simpa using hnq)
       have HX4 := Kept.mk (HX3.out.grown hgs (fun k hk => by cases hk; simp; omega))
       clear hb3
       refine hK.out _ _ ⟨k0, k1, k2, k3, kp, kq⟩ (fun hHeld => ?_)
       clear hK K
       try simp only [Act.put, List.getElem_toArray, List.getElem_cons_succ, List.getElem_cons_zero, List.setIfInBounds_toArray, List.set_cons_zero, List.set_cons_succ]
       refine wpAnyH_take (i := 22) (v := ?_) rfl (by kernel_rfl) (by kernel_rfl) (by kernel_rfl) (fun _ _ _ h => h) (Or.inl ⟨by rfl, ?_⟩) (by assumption) ?_
       rotate_left
       ·(intro w hSw; (try dsimp only at hSw); go_simp; (try with_reducible rfl))
       try simp only [Act.put, List.getElem_toArray, List.getElem_cons_succ, List.getElem_cons_zero, List.setIfInBounds_toArray, List.set_cons_zero, List.set_cons_succ]
       refine wpAnyH_ready (rs := [23]) (by kernel_rfl) (by simp) ?_
       refine (AllReadyH.cons rfl (fun K hK => ?_) AllReadyH.nil)
       go_simp
       refine hK.out _ _ ⟨m0, m1, m2, m3, mp, mq⟩ (fun hHeld => ?_)
       clear hK K
       try simp only [Act.put, List.getElem_toArray, List.getElem_cons_succ, List.getElem_cons_zero, List.setIfInBounds_toArray, List.set_cons_zero, List.set_cons_succ]
       refine wpAnyH_done (by kernel_rfl) ?_ _
       go_wp2
       go_roundw
       case rel => exact ⟨j + 1, by omega, by go_num, ⟨by have := HW3.out.set (i := i + j) v; rw [HV.out] at this; exact this⟩, HX4⟩
       case measure => simp [intOf] <;> omega
     ·obtain rfl : j = nq := by omega
      go_wp2
      go_roundw
      case rel => exact ⟨i + 1, by omega, by go_num, ⟨by rw [HNX.out]; exact hwv.out⟩, hbx⟩
      case measure => simp [intOf] <;> omega
   ·obtain rfl : i = np := by omega
    have HS := Kept.mk (hwv0.out.sl (n := n) (c := n) (HN.out i).symm (Nat.le_refl _) (by unfold maxLen; omega))
    go_wp2
    go_ret
    exact ⟨hbx0.out.1, _, rfl, HS.out⟩

def minF (D : FFld.FD) (h : FFld.PK D.p D.k D.m) (a : Nat) : Nat -> List Nat
 | 0 => [1]
 | i + 1 => FFld.mulL D (minF D h a i) [FFld.pscl D.p D.k (D.p - 1) (cjg h a i), 1]
def MinT {D : FFld.FD} (h : FFld.PK D.p D.k D.m) (a t : Nat) : Prop := 1 <= t /\ t <= D.k /\ (∀ i, 0 < i -> i < t -> cjg h a i ≠ a) /\ (t < D.k -> cjg h a t = a)
theorem two_sl (W : World) (x y : Int) : Sl .i64 (W.alloc (.cells #[.int .i64 x, .int .i64 y] 3)) (.slice (some ⟨W.heap.size, 0, none⟩) 2 2) [x, y] := by
 refine ⟨_, 2, rfl, Nat.le_refl _, by unfold maxLen; omega, fun i hi => ⟨W.heap.size, 0, rfl, by simp, ?_⟩⟩
 rw [Nat.zero_add]
 exact (Row.new (E := 3) (K := .i64) W [x, y]).cell (i := i) hi
theorem one_sln (W : World) (x : Int) : Sl .i64 (W.alloc (.cells #[.int .i64 x] 3)) (.slice (some ⟨W.heap.size, 0, none⟩) 1 1) [x] := by
 refine ⟨_, 1, rfl, Nat.le_refl _, by unfold maxLen; omega, fun i hi => ⟨W.heap.size, 0, rfl, by simp, ?_⟩⟩
 rw [Nat.zero_add]
 exact (Row.new (E := 3) (K := .i64) W [x]).cell (i := i) hi
end Go.Proofs.YtdnheaafcbihbaaGreat
