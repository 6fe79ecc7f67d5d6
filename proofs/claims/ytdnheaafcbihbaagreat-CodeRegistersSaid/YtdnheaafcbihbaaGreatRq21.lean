/-
  Texts of the proof, merged by program: Cam Csq Cpl Cco Bmp Cmn Pfn Cva.
-/
import Derived.Test.YtdnheaafcbihbaaGreatRq20
import Derived.Laws.CopyOwn
set_option linter.unusedSimpArgs false
set_option linter.unusedVariables false
set_option maxHeartbeats 16000000
namespace Go.Proofs.YtdnheaafcbihbaaGreat
open Go Go.RowKit
open FFld (ints)
theorem md_nat {q r : Nat} (h : r < q) : ((r : Nat) : Int) % (q : Int) = r := Int.emod_eq_of_lt (by omega) (by omega)
set_option maxRecDepth 20000 in
theorem caddMultiple_any {D : FFld.FD} {b g s n cc : Nat} {ao : Option Addr} {cap : Nat} (w0 w : World) (hD : D.Ok) (hf : FldB D w0 b) (hb : Below w0.heap.size w0 w) (hg : w0.heap.size <= g) (xs : List Nat) (hx : Wv w g xs) (hxq : ∀ c ∈ xs, c < D.p ^ D.k)
 (q : List Nat) (hq : Qc g ao q w) (hqq : ∀ c ∈ q, c < D.p ^ D.k) (hs : s + q.length <= xs.length) (hn : q.length <= n) (a : Nat) (ha : a < D.p ^ D.k) (hql : q.length <= 1000000) :
 Calls Tryz.prog 217 #[.pointer (some ⟨b, 0, none⟩), .slice (some ⟨g, s, none⟩) n cc, .slice ao q.length cap, .int .i64 a] w (fun e w' => e = .returned (.tuple #[]) /\ w.grownBy w' (some g) /\ Wv w' g (FFld.addm D xs s q a)) := by
 have hpk := hD.pre.pk
 have hq6 : D.p ^ D.k <= 65536 := hD.pre.small
 have hqd : D.q = D.p ^ D.k := rfl
 have HQ := Kept.mk hq
 have HXQ := Kept.mk (fun j => FFld.addmF_lt (D := D) hpk s q a j hxq)
 have HQQ := Kept.mk hqq
 have HA := Kept.mk ha
 have HPK := Kept.mk hpk
 have HB := Kept.mk hb
 have HX := Kept.mk hx
 have HP := Kept.mk (fun (W : World) (hW : Below w0.heap.size w0 W) (r t : Nat) (h1 : r < D.p ^ D.k) (h2 : t < D.p ^ D.k) => fmul_any (r : Int) (t : Int) W (hf.below hW) (by omega) (by omega) (by omega) (by omega) r t (md_nat h1) (md_nat h2) h1 h2)
 have HS := Kept.mk (fun (W : World) (hW : Below w0.heap.size w0 W) (r t : Nat) (h1 : r < D.p ^ D.k) (h2 : t < D.p ^ D.k) => fadd_any (r : Int) (t : Int) W (hf.below hW) (by omega) (by omega) (by omega) (by omega) r t (md_nat h1) (md_nat h2) h1 h2)
 clear hf hb hx hxq hq hqq ha hpk hqd
 go_enter Tryz.func217, Tryz.ntmps217
 go_wp2
 go_loopw [12] (fun iv wr => ∃ (j : Nat), j <= q.length /\ iv = .int .i64 j /\ Kept (Wv wr g (FFld.addmF D xs s q a j)) /\ Kept (w.grownBy wr (some g))) (fun iv _ => q.length - (intOf iv).toNat)
 case atStart => exact ⟨0, Nat.zero_le _, rfl, HX, ⟨growRefl _ _⟩⟩
 case round =>
  obtain ⟨j, hj, rfl, hwv, hgr⟩ := hrel
  by_cases hlt : j < q.length
  ·obtain ⟨bq, oq, rfl, hne, hbq, hcq⟩ := (HQ.out.grown hgr.out) j hlt
   have HBW := Kept.mk (belowGrow hgr.out HB.out hg)
   have hsz := HBW.out.size
   have hgl := hwv.out.lt
   have hlen := FFld.addmF_len D xs s q a j
   have t1 := hwv.out.cell (i := s + j) (by omega)
   have hqb := FFld.getD_lt (Nat.pow_pos HPK.out.p0) HQQ.out j
   have hub := FFld.getD_lt (Nat.pow_pos HPK.out.p0) (HXQ.out j) (s + j)
   obtain ⟨u, hu⟩ : ∃ u, (FFld.addmF D xs s q a j)[s + j]?.getD 0 = u := ⟨_, rfl⟩
   obtain ⟨y, hy⟩ : ∃ y, q[j]?.getD 0 = y := ⟨_, rfl⟩
   obtain ⟨z, hz⟩ : ∃ z, FFld.pmul D.p D.k D.m y D.k a = z := ⟨_, rfl⟩
   obtain ⟨v, hv⟩ : ∃ v, FFld.padd D.p D.k u z = v := ⟨_, rfl⟩
   have HV : Kept ((FFld.addmF D xs s q a j).set (s + j) v = FFld.addmF D xs s q a (j + 1)) := ⟨by simp only [FFld.addmF]; rw [hu, hy, hz, hv]⟩
   rw [hu] at t1 hub
   rw [hy] at hcq hqb
   have hP := Kept.mk (fun W (hW : Below w0.heap.size w0 W) => HP.out W hW y a hqb HA.out)
   rw [hz] at hP
   have hS := Kept.mk (fun W (hW : Below w0.heap.size w0 W) => HS.out W hW u z hub (by rw [<- hz]; exact FFld.pmul_lt HPK.out _ _ _))
   rw [hv] at hS
   have hjn : j < n := by omega
   clear hu hy hz hv hqb hub hlen
   go_wp2
   refine wp_region_held_drew (S := fun _ => True) (by kernel_rfl) trivial (fun hHeld => ?_)
   refine wpAnyH_take (i := 0) (v := ?_) rfl (by kernel_rfl) (by kernel_rfl) (by kernel_rfl) (fun _ _ _ h => h) (Or.inl ⟨by rfl, ?_⟩) (by assumption) ?_
   rotate_left
   ·(intro w hSw; (try dsimp only at hSw); go_simp; (try with_reducible rfl))
   try simp only [Act.put, List.getElem_toArray, List.getElem_cons_succ, List.getElem_cons_zero, List.setIfInBounds_toArray, List.set_cons_zero, List.set_cons_succ]
   refine wpAnyH_take (i := 1) (v := ?_) rfl (by kernel_rfl) (by kernel_rfl) (by kernel_rfl) (fun _ _ _ h => h) (Or.inl ⟨by rfl, ?_⟩) (by assumption) ?_
   rotate_left
   ·(intro w hSw; (try dsimp only at hSw); go_simp; (try with_reducible rfl))
   try simp only [Act.put, List.getElem_toArray, List.getElem_cons_succ, List.getElem_cons_zero, List.setIfInBounds_toArray, List.set_cons_zero, List.set_cons_succ]
   refine wpAnyH_take (i := 2) (v := ?_) rfl (by kernel_rfl) (by kernel_rfl) (by kernel_rfl) (fun _ _ _ h => h) (Or.inl ⟨by rfl, ?_⟩) (by assumption) ?_
   rotate_left
   ·(intro w hSw; (try dsimp only at hSw); go_simp; (try with_reducible rfl))
   try simp only [Act.put, List.getElem_toArray, List.getElem_cons_succ, List.getElem_cons_zero, List.setIfInBounds_toArray, List.set_cons_zero, List.set_cons_succ]
   refine wpAnyH_take (i := 3) (v := ?_) rfl (by kernel_rfl) (by kernel_rfl) (by kernel_rfl) (fun _ _ _ h => h) (Or.inl ⟨by rfl, ?_⟩) (by assumption) ?_
   rotate_left
   ·(intro w hSw; (try dsimp only at hSw); go_simp; (try with_reducible rfl))
   try simp only [Act.put, List.getElem_toArray, List.getElem_cons_succ, List.getElem_cons_zero, List.setIfInBounds_toArray, List.set_cons_zero, List.set_cons_succ]
   refine wpAnyH_take (i := 4) (v := ?_) rfl (by kernel_rfl) (by kernel_rfl) (by kernel_rfl) (fun _ _ _ h => h) (Or.inl ⟨by rfl, ?_⟩) (by assumption) ?_
   rotate_left
   ·(intro w hSw; (try dsimp only at hSw); go_simp; (try with_reducible rfl))
   try simp only [Act.put, List.getElem_toArray, List.getElem_cons_succ, List.getElem_cons_zero, List.setIfInBounds_toArray, List.set_cons_zero, List.set_cons_succ]
   refine wpAnyH_take (i := 5) (v := ?_) rfl (by kernel_rfl) (by kernel_rfl) (by kernel_rfl) (fun _ _ _ h => h) (Or.inl ⟨by rfl, ?_⟩) (by assumption) ?_
   rotate_left
   ·(intro w hSw; (try dsimp only at hSw); go_simp; (try with_reducible rfl))
   try simp only [Act.put, List.getElem_toArray, List.getElem_cons_succ, List.getElem_cons_zero, List.setIfInBounds_toArray, List.set_cons_zero, List.set_cons_succ]
   refine wpAnyH_take (i := 7) (v := ?_) rfl (by kernel_rfl) (by kernel_rfl) (by kernel_rfl) (fun _ _ _ h => h) (Or.inl ⟨by rfl, ?_⟩) (by assumption) ?_
   rotate_left
   ·(intro w hSw; (try dsimp only at hSw); go_simp; (try with_reducible rfl))
   try simp only [Act.put, List.getElem_toArray, List.getElem_cons_succ, List.getElem_cons_zero, List.setIfInBounds_toArray, List.set_cons_zero, List.set_cons_succ]
   refine wpAnyH_take (i := 8) (v := ?_) rfl (by kernel_rfl) (by kernel_rfl) (by kernel_rfl) (fun _ _ _ h => h) (Or.inl ⟨by rfl, ?_⟩) (by assumption) ?_
   rotate_left
   ·(intro w hSw; (try dsimp only at hSw); go_simp; (try with_reducible rfl))
   try simp only [Act.put, List.getElem_toArray, List.getElem_cons_succ, List.getElem_cons_zero, List.setIfInBounds_toArray, List.set_cons_zero, List.set_cons_succ]
   refine wpAnyH_take (i := 9) (v := ?_) rfl (by kernel_rfl) (by kernel_rfl) (by kernel_rfl) (fun _ _ _ h => h) (Or.inl ⟨by rfl, ?_⟩) (by assumption) ?_
   rotate_left
   ·(intro w hSw; (try dsimp only at hSw); go_simp; (try with_reducible rfl))
   try simp only [Act.put, List.getElem_toArray, List.getElem_cons_succ, List.getElem_cons_zero, List.setIfInBounds_toArray, List.set_cons_zero, List.set_cons_succ]
   refine wpAnyH_ready (rs := [6, 10]) (by kernel_rfl) (by simp) ?_
   refine AllReadyH.cons rfl (fun K hK => ?_) (AllReadyH.cons rfl (fun K hK => ?_) AllReadyH.nil)
   ·go_simp
    refine hK.out _ _ trivial (fun hHeld => ?_)
    clear hK K
    try simp only [Act.put, List.getElem_toArray, List.getElem_cons_succ, List.getElem_cons_zero, List.setIfInBounds_toArray, List.set_cons_zero, List.set_cons_succ]
    refine wpAnyH_ready (rs := [10]) (by kernel_rfl) (by simp) ?_
    refine (AllReadyH.cons rfl (fun K hK => ?_) AllReadyH.nil)
    go_simp
    refine (hP.out _ HBW.out.drew).mono ?_
    rintro e w2 ⟨hb2, rfl⟩
    have HB2 := Kept.mk (bstep HBW.out.drew hb2)
    have HR2 : Kept (Below wr.heap.size wr w2) := ⟨(Below.refl _ _).drew.trans hb2⟩
    have t2 := (HR2.out.cell (p := ⟨g, s + j, none⟩) (by simp only []; omega)).trans t1
    clear hb2
    refine hK.out _ _ trivial (fun hHeld => ?_)
    clear hK K
    try simp only [Act.put, List.getElem_toArray, List.getElem_cons_succ, List.getElem_cons_zero, List.setIfInBounds_toArray, List.set_cons_zero, List.set_cons_succ]
    refine wpAnyH_ready (rs := [11]) (by kernel_rfl) (by simp) ?_
    refine (AllReadyH.cons rfl (fun K hK => ?_) AllReadyH.nil)
    go_simp
    refine (hS.out _ HB2.out).mono ?_
    rintro e w3 ⟨hb3, rfl⟩
    have HB3 := Kept.mk (bstep HB2.out hb3)
    have HR3 := Kept.mk (bstep HR2.out hb3)
    have t3 := (hb3.cell (p := ⟨g, s + j, none⟩) (by have := HR2.out.size; simp only []; omega)).trans t2
    have HW3 := Kept.mk (hwv.out.below HR3.out)
    have z3 := HW3.out.free (s + j)
    clear hb3
    refine hK.out _ _ trivial (fun hHeld => ?_)
    clear hK K
    try simp only [Act.put, List.getElem_toArray, List.getElem_cons_succ, List.getElem_cons_zero, List.setIfInBounds_toArray, List.set_cons_zero, List.set_cons_succ]
    refine wpAnyH_take (i := 12) (v := ?_) rfl (by kernel_rfl) (by kernel_rfl) (by kernel_rfl) (fun _ _ _ h => h) (Or.inl ⟨by rfl, ?_⟩) (by assumption) ?_
    rotate_left
    ·(intro w hSw; (try dsimp only at hSw); go_simp; (try with_reducible rfl))
    try simp only [Act.put, List.getElem_toArray, List.getElem_cons_succ, List.getElem_cons_zero, List.setIfInBounds_toArray, List.set_cons_zero, List.set_cons_succ]
    refine wpAnyH_ready (rs := [13]) (by kernel_rfl) (by simp) ?_
    refine (AllReadyH.cons rfl (fun K hK => ?_) AllReadyH.nil)
    go_simp
    refine hK.out _ _ trivial (fun hHeld => ?_)
    clear hK K
    try simp only [Act.put, List.getElem_toArray, List.getElem_cons_succ, List.getElem_cons_zero, List.setIfInBounds_toArray, List.set_cons_zero, List.set_cons_succ]
    refine wpAnyH_done (by kernel_rfl) ?_ _
    go_wp2
    go_roundw
    case rel => exact ⟨j + 1, by omega, by go_num, ⟨by have := HW3.out.set (i := s + j) v; rw [HV.out] at this; exact this⟩, ⟨growTrans hgr.out (growSet (growBelow HR3.out) _ _)⟩⟩
    case measure => simp [intOf] <;> omega
   ·go_simp
    refine (hP.out _ HBW.out.drew).mono ?_
    rintro e w2 ⟨hb2, rfl⟩
    have HB2 := Kept.mk (bstep HBW.out.drew hb2)
    have HR2 : Kept (Below wr.heap.size wr w2) := ⟨(Below.refl _ _).drew.trans hb2⟩
    have t2 := (HR2.out.cell (p := ⟨g, s + j, none⟩) (by simp only []; omega)).trans t1
    clear hb2
    refine hK.out _ _ trivial (fun hHeld => ?_)
    clear hK K
    try simp only [Act.put, List.getElem_toArray, List.getElem_cons_succ, List.getElem_cons_zero, List.setIfInBounds_toArray, List.set_cons_zero, List.set_cons_succ]
    refine wpAnyH_ready (rs := [6]) (by kernel_rfl) (by simp) ?_
    refine (AllReadyH.cons rfl (fun K hK => ?_) AllReadyH.nil)
    go_simp
    refine hK.out _ _ trivial (fun hHeld => ?_)
    clear hK K
    try simp only [Act.put, List.getElem_toArray, List.getElem_cons_succ, List.getElem_cons_zero, List.setIfInBounds_toArray, List.set_cons_zero, List.set_cons_succ]
    refine wpAnyH_ready (rs := [11]) (by kernel_rfl) (by simp) ?_
    refine (AllReadyH.cons rfl (fun K hK => ?_) AllReadyH.nil)
    go_simp
    refine (hS.out _ HB2.out).mono ?_
    rintro e w3 ⟨hb3, rfl⟩
    have HB3 := Kept.mk (bstep HB2.out hb3)
    have HR3 := Kept.mk (bstep HR2.out hb3)
    have t3 := (hb3.cell (p := ⟨g, s + j, none⟩) (by have := HR2.out.size; simp only []; omega)).trans t2
    have HW3 := Kept.mk (hwv.out.below HR3.out)
    have z3 := HW3.out.free (s + j)
    clear hb3
    refine hK.out _ _ trivial (fun hHeld => ?_)
    clear hK K
    try simp only [Act.put, List.getElem_toArray, List.getElem_cons_succ, List.getElem_cons_zero, List.setIfInBounds_toArray, List.set_cons_zero, List.set_cons_succ]
    refine wpAnyH_take (i := 12) (v := ?_) rfl (by kernel_rfl) (by kernel_rfl) (by kernel_rfl) (fun _ _ _ h => h) (Or.inl ⟨by rfl, ?_⟩) (by assumption) ?_
    rotate_left
    ·(intro w hSw; (try dsimp only at hSw); go_simp; (try with_reducible rfl))
    try simp only [Act.put, List.getElem_toArray, List.getElem_cons_succ, List.getElem_cons_zero, List.setIfInBounds_toArray, List.set_cons_zero, List.set_cons_succ]
    refine wpAnyH_ready (rs := [13]) (by kernel_rfl) (by simp) ?_
    refine (AllReadyH.cons rfl (fun K hK => ?_) AllReadyH.nil)
    go_simp
    refine hK.out _ _ trivial (fun hHeld => ?_)
    clear hK K
    try simp only [Act.put, List.getElem_toArray, List.getElem_cons_succ, List.getElem_cons_zero, List.setIfInBounds_toArray, List.set_cons_zero, List.set_cons_succ]
    refine wpAnyH_done (by kernel_rfl) ?_ _
    go_wp2
    go_roundw
    case rel => exact ⟨j + 1, by omega, by go_num, ⟨by have := HW3.out.set (i := s + j) v; rw [HV.out] at this; exact this⟩, ⟨growTrans hgr.out (growSet (growBelow HR3.out) _ _)⟩⟩
    case measure => simp [intOf] <;> omega
  ·obtain rfl : j = q.length := by omega
   go_wp2
   go_end0
   exact ⟨rfl, hgr.out, hwv.out⟩
theorem splice_padF (n : Nat) (l : List Nat) (h : l.length <= n) : splice ((ints (List.replicate n 0)).map (Value.int .i64)) 0 ((ints l).map (Value.int .i64)) = (ints (FFld.padF l n)).map (Value.int .i64) := by
 unfold splice FFld.padF ints
 simp [List.map_append, List.drop_replicate]
theorem csize_i64 : (Tryz.prog.info? 3).map (·.size) = some 1 := by kernel_rfl
theorem csrc {w : World} {ao : Option Addr} {n cap : Nat} {xs : List Int} (h : Sl .i64 w (.slice ao n cap) xs) (hl : 0 < xs.length) : ∃ ad, ao = some ad /\ ∀ j u, (xs.map (Value.int .i64))[j]? = some u -> w.cell? (ad.add j) = some u := by
 have h' := h
 obtain ⟨ao', cap', e, hc, hm, hx⟩ := h
 cases e
 obtain ⟨b, o, rfl, _, _⟩ := hx 0 hl
 exact ⟨_, rfl, h'.news⟩
set_option maxRecDepth 20000 in
theorem cpadded_any (ao : Option Addr) (cap : Nat) (l : List Nat) (n : Nat) (w : World) (h : Sl .i64 w (.slice ao l.length cap) (ints l)) (hl : l.length <= n) (hn : n <= 1000000) :
 Calls Tryz.prog 89 #[.slice ao l.length cap, .int .i64 n] w (fun e w' => Below w.heap.size w w' /\ e = .returned (.slice (some ⟨w.heap.size, 0, none⟩) n n) /\ Wv w' w.heap.size (FFld.padF l n)) := by
 have hmk := run_make_row' (P := Tryz.prog) 22 3 (.int .i64 0) 8 Tryz.underlying22 info_i64 rfl .i64 .i64 n (by omega) (by omega)
 obtain ⟨nl, hnl⟩ : ∃ nl, l.length = nl := ⟨_, rfl⟩
 have HL := Kept.mk hl
 have HNL := Kept.mk hnl
 have HS := Kept.mk h
 rw [hnl] at HS ⊢
 clear h hnl
 have hr : (w.alloc (.cells (madeCells #[.int .i64 0] n) 3)).heap[w.heap.size]? = some (.cells ((ints (List.replicate n 0)).map (Value.int .i64)).toArray 3 (0, 0)) := by rw [<- made_zeros]; exact heap_alloc_new w _
 have hal : Below w.heap.size w (w.alloc (.cells (madeCells #[.int .i64 0] n) 3)) := (Below.refl _ _).alloc (Nat.le_refl _) _
 go_enter Tryz.func89, Tryz.ntmps89
 go_upto_region 2 with fail
 obtain ⟨g, hg⟩ : ∃ g, w.heap.size = g := ⟨_, rfl⟩
 obtain ⟨W1, hW1⟩ : ∃ W, w.alloc (.cells (madeCells #[.int .i64 0] n) 3) = W := ⟨_, rfl⟩
 rw [hW1] at hr hal
 try rw [hW1]
 have hS1 := HS.out.below hal
 rw [hg] at hr hal
 try rw [hg]
 have HGG := Kept.mk hg
 clear hW1 hmk
 obtain ⟨cs, hcs⟩ : ∃ cs, cs = (ints l).map (Value.int .i64) := ⟨_, rfl⟩
 have HCS := Kept.mk hcs
 have HCL : Kept (cs.length = nl) := ⟨by rw [hcs, List.length_map, FFld.ints_len, HNL.out]⟩
 have HONE : Kept (∀ v ∈ cs, v.oneCell' = true) := ⟨fun v hv => by
  rw [HCS.out] at hv
  obtain ⟨a, _, rfl⟩ := List.mem_map.1 hv
  rfl⟩
 have HPOS : Kept (0 < cs.length -> ∃ ad, ao = some ad /\ ∀ j u, cs[j]? = some u -> W1.cell? (ad.add j) = some u) := ⟨fun h => by
  rw [HCL.out] at h
  rw [HCS.out]
  exact csrc hS1 (by rw [FFld.ints_len, HNL.out]; exact h)⟩
 have HR := Kept.mk hr
 have HAL := Kept.mk hal
 have hnn : nl <= n := by have := HL.out; rw [HNL.out] at this; exact this
 clear hcs hr hal hS1 hg
 go_wp2_with (refine wpList_copy_splice (o := ⟨some 10, _, _, _, _, _⟩) rfl (.tmp 8) (.tmp 9) 22 22 rfl 3 Tryz.underlying22 csize_i64 _ _ n n nl cap rfl rfl g 0 ((ints (List.replicate n 0)).map (Value.int .i64)) 3 HR.out cs (by show _ = min _ _; rw [HCL.out]; exact (Nat.min_eq_left hnn).symm) (fun h => ⟨rfl, HPOS.out h⟩) (by rw [HCL.out]; simp [FFld.ints_len]; exact hnn) HONE.out g W1 (Below.refl _ _) (Nat.le_refl _) ?_)
 intro w6 hr6 hb6
 have HB6 : Kept (Below g w w6) := ⟨HAL.out.trans hb6⟩
 have HW6 : Kept (Wv w6 g (FFld.padF l n)) := ⟨by
  have h1 := hr6.out
  rw [HCS.out, splice_padF n _ HL.out] at h1
  exact Row.wv (show Row 3 .i64 w6 g (ints (FFld.padF l n)) from h1)⟩
 clear hr6 hb6
 go_wp2
 go_ret
 rw [HGG.out]
 exact ⟨HB6.out, rfl, HW6.out⟩
theorem qc_of {w w' : World} {g : Nat} {ao : Option Addr} {cap n : Nat} {l : List Nat} (h : Sl .i64 w (.slice ao n cap) (ints l)) (hb : Below w.heap.size w w') (hg : w.heap.size <= g) : Qc g ao l w' := fun i hi => by
 obtain ⟨ao', cap', e, hc, hm, hx⟩ := h
 cases e
 obtain ⟨b, o, rfl, h1, h2⟩ := hx i (by rw [FFld.ints_len]; exact hi)
 rw [FFld.ints_get] at h2
 exact ⟨b, o, rfl, by omega, Nat.lt_of_lt_of_le h1 hb.size, (hb.cell (p := ⟨b, o + i, none⟩) h1).trans h2⟩
end Go.Proofs.YtdnheaafcbihbaaGreat
namespace Go.Proofs.YtdnheaafcbihbaaGreat
open Go Go.RowKit Go.Deep
open FFld (ints)
namespace FFld
def difF (D : FD) (c s : List Nat) (i : Nat) : Nat -> Nat
 | 0 => 0
 | j + 1 => padd D.p D.k (difF D c s i j) (pmul D.p D.k D.m (c[j]?.getD 0) D.k (s[i - j]?.getD 0))
theorem difF_lt {D : FD} (hk : PK D.p D.k D.m) (c s : List Nat) (i : Nat) : ∀ j, difF D c s i j < D.p ^ D.k
 | 0 => Nat.pow_pos hk.p0
 | j + 1 => padd_lt hk _ _
end FFld
set_option maxRecDepth 20000 in
theorem cdifference_any {D : FFld.FD} {b : Nat} (hD : D.Ok) (ac as_ : Option Addr) (cc cs i : Nat) (cl sl : List Nat) (w : World) (hf : FldB D w b) (hc : Sl .i64 w (.slice ac cl.length cc) (ints cl)) (hs : Sl .i64 w (.slice as_ sl.length cs) (ints sl)) (hcq : ∀ a ∈ cl, a < D.p ^ D.k) (hsq : ∀ a ∈ sl, a < D.p ^ D.k) (hci : cl.length <= i + 1) (hi : i < sl.length) (hsl : sl.length <= 1000) :
 Calls Tryz.prog 126 #[.pointer (some ⟨b, 0, none⟩), .slice ac cl.length cc, .slice as_ sl.length cs, .int .i64 i] w (RB w (.int .i64 (FFld.difF D cl sl i cl.length : Nat))) := by
 have hq6 : D.p ^ D.k <= 65536 := hD.pre.small
 have HP := Kept.mk (fun (W : World) (hW : Below w.heap.size w W) (r t : Nat) (h1 : r < D.p ^ D.k) (h2 : t < D.p ^ D.k) => fmul_any (r : Int) (t : Int) W (hf.below hW) (by omega) (by omega) (by omega) (by omega) r t (md_nat h1) (md_nat h2) h1 h2)
 have HS := Kept.mk (fun (W : World) (hW : Below w.heap.size w W) (r t : Nat) (h1 : r < D.p ^ D.k) (h2 : t < D.p ^ D.k) => fadd_any (r : Int) (t : Int) W (hf.below hW) (by omega) (by omega) (by omega) (by omega) r t (md_nat h1) (md_nat h2) h1 h2)
 have HCS := Kept.mk hc
 have HSS := Kept.mk hs
 have HCQ := Kept.mk (fun j => FFld.getD_lt (Nat.pow_pos hD.pre.pk.p0) hcq j)
 have HSQ := Kept.mk (fun j => FFld.getD_lt (Nat.pow_pos hD.pre.pk.p0) hsq j)
 have HDL := Kept.mk (fun j => FFld.difF_lt (D := D) hD.pre.pk cl sl i j)
 have HML := Kept.mk (fun x y => FFld.pmul_lt (p := D.p) (k := D.k) (m := D.m) hD.pre.pk x D.k y)
 obtain ⟨n, hn⟩ : ∃ n, cl.length = n := ⟨_, rfl⟩
 obtain ⟨m, hm⟩ : ∃ m, sl.length = m := ⟨_, rfl⟩
 rw [hn] at HCS hci ⊢
 rw [hm] at HSS hi hsl ⊢
 have HN := Kept.mk hn
 have HM := Kept.mk hm
 clear hf hc hs hcq hsq hn hm
 go_enter Tryz.func126, Tryz.ntmps126
 go_wp2
 go_loopw [9, 14] (fun tv jv wr => ∃ (j t : Nat), j <= n /\ jv = .int .i64 j /\ tv = .int .i64 t /\ Kept (FFld.difF D cl sl i j = t) /\ Kept (Below w.heap.size w wr)) (fun _ jv _ => n - (intOf jv).toNat)
 case atStart => exact ⟨0, 0, Nat.zero_le _, rfl, rfl, ⟨rfl⟩, ⟨Below.refl _ _⟩⟩
 case round =>
  obtain ⟨j, t, hj, rfl, rfl, hat, hbw⟩ := hrel
  by_cases hlt : j < n
  ·obtain ⟨ac', cc', e, hcc, hmc, hxc⟩ := HCS.out.below hbw.out
   simp only [Value.slice.injEq] at e
   obtain ⟨rfl, e2, rfl⟩ := e
   obtain ⟨as', cs', e', hcs, hms, hxs⟩ := HSS.out.below hbw.out
   simp only [Value.slice.injEq] at e'
   obtain ⟨rfl, e2', rfl⟩ := e'
   clear e2 e2'
   obtain ⟨bc, oc, rfl, hbc, hcell⟩ := hxc j (by rw [FFld.ints_len, HN.out]; exact hlt)
   obtain ⟨bs, os, rfl, hbs, hcell2⟩ := hxs (i - j) (by rw [FFld.ints_len, HM.out]; omega)
   rw [FFld.ints_get] at hcell hcell2
   rw [FFld.ints_len, HN.out] at hcc
   rw [FFld.ints_len, HM.out] at hcs
   unfold maxLen at hmc hms
   have h1 := HCQ.out j
   have h2 := HSQ.out (i - j)
   have h3 := HDL.out j
   have HNX : Kept (FFld.difF D cl sl i (j + 1) = FFld.padd D.p D.k t (FFld.pmul D.p D.k D.m (cl[j]?.getD 0) D.k (sl[i - j]?.getD 0))) := ⟨by rw [<- hat.out]; rfl⟩
   rw [hat.out] at h3
   obtain ⟨c, hc⟩ : ∃ c, cl[j]?.getD 0 = c := ⟨_, rfl⟩
   obtain ⟨s, hs⟩ : ∃ s, sl[i - j]?.getD 0 = s := ⟨_, rfl⟩
   rw [hc] at h1 hcell HNX
   rw [hs] at h2 hcell2 HNX
   have HMU := Kept.mk (HP.out wr hbw.out c s h1 h2)
   have h4 := HML.out c s
   obtain ⟨z, hz⟩ : ∃ z, FFld.pmul D.p D.k D.m c D.k s = z := ⟨_, rfl⟩
   rw [hz] at HMU HNX h4
   have HAD := Kept.mk (fun W hW => HS.out W hW t z h3 h4)
   obtain ⟨v, hv⟩ : ∃ v, FFld.padd D.p D.k t z = v := ⟨_, rfl⟩
   rw [hv] at HAD HNX
   have hij : j <= i := by omega
   have e1 : (i : Int) - (j : Int) = ((i - j : Nat) : Int) := by omega
   have him : i - j < m := by omega
   clear hc hs hz hv hxc hxs h1 h2 h3 h4 hat
   go_wp2_with fail
   (with_reducible refine HMU.out.mono ?_)
   rintro e w2 ⟨hb2, rfl⟩
   have HB2 := Kept.mk (bstep hbw.out hb2)
   have HA2 := Kept.mk (HAD.out w2 HB2.out)
   clear hb2
   go_wp2_with fail
   (with_reducible refine HA2.out.mono ?_)
   rintro e w3 ⟨hb3, rfl⟩
   have HB3 := Kept.mk (bstep HB2.out hb3)
   clear hb3
   go_wp2
   go_roundw
   case rel => exact ⟨j + 1, v, by omega, by go_num, rfl, HNX, HB3⟩
   case measure => simp [intOf] <;> omega
  ·obtain rfl : j = n := by omega
   go_wp2
   go_ret
   exact ⟨hbw.out, by rw [hat.out]; rfl⟩
open Classical in
noncomputable def seqE (o : Int) (xs : List Int) : Nat := if FFld.Fit o then (if 200 < xs.length then 2 else if belB o xs = false then 1 else 0) else 20
set_option maxRecDepth 20000 in
theorem ccheckSeq_any (o : Int) (ao : Option Addr) (cap : Nat) (xs : List Int) (w : World) (h : Sl .i64 w (.slice ao xs.length cap) xs) (o0 : -9223372036854775808 <= o) (o1 : o <= 9223372036854775807) :
 Calls Tryz.prog 125 #[.int .i64 o, .slice ao xs.length cap] w (RB w (.int .i64 (seqE o xs : Nat))) := by
 have HO := Kept.mk (fun W => ccheckOrder_any o W o0 o1)
 have HS := Kept.mk h
 have hm : xs.length <= 9223372036854775807 := by
  obtain ⟨_, _, e, h1, h2, _⟩ := h
  unfold maxLen at h2
  omega
 have HC0 : Kept (¬ FFld.Fit o -> seqE o xs = 20) := ⟨fun hn => by unfold seqE; rw [if_neg hn]⟩
 have HC1 : Kept (FFld.Fit o -> 200 < xs.length -> seqE o xs = 2) := ⟨fun hn h1 => by unfold seqE; rw [if_pos hn, if_pos h1]⟩
 have HC2 : Kept (FFld.Fit o -> ¬ 200 < xs.length -> belB o xs = false -> seqE o xs = 1) := ⟨fun hn h1 h2 => by unfold seqE; rw [if_pos hn, if_neg h1, if_pos h2]⟩
 have HC3 : Kept (FFld.Fit o -> ¬ 200 < xs.length -> ¬ (belB o xs = false) -> seqE o xs = 0) := ⟨fun hn h1 h2 => by unfold seqE; rw [if_pos hn, if_neg h1, if_neg h2]⟩
 obtain ⟨r, hr⟩ : ∃ r, seqE o xs = r := ⟨_, rfl⟩
 rw [hr] at HC0 HC1 HC2 HC3 ⊢
 obtain ⟨n, hn⟩ : ∃ n, xs.length = n := ⟨_, rfl⟩
 rw [hn] at HS HC1 HC2 HC3 hm ⊢
 clear h hr hn
 go_enter Tryz.func125, Tryz.ntmps125
 go_wp2_with fail
 refine (HO.out _).mono ?_
 rintro e w1 ⟨hb1, ⟨hf, rfl⟩ | ⟨hf, rfl⟩⟩
 ·have HB1 := Kept.mk hb1
  replace HC1 := Kept.mk (HC1.out hf)
  replace HC2 := Kept.mk (HC2.out hf)
  replace HC3 := Kept.mk (HC3.out hf)
  have HS1 := Kept.mk (HS.out.below hb1)
  clear hb1 hf HC0 HO
  by_cases h64 : 200 < n
  ·have d1 : decide ((200 : Int) < n) = true := decide_eq_true (by omega)
   obtain rfl := HC1.out h64
   go_wp2
   go_ret
   exact ⟨HB1.out, rfl⟩
  ·have d1 : decide ((200 : Int) < n) = false := decide_eq_false (by omega)
   have HA := Kept.mk (careBelow_any o _ xs w1 HS1.out)
   obtain ⟨t, ht⟩ : ∃ t, belB o xs = t := ⟨_, rfl⟩
   rw [ht] at HA HC2 HC3
   clear ht
   go_wp2_with fail
   (with_reducible refine HA.out.mono ?_)
   rintro e w2 ⟨rfl, rfl⟩
   cases t with
   | false =>
     obtain rfl := HC2.out h64 rfl
     go_wp2
     go_ret
     exact ⟨HB1.out, rfl⟩
   | true =>
     obtain rfl := HC3.out h64 (by simp)
     go_wp2
     go_ret
     exact ⟨HB1.out, rfl⟩
 ·have HB1 := Kept.mk hb1
  obtain rfl := HC0.out hf
  clear hb1 hf
  go_wp2
  go_ret
  exact ⟨HB1.out, rfl⟩
end Go.Proofs.YtdnheaafcbihbaaGreat
namespace Go.Proofs.YtdnheaafcbihbaaGreat
open Go Go.RowKit
open FFld (ints)
set_option maxRecDepth 20000 in
theorem cplus_any {D : FFld.FD} {b : Nat} (hD : D.Ok) (ap aq : Option Addr) (cp cq : Nat) (pl ql : List Nat) (c s : Nat) (w : World) (hf : FldB D w b) (hp : Sl .i64 w (.slice ap pl.length cp) (ints pl)) (hq : Sl .i64 w (.slice aq ql.length cq) (ints ql)) (hpq : ∀ a ∈ pl, a < D.p ^ D.k) (hqq : ∀ a ∈ ql, a < D.p ^ D.k) (hc : c < D.p ^ D.k) (hl : pl.length <= 1000) (hl2 : s + ql.length <= 1000) :
 Calls Tryz.prog 165 #[.pointer (some ⟨b, 0, none⟩), .slice ap pl.length cp, .slice aq ql.length cq, .int .i64 c, .int .i64 s] w (fun e w' => Below w.heap.size w w' /\ e = .returned (.slice (some ⟨w.heap.size, 0, none⟩) (FFld.plusF D pl ql c s).length (max pl.length (s + ql.length))) /\ Wv w' w.heap.size (FFld.plusF D pl ql c s)) := by
 have hq6 : D.p ^ D.k <= 65536 := hD.pre.small
 obtain ⟨N, hN⟩ : ∃ N, max pl.length (s + ql.length) = N := ⟨_, rfl⟩
 have hN1 : pl.length <= N := by omega
 have hN2 : s + ql.length <= N := by omega
 have hN3 : N <= 1000 := by omega
 have HPD := Kept.mk (cpadded_any ap cp pl N w hp hN1 (by omega))
 have HNN := Kept.mk hN
 have eN1 : (max (pl.length : Int) ((s : Int) + (ql.length : Int))) = N := by omega
 have HAMB := Kept.mk (fun (W : World) (hW : Below w.heap.size w W) (hr : Wv W w.heap.size (FFld.padF pl N)) => caddMultiple_any (s := s) (n := N - s) (cc := N - s) (cap := cq) w W hD hf hW (Nat.le_refl _) (FFld.padF pl N) hr (FFld.padF_lt (Nat.pow_pos hD.pre.pk.p0) hpq N) ql (qc_of hq hW (Nat.le_refl _)) hqq (by rw [FFld.padF_len hN1]; exact hN2) (by omega) c hc (by omega))
 have HAMA := Kept.mk (fun (hsN : s = N) (W : World) (hW : Below w.heap.size w W) (hr : Wv W w.heap.size (FFld.padF pl N)) => caddMultiple_any (s := 0) (n := 0) (cc := 0) (cap := cq) w W hD hf hW (Nat.le_refl _) (FFld.padF pl N) hr (FFld.padF_lt (Nat.pow_pos hD.pre.pk.p0) hpq N) ql (qc_of hq hW (Nat.le_refl _)) hqq (by rw [FFld.padF_len hN1]; omega) (by omega) c hc (by omega))
 have HAE : Kept (s = N -> FFld.addm D (FFld.padF pl N) 0 ql c = FFld.addm D (FFld.padF pl N) s ql c) := ⟨fun hsN => by
  have e : ql = [] := List.eq_nil_of_length_eq_zero (by omega)
  rw [e]
  rfl⟩
 have HPF : Kept ((FFld.addm D (FFld.padF pl N) s ql c).length = N) := ⟨by rw [FFld.addm_len, FFld.padF_len hN1]⟩
 have HPE : Kept (FFld.plusF D pl ql c s = FFld.trm (FFld.addm D (FFld.padF pl N) s ql c)) := ⟨by unfold FFld.plusF; rw [hN]⟩
 obtain ⟨np, hnp⟩ : ∃ n, pl.length = n := ⟨_, rfl⟩
 obtain ⟨nq, hnq⟩ : ∃ n, ql.length = n := ⟨_, rfl⟩
 rw [hnp] at eN1 hN1 HPD ⊢
 rw [hnq] at eN1 hN2 HAMA HAMB ⊢
 rw [hnp, hnq] at hN
 rw [hN]
 obtain ⟨g, hg⟩ : ∃ g, w.heap.size = g := ⟨_, rfl⟩
 have HGG := Kept.mk hg
 rw [hg] at HAMA HAMB HPD
 have hc6 : c <= 65536 := by omega
 clear hf hp hq hpq hqq hc hnp hnq hl hl2 hN
 go_enter Tryz.func165, Tryz.ntmps165
 by_cases hsN : s = N
 ·obtain rfl : N = s := hsN.symm
  rcases Nat.lt_or_ge np (N + nq) with hm | hm
  ·have hq0 : nq = 0 := by omega
   subst hq0
   have dm : (np : Int) < N := by omega
   clear eN1
   go_wp2_with fail
   try rw [Int.max_eq_right (Int.le_of_lt dm)]
   (with_reducible refine HPD.out.mono ?_)
   rintro e w1 ⟨hb1, rfl, hr1⟩
   have HB1 := Kept.mk hb1
   have HAM1 := Kept.mk (HAMA.out (by first | rfl | trivial) w1 (HGG.out ▸ hb1) hr1)
   clear hb1 hr1 HAMA HAMB HPD
   go_wp2_with fail
   (with_reducible refine HAM1.out.mono ?_)
   rintro e w2 ⟨rfl, hgr, hw2⟩
   rw [HAE.out (by first | rfl | trivial)] at hw2
   have HB2 : Kept (Below w.heap.size w w2) := ⟨belowGrow hgr (by rw [HGG.out]; exact HB1.out) (by rw [HGG.out]; exact Nat.le_refl _)⟩
   have HT := Kept.mk (ctrimmed_any (FFld.addm D (FFld.padF pl N) N ql c) (some ⟨g, 0, none⟩) N w2 (hw2.sl rfl (by rw [HPF.out]; exact Nat.le_refl _) (by unfold maxLen; omega)))
   have HW2 := Kept.mk hw2
   rw [HPF.out, <- HPE.out] at HT
   clear hgr hw2
   go_wp2_with fail
   (with_reducible refine HT.out.mono ?_)
   rintro e w3 ⟨rfl, rfl⟩
   go_wp2
   go_ret
   rw [HGG.out]
   refine ⟨by rw [<- HGG.out]; exact HB2.out, rfl, ?_⟩
   rw [HPE.out]
   exact HW2.out.take _
  ·have hq0 : nq = 0 := by omega
   subst hq0
   obtain rfl : np = N := by omega
   clear eN1
   go_wp2_with fail
   (with_reducible refine HPD.out.mono ?_)
   rintro e w1 ⟨hb1, rfl, hr1⟩
   have HB1 := Kept.mk hb1
   have HAM1 := Kept.mk (HAMA.out (by first | rfl | trivial) w1 (HGG.out ▸ hb1) hr1)
   clear hb1 hr1 HAMA HAMB HPD
   go_wp2_with fail
   (with_reducible refine HAM1.out.mono ?_)
   rintro e w2 ⟨rfl, hgr, hw2⟩
   rw [HAE.out (by first | rfl | trivial)] at hw2
   have HB2 : Kept (Below w.heap.size w w2) := ⟨belowGrow hgr (by rw [HGG.out]; exact HB1.out) (by rw [HGG.out]; exact Nat.le_refl _)⟩
   have HT := Kept.mk (ctrimmed_any (FFld.addm D (FFld.padF pl np) np ql c) (some ⟨g, 0, none⟩) np w2 (hw2.sl rfl (by rw [HPF.out]; exact Nat.le_refl _) (by unfold maxLen; omega)))
   have HW2 := Kept.mk hw2
   rw [HPF.out, <- HPE.out] at HT
   clear hgr hw2
   go_wp2_with fail
   (with_reducible refine HT.out.mono ?_)
   rintro e w3 ⟨rfl, rfl⟩
   go_wp2
   go_ret
   rw [HGG.out]
   refine ⟨by rw [<- HGG.out]; exact HB2.out, rfl, ?_⟩
   rw [HPE.out]
   exact HW2.out.take _
 ·rcases Nat.lt_or_ge np (s + nq) with hm | hm
  ·have eN2 : (s : Int) + (nq : Int) = N := by omega
   have dm : (np : Int) < N := by omega
   have hsn : s < N := by omega
   clear eN1
   go_wp2_with fail
   try rw [Int.max_eq_right (Int.le_of_lt dm)]
   (with_reducible refine HPD.out.mono ?_)
   rintro e w1 ⟨hb1, rfl, hr1⟩
   have HB1 := Kept.mk hb1
   have HAM1 := Kept.mk (HAMB.out w1 (HGG.out ▸ hb1) hr1)
   clear hb1 hr1 HAMA HAMB HPD
   go_wp2_with fail
   (with_reducible refine HAM1.out.mono ?_)
   rintro e w2 ⟨rfl, hgr, hw2⟩
   have HB2 : Kept (Below w.heap.size w w2) := ⟨belowGrow hgr (by rw [HGG.out]; exact HB1.out) (by rw [HGG.out]; exact Nat.le_refl _)⟩
   have HT := Kept.mk (ctrimmed_any (FFld.addm D (FFld.padF pl N) s ql c) (some ⟨g, 0, none⟩) N w2 (hw2.sl rfl (by rw [HPF.out]; exact Nat.le_refl _) (by unfold maxLen; omega)))
   have HW2 := Kept.mk hw2
   rw [HPF.out, <- HPE.out] at HT
   clear hgr hw2
   go_wp2_with fail
   (with_reducible refine HT.out.mono ?_)
   rintro e w3 ⟨rfl, rfl⟩
   go_wp2
   go_ret
   rw [HGG.out]
   refine ⟨by rw [<- HGG.out]; exact HB2.out, rfl, ?_⟩
   rw [HPE.out]
   exact HW2.out.take _
  ·obtain rfl : np = N := by omega
   have dm : (s : Int) + (nq : Int) <= np := by omega
   have hsn : s < np := by omega
   clear eN1
   go_wp2_with fail
   try rw [Int.max_eq_left dm]
   (with_reducible refine HPD.out.mono ?_)
   rintro e w1 ⟨hb1, rfl, hr1⟩
   have HB1 := Kept.mk hb1
   have HAM1 := Kept.mk (HAMB.out w1 (HGG.out ▸ hb1) hr1)
   clear hb1 hr1 HAMA HAMB HPD
   go_wp2_with fail
   (with_reducible refine HAM1.out.mono ?_)
   rintro e w2 ⟨rfl, hgr, hw2⟩
   have HB2 : Kept (Below w.heap.size w w2) := ⟨belowGrow hgr (by rw [HGG.out]; exact HB1.out) (by rw [HGG.out]; exact Nat.le_refl _)⟩
   have HT := Kept.mk (ctrimmed_any (FFld.addm D (FFld.padF pl np) s ql c) (some ⟨g, 0, none⟩) np w2 (hw2.sl rfl (by rw [HPF.out]; exact Nat.le_refl _) (by unfold maxLen; omega)))
   have HW2 := Kept.mk hw2
   rw [HPF.out, <- HPE.out] at HT
   clear hgr hw2
   go_wp2_with fail
   (with_reducible refine HT.out.mono ?_)
   rintro e w3 ⟨rfl, rfl⟩
   go_wp2
   go_ret
   rw [HGG.out]
   refine ⟨by rw [<- HGG.out]; exact HB2.out, rfl, ?_⟩
   rw [HPE.out]
   exact HW2.out.take _
end Go.Proofs.YtdnheaafcbihbaaGreat
namespace Go.Proofs.YtdnheaafcbihbaaGreat
open Go Go.RowKit Go.Deep
open FFld (ints)
structure CapAt (b g : Nat) (oa : Option Addr) (on oc last : Nat) (since : Int) (w : World) : Prop where
 f : w.heap[g]? = some (.cells #[.pointer (some ⟨b, 0, none⟩)] 105 (0, 0))
 old : w.heap[g + 1]? = some (.cells #[.slice oa on oc] 22 (0, 0))
 last : w.heap[g + 2]? = some (.cells #[.int .i64 last] 3 (0, 0))
 since : w.heap[g + 3]? = some (.cells #[.int .i64 since] 3 (0, 0))
theorem CapAt.below {b g : Nat} {oa : Option Addr} {on oc last : Nat} {since : Int} {w w' : World} (h : CapAt b g oa on oc last since w) (hb : Below w.heap.size w w') : CapAt b g oa on oc last since w' :=
 ⟨(hb.block _ (Array.getElem?_eq_some_iff.1 h.f).1).trans h.f, (hb.block _ (Array.getElem?_eq_some_iff.1 h.old).1).trans h.old, (hb.block _ (Array.getElem?_eq_some_iff.1 h.last).1).trans h.last, (hb.block _ (Array.getElem?_eq_some_iff.1 h.since).1).trans h.since⟩
theorem one_cell_ {w : World} {g : Nat} {a : Value} {T : TypeId} (h : w.heap[g]? = some (.cells #[a] T (0, 0))) : w.cell? ⟨g, 0, none⟩ = some a := by
 rw [cell_of_row w g 0 _ T (0, 0) h]
 rfl
abbrev cofn (g : Nat) : Value := .func (.func 229) #[] #[.pointer (some ⟨g, 0, none⟩), .pointer (some ⟨g + 2, 0, none⟩), .pointer (some ⟨g + 1, 0, none⟩), .pointer (some ⟨g + 3, 0, none⟩)]
set_option maxRecDepth 20000 in
theorem ccorr_any (b : Nat) (oa : Option Addr) (on oc last : Nat) (since : Int) (w : World) :
 Calls Tryz.prog 189 #[.pointer (some ⟨b, 0, none⟩), .slice oa on oc, .int .i64 last, .int .i64 since] w (fun e w' => Below w.heap.size w w' /\ e = .returned (cofn w.heap.size) /\ CapAt b w.heap.size oa on oc last since w') := by
 have hmf : ∀ (fn : Fn) (first cap : Array Value) (w : World), (Instr.makeFunc fn first cap).run Tryz.prog w = .ok (.func fn first cap) w := fun _ _ _ _ => rfl
 obtain ⟨W, hW⟩ : ∃ W, (((w.alloc (.cells #[.pointer (some ⟨b, 0, none⟩)] 105)).alloc (.cells #[.slice oa on oc] 22)).alloc (.cells #[.int .i64 last] 3)).alloc (.cells #[.int .i64 since] 3) = W := ⟨_, rfl⟩
 have HX : Kept (Bxs w [.cells #[.pointer (some ⟨b, 0, none⟩)] 105, .cells #[.slice oa on oc] 22, .cells #[.int .i64 last] 3, .cells #[.int .i64 since] 3] W) := ⟨by rw [<- hW]; exact ((((Bxs.start w).alloc (by simp) _).alloc (by simp) _).alloc (by simp) _).alloc (by simp) _⟩
 have HC : Kept (CapAt b w.heap.size oa on oc last since W) := ⟨⟨HX.out.b0, HX.out.b1, HX.out.2.2 2 _ rfl, HX.out.2.2 3 _ rfl⟩⟩
 go_enter Tryz.func189, Tryz.ntmps189
 go_wp2
 go_ret
 try rw [hW]
 exact ⟨HX.out.1, rfl, HC.out⟩
set_option maxRecDepth 20000 in
theorem ccorr1_any {D : FFld.FD} {b g : Nat} (hD : D.Ok) (ra oa : Option Addr) (rc on oc last df sh : Nat) (since at_ : Int) (rl ol : List Nat) (w : World) (hf : FldB D w b) (hcap : CapAt b g oa on oc last since w) (hr : Sl .i64 w (.slice ra rl.length rc) (ints rl)) (ho : Sl .i64 w (.slice oa ol.length oc) (ints ol)) (hon : ol.length = on) (hrq : ∀ a ∈ rl, a < D.p ^ D.k) (hoq : ∀ a ∈ ol, a < D.p ^ D.k) (hl : last < D.p ^ D.k) (hl0 : last ≠ 0) (hd : df < D.p ^ D.k) (hsh : at_ - since = (sh : Nat)) (ha0 : 0 <= at_) (ha1 : at_ <= 1000) (hs0 : -1 <= since) (hs1 : since <= 1000) (hrl : rl.length <= 1000) (hol : sh + ol.length <= 1000) :
 Calls Tryz.prog 229 #[.slice ra rl.length rc, .int .i64 df, .int .i64 at_, .pointer (some ⟨g, 0, none⟩), .pointer (some ⟨g + 2, 0, none⟩), .pointer (some ⟨g + 1, 0, none⟩), .pointer (some ⟨g + 3, 0, none⟩)] w (fun e w' => Below w.heap.size w w' /\ ∃ v, e = .returned v /\ Sl .i64 w' v (ints (FFld.plusF D rl ol (FFld.padd D.p D.k 0 (FFld.pscl D.p D.k (D.p - 1) (FFld.pmul D.p D.k D.m df D.k (FFld.ppow hD.pre.pk last (D.q - 2))))) sh)) /\ ∀ k, live v = some k -> w.heap.size <= k) := by
 have hq6 : D.p ^ D.k <= 65536 := hD.pre.small
 have hk := hD.pre.pk
 have HDV := Kept.mk (fun (W : World) (hW : Below w.heap.size w W) => fdiv_any hD (df : Int) (last : Int) W (hf.below hW) (by omega) (by omega) (by omega) (by omega) df last (md_nat hd) (md_nat hl) hd hl hl0)
 obtain ⟨ra', hra⟩ : ∃ x, FFld.pmul D.p D.k D.m df D.k (FFld.ppow hD.pre.pk last (D.q - 2)) = x := ⟨_, rfl⟩
 have hrlt : ra' < D.p ^ D.k := by rw [<- hra]; exact FFld.pmul_lt hk _ _ _
 rw [hra] at HDV ⊢
 have HSB := Kept.mk (fun (W : World) (hW : Below w.heap.size w W) => fsub_any (0 : Int) (ra' : Int) W (hf.below hW) (by omega) (by omega) (by omega) (by omega) 0 ra' (by simp) (md_nat hrlt) (Nat.pow_pos hk.p0) hrlt)
 obtain ⟨mi, hmi⟩ : ∃ x, FFld.padd D.p D.k 0 (FFld.pscl D.p D.k (D.p - 1) ra') = x := ⟨_, rfl⟩
 have hmlt : mi < D.p ^ D.k := by rw [<- hmi]; exact FFld.padd_lt hk _ _
 rw [hmi] at HSB ⊢
 have HPL : Kept (∀ W, Below w.heap.size w W -> Calls Tryz.prog 165 #[.pointer (some ⟨b, 0, none⟩), .slice ra rl.length rc, .slice oa on oc, .int .i64 mi, .int .i64 sh] W (fun e w' => Below W.heap.size W w' /\ ∃ v, e = .returned v /\ Sl .i64 w' v (ints (FFld.plusF D rl ol mi sh)) /\ ∀ k, live v = some k -> W.heap.size <= k)) := ⟨fun W hW => by
  have h := cplus_any hD ra oa rc oc rl ol mi sh W (hf.below hW) (hr.below hW) (ho.below hW) hrq hoq hmlt (by omega) (by omega)
  rw [hon] at h
  refine h.mono ?_
  rintro e w' ⟨hb, rfl, hw⟩
  refine ⟨hb, _, rfl, hw.sl rfl ?_ ?_, fun k hk => (by have h9 := live_own hk; simp [Value.ownBlock] at h9; omega)⟩
  ·unfold FFld.plusF
   refine Nat.le_trans (FFld.trm_len_le _) ?_
   rw [FFld.addm_len, FFld.padF_len (by omega), hon]
   exact Nat.le_refl _
  ·unfold maxLen
   omega⟩
 have HCP := Kept.mk hcap
 have e1 : at_ - since = (sh : Int) := hsh
 have e2 : IntKind.i64.wrap (sh : Int) = sh := wi (by omega) (by omega)
 obtain ⟨nr, hnr⟩ : ∃ x, rl.length = x := ⟨_, rfl⟩
 rw [hnr] at HPL hrl ⊢
 clear hf hcap hr ho hrq hoq hl hl0 hd hra hrlt hmi hmlt hsh hnr hk
 go_enter Tryz.func229, Tryz.ntmps229
 have c0 := one_cell_ HCP.out.f
 have c1 := one_cell_ HCP.out.old
 have c2 := one_cell_ HCP.out.last
 have c3 := one_cell_ HCP.out.since
 go_wp2_with fail
 (with_reducible refine (HDV.out _ (Below.refl _ _)).mono ?_)
 rintro e w1 ⟨hb1, rfl⟩
 have HB1 := Kept.mk hb1
 have i0 := belowCell hb1 c0
 have i1 := belowCell hb1 c1
 have i2 := belowCell hb1 c3
 have HS1 := Kept.mk (fun (W : World) (hW : Below w1.heap.size w1 W) => HSB.out W (bstep HB1.out hW))
 have HS2 := Kept.mk (fun (W : World) (hW : Below w1.heap.size w1 W) => HPL.out W (bstep HB1.out hW))
 clear hb1 c0 c1 c2 c3 HSB HPL HDV
 go_upto_region 2 with fail
 go_region_held3 (fun w' => w'.cell? ⟨g, 0, none⟩ = some (.pointer (some ⟨b, 0, none⟩)) /\ w'.cell? ⟨g + 1, 0, none⟩ = some (.slice oa on oc) /\ w'.cell? ⟨g + 3, 0, none⟩ = some (.int .i64 since))
  (first | exact ⟨jb0, jb1, jb2⟩ | exact ⟨ja0, ja1, ja2⟩ | exact ⟨i0, i1, i2⟩ | go_keep)
  ((first
    | (go_at_call 115; (with_reducible refine (HS1.out _ ?h1).mono ?_); (case h1 => exact (by first | exact Below.refl _ _ | exact (Below.refl _ _).drew)); rintro e v1 ⟨hb1, rfl⟩; have hy1 := Kept.mk (bstep (show Below w1.heap.size w1 _ from (by first | exact Below.refl _ _ | exact (Below.refl _ _).drew)) hb1); have ja0 := belowCell hy1.out i0; have ja1 := belowCell hy1.out i1; have ja2 := belowCell hy1.out i2; clear hb1)
    | (go_at_call 165; (with_reducible refine (HS2.out _ ?h1).mono ?_); (case h1 => exact hy1.out); rintro e v2 ⟨hb2, va, rfl, hva, hfr⟩; have hy2 := Kept.mk (bstep (show Below w1.heap.size w1 _ from hy1.out) hb2); have jb0 := belowCell hy2.out i0; have jb1 := belowCell hy2.out i1; have jb2 := belowCell hy2.out i2; clear hb2)))
 have HB3 := Kept.mk (bstep HB1.out hy2.out)
 have HV := Kept.mk hva
 have HFR : Kept (∀ k, live va = some k -> w.heap.size <= k) := ⟨fun k hk => Nat.le_trans (bstep HB1.out hy1.out).size (hfr k hk)⟩
 obtain ⟨va1, vn1, vc1, rfl⟩ : ∃ a n c, va = .slice a n c := by
  obtain ⟨a, c, e, _, _⟩ := HV.out.form
  exact ⟨_, _, _, e⟩
 clear hy1 hy2 hva hfr
 go_wp2
 go_ret
 exact ⟨HB3.out, _, rfl, HV.out, HFR.out⟩
end Go.Proofs.YtdnheaafcbihbaaGreat
namespace Go.Proofs.YtdnheaafcbihbaaGreat
namespace FFld
structure Bm where
 reg : List Nat
 len : Nat
 old : List Nat
 last : Nat
 since : Int
 prof : List Nat
def bmD (D : FD) (s : List Nat) (i : Nat) (st : Bm) : Nat := difF D st.reg s i st.reg.length
def bmR (D : FD) (h : PK D.p D.k D.m) (s : List Nat) (i : Nat) (st : Bm) : List Nat := plusF D st.reg st.old (padd D.p D.k 0 (pscl D.p D.k (D.p - 1) (pmul D.p D.k D.m (bmD D s i st) D.k (ppow h st.last (D.q - 2))))) ((i : Int) - st.since).toNat
def bmStep (D : FD) (h : PK D.p D.k D.m) (s : List Nat) (i : Nat) (st : Bm) : Bm :=
 if bmD D s i st = 0 then ⟨st.reg, st.len, st.old, st.last, st.since, st.prof ++ [st.len]⟩
 else if 2 * st.len <= i then ⟨bmR D h s i st, i + 1 - st.len, st.reg, bmD D s i st, i, st.prof ++ [i + 1 - st.len]⟩
 else ⟨bmR D h s i st, st.len, st.old, st.last, st.since, st.prof ++ [st.len]⟩
def bmF (D : FD) (h : PK D.p D.k D.m) (s : List Nat) : Nat -> Bm
 | 0 => ⟨[1], 0, [1], 1, -1, []⟩
 | i + 1 => bmStep D h s i (bmF D h s i)
structure BmOk (D : FD) (i : Nat) (st : Bm) : Prop where
 rq : ∀ a ∈ st.reg, a < D.p ^ D.k
 oq : ∀ a ∈ st.old, a < D.p ^ D.k
 rl : st.reg.length <= st.len + 1
 ol : (st.old.length : Int) + st.len <= st.since + 2
 li : st.len <= i
 ls : st.last < D.p ^ D.k
 l0 : st.last ≠ 0
 s0 : -1 <= st.since
 s1 : st.since < i
 pl : st.prof.length = i
theorem plusF_le (D : FD) (p q : List Nat) (c s : Nat) : (plusF D p q c s).length <= max p.length (s + q.length) := by
 unfold plusF
 refine Nat.le_trans (trm_len_le _) ?_
 rw [addm_len, padF_len (by omega)]
 exact Nat.le_refl _
theorem BmOk.step {D : FD} (h : PK D.p D.k D.m) {s : List Nat} {i : Nat} {st : Bm} (ho : BmOk D i st) : BmOk D (i + 1) (bmStep D h s i st) := by
 have h1 := ho.ol
 have h2 := ho.rl
 have h3 := ho.li
 have h4 := ho.s0
 have h5 := ho.s1
 have h6 := ho.pl
 have hl := plusF_le D st.reg st.old (padd D.p D.k 0 (pscl D.p D.k (D.p - 1) (pmul D.p D.k D.m (bmD D s i st) D.k (ppow h st.last (D.q - 2))))) ((i : Int) - st.since).toNat
 unfold bmStep
 split
 ·exact ⟨ho.rq, ho.oq, h2, h1, by simp only []; omega, ho.ls, ho.l0, h4, by simp only []; omega, by simp [h6]⟩
 ·rename_i hd
  have hdl : bmD D s i st < D.p ^ D.k := difF_lt h _ _ _ _
  have hr : ∀ a ∈ bmR D h s i st, a < D.p ^ D.k := plusF_lt h ho.rq
  split
  ·rename_i h7
   refine ⟨hr, ho.rq, ?_, ?_, by simp only []; omega, hdl, hd, by simp only []; omega, by simp only []; omega, by simp [h6]⟩
   ·show (bmR D h s i st).length <= i + 1 - st.len + 1
    unfold bmR
    omega
   ·show (st.reg.length : Int) + ((i + 1 - st.len : Nat) : Int) <= (i : Int) + 2
    omega
  ·refine ⟨hr, ho.oq, ?_, h1, by simp only []; omega, ho.ls, ho.l0, h4, by simp only []; omega, by simp [h6]⟩
   show (bmR D h s i st).length <= st.len + 1
   unfold bmR
   omega
theorem bm_ok {D : FD} (h : PK D.p D.k D.m) (s : List Nat) : ∀ i, BmOk D i (bmF D h s i)
 | 0 => ⟨fun a ha => (by rw [List.mem_singleton.1 ha]; exact h.one_lt), fun a ha => (by rw [List.mem_singleton.1 ha]; exact h.one_lt), by simp [bmF], by simp [bmF], Nat.le_refl _, h.one_lt, by simp [bmF], by simp [bmF], by simp [bmF], rfl⟩
 | i + 1 => (bm_ok h s i).step h
end FFld
end Go.Proofs.YtdnheaafcbihbaaGreat
namespace Go.Proofs.YtdnheaafcbihbaaGreat
open Go Go.RowKit Go.Deep
open FFld (ints)
theorem cErr_poly {D : FFld.FD} {l : List Nat} (h : ∀ a ∈ l, a < D.p ^ D.k) (ht : FFld.Tz l) (hl : l.length <= 200) : cErr D (ints l) = 0 := by
 unfold cErr
 rw [FFld.ints_len, if_neg (by omega), if_pos]
 constructor
 ·unfold elsB
  rw [List.all_eq_true]
  intro x hx
  unfold FFld.ints at hx
  obtain ⟨a, ha, rfl⟩ := List.mem_map.1 hx
  have := h a ha
  rw [decide_eq_true_eq]
  unfold FFld.FD.q
  omega
 ·unfold zlast
  rw [FFld.ints_len]
  rcases ht with h0 | h0
  ·rw [h0]; rfl
  ·rw [FFld.ints_get]
   have : decide (((l[l.length - 1]?.getD 0 : Nat) : Int) = 0) = false := by
    rw [decide_eq_false_iff_not]
    omega
   rw [this, Bool.and_false]
section
variable {D : FFld.FD} {b : Nat} (vp vq : Value) (pl ql : List Nat) (w : World) (hf : FldB D w b) (hp : Sl .i64 w vp (ints pl)) (hq : Sl .i64 w vq (ints ql)) (h1 : cErr D (ints pl) = 0) (h2 : cErr D (ints ql) = 0)
include hf hp hq h1 h2
set_option maxRecDepth 20000 in
theorem both_any : Calls Tryz.prog 215 #[.pointer (some ⟨b, 0, none⟩), vp, vq] w (fun e w' => w = w' /\ e = .returned (.int .i64 0)) := by
 have H1 := Kept.mk (fcheck_any vp (ints pl) w hf hp)
 have H2 := Kept.mk (fcheck_any vq (ints ql) w hf hq)
 rw [h1] at H1
 rw [h2] at H2
 clear hf hp hq h1 h2
 go_enter Tryz.func215, Tryz.ntmps215
 go_wp2_with fail
 refine H1.out.mono ?_
 rintro e w1 ⟨rfl, rfl⟩
 go_wp2_with fail
 refine H2.out.mono ?_
 rintro e w1 ⟨rfl, rfl⟩
 go_wp2
 go_ret
 exact ⟨rfl, rfl⟩
set_option maxRecDepth 20000 in
theorem fpproduct_any (hD : D.Ok) (hpq : ∀ a ∈ pl, a < D.p ^ D.k) (hqq : ∀ a ∈ ql, a < D.p ^ D.k) (hpl : pl.length <= 100000) (hqll : ql.length <= 100000) :
 Calls Tryz.prog 218 #[.pointer (some ⟨b, 0, none⟩), vp, vq] w (fun e w' => Below w.heap.size w w' /\ ∃ v, e = .returned (.tuple #[v, .int .i64 0]) /\ Sl .i64 w' v (ints (FFld.mulL D pl ql))) := by
 have HB := Kept.mk (both_any vp vq pl ql w hf hp hq h1 h2)
 have HM := Kept.mk (multiply_any hD vp vq pl ql w hf hp hq hpq hqq hpl hqll)
 clear hf hp hq h1 h2 hpq hqq
 go_enter Tryz.func218, Tryz.ntmps218
 go_wp2_with fail
 refine HB.out.mono ?_
 rintro e w1 ⟨rfl, rfl⟩
 go_wp2_with fail
 refine HM.out.mono ?_
 rintro e w2 ⟨hb2, v, rfl, hs2⟩
 have HB2 := Kept.mk hb2
 have HS2 := Kept.mk hs2
 clear hb2 hs2
 go_wp2
 go_ret2
 exact ⟨HB2.out, _, rfl, HS2.out⟩
set_option maxRecDepth 20000 in
theorem fpdivide_any (hD : D.Ok) (hpq : ∀ a ∈ pl, a < D.p ^ D.k) (hqq : ∀ a ∈ ql, a < D.p ^ D.k) (h0 : 0 < ql.length) (ht : FFld.Tz ql) (hpl : pl.length <= 100000) (hqll : ql.length <= 100000) :
 Calls Tryz.prog 162 #[.pointer (some ⟨b, 0, none⟩), vp, vq] w (fun e w' => Below w.heap.size w w' /\ ∃ v v2, e = .returned (.tuple #[v, v2, .int .i64 0]) /\ Sl .i64 w' v (ints (FFld.quoF D ql (FFld.invT D hD.pre.pk ql) pl)) /\ Sl .i64 w' v2 (ints (FFld.rstF D ql (FFld.invT D hD.pre.pk ql) pl))) := by
 have HB := Kept.mk (both_any vp vq pl ql w hf hp hq h1 h2)
 have HM := Kept.mk (divide_any hD vp vq pl ql w hf hp hq hpq hqq h0 (ht.top (by omega)) hpl hqll)
 obtain ⟨aq, cq, hvq, hcq, hmq⟩ := hq.form
 subst hvq
 rw [FFld.ints_len] at HB HM ⊢
 obtain ⟨nq, hnq⟩ : ∃ n, ql.length = n := ⟨_, rfl⟩
 have HDE := Kept.mk (fun qs rs inv h => FFld.deRet_eq (D := D) (ql := ql) (pl := pl) (qs := qs) (rs := rs) (inv := inv) h0 h)
 rw [hnq] at HB h0 ⊢
 have HM2 : Kept (Calls Tryz.prog 216 #[.pointer (some ⟨b, 0, none⟩), vp, .slice aq nq cq] w (DeRet D ql (FFld.invT D hD.pre.pk ql) pl w)) := ⟨by have := HM.out; rw [hnq] at this; unfold FFld.invT; rw [hnq]; exact this⟩
 have e0 : ((nq : Int) == 0) = false := by rw [beq_eq_false_iff_ne]; omega
 clear hf hp hq h1 h2 hpq hqq hnq HM hcq ht
 go_enter Tryz.func162, Tryz.ntmps162
 go_wp2_with fail
 refine HB.out.mono ?_
 rintro e w1 ⟨rfl, rfl⟩
 go_wp2_with fail
 refine HM2.out.mono ?_
 rintro e w2 ⟨hb2, v, v2, qs, rs, rfl, hs2, hs3, hc2⟩
 obtain ⟨e1, e2⟩ := HDE.out _ _ _ hc2
 rw [e1] at hs2
 rw [e2] at hs3
 have HB2 := Kept.mk hb2
 have HS2 := Kept.mk hs2
 have HS3 := Kept.mk hs3
 clear hb2 hs2 hs3 hc2 e1 e2
 go_wp2
 go_ret3
 exact ⟨HB2.out, _, _, rfl, HS2.out, HS3.out⟩
end
end Go.Proofs.YtdnheaafcbihbaaGreat
namespace Go.Proofs.YtdnheaafcbihbaaGreat
open Go Go.RowKit Go.Deep
open FFld (ints)
namespace FFld
theorem range_put {n : Nat} (f g : Nat -> Nat) {i : Nat} (h : ∀ j, j < n -> g j = if j = i then g i else f j) : ((List.range n).map f).set i (g i) = (List.range n).map g := by
 refine ext_getD (by simp) fun j hj => ?_
 have hj' : j < n := by simpa using hj
 rw [set_get, range_get _ hj', range_get _ hj']
 by_cases e : i = j
 ·rw [if_pos ⟨e, by simpa using hj'⟩, e]
 ·rw [if_neg (by omega), h j hj', if_neg (by omega)]
def valsF (D : FD) (pl xs : List Nat) (i : Nat) : List Nat := (List.range xs.length).map fun j => if j < i then hornF D (trm pl) (xs[j]?.getD 0) (trm pl).length else 0
theorem valsF_len (D : FD) (pl xs : List Nat) (i : Nat) : (valsF D pl xs i).length = xs.length := by simp [valsF]
theorem valsF_zero (D : FD) (pl xs : List Nat) : valsF D pl xs 0 = List.replicate xs.length 0 := by
 unfold valsF
 refine ext_getD (by simp) fun j hj => ?_
 have hj' : j < xs.length := by simpa using hj
 rw [range_get _ hj', if_neg (by omega), List.getElem?_replicate, if_pos hj']
 rfl
theorem valsF_next (D : FD) (pl xs : List Nat) {i : Nat} (hi : i < xs.length) : (valsF D pl xs i).set i (hornF D (trm pl) (xs[i]?.getD 0) (trm pl).length) = valsF D pl xs (i + 1) := by
 have h := range_put (n := xs.length) (fun j => if j < i then hornF D (trm pl) (xs[j]?.getD 0) (trm pl).length else 0) (fun j => if j < i + 1 then hornF D (trm pl) (xs[j]?.getD 0) (trm pl).length else 0) (i := i) fun j hj => by
  by_cases e : j = i
  ·rw [if_pos e, e]
  ·rw [if_neg e]
   by_cases e2 : j < i
   ·rw [if_pos e2, if_pos (by omega)]
   ·rw [if_neg e2, if_neg (by omega)]
 rw [if_pos (by omega)] at h
 exact h
end FFld
theorem sl_trm {w : World} {ap : Option Addr} {cp : Nat} {pl : List Nat} (h : Sl .i64 w (.slice ap pl.length cp) (ints pl)) : Sl .i64 w (.slice ap (FFld.trm pl).length cp) (ints (FFld.trm pl)) := by
 obtain ⟨ap', cp', e, hc, hm, hx⟩ := h
 simp only [Value.slice.injEq] at e
 obtain ⟨rfl, e2, rfl⟩ := e
 clear e2
 have hl := FFld.trm_len_le pl
 rw [FFld.ints_len] at hc
 refine ⟨ap, cp, by rw [FFld.ints_len], by rw [FFld.ints_len]; omega, hm, fun i hi => ?_⟩
 rw [FFld.ints_len] at hi
 obtain ⟨b, o, rfl, h1, h2⟩ := hx i (by rw [FFld.ints_len]; omega)
 refine ⟨b, o, rfl, h1, ?_⟩
 rw [h2, FFld.ints_get, FFld.ints_get]
 unfold FFld.trm
 rw [FFld.take_getD (by rw [<- FFld.trm_len]; exact hi)]
set_option maxRecDepth 20000 in
theorem cvalues_any {D : FFld.FD} {b : Nat} (hD : D.Ok) (ax ap : Option Addr) (cx cp : Nat) (xs pl : List Nat) (w : World) (hf : FldB D w b) (hx : Sl .i64 w (.slice ax xs.length cx) (ints xs)) (hp : Sl .i64 w (.slice ap pl.length cp) (ints pl)) (hxq : ∀ a ∈ xs, a < D.p ^ D.k) (hpq : ∀ a ∈ pl, a < D.p ^ D.k) (hxl : xs.length <= 1000) (hpl : pl.length <= 200) :
 Calls Tryz.prog 87 #[.pointer (some ⟨b, 0, none⟩), .slice ax xs.length cx, .slice ap pl.length cp] w (fun e w' => Below w.heap.size w w' /\ e = .returned (.slice (some ⟨w.heap.size, 0, none⟩) xs.length xs.length) /\ Wv w' w.heap.size (FFld.valsF D pl xs xs.length)) := by
 have hq6 : D.p ^ D.k <= 65536 := hD.pre.small
 have hmk := run_make_row' (P := Tryz.prog) 22 3 (.int .i64 0) 8 Tryz.underlying22 info_i64 rfl .i64 .i64 xs.length (by omega) (by omega)
 have HT := Kept.mk (ctrimmed_any pl ap cp w hp)
 obtain ⟨T, hT⟩ : ∃ T, FFld.trm pl = T := ⟨_, rfl⟩
 have hTl : T.length <= pl.length := by rw [<- hT]; exact FFld.trm_len_le pl
 have hTq : ∀ a ∈ T, a < D.p ^ D.k := by rw [<- hT]; exact FFld.trm_lt hpq
 have hTz : FFld.Tz T := by rw [<- hT]; exact FFld.trm_tz pl
 have hST : Sl .i64 w (.slice ap T.length cp) (ints T) := by
  rw [<- hT]
  exact sl_trm hp
 have hcE := cErr_poly hTq hTz (by omega)
 have HVN := Kept.mk (fun i (hi : i < xs.length) => FFld.valsF_next D pl xs hi)
 have HVL := Kept.mk (FFld.valsF_len D pl xs)
 have HV := Kept.mk (fun (W : World) (hW : Below w.heap.size w W) (x : Nat) (h1 : x < D.p ^ D.k) => fvalue_any (.slice ap T.length cp) T (x : Int) x W (hf.below hW) (hST.below hW) hcE hTq (by omega) (by omega) (md_nat h1) h1 (by omega))
 rw [hT] at HT HVN
 have hrow : (w.alloc (.cells (madeCells #[.int .i64 0] xs.length) 3)).heap[w.heap.size]? = some (.cells ((ints (List.replicate xs.length 0)).map (Value.int .i64)).toArray 3 (0, 0)) := by rw [<- made_zeros]; exact heap_alloc_new w _
 have hal : Below w.heap.size w (w.alloc (.cells (madeCells #[.int .i64 0] xs.length) 3)) := (Below.refl _ _).alloc (Nat.le_refl _) _
 have HW0 : Kept (Wv (w.alloc (.cells (madeCells #[.int .i64 0] xs.length) 3)) w.heap.size (FFld.valsF D pl xs 0)) := ⟨by rw [FFld.valsF_zero]; exact Row.wv hrow⟩
 have HB0 := Kept.mk hal
 have HXS := Kept.mk hx
 have HXQ := Kept.mk hxq
 clear hT hTl hTq hTz hST hcE hrow hal hf hx hp hxq hpq
 obtain ⟨n, hn⟩ : ∃ n, xs.length = n := ⟨_, rfl⟩
 rw [hn] at hmk HVN HVL HW0 HB0 HXS hxl ⊢
 have HN := Kept.mk hn
 clear hn
 go_enter Tryz.func87, Tryz.ntmps87
 go_wp2_with fail
 refine HT.out.mono ?_
 rintro e w1 ⟨rfl, rfl⟩
 go_wp2
 obtain ⟨g, hg⟩ : ∃ g, w.heap.size = g := ⟨_, rfl⟩
 obtain ⟨W1, hW1⟩ : ∃ W, w.alloc (.cells (madeCells #[.int .i64 0] n) 3) = W := ⟨_, rfl⟩
 rw [hW1] at HW0 HB0
 try rw [hW1]
 rw [hg] at HW0
 try rw [hg]
 have hgw : w.heap.size <= g := by omega
 have HGG := Kept.mk hg
 clear hW1 hg hmk HT
 go_loopw [18] (fun iv wr => ∃ (i : Nat), i <= n /\ iv = .int .i64 i /\ Kept (Below w.heap.size w wr) /\ Kept (Wv wr g (FFld.valsF D pl xs i))) (fun iv _ => n - (intOf iv).toNat)
 case atStart => exact ⟨0, Nat.zero_le _, rfl, HB0, HW0⟩
 case round =>
  obtain ⟨i, hin, rfl, hbw, hwv⟩ := hrel
  by_cases hlt : i < n
  ·obtain ⟨ax', cx', e, hcx, hmx, hcc⟩ := HXS.out.below hbw.out
   simp only [Value.slice.injEq] at e
   obtain ⟨rfl, e2, rfl⟩ := e
   clear e2
   obtain ⟨bx, ox, rfl, hbx, hcell⟩ := hcc i (by rw [FFld.ints_len, HN.out]; exact hlt)
   rw [FFld.ints_get] at hcell
   rw [FFld.ints_len, HN.out] at hcx
   have hxlt := FFld.getD_lt (Nat.pow_pos hD.pre.pk.p0) HXQ.out i
   have HNX := Kept.mk (HVN.out i hlt)
   obtain ⟨x, hx⟩ : ∃ x, xs[i]?.getD 0 = x := ⟨_, rfl⟩
   rw [hx] at hcell hxlt HNX
   have HC := Kept.mk (HV.out wr hbw.out x hxlt)
   obtain ⟨y, hy⟩ : ∃ y, FFld.hornF D T x T.length = y := ⟨_, rfl⟩
   rw [hy] at HC HNX
   have hgl := hwv.out.lt
   unfold maxLen at hmx
   clear hx hy hcc hxlt
   go_wp2_with fail
   refine HC.out.mono ?_
   rintro e w2 ⟨hb2, rfl⟩
   have HB2 := Kept.mk (bstep hbw.out hb2)
   have HW2 := Kept.mk (hwv.out.below hb2)
   have c1 := HW2.out.cell (i := i) (by rw [HVL.out]; exact hlt)
   have z1 := HW2.out.free i
   have HW3 : Kept (Wv (w2.setCell ⟨g, i, none⟩ (.int .i64 (y : Nat))) g (FFld.valsF D pl xs (i + 1))) := ⟨by have := HW2.out.set (i := i) y; rw [HNX.out] at this; exact this⟩
   have HB3 : Kept (Below w.heap.size w (w2.setCell ⟨g, i, none⟩ (.int .i64 (y : Nat)))) := ⟨HB2.out.setCell (p := ⟨g, i, none⟩) hgw _⟩
   clear hb2
   go_wp2
   go_roundw
   case rel => exact ⟨i + 1, by omega, by go_num, HB3, HW3⟩
   case measure => simp [intOf] <;> omega
  ·obtain rfl : i = n := by omega
   go_wp2
   go_ret
   rw [HGG.out]
   exact ⟨HGG.out ▸ hbw.out, rfl, hwv.out⟩
end Go.Proofs.YtdnheaafcbihbaaGreat
