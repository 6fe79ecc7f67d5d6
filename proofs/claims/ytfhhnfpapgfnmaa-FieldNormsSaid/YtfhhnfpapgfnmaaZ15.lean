/-
  Texts of the proof, merged by program: Am.
-/
import Derived.Test.YtfhhnfpapgfnmaaZ14
set_option linter.unusedVariables false
set_option linter.unusedSimpArgs false
namespace Go.Proofs.Ytfhhnfpapgfnmaa
open Go Go.RowKit
open FFld (ints)
/-- The cells of a slice of numbers that lies in no cell of block g. -/
def Qc (g : Nat) (ao : Option Addr) (l : List Nat) (w : World) : Prop := ∀ i, i < l.length → ∃ b o, ao = some ⟨b, o, none⟩ ∧ b ≠ g ∧ b < w.heap.size ∧ w.cell? ⟨b, o + i, none⟩ = some (.int .i64 ((l[i]?.getD 0 : Nat) : Int))
theorem Qc.grown {g : Nat} {ao : Option Addr} {l : List Nat} {w w' : World} (h : Qc g ao l w) (hg : w.grownBy w' (some g)) : Qc g ao l w' := fun i hi => by
  obtain ⟨b, o, e, h1, h2, h3⟩ := h i hi
  exact ⟨b, o, e, h1, Nat.lt_of_lt_of_le h2 hg.size, hg.cell h3 (by simpa using h1)⟩
set_option maxRecDepth 20000 in
set_option maxHeartbeats 4000000 in
theorem addMultiple_any {D : FFld.FD} {b g s n cc : Nat} {ao : Option Addr} {cap : Nat} (w0 w : World) (hf : FldB D w0 b) (hb : Below w0.heap.size w0 w) (hg : w0.heap.size ≤ g) (xs : List Nat) (hx : Wv w g xs) (hxq : ∀ c ∈ xs, c < D.p ^ D.k)
    (q : List Nat) (hq : Qc g ao q w) (hqq : ∀ c ∈ q, c < D.p ^ D.k) (hs : s + q.length ≤ xs.length) (hn : q.length ≤ n) (a : Nat) (ha : a < D.p ^ D.k) (hql : q.length ≤ 1000000) :
    Calls Try.prog 99 #[.pointer (some ⟨b, 0, none⟩), .slice (some ⟨g, s, none⟩) n cc, .slice ao q.length cap, .int .i64 a] w (fun e w' => e = .returned (.tuple #[]) ∧ w.grownBy w' (some g) ∧ Wv w' g (FFld.addm D xs s q a)) := by
  obtain ⟨h, T, x, fs, fp, fw, ms, ml, hbb, ho, _, _⟩ := hf.open
  have hpk := h.pre.pk
  by_cases a0 : a = 0
  · subst a0
    have hz := Kept.mk (FFld.addmF_zero hpk s q q.length hxq hs)
    have HX := Kept.mk hx
    have e0 : (((0 : Nat) : Int) == 0) = true := rfl
    clear ho hbb hf hb hx hxq hq hqq ha
    go_enter Try.func99, Try.ntmps99
    go_wp2
    exact bodyPost_ret (v := .tuple #[]) (by simp [results, Try.results99, go_sem]) rfl ⟨rfl, growRefl _ _, by unfold FFld.addm; rw [hz.out]; exact HX.out⟩
  · have e0 : ((a : Int) == 0) = false := by rw [beq_eq_false_iff_ne]; omega
    obtain ⟨c0, _⟩ := six_cells hbb
    have hbl : b < w0.heap.size := hf.lt
    have HS := Kept.mk ho.sum
    have HP := Kept.mk ho.product
    have hms := ho.ms
    have hmp := ho.mp
    have hcs := ho.cs
    have hcp := ho.cp
    have HQ := Kept.mk hq
    have HXQ := Kept.mk (fun j => FFld.addmF_lt (D := D) hpk s q a j hxq)
    have HQQ := Kept.mk hqq
    have HA := Kept.mk ha
    have HPK := Kept.mk hpk
    have HB := Kept.mk hb
    have HX := Kept.mk hx
    clear ho hbb hf hb hx hxq hq hqq ha hpk a0
    go_enter Try.func99, Try.ntmps99
    go_wp2
    go_loopw [14] (fun iv wr => ∃ (j : Nat), j ≤ q.length ∧ iv = .int .i64 j ∧ Kept (Wv wr g (FFld.addmF D xs s q a j)) ∧ Kept (w.grownBy wr (some g))) (fun iv _ => q.length - (intOf iv).toNat)
    case atStart => exact ⟨0, Nat.zero_le _, rfl, HX, ⟨growRefl _ _⟩⟩
    case round =>
      obtain ⟨j, hj, rfl, hwv, hgr⟩ := hrel
      by_cases hlt : j < q.length
      · obtain ⟨bq, oq, rfl, hne, hbq, hcq⟩ := (HQ.out.grown hgr.out) j hlt
        have HBW := Kept.mk (belowGrow hgr.out HB.out hg)
        have hsz := HBW.out.size
        have hgl := hwv.out.lt
        have hlen := FFld.addmF_len D xs s q a j
        have t1 := hwv.out.cell (i := s + j) (by omega)
        have f1 : wr.cell? ⟨b, 0, none⟩ = some (.iface T x) := (HBW.out.cell (p := ⟨b, 0, none⟩) hbl).trans c0
        have hqb := FFld.getD_lt (Nat.pow_pos HPK.out.p0) HQQ.out j
        have hub := FFld.getD_lt (Nat.pow_pos HPK.out.p0) (HXQ.out j) (s + j)
        obtain ⟨u, hu⟩ : ∃ u, (FFld.addmF D xs s q a j)[s + j]?.getD 0 = u := ⟨_, rfl⟩
        obtain ⟨y, hy⟩ : ∃ y, q[j]?.getD 0 = y := ⟨_, rfl⟩
        obtain ⟨z, hz⟩ : ∃ z, FFld.pmul D.p D.k D.m y D.k a = z := ⟨_, rfl⟩
        obtain ⟨v, hv⟩ : ∃ v, FFld.padd D.p D.k u z = v := ⟨_, rfl⟩
        have HV : Kept ((FFld.addmF D xs s q a j).set (s + j) v = FFld.addmF D xs s q a (j + 1)) := ⟨by simp only [FFld.addmF]; rw [hu, hy, hz, hv]⟩
        rw [hu] at t1 hub
        rw [hy] at hcq hqb
        have hP := Kept.mk (fun W (hW : Below w0.heap.size w0 W) => HP.out W hW y a hqb HA.out)
        rw [hz] at hP
        have hS := Kept.mk (fun W (hW : Below w0.heap.size w0 W) => HS.out W hW u z hub (by rw [← hz]; exact FFld.pmul_lt HPK.out _ _ _))
        rw [hv] at hS
        have hjn : j < n := by omega
        clear hu hy hz hv hqb hub hlen
        go_wp2
        refine wp_region_held_drew (S := fun w' => w'.cell? ⟨b, 0, none⟩ = some (.iface T x)) (by kernel_rfl) f1 (fun hHeld => ?_)
        refine wpAnyH_take (i := 0) (v := ?_) rfl (by kernel_rfl) (by kernel_rfl) (by kernel_rfl) (fun _ _ _ h => h) (Or.inl ⟨by rfl, ?_⟩) (by assumption) ?_
        rotate_left
        · (intro w hSw; (try dsimp only at hSw); go_simp; (try with_reducible rfl))
        try simp only [Act.put, List.getElem_toArray, List.getElem_cons_succ, List.getElem_cons_zero, List.setIfInBounds_toArray, List.set_cons_zero, List.set_cons_succ]
        refine wpAnyH_take (i := 1) (v := ?_) rfl (by kernel_rfl) (by kernel_rfl) (by kernel_rfl) (fun _ _ _ h => h) (Or.inl ⟨by rfl, ?_⟩) (by assumption) ?_
        rotate_left
        · (intro w hSw; (try dsimp only at hSw); go_simp; (try with_reducible rfl))
        try simp only [Act.put, List.getElem_toArray, List.getElem_cons_succ, List.getElem_cons_zero, List.setIfInBounds_toArray, List.set_cons_zero, List.set_cons_succ]
        refine wpAnyH_take (i := 2) (v := ?_) rfl (by kernel_rfl) (by kernel_rfl) (by kernel_rfl) (fun _ _ _ h => h) (Or.inl ⟨by rfl, ?_⟩) (by assumption) ?_
        rotate_left
        · (intro w hSw; (try dsimp only at hSw); go_simp; (try with_reducible rfl))
        try simp only [Act.put, List.getElem_toArray, List.getElem_cons_succ, List.getElem_cons_zero, List.setIfInBounds_toArray, List.set_cons_zero, List.set_cons_succ]
        refine wpAnyH_take (i := 3) (v := ?_) rfl (by kernel_rfl) (by kernel_rfl) (by kernel_rfl) (fun _ _ _ h => h) (Or.inl ⟨by rfl, ?_⟩) (by assumption) ?_
        rotate_left
        · (intro w hSw; (try dsimp only at hSw); go_simp; (try with_reducible rfl))
        try simp only [Act.put, List.getElem_toArray, List.getElem_cons_succ, List.getElem_cons_zero, List.setIfInBounds_toArray, List.set_cons_zero, List.set_cons_succ]
        refine wpAnyH_take (i := 4) (v := ?_) rfl (by kernel_rfl) (by kernel_rfl) (by kernel_rfl) (fun _ _ _ h => h) (Or.inl ⟨by rfl, ?_⟩) (by assumption) ?_
        rotate_left
        · (intro w hSw; (try dsimp only at hSw); go_simp; (try with_reducible rfl))
        try simp only [Act.put, List.getElem_toArray, List.getElem_cons_succ, List.getElem_cons_zero, List.setIfInBounds_toArray, List.set_cons_zero, List.set_cons_succ]
        refine wpAnyH_take (i := 5) (v := ?_) rfl (by kernel_rfl) (by kernel_rfl) (by kernel_rfl) (fun _ _ _ h => h) (Or.inl ⟨by rfl, ?_⟩) (by assumption) ?_
        rotate_left
        · (intro w hSw; (try dsimp only at hSw); go_simp; (try with_reducible rfl))
        try simp only [Act.put, List.getElem_toArray, List.getElem_cons_succ, List.getElem_cons_zero, List.setIfInBounds_toArray, List.set_cons_zero, List.set_cons_succ]
        refine wpAnyH_take (i := 6) (v := ?_) rfl (by kernel_rfl) (by kernel_rfl) (by kernel_rfl) (fun _ _ _ h => h) (Or.inl ⟨by rfl, ?_⟩) (by assumption) ?_
        rotate_left
        · (intro w hSw; (try dsimp only at hSw); go_simp; (try with_reducible rfl))
        try simp only [Act.put, List.getElem_toArray, List.getElem_cons_succ, List.getElem_cons_zero, List.setIfInBounds_toArray, List.set_cons_zero, List.set_cons_succ]
        refine wpAnyH_take (i := 7) (v := ?_) rfl (by kernel_rfl) (by kernel_rfl) (by kernel_rfl) (fun _ _ _ h => h) (Or.inl ⟨by rfl, ?_⟩) (by assumption) ?_
        rotate_left
        · (intro w hSw; (try dsimp only at hSw); go_simp; (try with_reducible rfl))
        try simp only [Act.put, List.getElem_toArray, List.getElem_cons_succ, List.getElem_cons_zero, List.setIfInBounds_toArray, List.set_cons_zero, List.set_cons_succ]
        refine wpAnyH_take (i := 8) (v := ?_) rfl (by kernel_rfl) (by kernel_rfl) (by kernel_rfl) (fun _ _ _ h => h) (Or.inl ⟨by rfl, ?_⟩) (by assumption) ?_
        rotate_left
        · (intro w hSw; (try dsimp only at hSw); go_simp; (try with_reducible rfl))
        try simp only [Act.put, List.getElem_toArray, List.getElem_cons_succ, List.getElem_cons_zero, List.setIfInBounds_toArray, List.set_cons_zero, List.set_cons_succ]
        refine wpAnyH_take (i := 10) (v := ?_) rfl (by kernel_rfl) (by kernel_rfl) (by kernel_rfl) (fun _ _ _ h => h) (Or.inl ⟨by rfl, ?_⟩) (by assumption) ?_
        rotate_left
        · (intro w hSw; (try dsimp only at hSw); go_simp; (try with_reducible rfl))
        try simp only [Act.put, List.getElem_toArray, List.getElem_cons_succ, List.getElem_cons_zero, List.setIfInBounds_toArray, List.set_cons_zero, List.set_cons_succ]
        refine wpAnyH_take (i := 11) (v := ?_) rfl (by kernel_rfl) (by kernel_rfl) (by kernel_rfl) (fun _ _ _ h => h) (Or.inl ⟨by rfl, ?_⟩) (by assumption) ?_
        rotate_left
        · (intro w hSw; (try dsimp only at hSw); go_simp; (try with_reducible rfl))
        try simp only [Act.put, List.getElem_toArray, List.getElem_cons_succ, List.getElem_cons_zero, List.setIfInBounds_toArray, List.set_cons_zero, List.set_cons_succ]
        refine wpAnyH_take (i := 12) (v := ?_) rfl (by kernel_rfl) (by kernel_rfl) (by kernel_rfl) (fun _ _ _ h => h) (Or.inl ⟨by rfl, ?_⟩) (by assumption) ?_
        rotate_left
        · (intro w hSw; (try dsimp only at hSw); go_simp; (try with_reducible rfl))
        try simp only [Act.put, List.getElem_toArray, List.getElem_cons_succ, List.getElem_cons_zero, List.setIfInBounds_toArray, List.set_cons_zero, List.set_cons_succ]
        refine wpAnyH_take (i := 13) (v := ?_) rfl (by kernel_rfl) (by kernel_rfl) (by kernel_rfl) (fun _ _ _ h => h) (Or.inl ⟨by rfl, ?_⟩) (by assumption) ?_
        rotate_left
        · (intro w hSw; (try dsimp only at hSw); go_simp; (try with_reducible rfl))
        try simp only [Act.put, List.getElem_toArray, List.getElem_cons_succ, List.getElem_cons_zero, List.setIfInBounds_toArray, List.set_cons_zero, List.set_cons_succ]
        refine wpAnyH_take (i := 14) (v := ?_) rfl (by kernel_rfl) (by kernel_rfl) (by kernel_rfl) (fun _ _ _ h => h) (Or.inl ⟨by rfl, ?_⟩) (by assumption) ?_
        rotate_left
        · (intro w hSw; (try dsimp only at hSw); go_simp; (try with_reducible rfl))
        try simp only [Act.put, List.getElem_toArray, List.getElem_cons_succ, List.getElem_cons_zero, List.setIfInBounds_toArray, List.set_cons_zero, List.set_cons_succ]
        refine wpAnyH_take (i := 15) (v := ?_) rfl (by kernel_rfl) (by kernel_rfl) (by kernel_rfl) (fun _ _ _ h => h) (Or.inl ⟨by rfl, ?_⟩) (by assumption) ?_
        rotate_left
        · (intro w hSw; (try dsimp only at hSw); go_simp; (try with_reducible rfl))
        try simp only [Act.put, List.getElem_toArray, List.getElem_cons_succ, List.getElem_cons_zero, List.setIfInBounds_toArray, List.set_cons_zero, List.set_cons_succ]
        refine wpAnyH_take (i := 17) (v := ?_) rfl (by kernel_rfl) (by kernel_rfl) (by kernel_rfl) (fun _ _ _ h => h) (Or.inl ⟨by rfl, ?_⟩) (by assumption) ?_
        rotate_left
        · (intro w hSw; (try dsimp only at hSw); go_simp; (try with_reducible rfl))
        try simp only [Act.put, List.getElem_toArray, List.getElem_cons_succ, List.getElem_cons_zero, List.setIfInBounds_toArray, List.set_cons_zero, List.set_cons_succ]
        refine wpAnyH_take (i := 18) (v := ?_) rfl (by kernel_rfl) (by kernel_rfl) (by kernel_rfl) (fun _ _ _ h => h) (Or.inl ⟨by rfl, ?_⟩) (by assumption) ?_
        rotate_left
        · (intro w hSw; (try dsimp only at hSw); go_simp; (try with_reducible rfl))
        try simp only [Act.put, List.getElem_toArray, List.getElem_cons_succ, List.getElem_cons_zero, List.setIfInBounds_toArray, List.set_cons_zero, List.set_cons_succ]
        refine wpAnyH_ready (rs := [9, 16]) (by kernel_rfl) (by simp) ?_
        refine AllReadyH.cons rfl (fun K hK => ?_) (AllReadyH.cons rfl (fun K hK => ?_) AllReadyH.nil)
        · go_simp
          refine hK.out _ _ f1 (fun hHeld => ?_)
          clear hK K
          try simp only [Act.put, List.getElem_toArray, List.getElem_cons_succ, List.getElem_cons_zero, List.setIfInBounds_toArray, List.set_cons_zero, List.set_cons_succ]
          refine wpAnyH_ready (rs := [16]) (by kernel_rfl) (by simp) ?_
          refine (AllReadyH.cons rfl (fun K hK => ?_) AllReadyH.nil)
          go_simp
          refine (hP.out _ HBW.out.drew).mono ?_
          rintro e w2 ⟨hb2, rfl⟩
          have HB2 := Kept.mk (bstep HBW.out.drew hb2)
          have HR2 : Kept (Below wr.heap.size wr w2) := ⟨(Below.refl _ _).drew.trans hb2⟩
          have f2 := (HR2.out.cell (p := ⟨b, 0, none⟩) (by simp only []; omega)).trans f1
          have t2 := (HR2.out.cell (p := ⟨g, s + j, none⟩) (by simp only []; omega)).trans t1
          clear hb2
          refine hK.out _ _ f2 (fun hHeld => ?_)
          clear hK K
          try simp only [Act.put, List.getElem_toArray, List.getElem_cons_succ, List.getElem_cons_zero, List.setIfInBounds_toArray, List.set_cons_zero, List.set_cons_succ]
          refine wpAnyH_ready (rs := [19]) (by kernel_rfl) (by simp) ?_
          refine (AllReadyH.cons rfl (fun K hK => ?_) AllReadyH.nil)
          go_simp
          refine (hS.out _ HB2.out).mono ?_
          rintro e w3 ⟨hb3, rfl⟩
          have HB3 := Kept.mk (bstep HB2.out hb3)
          have HR3 := Kept.mk (bstep HR2.out hb3)
          have f3 := (hb3.cell (p := ⟨b, 0, none⟩) (by have := HR2.out.size; simp only []; omega)).trans f2
          have t3 := (hb3.cell (p := ⟨g, s + j, none⟩) (by have := HR2.out.size; simp only []; omega)).trans t2
          have HW3 := Kept.mk (hwv.out.below HR3.out)
          have z3 := HW3.out.free (s + j)
          clear hb3
          refine hK.out _ _ f3 (fun hHeld => ?_)
          clear hK K
          try simp only [Act.put, List.getElem_toArray, List.getElem_cons_succ, List.getElem_cons_zero, List.setIfInBounds_toArray, List.set_cons_zero, List.set_cons_succ]
          refine wpAnyH_take (i := 20) (v := ?_) rfl (by kernel_rfl) (by kernel_rfl) (by kernel_rfl) (fun _ _ _ h => h) (Or.inl ⟨by rfl, ?_⟩) (by assumption) ?_
          rotate_left
          · (intro w hSw; (try dsimp only at hSw); go_simp; (try with_reducible rfl))
          try simp only [Act.put, List.getElem_toArray, List.getElem_cons_succ, List.getElem_cons_zero, List.setIfInBounds_toArray, List.set_cons_zero, List.set_cons_succ]
          refine wpAnyH_ready (rs := [21]) (by kernel_rfl) (by simp) ?_
          refine (AllReadyH.cons rfl (fun K hK => ?_) AllReadyH.nil)
          go_simp
          have f4 : (w3.setCell ⟨g, s + j, none⟩ (.int .i64 v)).cell? ⟨b, 0, none⟩ = some (.iface T x) := (World.cell?_of_block (heap_setCell_other w3 ⟨g, s + j, none⟩ b _ (by simp; omega))).trans f3
          refine hK.out _ _ f4 (fun hHeld => ?_)
          clear hK K
          try simp only [Act.put, List.getElem_toArray, List.getElem_cons_succ, List.getElem_cons_zero, List.setIfInBounds_toArray, List.set_cons_zero, List.set_cons_succ]
          refine wpAnyH_done (by kernel_rfl) ?_ _
          go_wp2
          go_roundw
          case rel => exact ⟨j + 1, by omega, by go_num, ⟨by have := HW3.out.set (i := s + j) v; rw [HV.out] at this; exact this⟩, ⟨growTrans hgr.out (growSet (growBelow HR3.out) _ _)⟩⟩
          case measure => simp [intOf] <;> omega
        · go_simp
          refine (hP.out _ HBW.out.drew).mono ?_
          rintro e w2 ⟨hb2, rfl⟩
          have HB2 := Kept.mk (bstep HBW.out.drew hb2)
          have HR2 : Kept (Below wr.heap.size wr w2) := ⟨(Below.refl _ _).drew.trans hb2⟩
          have f2 := (HR2.out.cell (p := ⟨b, 0, none⟩) (by simp only []; omega)).trans f1
          have t2 := (HR2.out.cell (p := ⟨g, s + j, none⟩) (by simp only []; omega)).trans t1
          clear hb2
          refine hK.out _ _ f2 (fun hHeld => ?_)
          clear hK K
          try simp only [Act.put, List.getElem_toArray, List.getElem_cons_succ, List.getElem_cons_zero, List.setIfInBounds_toArray, List.set_cons_zero, List.set_cons_succ]
          refine wpAnyH_ready (rs := [9]) (by kernel_rfl) (by simp) ?_
          refine (AllReadyH.cons rfl (fun K hK => ?_) AllReadyH.nil)
          go_simp
          refine hK.out _ _ f2 (fun hHeld => ?_)
          clear hK K
          try simp only [Act.put, List.getElem_toArray, List.getElem_cons_succ, List.getElem_cons_zero, List.setIfInBounds_toArray, List.set_cons_zero, List.set_cons_succ]
          refine wpAnyH_ready (rs := [19]) (by kernel_rfl) (by simp) ?_
          refine (AllReadyH.cons rfl (fun K hK => ?_) AllReadyH.nil)
          go_simp
          refine (hS.out _ HB2.out).mono ?_
          rintro e w3 ⟨hb3, rfl⟩
          have HB3 := Kept.mk (bstep HB2.out hb3)
          have HR3 := Kept.mk (bstep HR2.out hb3)
          have f3 := (hb3.cell (p := ⟨b, 0, none⟩) (by have := HR2.out.size; simp only []; omega)).trans f2
          have t3 := (hb3.cell (p := ⟨g, s + j, none⟩) (by have := HR2.out.size; simp only []; omega)).trans t2
          have HW3 := Kept.mk (hwv.out.below HR3.out)
          have z3 := HW3.out.free (s + j)
          clear hb3
          refine hK.out _ _ f3 (fun hHeld => ?_)
          clear hK K
          try simp only [Act.put, List.getElem_toArray, List.getElem_cons_succ, List.getElem_cons_zero, List.setIfInBounds_toArray, List.set_cons_zero, List.set_cons_succ]
          refine wpAnyH_take (i := 20) (v := ?_) rfl (by kernel_rfl) (by kernel_rfl) (by kernel_rfl) (fun _ _ _ h => h) (Or.inl ⟨by rfl, ?_⟩) (by assumption) ?_
          rotate_left
          · (intro w hSw; (try dsimp only at hSw); go_simp; (try with_reducible rfl))
          try simp only [Act.put, List.getElem_toArray, List.getElem_cons_succ, List.getElem_cons_zero, List.setIfInBounds_toArray, List.set_cons_zero, List.set_cons_succ]
          refine wpAnyH_ready (rs := [21]) (by kernel_rfl) (by simp) ?_
          refine (AllReadyH.cons rfl (fun K hK => ?_) AllReadyH.nil)
          go_simp
          have f4 : (w3.setCell ⟨g, s + j, none⟩ (.int .i64 v)).cell? ⟨b, 0, none⟩ = some (.iface T x) := (World.cell?_of_block (heap_setCell_other w3 ⟨g, s + j, none⟩ b _ (by simp; omega))).trans f3
          refine hK.out _ _ f4 (fun hHeld => ?_)
          clear hK K
          try simp only [Act.put, List.getElem_toArray, List.getElem_cons_succ, List.getElem_cons_zero, List.setIfInBounds_toArray, List.set_cons_zero, List.set_cons_succ]
          refine wpAnyH_done (by kernel_rfl) ?_ _
          go_wp2
          go_roundw
          case rel => exact ⟨j + 1, by omega, by go_num, ⟨by have := HW3.out.set (i := s + j) v; rw [HV.out] at this; exact this⟩, ⟨growTrans hgr.out (growSet (growBelow HR3.out) _ _)⟩⟩
          case measure => simp [intOf] <;> omega
      · obtain rfl : j = q.length := by omega
        go_wp2
        go_end0
        exact ⟨rfl, hgr.out, hwv.out⟩
end Go.Proofs.Ytfhhnfpapgfnmaa
