import Derived.Test.YtalahdkhglagpaaGreatDoorDke
set_option linter.unusedVariables false
set_option linter.unusedSimpArgs false
namespace Go.Proofs.YtalahdkhglagpaaGreatDoor
open Go Go.RowKit Go.Deep
open Dsg
/-- Rows that grow side by side, each in memory of its own. -/
structure Dl (v : Nat) (G : Nat) (w0 : World) (R : Nat → Value) (ys : Nat → List Int) (W : World) : Prop where
  row : Vrow 40 W G v R
  all : ∀ j, j < v → Mine 3 .i64 (G + 1) W (R j) (ys j)
  ne : ∀ i j, i < v → j < v → i ≠ j → ∀ k, (R i).ownBlock = some k → (R j).ownBlock ≠ some k
  bel : Below w0.heap.size w0 W
  out : w0.heap.size ≤ G
section
variable {v G : Nat} {w0 W W' : World} {R : Nat → Value} {ys : Nat → List Int}
theorem Dl.alloc (h : Dl v G w0 R ys W) (o : Obj) : Dl v G w0 R ys (W.alloc o) :=
  ⟨h.row.grown (World.grownBy_alloc W o none) (by simp), fun j hj => (h.all j hj).alloc o, h.ne, h.bel.alloc h.bel.size _, h.out⟩
theorem Dl.congr {zs : Nat → List Int} (h : Dl v G w0 R ys W) (he : ∀ j, j < v → ys j = zs j) : Dl v G w0 R zs W :=
  ⟨h.row, fun j hj => by rw [← he j hj]; exact h.all j hj, h.ne, h.bel, h.out⟩
theorem Dl.rowne (h : Dl v G w0 R ys W) {p : Nat} (hp : p < v) : (R p).ownBlock ≠ some G := fun e => by
  have := ((h.all p hp).own G e).1
  omega
theorem Dl.next (h : Dl v G w0 R ys W) {p : Nat} (hp : p < v) {u : Value} {zs : List Int} (hm : Mine 3 .i64 (G + 1) W' u zs) (hg : W.grownBy W' (R p).ownBlock) (hn : u.ownBlock = (R p).ownBlock ∨ ∀ g, u.ownBlock = some g → W.heap.size ≤ g) :
    Dl v G w0 (fun j => if j = p then u else R j) (fun j => if j = p then zs else ys j) (W'.setCell ⟨G, p, none⟩ u) := by
  have hgs : W'.grownBy (W'.setCell ⟨G, p, none⟩ u) (some G) := growSet (growRefl _ _) _ _
  have hfar : ∀ j, j < v → j ≠ p → ∀ k, (R j).ownBlock = some k → u.ownBlock ≠ some k := fun j hj hne k hk e => by
    rcases hn with h1 | h1
    · rw [h1] at e
      exact h.ne j p hj hp hne k hk e
    · have := h1 k e
      have := ((h.all j hj).own k hk).2
      omega
  refine ⟨(h.row.grown hg (h.rowne hp)).set u, fun j hj => ?_, fun i j hi hj hij k hk => ?_, ?_, h.out⟩
  · by_cases e : j = p
    · subst e
      show Mine _ _ _ _ (if j = j then u else R j) (if j = j then zs else ys j)
      rw [if_pos rfl, if_pos rfl]
      exact hm.off hgs fun k hk e => by
        have := (hm.own k hk).1
        cases e
        omega
    · show Mine _ _ _ _ (if j = p then u else R j) (if j = p then zs else ys j)
      rw [if_neg e, if_neg e]
      refine ((h.all j hj).off hg fun k hk e2 => h.ne j p hj hp e k hk e2).off hgs fun k hk e2 => ?_
      have := ((h.all j hj).own k hk).1
      cases e2
      omega
  · show (if j = p then u else R j).ownBlock ≠ some k
    have hk : (if i = p then u else R i).ownBlock = some k := hk
    by_cases e1 : i = p
    · rw [if_pos e1] at hk
      rw [if_neg (fun e => hij (by rw [e1, e]))]
      exact fun e => hfar j hj (fun e2 => hij (by rw [e1, e2])) k e hk
    · rw [if_neg e1] at hk
      by_cases e2 : j = p
      · rw [if_pos e2]
        exact hfar i hi e1 k hk
      · rw [if_neg e2]
        exact h.ne i j hi hj hij k hk
  · have hb : Below w0.heap.size w0 W' := h.bel.grown hg h.bel.size fun k hk => by
      have := ((h.all p hp).own k hk).1
      have := h.out
      omega
    exact hb.setCell (p := ⟨G, p, none⟩) h.out _
theorem Dl.sls (h : Dl v G w0 R ys W) : Sls W (some ⟨G, 0, none⟩) ((List.range v).map ys) := by
  intro j hj
  have hj' : j < v := by simpa using hj
  refine ⟨G, 0, R j, rfl, h.row.lt, by rw [Nat.zero_add]; exact h.row.cell hj', ?_⟩
  have := (h.all j hj').sl
  simpa [hj'] using this
end
open Classical in
/-- The rows after b blocks and k points of the next. -/
noncomputable def dlY (rows : List (List Int)) (b : Nat) (l : List Int) (j : Nat) : List Int := fL b (fun x => hasB (rows[x]?.getD []) (j : Nat)) ++ (if (j : Int) ∈ l then [(b : Int)] else [])
theorem dlY_end {rows : List (List Int)} {b : Nat} {xs : List Int} (h : rows[b]?.getD [] = xs) (j : Nat) : dlY rows b xs j = dlY rows (b + 1) [] j := by
  unfold dlY
  rw [fL_succ, h]
  by_cases hj : (j : Int) ∈ xs
  · rw [if_pos hj, if_pos (hasB_iff.2 hj)]; simp
  · rw [if_neg hj, if_neg (fun h => hj (hasB_iff.1 h))]; simp
theorem dlY_nil (rows : List (List Int)) (b j : Nat) : dlY rows b [] j = fL b (fun x => hasB (rows[x]?.getD []) (j : Nat)) := by
  unfold dlY
  simp
theorem dlY_in {rows : List (List Int)} {b k p : Nat} {xs : List Int} (hk : k < xs.length) (hp : xs[k]?.getD 0 = p) (hu : xs.Pairwise (· < ·)) (j : Nat) : (if j = p then dlY rows b (xs.take k) p ++ [(b : Int)] else dlY rows b (xs.take k) j) = dlY rows b (xs.take (k + 1)) j := by
  have hp2 : xs[k] = p := by rw [List.getElem?_eq_getElem hk, Option.getD_some] at hp; exact hp
  have ht : xs.take (k + 1) = xs.take k ++ [(p : Int)] := by rw [List.take_add_one, List.getElem?_eq_getElem hk]; simp [hp2]
  unfold dlY
  by_cases e : j = p
  · subst e
    rw [if_pos rfl, ht, if_neg (fun h => ?_), if_pos (by simp)]
    · simp
    · obtain ⟨i, hi, e2⟩ := List.mem_take_iff_getElem.1 h
      have := List.pairwise_iff_getElem.1 hu i k (by omega) hk (by omega)
      omega
  · rw [if_neg e, ht]
    congr 1
    have : ((j : Int) ∈ xs.take k ++ [(p : Int)]) ↔ (j : Int) ∈ xs.take k := by simp; omega
    by_cases h : (j : Int) ∈ xs.take k
    · rw [if_pos h, if_pos (this.2 h)]
    · rw [if_neg h, if_neg (fun h2 => h (this.1 h2))]
theorem dlY_len {rows : List (List Int)} {b : Nat} {l : List Int} {j : Nat} : (dlY rows b l j).length ≤ b + 1 := by
  unfold dlY
  rw [List.length_append]
  have := fL_len b (fun x => hasB (rows[x]?.getD []) (j : Nat))
  by_cases h : (j : Int) ∈ l
  · rw [if_pos h]; simp; omega
  · rw [if_neg h]; simp; omega
set_option maxRecDepth 20000 in
set_option maxHeartbeats 8000000 in
theorem dual_any (v : Int) (ao : Option Addr) (rows : List (List Int)) (cap : Nat) (w : World) (h : Sls w ao rows) (hcap : rows.length ≤ cap) (hmax : cap ≤ maxLen) :
    Calls Tryz.prog 8 #[.int .i64 v, .slice ao rows.length cap] w (CmRet v rows ((List.range v.toNat).map fun j => fL rows.length fun x => hasB (rows[x]?.getD []) (j : Nat)) w) := by
  have HCK := Kept.mk (check_any v ao rows cap w h hcap hmax)
  obtain ⟨pa, pb, pc, pd, pe, hpv⟩ := ckV_form v rows
  have HC := Kept.mk h
  have HOK := Kept.mk (fun he : ckE v rows = 0 => ckE_ok he)
  have heb := ckE_le v rows
  obtain ⟨D, hD⟩ : ∃ D, (fun j : Nat => fL rows.length fun x => hasB (rows[x]?.getD []) (j : Nat)) = D := ⟨_, rfl⟩
  have HD : Kept (∀ j, D j = fL rows.length fun x => hasB (rows[x]?.getD []) (j : Nat)) := ⟨fun j => by rw [← hD]⟩
  rw [hD]
  have HY : Kept (∀ w' ao2 cap2 (u : Nat), v = u → Below w.heap.size w w' → ckE v rows = 0 → u ≤ cap2 → cap2 ≤ maxLen → Sls w' ao2 ((List.range u).map D) → CmRet v rows ((List.range v.toNat).map D) w (.returned (.tuple #[.slice ao2 u cap2, .int .i64 0])) w') := ⟨fun w' ao2 cap2 u hu hb h0 h1 h2 h3 => by
    subst hu
    rw [Int.toNat_natCast]
    exact ⟨hb, .inl ⟨h0, ao2, cap2, by rw [List.length_map, List.length_range], by simpa using h1, h2, h3⟩⟩⟩
  have HNO : Kept (∀ w', Below w.heap.size w w' → ckE v rows ≠ 0 → CmRet v rows ((List.range v.toNat).map D) w (.returned (.tuple #[.slice none 0 0, .int .i64 (ckE v rows : Nat)])) w') := ⟨fun w' hb h0 => ⟨hb, .inr ⟨h0, rfl⟩⟩⟩
  obtain ⟨CR, hCR⟩ : ∃ P, CmRet v rows ((List.range v.toNat).map D) w = P := ⟨_, rfl⟩
  rw [hCR] at HY HNO ⊢
  obtain ⟨E, hE⟩ : ∃ E, ckE v rows = E := ⟨_, rfl⟩
  rw [hE, hpv] at HCK
  rw [hE] at HOK HY HNO heb
  obtain ⟨n, hN⟩ : ∃ n, rows.length = n := ⟨_, rfl⟩
  rw [hN] at hcap HCK HD ⊢
  have HN := Kept.mk hN
  unfold maxLen at hmax
  clear h hD hN hpv hCR hE
  by_cases hE0 : E = 0
  · subst hE0
    obtain ⟨⟨hv3, hv2⟩, hr2, hab, _⟩ := HOK.out rfl
    obtain ⟨u, rfl⟩ : ∃ u : Nat, v = u := ⟨v.toNat, by omega⟩
    have HAB := Kept.mk (abB_iff.1 hab)
    rw [HN.out] at hr2
    have hmk := run_make_row' (P := Tryz.prog) 22 40 (.slice none 0 0) 24 Tryz.underlying22 info_rows rfl .i64 .i64 u (by omega) (by omega)
    clear hab heb
    go_enter Tryz.func8, Tryz.ntmps8
    go_wp2_with fail
    refine HCK.out.mono ?_
    rintro e w0 ⟨hb0, rfl⟩
    have HB0 := Kept.mk (hb0.alloc hb0.size (prbox pa pb pc pd pe))
    obtain ⟨w1, hw1⟩ : ∃ W, w0.alloc (prbox pa pb pc pd pe) = W := ⟨_, rfl⟩
    rw [hw1] at HB0
    have hb1 := HB0.out
    have HDL0 : Kept (Dl u w1.heap.size w (fun _ => .slice none 0 0) (dlY rows 0 []) (w1.alloc (.cells (madeCells #[.slice none 0 0] u) 40))) := ⟨⟨Vrow.new w1 u, fun j hj => by rw [dlY_nil]; exact Mine.nil _ _ _ _, fun i j _ _ _ k hk => by simp [Value.ownBlock] at hk, hb1.alloc hb1.size _, hb1.size⟩⟩
    obtain ⟨G, hG⟩ : ∃ G, w1.heap.size = G := ⟨_, rfl⟩
    rw [hG] at HDL0
    clear hb0 hb1
    go_wp2
    go_loopw [26] (fun iv wr => ∃ (b : Nat) (R : Nat → Value), b ≤ n ∧ iv = .int .i64 b ∧ Kept (Dl u G w R (dlY rows b []) wr)) (fun iv _ => n - (intOf iv).toNat)
    case atStart => exact ⟨0, _, Nat.zero_le _, rfl, HDL0⟩
    case round =>
      obtain ⟨b, R0, hbu, rfl, hdl⟩ := hrel
      by_cases hbv : b < n
      · obtain ⟨g, o, rv, rfl, hg, hcell, hs⟩ := HC.out b (by rw [HN.out]; exact hbv)
        have rc := (hdl.out.bel.cell (p := ⟨g, o + b, none⟩) hg).trans hcell
        obtain ⟨xs, hxs⟩ : ∃ xs, rows[b]?.getD [] = xs := ⟨_, rfl⟩
        have hxm : xs ∈ rows := by rw [← hxs]; exact row_mem (by rw [HN.out]; exact hbv)
        have HXR := Kept.mk (rsB_iff.1 (HAB.out.2.1 xs hxm).2)
        rw [hxs] at hs
        have HXS := Kept.mk hxs
        obtain ⟨ra, rcp, rfl, hrc1, hrc2⟩ := hs.form
        obtain ⟨m, hm⟩ : ∃ m, xs.length = m := ⟨_, rfl⟩
        have hm2 : m ≤ 200 := by
          have h1 := (HAB.out.2.1 xs hxm).1
          have h2 := HAB.out.2.2.2
          omega
        rw [hm] at rc hs
        have HS := Kept.mk hs
        have HM := Kept.mk hm
        have HDL1 : Kept (Dl u G w R0 (dlY rows b (xs.take 0)) wr) := ⟨hdl.out⟩
        clear hdl hcell hs hrc1 hrc2 hxs hxm hm
        go_wp2
        go_loopw [33] (fun kv wr => ∃ (k : Nat) (R : Nat → Value), k ≤ m ∧ kv = .int .i64 k ∧ Kept (Dl u G w R (dlY rows b (xs.take k)) wr)) (fun kv _ => m - (intOf kv).toNat)
        case atStart => exact ⟨0, _, Nat.zero_le _, rfl, HDL1⟩
        case round =>
          obtain ⟨k, R, hkm, rfl, hdl⟩ := hrel
          by_cases hk : k < m
          · obtain ⟨g2, o2, rfl, hg2, hcl⟩ : ∃ g2 o2, ra = some ⟨g2, o2, none⟩ ∧ g2 < w.heap.size ∧ w.cell? ⟨g2, o2 + k, none⟩ = some (.int .i64 (xs[k]?.getD 0)) := by
              obtain ⟨ao', c', e, _, _, hx⟩ := HS.out
              simp only [Value.slice.injEq] at e
              obtain ⟨b', o', e2, h1, h2⟩ := hx k (by rw [HM.out]; exact hk)
              exact ⟨b', o', by rw [e.1, e2], h1, h2⟩
            obtain ⟨h0, h1⟩ := HXR.out.2 _ (get_mem' (xs := xs) (i := k) (by rw [HM.out]; exact hk))
            obtain ⟨p, hp⟩ : ∃ p : Nat, xs[k]?.getD 0 = p := ⟨(xs[k]?.getD 0).toNat, by omega⟩
            rw [hp] at hcl h0 h1
            have hpu : p < u := by omega
            have ic := (hdl.out.bel.cell (p := ⟨g2, o2 + k, none⟩) hg2).trans hcl
            have HIN := Kept.mk (fun j => dlY_in (rows := rows) (b := b) (xs := xs) (k := k) (p := p) (by rw [HM.out]; exact hk) hp HXR.out.1 j)
            have hyl := dlY_len (rows := rows) (b := b) (l := xs.take k) (j := p)
            obtain ⟨Y, hY⟩ : ∃ Y, dlY rows b (xs.take k) = Y := ⟨_, rfl⟩
            rw [hY] at hdl hyl HIN
            obtain ⟨ys, hys⟩ : ∃ ys, Y p = ys := ⟨_, rfl⟩
            rw [hys] at hyl HIN
            have hmn := hdl.out.all p hpu
            rw [hys] at hmn
            obtain ⟨ra2, rc2, hRi, _, _⟩ := hmn.sl.form
            obtain ⟨yl, hyl2⟩ : ∃ yl, ys.length = yl := ⟨_, rfl⟩
            rw [hyl2] at hRi hyl
            have HHI := Kept.mk (hdl.out.alloc (.cells #[.int .i64 (b : Int)] 3))
            have c0 := hdl.out.row.cell hpu
            rw [hRi] at c0
            have c1 := HHI.out.row.cell hpu
            rw [hRi] at c1
            have HRI := Kept.mk hRi
            have HYS := Kept.mk hys
            have HNW := Kept.mk (new_one (K := .i64) (x := (b : Int)) (w := wr.alloc (.cells #[.int .i64 (b : Int)] 3)) (b := wr.heap.size) (o := 0) (by exact (Row.new (E := 3) (K := .i64) wr [(b : Int)]).cell (i := 0) (by simp)))
            have H1 := Kept.mk (show (ys.length + [(b : Int)].length) * 8 ≤ 140737488355328 by rw [hyl2]; simp; omega)
            have H2 := Kept.mk (show ys.length + [(b : Int)].length ≤ maxLen by rw [hyl2]; unfold maxLen; simp; omega)
            have HL5 : Kept ((ys ++ [(b : Int)]).length = yl + 1) := ⟨by simp [hyl2]⟩
            have HMA : Kept (Mine 3 .i64 (G + 1) (wr.alloc (.cells #[.int .i64 (b : Int)] 3)) (.slice ra2 yl rc2) ys) := ⟨by have := HHI.out.all p hpu; rw [hRi, hys] at this; exact this⟩
            have HBS : Kept (G + 1 ≤ (wr.alloc (.cells #[.int .i64 (b : Int)] 3)).heap.size) := ⟨by have := hdl.out.row.lt; simp; omega⟩
            have hpu' : (p : Int) < (u : Int) := by omega
            clear hRi hys hY hcl hmn hp h0 h1 hyl2
            go_wp2_with (at_builtin; refine wpList_append_mine _ rfl _ _ 40 rfl 3 .i64 8 Tryz.underlying40 info_i64 (G + 1) _ ys rfl HMA.out HBS.out ⟨wr.heap.size, 0, none⟩ 1 1 [(b : Int)] rfl rfl HNW.out H1.out H2.out ?_)
            intro v' w5 hM5 hg5 hn5
            obtain ⟨va, vc, hv5, _, _⟩ := hM5.sl.form
            rw [HL5.out] at hv5
            subst hv5
            have HN5 := Kept.mk (HHI.out.next hpu hM5 (by rw [HRI.out]; exact hg5) (by rw [HRI.out, World.size_alloc]; exact hn5))
            have c2 := (HHI.out.row.grown hg5 (by rw [← HRI.out]; exact HHI.out.rowne hpu)).cell hpu
            have c3 := (HHI.out.row.grown hg5 (by rw [← HRI.out]; exact HHI.out.rowne hpu)).free p
            clear hM5 hg5 hn5
            go_wp2
            go_roundw
            case rel => exact ⟨k + 1, _, by omega, by go_num, ⟨HN5.out.congr (fun j _ => HIN.out j)⟩⟩
            case measure => simp [intOf] <;> omega
          · obtain rfl : k = m := by omega
            have HDD : Kept (Dl u G w R (dlY rows (b + 1) []) wr) := ⟨hdl.out.congr (fun j _ => by rw [← HM.out, List.take_length, dlY_end HXS.out])⟩
            go_wp2
            go_roundw
            case rel => exact ⟨b + 1, R, by omega, by go_num, HDD⟩
            case measure => simp [intOf] <;> omega
      · obtain rfl : b = n := by omega
        have HF := Kept.mk (HY.out wr _ u u rfl hdl.out.bel trivial (Nat.le_refl _) (by unfold maxLen; omega) (by
          have := hdl.out.sls
          rw [show dlY rows b [] = D from funext fun j => by rw [dlY_nil, HD.out]] at this
          exact this))
        go_wp2
        exact HF.out
  · have eE : ((E : Int) != 0) = true := by rw [bne_iff_ne]; omega
    go_enter Tryz.func8, Tryz.ntmps8
    go_wp2_with fail
    refine HCK.out.mono ?_
    rintro e w0 ⟨hb0, rfl⟩
    have HF := Kept.mk (HNO.out _ (hb0.alloc hb0.size (prbox pa pb pc pd pe)) hE0)
    clear hb0
    go_wp2
    exact HF.out
end Go.Proofs.YtalahdkhglagpaaGreatDoor
