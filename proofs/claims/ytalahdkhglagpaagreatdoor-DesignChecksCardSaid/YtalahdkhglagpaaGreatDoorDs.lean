import Derived.Test.YtalahdkhglagpaaGreatDoorDr
set_option linter.unusedVariables false
set_option linter.unusedSimpArgs false
namespace Go.Proofs.YtalahdkhglagpaaGreatDoor
open Go Go.RowKit Go.Deep
open Dsg
/-- The number of a pair of points. -/
def ix (v : Nat) (x y : Int) : Nat := (x * v + y).toNat
theorem ix_int {v : Nat} {x y : Int} (hx : 0 ≤ x) (hy : 0 ≤ y) : ((ix v x y : Nat) : Int) = x * v + y := by
  unfold ix
  have : 0 ≤ x * (v : Int) := Int.mul_nonneg hx (by omega)
  omega
theorem ix_lt {v : Nat} {x y : Int} (hx : 0 ≤ x ∧ x < v) (hy : 0 ≤ y ∧ y < v) : ix v x y < v * v := by
  have h1 := ix_int (v := v) hx.1 hy.1
  have h2 : (x + 1) * (v : Int) ≤ v * v := Int.mul_le_mul_of_nonneg_right (by omega) (by omega)
  rw [Int.add_mul, Int.one_mul] at h2
  have h3 : ((v * v : Nat) : Int) = (v : Int) * v := by simp
  omega
/-- The pairs of a block, up to a place. -/
def blP (v : Nat) (xs : List Int) (i k : Nat) : List Nat := (List.range i).flatMap (fun j => (xs.drop (j + 1)).map (ix v (xs[j]?.getD 0))) ++ ((xs.drop (i + 1)).take k).map (ix v (xs[i]?.getD 0))
def bl (v : Nat) (xs : List Int) : List Nat := blP v xs xs.length 0
theorem blP_in {v : Nat} {xs : List Int} {i k : Nat} (h : i + 1 + k < xs.length) : blP v xs i (k + 1) = blP v xs i k ++ [ix v (xs[i]?.getD 0) (xs[i + 1 + k]?.getD 0)] := by
  unfold blP
  rw [List.take_add_one, List.map_append, List.getElem?_drop, List.getElem?_eq_getElem h]
  simp
theorem blP_out {v : Nat} {xs : List Int} {i : Nat} (h : i < xs.length) : blP v xs i (xs.length - (i + 1)) = blP v xs (i + 1) 0 := by
  unfold blP
  rw [List.range_succ, List.flatMap_append, List.take_of_length_le (by simp)]
  simp
theorem blP_zero (v : Nat) (xs : List Int) : blP v xs 0 0 = [] := by simp [blP]
theorem blP_len (v : Nat) (xs : List Int) : ∀ i k, (blP v xs i k).length ≤ i * xs.length + k := by
  intro i k
  have hf : ∀ i, ((List.range i).flatMap (fun j => (xs.drop (j + 1)).map (ix v (xs[j]?.getD 0)))).length ≤ i * xs.length := by
    intro i
    induction i with
    | zero => simp
    | succ i ih =>
      rw [List.range_succ, List.flatMap_append, List.length_append, Nat.succ_mul]
      refine Nat.add_le_add ih ?_
      simp
  unfold blP
  rw [List.length_append, List.length_map]
  exact Nat.add_le_add (hf i) (by rw [List.length_take]; omega)
/-- The pairs of all blocks, up to a place. -/
def tgP (v : Nat) (rows : List (List Int)) (r i k : Nat) : List Nat := (rows.take r).flatMap (bl v) ++ blP v (rows[r]?.getD []) i k
def tgL (v : Nat) (rows : List (List Int)) : List Nat := rows.flatMap (bl v)
theorem tgP_zero (v : Nat) (rows : List (List Int)) : tgP v rows 0 0 0 = [] := by simp [tgP, blP_zero]
theorem tgP_in {v : Nat} {rows : List (List Int)} {r i k : Nat} {xs : List Int} (hx : rows[r]?.getD [] = xs) (h : i + 1 + k < xs.length) : tgP v rows r i (k + 1) = tgP v rows r i k ++ [ix v (xs[i]?.getD 0) (xs[i + 1 + k]?.getD 0)] := by
  unfold tgP
  rw [hx, blP_in h, List.append_assoc]
theorem tgP_mid {v : Nat} {rows : List (List Int)} {r i : Nat} {xs : List Int} (hx : rows[r]?.getD [] = xs) (h : i < xs.length) : tgP v rows r i (xs.length - (i + 1)) = tgP v rows r (i + 1) 0 := by
  unfold tgP
  rw [hx, blP_out h]
theorem tgP_out {v : Nat} {rows : List (List Int)} {r : Nat} {xs : List Int} (hr : r < rows.length) (hx : rows[r]?.getD [] = xs) : tgP v rows r xs.length 0 = tgP v rows (r + 1) 0 0 := by
  unfold tgP
  rw [blP_zero, List.append_nil, List.take_add_one, List.flatMap_append, hx]
  rw [List.getElem?_eq_getElem hr] at hx ⊢
  simp at hx
  simp [hx, bl]
theorem tgP_end (v : Nat) (rows : List (List Int)) : tgP v rows rows.length 0 0 = tgL v rows := by
  unfold tgP tgL
  rw [blP_zero, List.append_nil, List.take_length]
theorem tgP_len {v : Nat} {rows : List (List Int)} (hl : ∀ r ∈ rows, r.length ≤ 200) (r i k : Nat) : (tgP v rows r i k).length ≤ r * 40000 + (i * 200 + k) := by
  unfold tgP
  rw [List.length_append]
  have h1 : ∀ l : List (List Int), (∀ x ∈ l, x.length ≤ 200) → (l.flatMap (bl v)).length ≤ l.length * 40000 := by
    intro l
    induction l with
    | nil => simp
    | cons x t ih =>
      intro hb
      rw [List.flatMap_cons, List.length_append, List.length_cons, Nat.succ_mul]
      have h2 := ih (fun y hy => hb y (List.mem_cons_of_mem _ hy))
      have h3 : (bl v x).length ≤ x.length * x.length + 0 := blP_len v x x.length 0
      have h4 : x.length * x.length ≤ 200 * 200 := Nat.mul_le_mul (hb x List.mem_cons_self) (hb x List.mem_cons_self)
      omega
  have h2 := h1 (rows.take r) (fun x hx => hl x (List.mem_of_mem_take hx))
  have h3 : (rows.take r).length * 40000 ≤ r * 40000 := Nat.mul_le_mul_right _ (by rw [List.length_take]; omega)
  have h4 := blP_len v (rows[r]?.getD []) i k
  have h5 : i * (rows[r]?.getD []).length ≤ i * 200 := by
    refine Nat.mul_le_mul_left i ?_
    by_cases hr : r < rows.length
    · exact hl _ (row_mem hr)
    · rw [List.getElem?_eq_none (by omega)]; simp
  omega
open Classical in
/-- In how many blocks any two points are together, or 0. -/
noncomputable def tgF (v : Nat) (rows : List (List Int)) : Nat := if ∀ a b : Nat, a < b → b < v → (tgL v rows).count (a * v + b) = (tgL v rows).count 1 then (tgL v rows).count 1 else 0
theorem Sl.at {K : IntKind} {w : World} {g o n c : Nat} {xs : List Int} (h : Sl K w (.slice (some ⟨g, o, none⟩) n c) xs) (hn : xs.length = n) {i : Nat} (hi : i < n) : g < w.heap.size ∧ w.cell? ⟨g, o + i, none⟩ = some (.int K (xs[i]?.getD 0)) := by
  obtain ⟨ao, cap, e, hc, hm, hx⟩ := h
  simp only [Value.slice.injEq] at e
  obtain ⟨e1, _, _⟩ := e
  obtain ⟨b, o', e2, h1, h2⟩ := hx i (by omega)
  rw [← e1] at e2
  simp only [Option.some.injEq, Addr.mk.injEq, and_true] at e2
  obtain ⟨rfl, rfl⟩ := e2
  exact ⟨h1, h2⟩
set_option maxRecDepth 20000 in
set_option maxHeartbeats 8000000 in
theorem together_any (v : Nat) (ao : Option Addr) (rows : List (List Int)) (cap : Nat) (w : World) (h : Sls w ao rows) (hcap : rows.length ≤ cap) (hmax : cap ≤ maxLen) (hv : 3 ≤ v ∧ v ≤ 200) (hr : rows.length ≤ 2000) (hab : abB v rows = true) :
    Calls Tryz.prog 18 #[.int .i64 v, .slice ao rows.length cap] w (RB w (.int .i64 (tgF v rows : Nat))) := by
  obtain ⟨n, hN⟩ : ∃ n, rows.length = n := ⟨_, rfl⟩
  obtain ⟨t, ht⟩ : ∃ t, tgF v rows = t := ⟨_, rfl⟩
  have HC := Kept.mk h
  have HAB := Kept.mk (abB_iff.1 hab)
  have HL2 : Kept (∀ r ∈ rows, r.length ≤ 200) := ⟨fun r hr => by have h1 := (HAB.out.2.1 r hr).1; have h2 := HAB.out.2.2.2; omega⟩
  rw [hN] at hcap hr ⊢
  rw [ht]
  have HN := Kept.mk hN
  have HT := Kept.mk ht
  unfold maxLen at hmax
  obtain ⟨vv, hvv⟩ : ∃ x, v * v = x := ⟨_, rfl⟩
  have hvb : vv ≤ 200 * 200 := by rw [← hvv]; exact Nat.mul_le_mul hv.2 hv.2
  have hv1 : v ≤ vv := by rw [← hvv]; exact Nat.le_mul_of_pos_right _ (by omega)
  have hmk := run_make_row' (P := Tryz.prog) 40 3 (.int .i64 0) 8 Tryz.underlying40 info_i64 rfl .i64 .i64 vv (by omega) (by omega)
  have w0' : IntKind.i64.wrap ((v : Int) * v) = vv := by rw [← Int.natCast_mul, hvv]; exact wrapB (by omega) (by omega)
  have HZ0 : Kept (Row 3 .i64 (w.alloc (.cells (madeCells #[.int .i64 0] vv) 3)) w.heap.size (cn vv (tgP v rows 0 0 0))) := ⟨by rw [tgP_zero, cn_nil]; exact Row.zeros w vv⟩
  have HB0 : Kept (Below w.heap.size w (w.alloc (.cells (madeCells #[.int .i64 0] vv) 3))) := ⟨(Below.refl _ _).alloc (Nat.le_refl _) _⟩
  have HVV := Kept.mk hvv
  clear h hN ht hab hvv
  go_enter Tryz.func18, Tryz.ntmps18
  go_wp2
  go_loopw [20] (fun iv wr => ∃ r : Nat, r ≤ n ∧ iv = .int .i64 r ∧ Kept (Row 3 .i64 wr w.heap.size (cn vv (tgP v rows r 0 0))) ∧ Kept (Below w.heap.size w wr)) (fun iv _ => n - (intOf iv).toNat)
  case atStart => exact ⟨0, Nat.zero_le _, rfl, HZ0, HB0⟩
  case round =>
    obtain ⟨r, hrn, rfl, hrw, hbl⟩ := hrel
    by_cases hlt : r < n
    · obtain ⟨g, o, rv, rfl, hg, hcell, hs⟩ := HC.out r (by rw [HN.out]; exact hlt)
      have rc := (hbl.out.cell (p := ⟨g, o + r, none⟩) hg).trans hcell
      obtain ⟨xs, hxs⟩ : ∃ xs, rows[r]?.getD [] = xs := ⟨_, rfl⟩
      rw [hxs] at hs
      obtain ⟨ra, rcp, rfl, hrc1, hrc2⟩ := hs.form
      obtain ⟨m, hm⟩ : ∃ m, xs.length = m := ⟨_, rfl⟩
      have hxm : xs ∈ rows := by rw [← hxs]; exact row_mem (by rw [HN.out]; exact hlt)
      have hm200 : m ≤ 200 := by rw [← hm]; exact HL2.out xs hxm
      have HXR : Kept (∀ x ∈ xs, 0 ≤ x ∧ x < (v : Int)) := ⟨(rsB_iff.1 (HAB.out.2.1 xs hxm).2).2⟩
      rw [hm] at rc hcell hs hrc1
      unfold maxLen at hrc2
      have HS := Kept.mk hs
      have HXS := Kept.mk hxs
      have HM := Kept.mk hm
      obtain ⟨wz, hwz⟩ : ∃ W, W = wr := ⟨_, rfl⟩
      subst hwz
      clear hs hxs hm hxm hcell
      go_wp2
      go_loopw [26] (fun iv wr => ∃ i : Nat, i ≤ m ∧ iv = .int .i64 i ∧ Kept (Row 3 .i64 wr w.heap.size (cn vv (tgP v rows r i 0))) ∧ Kept (Below w.heap.size w wr)) (fun iv _ => m - (intOf iv).toNat)
      case atStart => exact ⟨0, Nat.zero_le _, rfl, hrw, hbl⟩
      case round =>
        obtain ⟨i, him, rfl, hri, hbi⟩ := hrel
        by_cases hlti : i < m
        · obtain ⟨g2, o2, rfl, hg2, hcl⟩ : ∃ g2 o2, ra = some ⟨g2, o2, none⟩ ∧ g2 < w.heap.size ∧ w.cell? ⟨g2, o2 + i, none⟩ = some (.int .i64 (xs[i]?.getD 0)) := by
            obtain ⟨ao', c', e, _, _, hx⟩ := HS.out
            simp only [Value.slice.injEq] at e
            obtain ⟨b, o', e2, h1, h2⟩ := hx i (by rw [HM.out]; exact hlti)
            exact ⟨b, o', by rw [e.1, e2], h1, h2⟩
          obtain ⟨a, ha⟩ : ∃ a, xs[i]?.getD 0 = a := ⟨_, rfl⟩
          rw [ha] at hcl
          have ic := (hbi.out.cell (p := ⟨g2, o2 + i, none⟩) hg2).trans hcl
          obtain ⟨a0, a1⟩ := HXR.out a (by rw [← ha]; exact get_mem' (by rw [HM.out]; exact hlti))
          have HAI := Kept.mk ha
          obtain ⟨av, hav⟩ : ∃ x, a * (v : Int) = x := ⟨_, rfl⟩
          have hav1 : 0 ≤ av ∧ av ≤ 200 * 200 := by
            rw [← hav]
            exact ⟨Int.mul_nonneg a0 (by omega), Int.mul_le_mul (by omega) (by omega) (by omega) (by omega)⟩
          have w1' : IntKind.i64.wrap (a * (v : Int)) = av := by rw [hav]; exact wrapB (by omega) (by omega)
          have HAV := Kept.mk hav
          have hi1 : ((i : Int) + 1) ≤ (m : Int) := by omega
          obtain ⟨wy, hwy⟩ : ∃ W, W = wr := ⟨_, rfl⟩
          subst hwy
          clear ha hcl hav
          by_cases hcc : rcp = i + 1
          · subst hcc
            have HMI : Kept (m = i + 1) := ⟨by omega⟩
            go_wp2
            go_loopw [36] (fun kv wr => ∃ k : Nat, k ≤ m - (i + 1) ∧ kv = .int .i64 k ∧ Kept (Row 3 .i64 wr w.heap.size (cn vv (tgP v rows r i k))) ∧ Kept (Below w.heap.size w wr)) (fun kv _ => m - (intOf kv).toNat)
            case atStart => exact ⟨0, Nat.zero_le _, rfl, hri, hbi⟩
            case round =>
              obtain ⟨k, hkm, rfl, hrk, hbk⟩ := hrel
              by_cases hlk : k < m - (i + 1)
              · have := HMI.out; omega
              · obtain rfl : k = m - (i + 1) := by omega
                have HE : Kept (Row 3 .i64 wr w.heap.size (cn vv (tgP v rows r (i + 1) 0))) := ⟨by rw [← tgP_mid HXS.out (by rw [HM.out]; exact hlti), HM.out]; exact hrk.out⟩
                go_wp2
                go_roundw
                case rel => exact ⟨i + 1, by omega, by go_num, HE, hbk⟩
                case measure => simp [intOf] <;> omega
          · have hcc' : ¬ ((rcp : Int) = (i : Int) + 1) := by omega
            have hcc2 : i + 1 < rcp := by omega
            go_wp2
            go_loopw [36] (fun kv wr => ∃ k : Nat, k ≤ m - (i + 1) ∧ kv = .int .i64 k ∧ Kept (Row 3 .i64 wr w.heap.size (cn vv (tgP v rows r i k))) ∧ Kept (Below w.heap.size w wr)) (fun kv _ => m - (intOf kv).toNat)
            case atStart => exact ⟨0, Nat.zero_le _, rfl, hri, hbi⟩
            case round =>
              obtain ⟨k, hkm, rfl, hrk, hbk⟩ := hrel
              by_cases hlk : k < m - (i + 1)
              · obtain ⟨_, hcl2⟩ := HS.out.at HM.out (i := i + 1 + k) (by omega)
                obtain ⟨b, hb⟩ : ∃ b, xs[i + 1 + k]?.getD 0 = b := ⟨_, rfl⟩
                rw [hb, ← Nat.add_assoc] at hcl2
                have kc := (hbk.out.cell (p := ⟨g2, o2 + (i + 1) + k, none⟩) hg2).trans hcl2
                obtain ⟨b0, b1⟩ := HXR.out b (by rw [← hb]; exact get_mem' (by rw [HM.out]; omega))
                obtain ⟨q, hq⟩ : ∃ q, ix v a b = q := ⟨_, rfl⟩
                have hqv : q < vv := by rw [← hq, ← HVV.out]; exact ix_lt ⟨a0, a1⟩ ⟨b0, b1⟩
                have hqi : (q : Int) = av + b := by rw [← hq, ix_int a0 b0, HAV.out]
                have w2' : IntKind.i64.wrap (av + b) = q := by rw [← hqi]; exact wrapB (by omega) (by omega)
                obtain ⟨c, hcc⟩ : ∃ c, (tgP v rows r i k).count q = c := ⟨_, rfl⟩
                have hcb : c ≤ 80100000 := by
                  rw [← hcc]
                  refine Nat.le_trans List.count_le_length (Nat.le_trans (tgP_len HL2.out r i k) ?_)
                  omega
                have HNX : Kept (cn vv (tgP v rows r i (k + 1)) = (cn vv (tgP v rows r i k)).set q ((c : Int) + 1)) := ⟨by rw [tgP_in HXS.out (by rw [HM.out]; omega), HAI.out, hb, hq, cn_succ _ hqv, hcc]⟩
                have q0 := hrk.out.cell (i := q) (by rw [cn_len]; exact hqv)
                rw [cn_get _ hqv, hcc] at q0
                have q1 := hrk.out.free q
                have HRK : Kept (Row 3 .i64 (wr.setCell ⟨w.heap.size, q, none⟩ (.int .i64 ((c : Int) + 1))) w.heap.size (cn vv (tgP v rows r i (k + 1)))) := ⟨by rw [HNX.out]; exact hrk.out.set q _⟩
                have HBK : Kept (Below w.heap.size w (wr.setCell ⟨w.heap.size, q, none⟩ (.int .i64 ((c : Int) + 1)))) := ⟨hbk.out.setCell (p := ⟨w.heap.size, q, none⟩) (Nat.le_refl _) _⟩
                clear hcc hb hcl2 hq hqi
                go_wp2
                go_roundw
                case rel => exact ⟨k + 1, by omega, by go_num, HRK, HBK⟩
                case measure => simp [intOf] <;> omega
              · obtain rfl : k = m - (i + 1) := by omega
                have HE : Kept (Row 3 .i64 wr w.heap.size (cn vv (tgP v rows r (i + 1) 0))) := ⟨by rw [← tgP_mid HXS.out (by rw [HM.out]; exact hlti), HM.out]; exact hrk.out⟩
                go_wp2
                go_roundw
                case rel => exact ⟨i + 1, by omega, by go_num, HE, hbk⟩
                case measure => simp [intOf] <;> omega
        · obtain rfl : i = m := by omega
          have HE : Kept (Row 3 .i64 wr w.heap.size (cn vv (tgP v rows (r + 1) 0 0))) := ⟨by rw [← tgP_out (by rw [HN.out]; exact hlt) HXS.out, HM.out]; exact hri.out⟩
          go_wp2
          go_roundw
          case rel => exact ⟨r + 1, by omega, by go_num, HE, hbi⟩
          case measure => simp [intOf] <;> omega
    · obtain rfl : r = n := by omega
      have HRW : Kept (Row 3 .i64 wr w.heap.size (cn vv (tgL v rows))) := ⟨by rw [← tgP_end, HN.out]; exact hrw.out⟩
      obtain ⟨c, hcc⟩ : ∃ c, (tgL v rows).count 1 = c := ⟨_, rfl⟩
      have HCC := Kept.mk hcc
      have HT2 : Kept ((∀ a b : Nat, a < b → b < v → (tgL v rows).count (a * v + b) = c) → t = c) := ⟨fun hall => by
        rw [← HT.out, tgF, if_pos (by rw [hcc]; exact hall), hcc]⟩
      have HT3 : Kept ((¬ ∀ a b : Nat, a < b → b < v → (tgL v rows).count (a * v + b) = c) → t = 0) := ⟨fun hall => by
        rw [← HT.out, tgF, if_neg (by rw [hcc]; exact hall)]⟩
      clear hcc
      obtain ⟨wz, hwz⟩ : ∃ W, W = wr := ⟨_, rfl⟩
      subst hwz
      have hv3 : 3 ≤ v := hv.1
      have hv200 : v ≤ 200 := hv.2
      go_wp2
      go_loopw [54] (fun xv W => ∃ a : Nat, a ≤ v ∧ xv = .int .i64 a ∧ Kept (∃ m, W = wz.drewN m) ∧ Kept (∀ x b : Nat, x < a → x < b → b < v → (tgL v rows).count (x * v + b) = c)) (fun xv _ => v - (intOf xv).toNat)
      case atStart => exact ⟨0, Nat.zero_le _, rfl, ⟨0, rfl⟩, ⟨fun x b h => absurd h (Nat.not_lt_zero _)⟩⟩
      case round =>
        obtain ⟨a, hav, rfl, hW, hall⟩ := hrel
        by_cases hlta : a < v
        · go_wp2
          go_loopw [13] (fun yv W => ∃ b : Nat, a < b ∧ b ≤ v ∧ yv = .int .i64 b ∧ Kept (∃ m, W = wz.drewN m) ∧ Kept (∀ y : Nat, a < y → y < b → (tgL v rows).count (a * v + y) = c)) (fun yv _ => v - (intOf yv).toNat)
          case atStart => exact ⟨a + 1, by omega, by omega, by go_num, hW, ⟨fun y h1 h2 => by omega⟩⟩
          case round =>
            obtain ⟨b, hab2, hbv, rfl, hW2, hally⟩ := hrel
            have HRK2 : Kept (Row 3 .i64 wr w.heap.size (cn vv (tgL v rows))) := ⟨by obtain ⟨m1, hm1⟩ := hW2.out; rw [hm1]; exact HRW.out⟩
            have HBL2 : Kept (∀ q, Below w.heap.size w (wr.drewN q)) := ⟨fun q => by obtain ⟨m1, hm1⟩ := hW2.out; rw [hm1]; exact below_drewN (below_drewN hbl.out _) _⟩
            by_cases hltb : b < v
            · obtain ⟨av, hav'⟩ : ∃ x, a * v = x := ⟨_, rfl⟩
              obtain ⟨q, hq⟩ : ∃ q, av + b = q := ⟨_, rfl⟩
              have hqv : q < vv := by
                have h1 : (a + 1) * v ≤ v * v := Nat.mul_le_mul_right v (by omega)
                rw [Nat.succ_mul, hav', HVV.out] at h1
                omega
              obtain ⟨d, hdd⟩ : ∃ d, (tgL v rows).count q = d := ⟨_, rfl⟩
              have q0 := HRK2.out.cell (i := q) (by rw [cn_len]; exact hqv)
              rw [cn_get _ hqv, hdd] at q0
              have q1 := HRK2.out.cell (i := 1) (by rw [cn_len]; omega)
              rw [cn_get _ (by omega), HCC.out] at q1
              have w1' : IntKind.i64.wrap ((a : Int) * v) = av := by rw [← Int.natCast_mul, hav']; exact wrapB (by omega) (by omega)
              have w2' : IntKind.i64.wrap ((av : Int) + b) = q := by rw [← Int.natCast_add, hq]; exact wrapB (by omega) (by omega)
              have hq1' : (q : Int) < (vv : Int) := by omega
              have hq2' : (0 : Int) ≤ (q : Int) := by omega
              have hv11 : (1 : Int) < (vv : Int) := by omega
              have hv12 : 1 < vv := by omega
              have HM : Kept (∀ q, ∃ m, wr.drewN q = wz.drewN m) := ⟨fun q => by obtain ⟨m1, hm1⟩ := hW2.out; rw [hm1]; exact ⟨m1 + q, drewN_add _ _ _⟩⟩
              by_cases hdc : d = c
              · have e5 : ((d : Int) != (c : Int)) = false := by simp [hdc]
                have HA : Kept (∀ y : Nat, a < y → y < b + 1 → (tgL v rows).count (a * v + y) = c) := ⟨fun y h1 h2 => by
                  by_cases hyb : y = b
                  · rw [hyb, hav', hq, ← hdc]; exact hdd
                  · exact hally.out y h1 (by omega)⟩
                clear hdd hdc hav' hq hW2
                go_wp2
                go_quiet (fail)
                go_wp2
                go_roundw
                case rel => exact ⟨b + 1, by omega, by omega, by go_num, ⟨HM.out _⟩, HA⟩
                case measure => simp [intOf] <;> omega
              · have e5 : ((d : Int) != (c : Int)) = true := by rw [bne_iff_ne]; omega
                have HF : Kept (t = 0) := ⟨HT3.out (fun h => hdc (by rw [← hdd, ← hq, ← hav']; exact h a b hab2 hltb))⟩
                clear hdd hdc hav' hq hW2
                go_wp2
                go_quiet (fail)
                go_wp2
                go_ret
                exact ⟨HBL2.out _, by rw [HF.out]; rfl⟩
            · obtain rfl : b = v := by omega
              have HA : Kept (∀ x y : Nat, x < a + 1 → x < y → y < b → (tgL b rows).count (x * b + y) = c) := ⟨fun x y h1 h2 h3 => by
                by_cases hxa : x = a
                · subst hxa; exact hally.out y h2 h3
                · exact hall.out x y (by omega) h2 h3⟩
              go_wp2
              go_roundw
              case rel => exact ⟨a + 1, by omega, by go_num, hW2, HA⟩
              case measure => simp [intOf] <;> omega
        · obtain rfl : a = v := by omega
          have HF : Kept (t = c) := ⟨HT2.out (fun x y h1 h2 => hall.out x y (by omega) h1 h2)⟩
          have q1 := (show Row 3 .i64 wr w.heap.size (cn vv (tgL a rows)) by obtain ⟨m1, hm1⟩ := hW.out; rw [hm1]; exact HRW.out).cell (i := 1) (by rw [cn_len]; omega)
          rw [cn_get _ (by omega), HCC.out] at q1
          have hv11 : (1 : Int) < (vv : Int) := by omega
          have hv12 : 1 < vv := by omega
          have HBL2 : Kept (Below w.heap.size w wr) := ⟨by obtain ⟨m1, hm1⟩ := hW.out; rw [hm1]; exact below_drewN hbl.out _⟩
          clear hW
          go_wp2
          go_ret
          exact ⟨HBL2.out, by rw [HF.out]; rfl⟩
end Go.Proofs.YtalahdkhglagpaaGreatDoor
