import Derived.Test.YtfhhnfpapgfnmaaDna
set_option linter.unusedVariables false
set_option linter.unusedSimpArgs false
namespace Go.Proofs.Ytfhhnfpapgfnmaa
open Go Go.RowKit Go.Deep
open FFld (ints)
set_option maxRecDepth 20000 in
set_option maxHeartbeats 4000000 in
theorem rdenies_good {D : FFld.FD} (hD : D.Ok) (rows : List (List Nat)) (ao : Option Addr) (cap : Nat) (vb vw : Value) (bl ul : List Nat) (wd n : Nat) (w : World) (h : Sls w ao (rows.map ints)) (hcap : n ≤ cap) (hmax : cap ≤ maxLen) (hb : Sl .i64 w vb (ints bl)) (hu : Sl .i64 w vw (ints ul)) (hN : rows.length = n) (hn : n ≤ 64) (hw : FFld.Wfm D wd rows) (hwd : wd ≤ 64) (h0 : n = 0 → wd = 0) (hbl : bl.length = n) (hbq : ∀ a ∈ bl, a < D.p ^ D.k) (hul : ul.length = n) (huq : ∀ a ∈ ul, a < D.p ^ D.k) :
    Calls Try.prog 80 #[rfv D.q D.p D.k D.m, .slice ao n cap, vb, vw] w (RB w (.bool (dnB D rows ul bl wd n))) := by
  have HX0 : Kept (Bxs w [rbox D.q D.p D.k D.m] (w.alloc (rbox D.q D.p D.k D.m))) := ⟨(Bxs.start w).alloc (by simp) _⟩
  obtain ⟨c0, c1, c2, c3⟩ := four_cells HX0.out.b0
  have HSH := Kept.mk (fun W (hW : Below w.heap.size w W) => rshape_any D ao (rows.map ints) cap W (by rw [List.length_map]; omega) hmax (h.below hW))
  rw [mErr_ok hw hN hn hwd, List.length_map, hN] at HSH
  have HEB := Kept.mk (fun W (hW : Below w.heap.size w W) => relements_any D vb (ints bl) W (hb.below hW))
  rw [elsB_ints hbq] at HEB
  have HEU := Kept.mk (fun W (hW : Below w.heap.size w W) => relements_any D vw (ints ul) W (hu.below hW))
  rw [elsB_ints huq] at HEU
  have HCL := Kept.mk (fun W (hW : Below w.heap.size w W) => rcolumns_any ao (rows.map ints) cap W (by rw [List.length_map]; omega) hmax (h.below hW))
  rw [rlen_wd hw hN h0, List.length_map, hN] at HCL
  have hq6 : D.p ^ D.k ≤ 65536 := hD.pre.small
  have HM := Kept.mk (fun W x y (hx : x < D.p ^ D.k) (hy : y < D.p ^ D.k) => rmul_any D.q D.p D.k D.m x y W hD.pre.pk.p2 hD.pre.pk.k1 hx hy hq6 (md_ok hD))
  have HA := Kept.mk (fun W x y (hx : x < D.p ^ D.k) (hy : y < D.p ^ D.k) => radd_any D.q D.p D.k D.m x y W hD.pre.pk.p2 hD.pre.pk.k1 hx hy hq6)
  have HROW : Kept (∀ i, i < n → ∃ g o aq cq, ao = some ⟨g, o, none⟩ ∧ g < w.heap.size ∧ w.cell? ⟨g, o + i, none⟩ = some (.slice aq wd cq) ∧ Cells w.heap.size aq (FFld.rowAt rows i) w ∧ (FFld.rowAt rows i).length = wd ∧ wd ≤ cq ∧ cq ≤ maxLen) := ⟨fun i hi => by
    obtain ⟨g, o, rv, e, hg, hc, hs⟩ := h i (by rw [List.length_map]; omega)
    rw [rows_cell] at hs
    obtain ⟨aq, cq, rfl, h1, h2⟩ := hs.form
    have hl := (hw.row (i := i) (by omega)).1
    rw [FFld.ints_len, hl] at hc hs h1
    exact ⟨g, o, aq, cq, e, hg, hc, hs.cells (Nat.le_refl _), hl, h1, h2⟩⟩
  have HRQ := Kept.mk (fun i c => FFld.getD_lt (Nat.pow_pos hD.pre.pk.p0) (FFld.rowAt_lt hw i) c)
  have HCQ := Kept.mk (fun c i => colS_lt hD.pre.pk rows ul c i)
  have HSQ := Kept.mk (fun i => sopF_lt hD.pre.pk ul bl i)
  have HUQ := Kept.mk (fun i => FFld.getD_lt (Nat.pow_pos hD.pre.pk.p0) huq i)
  have HBQ := Kept.mk (fun i => FFld.getD_lt (Nat.pow_pos hD.pre.pk.p0) hbq i)
  obtain ⟨au, cu, hvu, hcu, hmu⟩ := hu.form
  subst hvu
  obtain ⟨ab, cb, hvb, hcb, hmb⟩ := hb.form
  subst hvb
  rw [FFld.ints_len, hul] at hcu
  rw [FFld.ints_len, hbl] at hcb
  rw [FFld.ints_len, FFld.ints_len, hul, hbl]
  rw [FFld.ints_len, hul] at HEU
  rw [FFld.ints_len, hbl] at HEB
  rw [FFld.ints_len, hul] at hu
  rw [FFld.ints_len, hbl] at hb
  have HUC := Kept.mk (hu.cells (Nat.le_refl _))
  have HBC := Kept.mk (hb.cells (Nat.le_refl _))
  have HUL := Kept.mk hul
  have HBL := Kept.mk hbl
  unfold maxLen at hmax hmu hmb
  have enn : ((n : Int) == (n : Int)) = true := by simp
  have ez : (((0 : Nat) : Int) == 0) = true := rfl
  clear h hb hu hN hw hbq huq hul hbl hq6
  go_enter Try.func80, Try.ntmps80
  go_wp2_with fail
  refine (HSH.out _ HX0.out.1).mono ?_
  rintro e w2 ⟨hb2, rfl⟩
  have HX2 := Kept.mk (HX0.out.below hb2)
  clear hb2 c0 c1 c2 c3
  obtain ⟨c0, c1, c2, c3⟩ := four_cells HX2.out.b0
  go_wp2_with fail
  refine (HEB.out _ HX2.out.1).mono ?_
  rintro e w3 ⟨hb3, rfl⟩
  have HX3 := Kept.mk (HX2.out.below hb3)
  clear hb3 c0 c1 c2 c3
  obtain ⟨c0, c1, c2, c3⟩ := four_cells HX3.out.b0
  go_wp2_with fail
  refine (HEU.out _ HX3.out.1).mono ?_
  rintro e w4 ⟨hb4, rfl⟩
  have HX4 := Kept.mk (HX3.out.below hb4)
  clear hb4 c0 c1 c2 c3 HX0 HX2 HX3 HSH HEB HEU
  go_wp2_with fail
  go_loopw [9] (fun cv wr => ∃ c : Nat, c ≤ wd ∧ cv = .int .i64 c ∧ Kept (∀ c', c' < c → colS D rows ul c' n = 0) ∧ Kept (Bxs w [rbox D.q D.p D.k D.m] wr)) (fun cv _ => wd - (intOf cv).toNat)
  case atStart => exact ⟨0, Nat.zero_le _, rfl, ⟨fun c hc => by omega⟩, HX4⟩
  case round =>
    obtain ⟨c, hcw, rfl, hz, hbx⟩ := hrel
    go_wp2_with fail
    refine (HCL.out _ hbx.out.1).mono ?_
    rintro e wc ⟨rfl, rfl⟩
    by_cases hlt : c < wd
    · go_wp2
      go_loopw [10, 11] (fun sv iv wq => ∃ (i s : Nat), i ≤ n ∧ iv = .int .i64 i ∧ sv = .int .i64 s ∧ Kept (colS D rows ul c i = s) ∧ Kept (Bxs w [rbox D.q D.p D.k D.m] wq)) (fun _ iv _ => n - (intOf iv).toNat)
      case atStart => exact ⟨0, 0, Nat.zero_le _, rfl, rfl, ⟨rfl⟩, hbx⟩
      case round =>
        clear hbx
        obtain ⟨i, s, hin, rfl, rfl, hs, hbx⟩ := hrel
        by_cases hlt2 : i < n
        · obtain ⟨gr, orr, aq, cq, rfl, hgr, hcr, hcells, hrl, hwc, hcm⟩ := HROW.out i hlt2
          obtain ⟨ba, oa, rfl, ia⟩ := hcells _ hbx.out.1 c (by rw [hrl]; exact hlt)
          have ir := (hbx.out.1.cell (p := ⟨gr, orr + i, none⟩) hgr).trans hcr
          obtain ⟨bu, ou, rfl, iu⟩ := HUC.out _ hbx.out.1 i (by rw [HUL.out]; exact hlt2)
          obtain ⟨x, hx⟩ : ∃ x, (FFld.rowAt rows i)[c]?.getD 0 = x := ⟨_, rfl⟩
          obtain ⟨u, hu⟩ : ∃ u, ul[i]?.getD 0 = u := ⟨_, rfl⟩
          have hxq : x < D.p ^ D.k := by rw [← hx]; exact HRQ.out i c
          have huq : u < D.p ^ D.k := by rw [← hu]; exact HUQ.out i
          have hsq : s < D.p ^ D.k := by rw [← hs.out]; exact HCQ.out c i
          rw [hx] at ia
          rw [hu] at iu
          obtain ⟨z, hz2⟩ : ∃ z, FFld.pmul D.p D.k D.m u D.k x = z := ⟨_, rfl⟩
          have hzq : z < D.p ^ D.k := by rw [← hz2]; exact FFld.pmul_lt hD.pre.pk _ _ _
          obtain ⟨v, hv⟩ : ∃ v, FFld.padd D.p D.k s z = v := ⟨_, rfl⟩
          have HNX : Kept (colS D rows ul c (i + 1) = v) := ⟨by simp only [colS]; rw [hs.out, hu]; unfold FFld.cellAt; rw [hx, hz2, hv]⟩
          have hM := Kept.mk (fun W => HM.out W u x huq hxq)
          rw [hz2] at hM
          have hA := Kept.mk (fun W => HA.out W s z hsq hzq)
          rw [hv] at hA
          obtain ⟨i0, i1, i2, i3⟩ := four_cells hbx.out.b0
          clear hx hu hz2 hv hxq huq hsq hzq hcr hcells
          go_wp2
          go_region_held3 (fun w' => w'.cell? ⟨w.heap.size, 0, none⟩ = some (.int .i64 D.q) ∧ w'.cell? ⟨w.heap.size, 1, none⟩ = some (.int .i64 D.p) ∧ w'.cell? ⟨w.heap.size, 2, none⟩ = some (.int .i64 D.k) ∧ w'.cell? ⟨w.heap.size, 3, none⟩ = some (.int .i64 D.m) ∧ w'.cell? ⟨gr, orr + i, none⟩ = some (.slice (some ⟨ba, oa, none⟩) wd cq) ∧ w'.cell? ⟨ba, oa + c, none⟩ = some (.int .i64 x) ∧ w'.cell? ⟨bu, ou + i, none⟩ = some (.int .i64 u))
            (first | exact ⟨k0, k1, k2, k3, kr, ka, ku⟩ | exact ⟨j0, j1, j2, j3, jr, ja, ju⟩ | exact ⟨i0, i1, i2, i3, ir, ia, iu⟩ | go_keep)
            ((first
              | (go_at_call 54; (with_reducible refine (hM.out _).mono ?_); rintro e v3 ⟨hb3, rfl⟩; have HB3 := Kept.mk (bstep (show Below wr.heap.size wr _ from (by first | exact Below.refl _ _ | exact (Below.refl _ _).drew)) hb3); have j0 := belowCell HB3.out i0; have j1 := belowCell HB3.out i1; have j2 := belowCell HB3.out i2; have j3 := belowCell HB3.out i3; have jr := belowCell HB3.out ir; have ja := belowCell HB3.out ia; have ju := belowCell HB3.out iu; clear hb3)
              | (go_at_call 52; (with_reducible refine (hA.out _).mono ?_); rintro e v4 ⟨hb4, rfl⟩; have HB4 := Kept.mk (bstep HB3.out hb4); have k0 := belowCell hb4 j0; have k1 := belowCell hb4 j1; have k2 := belowCell hb4 j2; have k3 := belowCell hb4 j3; have kr := belowCell hb4 jr; have ka := belowCell hb4 ja; have ku := belowCell hb4 ju; clear hb4)))
          have HX5 := Kept.mk (hbx.out.below HB4.out)
          go_wp2
          go_roundw
          case rel => exact ⟨i + 1, v, by omega, by go_num, rfl, HNX, HX5⟩
          case measure => simp [intOf] <;> omega
        · obtain rfl : i = n := by omega
          by_cases hs0 : s = 0
          · subst hs0
            have HZ2 : Kept (∀ c', c' < c + 1 → colS D rows ul c' i = 0) := ⟨fun c' hc' => by
              by_cases e : c' = c
              · rw [e]; exact hs.out
              · exact hz.out c' (by omega)⟩
            go_wp2
            go_roundw
            case rel => exact ⟨c + 1, by omega, by go_num, HZ2, hbx⟩
            case measure => simp [intOf] <;> omega
          · have es : ((s : Int) == 0) = false := by rw [beq_eq_false_iff_ne]; omega
            have es2 : ((s : Int) != 0) = true := by rw [bne_iff_ne]; omega
            have HDN : Kept (dnB D rows ul bl wd i = false) := ⟨by
              unfold dnB
              refine decide_eq_false (fun hh => hs0 ?_)
              rw [← hs.out]
              exact hh.1 c hlt⟩
            clear hs0
            go_wp2
            go_ret
            exact ⟨hbx.out.1, by rw [HDN.out]; rfl⟩
    · obtain rfl : c = wd := by omega
      go_wp2
      go_loopw [12, 13] (fun sv iv wq => ∃ (i s : Nat), i ≤ n ∧ iv = .int .i64 i ∧ sv = .int .i64 s ∧ Kept (sopF D ul bl i = s) ∧ Kept (Bxs w [rbox D.q D.p D.k D.m] wq)) (fun _ iv _ => n - (intOf iv).toNat)
      case atStart => exact ⟨0, 0, Nat.zero_le _, rfl, rfl, ⟨rfl⟩, hbx⟩
      case round =>
        clear hbx
        obtain ⟨i, s, hin, rfl, rfl, hs, hbx⟩ := hrel
        by_cases hlt2 : i < n
        · obtain ⟨bu, ou, rfl, iu⟩ := HUC.out _ hbx.out.1 i (by rw [HUL.out]; exact hlt2)
          obtain ⟨ba, oa, rfl, ia⟩ := HBC.out _ hbx.out.1 i (by rw [HBL.out]; exact hlt2)
          obtain ⟨x, hx⟩ : ∃ x, bl[i]?.getD 0 = x := ⟨_, rfl⟩
          obtain ⟨u, hu⟩ : ∃ u, ul[i]?.getD 0 = u := ⟨_, rfl⟩
          have hxq : x < D.p ^ D.k := by rw [← hx]; exact HBQ.out i
          have huq : u < D.p ^ D.k := by rw [← hu]; exact HUQ.out i
          have hsq : s < D.p ^ D.k := by rw [← hs.out]; exact HSQ.out i
          rw [hx] at ia
          rw [hu] at iu
          obtain ⟨z, hz2⟩ : ∃ z, FFld.pmul D.p D.k D.m u D.k x = z := ⟨_, rfl⟩
          have hzq : z < D.p ^ D.k := by rw [← hz2]; exact FFld.pmul_lt hD.pre.pk _ _ _
          obtain ⟨v, hv⟩ : ∃ v, FFld.padd D.p D.k s z = v := ⟨_, rfl⟩
          have HNX : Kept (sopF D ul bl (i + 1) = v) := ⟨by simp only [sopF]; rw [hs.out, hu, hx, hz2, hv]⟩
          have hM := Kept.mk (fun W => HM.out W u x huq hxq)
          rw [hz2] at hM
          have hA := Kept.mk (fun W => HA.out W s z hsq hzq)
          rw [hv] at hA
          obtain ⟨i0, i1, i2, i3⟩ := four_cells hbx.out.b0
          clear hx hu hz2 hv hxq huq hsq hzq
          go_wp2
          go_region_held3 (fun w' => w'.cell? ⟨w.heap.size, 0, none⟩ = some (.int .i64 D.q) ∧ w'.cell? ⟨w.heap.size, 1, none⟩ = some (.int .i64 D.p) ∧ w'.cell? ⟨w.heap.size, 2, none⟩ = some (.int .i64 D.k) ∧ w'.cell? ⟨w.heap.size, 3, none⟩ = some (.int .i64 D.m) ∧ w'.cell? ⟨ba, oa + i, none⟩ = some (.int .i64 x) ∧ w'.cell? ⟨bu, ou + i, none⟩ = some (.int .i64 u))
            (first | exact ⟨k0, k1, k2, k3, ka, ku⟩ | exact ⟨j0, j1, j2, j3, ja, ju⟩ | exact ⟨i0, i1, i2, i3, ia, iu⟩ | go_keep)
            ((first
              | (go_at_call 54; (with_reducible refine (hM.out _).mono ?_); rintro e v3 ⟨hb3, rfl⟩; have HB3 := Kept.mk (bstep (show Below wr.heap.size wr _ from (by first | exact Below.refl _ _ | exact (Below.refl _ _).drew)) hb3); have j0 := belowCell HB3.out i0; have j1 := belowCell HB3.out i1; have j2 := belowCell HB3.out i2; have j3 := belowCell HB3.out i3; have ja := belowCell HB3.out ia; have ju := belowCell HB3.out iu; clear hb3)
              | (go_at_call 52; (with_reducible refine (hA.out _).mono ?_); rintro e v4 ⟨hb4, rfl⟩; have HB4 := Kept.mk (bstep HB3.out hb4); have k0 := belowCell hb4 j0; have k1 := belowCell hb4 j1; have k2 := belowCell hb4 j2; have k3 := belowCell hb4 j3; have ka := belowCell hb4 ja; have ku := belowCell hb4 ju; clear hb4)))
          have HX5 := Kept.mk (hbx.out.below HB4.out)
          go_wp2
          go_roundw
          case rel => exact ⟨i + 1, v, by omega, by go_num, rfl, HNX, HX5⟩
          case measure => simp [intOf] <;> omega
        · obtain rfl : i = n := by omega
          have HDN : Kept (dnB D rows ul bl c i = !((s : Int) == 0)) := ⟨by
            unfold dnB
            rw [hs.out]
            by_cases hs0 : s = 0
            · subst hs0; simp
            · have : ((s : Int) == 0) = false := by rw [beq_eq_false_iff_ne]; omega
              rw [this, decide_eq_true (show _ ∧ _ from ⟨hz.out, hs0⟩)]
              rfl⟩
          by_cases hs0 : s = 0
          · subst hs0
            go_wp2
            go_ret
            exact ⟨hbx.out.1, by rw [HDN.out]; rfl⟩
          · have es : ((s : Int) == 0) = false := by rw [beq_eq_false_iff_ne]; omega
            have es2 : ((s : Int) != 0) = true := by rw [bne_iff_ne]; omega
            clear hs0
            go_wp2
            go_ret
            exact ⟨hbx.out.1, by rw [HDN.out, es]; rfl⟩
end Go.Proofs.Ytfhhnfpapgfnmaa
