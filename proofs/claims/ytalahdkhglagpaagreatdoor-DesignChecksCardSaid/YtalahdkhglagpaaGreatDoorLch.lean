import Derived.Test.YtalahdkhglagpaaGreatDoorDki
import Derived.Test.YtalahdkhglagpaaGreatDoorDkc
import Derived.Test.YtalahdkhglagpaaGreatDoorDv
set_option linter.unusedVariables false
set_option linter.unusedSimpArgs false
namespace Go.Proofs.YtalahdkhglagpaaGreatDoor
open Go Go.RowKit Go.Deep
open Dsg Dnt
theorem umod9 (a : Int) : ∃ U r : Nat, IntKind.u64.wrap a = U ∧ (U : Int) % 9 = r ∧ (U : Int).tmod 9 = r ∧ r < 9 ∧ U ≤ 18446744073709551615 := by
  have h0 : 0 ≤ IntKind.u64.wrap a ∧ IntKind.u64.wrap a ≤ 18446744073709551615 := by rw [IntKind.wrap_u64]; omega
  obtain ⟨U, hU⟩ : ∃ U : Nat, IntKind.u64.wrap a = U := ⟨(IntKind.u64.wrap a).toNat, by omega⟩
  rw [hU] at h0
  have h1 : (U : Int) % 9 = ((U % 9 : Nat) : Int) := by omega
  exact ⟨U, U % 9, hU, h1, by rw [Int.tmod_eq_emod_of_nonneg (by omega), h1], Nat.mod_lt _ (by omega), by omega⟩
theorem fl_rows {N M : Nat} {p : Nat → Nat → Bool} (hM : M ≤ 1000000) : ∀ l ∈ (List.range N).map fun j => fL M (p j), l.length ≤ 1000000 := fun l hl => by
  obtain ⟨j, _, rfl⟩ := List.mem_map.1 hl
  exact Nat.le_trans (fL_len _ _) hM
set_option maxRecDepth 20000 in
set_option maxHeartbeats 16000000 in
theorem designChecks_any (v : Int) (ao : Option Addr) (rows : List (List Int)) (cap : Nat) (w : World) (hv0 : -9223372036854775808 ≤ v) (hv1 : v ≤ 9223372036854775807) (hcap : rows.length ≤ cap) (hmax : cap ≤ maxLen) (h : Sls w ao rows) :
    Calls Tryz.prog 3 #[.int .i64 v, .slice ao rows.length cap] w (RB w (.bool true)) := by
  have HAW := Kept.mk (fun w => awake_any w)
  have HRR := Kept.mk (show Calls Tryz.prog 4 #[.slice ao rows.length cap, .int .i64 60, .int .i64 30] w (RetR w ((rows.take 60).map (·.take 30))) from rawRows6_any ao rows cap 60 30 w h hcap hmax (by omega) (by omega))
  obtain ⟨zs, hzs⟩ : ∃ zs, (rows.take 60).map (·.take 30) = zs := ⟨_, rfl⟩
  have HZL : Kept (zs.length ≤ 60 ∧ ∀ r ∈ zs, r.length ≤ 30) := ⟨by
    rw [← hzs]
    refine ⟨by rw [List.length_map, List.length_take]; omega, fun r hr => ?_⟩
    obtain ⟨x, _, rfl⟩ := List.mem_map.1 hr
    rw [List.length_take]; omega⟩
  rw [hzs] at HRR
  have HVB := Kept.mk (And.intro hv0 hv1)
  obtain ⟨n0, hn0⟩ : ∃ n, rows.length = n := ⟨_, rfl⟩
  rw [hn0] at HRR hcap ⊢
  clear h hzs hn0 hv0 hv1 hcap hmax
  go_enter Tryz.func3, Tryz.ntmps3
  go_wp2_with fail
  refine HRR.out.mono ?_
  rintro e w1 ⟨hb1, lv, L, rfl, hrw, hLm⟩
  obtain ⟨a2, c2, hlv, hc1, hc2, hsl⟩ := hrw.sls
  rw [hLm] at hsl
  have hLl : L.length = zs.length := by rw [← hLm, List.length_map]
  rw [hLl] at hlv hc1
  subst hlv
  have HB1 := Kept.mk hb1
  have HZ := Kept.mk (fun W (hW : Below w1.heap.size w1 W) => hsl.below hW)
  have HCC := Kept.mk (And.intro hc1 hc2)
  have HNZ : Kept (zs.length = zs.length) := ⟨rfl⟩
  obtain ⟨n, hn⟩ : ∃ n, zs.length = n := ⟨_, rfl⟩
  have HN := Kept.mk hn
  have HC1 := Kept.mk (fun (v : Int) W (hW : Below w1.heap.size w1 W) => check_any v a2 zs c2 W (HZ.out W hW) HCC.out.1 HCC.out.2)
  have HC2 := Kept.mk (fun (v : Int) W (hW : Below w1.heap.size w1 W) => rcheck_any v a2 zs c2 W (HZ.out W hW) HCC.out.1 HCC.out.2)
  have HDU := Kept.mk (fun (v : Int) W (hW : Below w1.heap.size w1 W) => dual_any v a2 zs c2 W (HZ.out W hW) HCC.out.1 HCC.out.2)
  have HCO := Kept.mk (fun (v : Int) W (hW : Below w1.heap.size w1 W) => complement_any v a2 zs c2 W (HZ.out W hW) HCC.out.1 HCC.out.2)
  have HRE := Kept.mk (fun (v : Int) W (hW : Below w1.heap.size w1 W) he => resolve_err v a2 zs c2 W (HZ.out W hW) HCC.out.1 HCC.out.2 he)
  have HRD := Kept.mk (fun (u : Nat) W (hW : Below w1.heap.size w1 W) (hu : u ≤ 200) => rDual_any u a2 zs c2 W (HZ.out W hW) HCC.out.1 HCC.out.2 hu (by have := HZL.out.1; omega))
  have HRC := Kept.mk (fun (u : Nat) W (hW : Below w1.heap.size w1 W) (hu : u ≤ 200) => rComplement_any u a2 zs c2 W (HZ.out W hW) HCC.out.1 HCC.out.2 hu (by have := HZL.out.1; omega))
  have hn60 : n ≤ 60 := by rw [← hn]; exact HZL.out.1
  rw [hn] at HC1 HC2 HDU HCO HRE HRD HRC hc1 ⊢
  clear hb1 hrw hLm hsl hc1 hc2 hn hLl HRR HNZ
  go_wp2
  go_loopw [0, 6] (fun vv kv wr => ∃ (v : Int) (k : Nat), k ≤ 2 ∧ vv = .int .i64 v ∧ kv = .int .i64 k ∧ Kept (-9223372036854775808 ≤ v ∧ v ≤ 9223372036854775807) ∧ Kept (Below w1.heap.size w1 wr)) (fun _ kv _ => 2 - (intOf kv).toNat)
  case atStart => exact ⟨v, 0, by omega, rfl, rfl, HVB, ⟨Below.refl _ _⟩⟩
  case round =>
    obtain ⟨v, k, hk2, rfl, rfl, hvb, hbl⟩ := hrel
    by_cases hlt : k < 2
    · obtain ⟨pa, pb, pc, pd, pe, hpv⟩ := ckV_form v zs
      have G1 := Kept.mk (HC1.out v wr hbl.out)
      have G2 := Kept.mk (fun W hW => HC2.out v W hW)
      have GDU := Kept.mk (fun W hW => HDU.out v W hW)
      have GCO := Kept.mk (fun W hW => HCO.out v W hW)
      have heb := ckE_le v zs
      have HOK := Kept.mk (fun he : ckE v zs = 0 => ckE_ok he)
      have GRE := Kept.mk (fun W hW (he : ckE v zs ≠ 0) => HRE.out v W hW he)
      rw [hpv] at G1 G2
      have HPA := Kept.mk (fun W => params_any pa pb pc pd pe W)
      clear hpv
      go_wp2_with fail
      refine G1.out.mono ?_
      rintro e w2 ⟨hb2, rfl⟩
      have HX1 : Kept (Bxs w2 [prbox pa pb pc pd pe] (w2.alloc (prbox pa pb pc pd pe))) := ⟨(Bxs.start w2).alloc (by simp) _⟩
      have HB2 := Kept.mk (bstep hbl.out (hb2.trans (HX1.out.1.mono hb2.size)))
      clear hb2
      go_wp2_with fail
      refine (G2.out _ HB2.out).mono ?_
      rintro e w3 ⟨hb3, rfl⟩
      have HX2 : Kept (Bxs w3 [rbx pa pb pc pd pe] (w3.alloc (rbx pa pb pc pd pe))) := ⟨(Bxs.start w3).alloc (by simp) _⟩
      have HX13 : Kept (Bxs w2 [prbox pa pb pc pd pe] (w3.alloc (rbx pa pb pc pd pe))) := ⟨(HX1.out.below hb3).below HX2.out.1⟩
      have HB3 := Kept.mk (bstep HB2.out (hb3.trans (HX2.out.1.mono hb3.size)))
      obtain ⟨⟨p0, p1, p2, p3, p4⟩, _⟩ := five_cells HX13.out.b0
      obtain ⟨⟨q0, q1, q2, q3, q4⟩, _⟩ := five_cells HX2.out.b0
      have ee : ((ckE v zs : Int) != (ckE v zs : Int)) = false := by simp
      clear hb3
      go_wp2_with fail
      refine (HPA.out _).mono ?_
      rintro e w4 ⟨hb4, rfl⟩
      have HB4 := Kept.mk (bstep HB3.out hb4)
      clear hb4 HX1 HX2 HX13 p0 p1 p2 p3 p4 q0 q1 q2 q3 q4
      go_wp2_with fail
      refine (GDU.out _ HB4.out).mono ?_
      rintro e w5 ⟨hb5, ⟨hE0, ad, cd, rfl, hd1, hd2, hd3⟩ | ⟨hE1, rfl⟩⟩
      · have HB5 := Kept.mk (bstep HB4.out hb5)
        obtain ⟨⟨hv3, hv2⟩, _, _, _⟩ := HOK.out hE0
        obtain ⟨u, rfl⟩ : ∃ u : Nat, v = u := ⟨v.toNat, by omega⟩
        have hu2 : u ≤ 200 := by omega
        rw [Int.toNat_natCast] at hd1 hd3 ⊢
        rw [hE0] at ee ⊢
        have HD3 := Kept.mk (And.intro hd1 (And.intro hd2 hd3))
        rw [List.length_map, List.length_range]
        clear hb5 hd1 hd2 hd3
        go_wp2_with fail
        refine (GCO.out _ HB5.out).mono ?_
        rintro e w6 ⟨hb6, ⟨_, ac, cc, rfl, hc1, hc2, hc3⟩ | ⟨hE1, _⟩⟩
        rotate_left
        · exact absurd hE0 hE1
        have HB6 := Kept.mk (bstep HB5.out hb6)
        have HD6 := Kept.mk (HD3.out.2.2.below hb6)
        rw [Int.toNat_natCast] at hc1 hc3
        try rw [Int.toNat_natCast]
        have HC6 := Kept.mk (And.intro hc1 (And.intro hc2 hc3))
        rw [List.length_map, List.length_range]
        clear hb6 hc1 hc2 hc3
        go_wp2_with fail
        refine (HRD.out u _ HB6.out hu2).mono ?_
        rintro e w7 ⟨hb7, rv, L7, rfl, hrw7, hL7⟩
        have HB7 := Kept.mk (bstep HB6.out hb7)
        obtain ⟨a7, c7, rfl, h71, h72, h73⟩ := hrw7.sls
        have hl7 : L7.length = u := by have := congrArg List.length hL7; simpa using this
        rw [hL7] at h73
        rw [hl7] at h71 ⊢
        have HR1 := Kept.mk (rows6_eq ad a7 _ cd c7 u w7 (HD6.out.below hb7) h73 (by rw [List.length_map, List.length_range]) (by have := HD3.out.1; rw [List.length_map, List.length_range] at this; exact this) h71 HD3.out.2.1 h72 (fl_rows (by have := HZL.out.1; omega)))
        have HC7 := Kept.mk (HC6.out.2.2.below hb7)
        clear hb7 hrw7 hL7 h71 h72 h73 hl7 HD6
        go_wp2_with fail
        refine HR1.out.mono ?_
        rintro e w8 ⟨hb8, rfl⟩
        have HB8 := Kept.mk (bstep HB7.out hb8)
        have HC8 := Kept.mk (HC7.out.below hb8)
        clear hb8 HR1 HC7
        go_wp2_with fail
        refine (HRC.out u _ HB8.out hu2).mono ?_
        rintro e w9 ⟨hb9, rv, L9, rfl, hrw9, hL9⟩
        have HB9 := Kept.mk (bstep HB8.out hb9)
        obtain ⟨a9, c9, rfl, h91, h92, h93⟩ := hrw9.sls
        have hl9 : L9.length = n := by have := congrArg List.length hL9; simpa [HN.out] using this
        rw [hL9] at h93
        rw [hl9] at h91 ⊢
        have HR2 := Kept.mk (rows6_eq ac a9 _ cc c9 n w9 (HC8.out.below hb9) h93 (by rw [List.length_map, List.length_range]) (by have := HC6.out.1; rw [List.length_map, List.length_range] at this; exact this) h91 HC6.out.2.1 h92 (fl_rows (by omega)))
        clear hb9 hrw9 hL9 h91 h92 h93 hl9 HC8
        go_wp2_with fail
        refine HR2.out.mono ?_
        rintro e w10 ⟨hb10, rfl⟩
        have HBE := Kept.mk (bstep HB9.out hb10)
        clear hb10 HR2
        obtain ⟨U, r9, hU, hr1, hr2, hr9, hUm⟩ := umod9 (u : Int)
        have wr0 : IntKind.i64.wrap (r9 : Int) = r9 := wrapB (by omega) (by omega)
        have wr1 : IntKind.i64.wrap (3 + (r9 : Int)) = 3 + r9 := wrapB (by omega) (by omega)
        go_wp2
        go_roundw
        case rel => exact ⟨3 + (r9 : Int), k + 1, by omega, by first | rfl | go_num, by go_num, ⟨by omega, by omega⟩, HBE⟩
        case measure => simp [intOf] <;> omega
      · have HB5 := Kept.mk (bstep HB4.out hb5)
        have e1 : ((ckE v zs : Int) != 0) = true := by rw [bne_iff_ne]; omega
        clear hb5
        go_wp2_with fail
        refine (GCO.out _ HB5.out).mono ?_
        rintro e w6 ⟨hb6, ⟨hE0, _⟩ | ⟨_, rfl⟩⟩
        · exact absurd hE0 hE1
        have HB6 := Kept.mk (bstep HB5.out hb6)
        clear hb6
        go_wp2_with fail
        refine (GRE.out _ HB6.out hE1).mono ?_
        rintro e w7 ⟨hb7, rfl⟩
        have HBE := Kept.mk (bstep HB6.out hb7)
        clear hb7
        obtain ⟨U, r9, hU, hr1, hr2, hr9, hUm⟩ := umod9 v
        have wr0 : IntKind.i64.wrap (r9 : Int) = r9 := wrapB (by omega) (by omega)
        have wr1 : IntKind.i64.wrap (3 + (r9 : Int)) = 3 + r9 := wrapB (by omega) (by omega)
        go_wp2
        go_roundw
        case rel => exact ⟨3 + (r9 : Int), k + 1, by omega, by first | rfl | go_num, by go_num, ⟨by omega, by omega⟩, HBE⟩
        case measure => simp [intOf] <;> omega
    · obtain rfl : k = 2 := by omega
      have hmk := run_make_row' (P := Tryz.prog) 22 40 (.slice none 0 0) 24 Tryz.underlying22 info_rows rfl .i64 .i64 2001 (by omega) (by omega)
      rw [show ((2001 : Nat) : Int) = 2001 from rfl] at hmk
      obtain ⟨W3, hW3⟩ : ∃ W, wr.alloc (.cells (madeCells #[.slice none 0 0] 2001) 40) = W := ⟨_, rfl⟩
      have hrow := Vrow.new wr 2001
      rw [hW3] at hrow
      have hbW : Below w1.heap.size w1 W3 := by rw [← hW3]; exact hbl.out.alloc hbl.out.size _
      have hsl : Sls W3 (some ⟨wr.heap.size, 0, none⟩) (List.replicate 2001 []) := fun i hi => by
        rw [List.length_replicate] at hi
        exact ⟨_, _, _, rfl, hrow.lt, by rw [Nat.zero_add]; exact hrow.cell hi, by
          rw [List.getElem?_replicate, if_pos hi]
          exact ⟨none, 0, rfl, by simp, by unfold maxLen; omega, fun j hj => by simp at hj⟩⟩
      have hck := check_any 7 (some ⟨wr.heap.size, 0, none⟩) (List.replicate 2001 []) 2001 W3 hsl (by rw [List.length_replicate]; omega) (by unfold maxLen; omega)
      have hE : ckE 7 (List.replicate 2001 []) = 2 := by
        unfold ckE
        rw [if_neg (by omega), if_pos (by rw [List.length_replicate]; omega)]
      have hV : ckV 7 (List.replicate 2001 []) = prv 0 0 0 0 0 := by
        unfold ckV
        rw [if_neg (by rw [hE]; omega)]
      rw [hE, hV, List.length_replicate] at hck
      have HCK := Kept.mk hck
      have HBW := Kept.mk (bstep HB1.out hbW)
      clear hrow hbW hsl hck hE hV
      go_wp2_with fail
      refine HCK.out.mono ?_
      rintro e w4 ⟨hb4, rfl⟩
      have HB4 := Kept.mk ((HBW.out.trans (hb4.mono HBW.out.size)).alloc (Nat.le_trans HBW.out.size hb4.size) (prbox 0 0 0 0 0))
      clear hb4
      go_wp2_with fail
      refine (HAW.out _).mono ?_
      rintro e w5 ⟨hb5, rfl⟩
      have HB5 := Kept.mk (bstep HB4.out hb5)
      clear hb5
      go_wp2
      go_ret
      exact ⟨HB5.out, rfl⟩
end Go.Proofs.YtalahdkhglagpaaGreatDoor
