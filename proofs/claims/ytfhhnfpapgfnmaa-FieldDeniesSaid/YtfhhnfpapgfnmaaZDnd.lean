/-
  Texts of the proof, merged by program: Dnd.
-/
import Derived.Test.YtfhhnfpapgfnmaaZDnc
import Derived.Test.YtfhhnfpapgfnmaaTam
import Derived.Test.YtfhhnfpapgfnmaaZLca
import Derived.Test.YtfhhnfpapgfnmaaZOpl
set_option linter.unusedVariables false
set_option linter.unusedSimpArgs false
namespace Go.Proofs.Ytfhhnfpapgfnmaa
open Go Go.RowKit Go.Deep
open FFld (ints)
/-- The two rows lie in blocks of their own. -/
def Apart (u v : Value) : Prop := ∀ k, u.ownBlock = some k → v.ownBlock ≠ some k
theorem Apart.ne {u v : Value} (h : Apart u v) : u.ownBlock = none ∨ u.ownBlock ≠ v.ownBlock := by
  cases hu : u.ownBlock with
  | none => exact .inl rfl
  | some k => exact .inr (fun e => h k hu e.symm)
theorem Apart.sym {u v : Value} (h : Apart u v) : Apart v u := fun k hv hu => h k hu hv
theorem Apart.step {u v v' : Value} {B : Nat} (h : Apart u v) (hv : v'.ownBlock = v.ownBlock ∨ Frm B v') (hu : ∀ k, u.ownBlock = some k → k < B) : Apart u v' := fun k h1 h2 => by
  rcases hv with e | e
  · exact h k h1 (e ▸ h2)
  · have := hu k h1
    have := e k h2
    omega
set_option maxRecDepth 20000 in
set_option maxHeartbeats 16000000 in
theorem fieldDenies_any (order : Int) (ao : Option Addr) (rows : List (List Int)) (cap : Nat) (vb vw : Value) (bs us : List Int) (w : World) (o0 : -9223372036854775808 ≤ order) (o1 : order ≤ 9223372036854775807) (hcap : rows.length ≤ cap) (hmax : cap ≤ maxLen) (hr : Sls w ao rows) (hrb : ∀ l ∈ rows, I64s l) (hs : Sl .i64 w vb bs) (hbd : I64s bs) (hu : Sl .i64 w vw us) (hud : I64s us) :
    Calls Try.prog 13 #[.int .i64 order, .slice ao rows.length cap, .agg #[vb, vw]] w (RB w (.bool true)) := by
  obtain ⟨ab0, cb0, hv0, hcb0, hmb0⟩ := hs.form
  subst hv0
  obtain ⟨au0, cu0, hv1, hcu0, hmu0⟩ := hu.form
  subst hv1
  have hbA : Below w.heap.size w (w.alloc (.cells #[.slice ab0 bs.length cb0, .slice au0 us.length cu0] 87)) := (Below.refl _ _).alloc (Nat.le_refl _) _
  obtain ⟨i4, i5, _⟩ := two_cells (heap_alloc_new w (.cells #[.slice ab0 bs.length cb0, .slice au0 us.length cu0] 87))
  have hbD := hbA.drew
  have HBA := Kept.mk hbD
  have HR := Kept.mk (hr.below hbD)
  have HS := Kept.mk (hs.below hbD)
  have HU := Kept.mk (hu.below hbD)
  have HRB := Kept.mk hrb
  have HBD := Kept.mk hbd
  have HUD := Kept.mk hud
  obtain ⟨gA, hgA⟩ : ∃ g, w.heap.size = g := ⟨_, rfl⟩
  rw [hgA] at i4 i5
  have HGA := Kept.mk hgA
  clear hbA hbD hr hs hu hrb hbd hud hgA
  go_enter Try.func13, Try.ntmps13
  go_wp2
  rw [HGA.out]
  go_region_held3 (fun w' => w'.cell? ⟨gA, 0, none⟩ = some (.slice ab0 bs.length cb0) ∧ w'.cell? ⟨gA, 1, none⟩ = some (.slice au0 us.length cu0))
    (first | exact ⟨i4, i5⟩ | go_keep)
    (fail)
  clear i4 i5
  go_wp2_with fail
  refine (some_any order 50 _ o0 o1 (by omega) (by omega)).mono ?_
  rintro e w1 ⟨hb1, D, b, hD, hle, hbl, hf, rfl⟩
  have HD := Kept.mk hD
  have hq0 : D.q = D.p ^ D.k := rfl
  have hq1 := hD.pre.pk.one_lt
  rw [← hq0] at hq1
  have hbx : Below w1.heap.size w1 (w1.alloc (rbox D.q D.p D.k D.m)) := (Below.refl _ _).alloc (Nat.le_refl _) _
  obtain ⟨i0, i1, i2, i3⟩ := four_cells (heap_alloc_new w1 (rbox D.q D.p D.k D.m))
  have HB := Kept.mk (bstep (bstep HBA.out hb1) hbx)
  have HF := Kept.mk (hf.below hbx)
  replace HR := Kept.mk ((HR.out.below hb1).below hbx)
  replace HS := Kept.mk ((HS.out.below hb1).below hbx)
  replace HU := Kept.mk ((HU.out.below hb1).below hbx)
  have HTM := Kept.mk (fun W (hW : Sls W ao rows) => tame_any hD ao rows cap 5 W hcap hmax hW HRB.out (by omega))
  clear hb1 hbx hf HBA hD hle hbl hq0
  go_wp2_with fail
  refine (HTM.out _ HR.out).mono ?_
  rintro e w2 ⟨hb2, vm, L, rfl, hrw, hLm⟩
  obtain ⟨am, cm, rfl, hcm, hmm, hsls⟩ := hrw.sls
  rw [hLm] at hsls
  obtain ⟨n, hn⟩ : ∃ n, L.length = n := ⟨_, rfl⟩
  have hmn : (tamM D rows 5).length = n := by
    have e := congrArg List.length hLm
    rw [List.length_map, List.length_map] at e
    rw [← e, hn]
  have hn5 : n ≤ 5 := by rw [← hmn, tamM_len]; omega
  have hn0 : n = 0 → min (rlen rows 0) 5 = 0 := fun h => by
    have : rows.length = 0 := by rw [tamM_len] at hmn; omega
    rw [rlen_zero this]; rfl
  have hwd : min (rlen rows 0) 5 ≤ 64 := by omega
  have hwf : FFld.Wfm D (min (rlen rows 0) 5) (tamM D rows 5) := tamM_wf (by omega) rows 5
  rw [hn] at hcm ⊢
  obtain ⟨m, hm⟩ : ∃ m, tamM D rows 5 = m := ⟨_, rfl⟩
  obtain ⟨wd, hwdd⟩ : ∃ wd, min (rlen rows 0) 5 = wd := ⟨_, rfl⟩
  rw [hm] at hsls hwf hmn
  rw [hwdd] at hwf hn0 hwd
  have HN := Kept.mk (fun (W : World) (hW : Sls W am (m.map ints)) (vb vw : Value) (bl ul : List Int) (h1 : Sl .i64 W vb bl) (h2 : Sl .i64 W vw ul) => denies_same (b := b) HD.out m am cm vb vw bl ul wd n W hW hcm hmm h1 h2 hmn (by omega) hwf hwd hn0)
  have HM := Kept.mk hsls
  replace HF := Kept.mk (HF.out.below hb2)
  replace HB := Kept.mk (bstep HB.out hb2)
  replace HS := Kept.mk (HS.out.below hb2)
  replace HU := Kept.mk (HU.out.below hb2)
  have j0 := belowCell hb2 i0
  have j1 := belowCell hb2 i1
  have j2 := belowCell hb2 i2
  have j3 := belowCell hb2 i3
  obtain ⟨g8, hg8⟩ : ∃ g, w1.heap.size = g := ⟨_, rfl⟩
  rw [hg8] at j0 j1 j2 j3 ⊢
  have hmm0 := hmm
  unfold maxLen at hmm0
  clear hb2 hrw hsls hLm hm hn hmn hwf hn0 hwd hwdd i0 i1 i2 i3 HR HTM hcap hmax hmm hg8 hq1
  go_wp2
  go_loopw [12] (fun kv wr => ∃ k : Nat, k ≤ 2 ∧ kv = .int .i64 k ∧ Kept (Below w2.heap.size w2 wr)) (fun kv _ => 2 - (intOf kv).toNat)
  case atStart => exact ⟨0, by omega, rfl, ⟨Below.refl _ _⟩⟩
  case round =>
    obtain ⟨k, hk, rfl, hbr⟩ := hrel
    obtain ⟨wz, rfl⟩ : ∃ W, W = wr := ⟨_, rfl⟩
    replace HM := Kept.mk (HM.out.below hbr.out)
    replace HF := Kept.mk (HF.out.below hbr.out)
    replace HS := Kept.mk (HS.out.below hbr.out)
    replace HU := Kept.mk (HU.out.below hbr.out)
    replace j0 := belowCell hbr.out j0
    replace j1 := belowCell hbr.out j1
    replace j2 := belowCell hbr.out j2
    replace j3 := belowCell hbr.out j3
    by_cases hk2 : k = 2
    · subst hk2
      go_wp2_with fail
      refine (awake_any _).mono ?_
      rintro e w9 ⟨hb9, rfl⟩
      replace HB := Kept.mk (bstep (bstep HB.out hbr.out) hb9)
      clear hb9
      go_wp2
      go_ret
      exact ⟨HB.out, rfl⟩
    · have hkk : k = 0 ∨ k = 1 := by omega
      clear hk hk2
      rcases hkk with rfl | rfl
      · go_wp2_with fail
        refine (raw_any _ bs 6 _ HS.out (by omega)).mono ?_
        rintro e w3 ⟨hb3, v3, rfl, hm3⟩
        obtain ⟨a3, c3, rfl, hc3, hx3⟩ := hm3.sl.form
        have HV := Kept.mk hm3.sl
        obtain ⟨r3, hr3⟩ : ∃ x, (bs.take 6).length = x := ⟨_, rfl⟩
        rw [hr3] at HV ⊢
        replace HM := Kept.mk (HM.out.below hb3)
        replace HF := Kept.mk (HF.out.below hb3)
        replace HS := Kept.mk (HS.out.below hb3)
        replace HU := Kept.mk (HU.out.below hb3)
        replace hbr := Kept.mk (bstep hbr.out hb3)
        replace j0 := belowCell hb3 j0
        replace j1 := belowCell hb3 j1
        replace j2 := belowCell hb3 j2
        replace j3 := belowCell hb3 j3
        clear hm3 hb3 hr3 hc3
        go_wp2_with fail
        refine (raw_any _ us 6 _ HU.out (by omega)).mono ?_
        rintro e w4 ⟨hb4, v4, rfl, hm4⟩
        obtain ⟨a4, c4, rfl, hc4, hx4⟩ := hm4.sl.form
        have HV2 := Kept.mk hm4.sl
        obtain ⟨r4, hr4⟩ : ∃ x, (us.take 6).length = x := ⟨_, rfl⟩
        rw [hr4] at HV2 ⊢
        replace HV := Kept.mk (HV.out.below hb4)
        replace HM := Kept.mk (HM.out.below hb4)
        replace HF := Kept.mk (HF.out.below hb4)
        replace HS := Kept.mk (HS.out.below hb4)
        replace HU := Kept.mk (HU.out.below hb4)
        replace hbr := Kept.mk (bstep hbr.out hb4)
        replace j0 := belowCell hb4 j0
        replace j1 := belowCell hb4 j1
        replace j2 := belowCell hb4 j2
        replace j3 := belowCell hb4 j3
        clear hm4 hb4 hr4 hc4
        go_wp2
        obtain ⟨t, hd1, hd2⟩ := HN.out _ HM.out _ _ _ _ HV.out HV2.out
        have D1 := Kept.mk (fun X (hX : Below w4.heap.size w4 X) => hd1 X hX (HF.out.below hX))
        have D2 := Kept.mk hd2
        have ett : (t != t) = false := by simp
        clear hd1 hd2
        go_region_held3 (fun w' => w'.cell? ⟨g8, 0, none⟩ = some (.int .i64 D.q) ∧ w'.cell? ⟨g8, 1, none⟩ = some (.int .i64 D.p) ∧ w'.cell? ⟨g8, 2, none⟩ = some (.int .i64 D.k) ∧ w'.cell? ⟨g8, 3, none⟩ = some (.int .i64 D.m))
          (first | exact ⟨q0, q1, q2, q3⟩ | exact ⟨p0, p1, p2, p3⟩ | exact ⟨j0, j1, j2, j3⟩ | go_keep)
          ((first
            | (go_at_call 48; (with_reducible refine (D1.out _ ?h1).mono ?_); (case h1 => exact (by first | exact Below.refl _ _ | exact (Below.refl _ _).drew)); rintro e vd1 ⟨hbd1, rfl⟩; have hyd1 := Kept.mk (bstep (show Below w4.heap.size w4 _ from (by first | exact Below.refl _ _ | exact (Below.refl _ _).drew)) hbd1); have p0 := belowCell hyd1.out j0; have p1 := belowCell hyd1.out j1; have p2 := belowCell hyd1.out j2; have p3 := belowCell hyd1.out j3; clear hbd1)
            | (go_at_call 80; (with_reducible refine (D2.out _ ?h1).mono ?_); (case h1 => exact hyd1.out); rintro e vd2 ⟨hbd2, rfl⟩; have hyd2 := Kept.mk (bstep (show Below w4.heap.size w4 _ from hyd1.out) hbd2); have q0 := belowCell hyd2.out j0; have q1 := belowCell hyd2.out j1; have q2 := belowCell hyd2.out j2; have q3 := belowCell hyd2.out j3; clear hbd2)))
        go_wp2
        go_roundw
        case rel => exact ⟨1, by omega, rfl, ⟨bstep hbr.out hyd2.out⟩⟩
        case measure => simp [intOf] <;> omega
      · go_wp2_with fail
        refine (raw_any _ bs 6 _ HS.out (by omega)).mono ?_
        rintro e w3 ⟨hb3, v3, rfl, hm3⟩
        obtain ⟨a3, c3, rfl, hc3, hx3⟩ := hm3.sl.form
        have HV := Kept.mk hm3.sl
        obtain ⟨r3, hr3⟩ : ∃ x, (bs.take 6).length = x := ⟨_, rfl⟩
        rw [hr3] at HV ⊢
        replace HM := Kept.mk (HM.out.below hb3)
        replace HF := Kept.mk (HF.out.below hb3)
        replace HS := Kept.mk (HS.out.below hb3)
        replace HU := Kept.mk (HU.out.below hb3)
        replace hbr := Kept.mk (bstep hbr.out hb3)
        replace j0 := belowCell hb3 j0
        replace j1 := belowCell hb3 j1
        replace j2 := belowCell hb3 j2
        replace j3 := belowCell hb3 j3
        clear hm3 hb3 hr3 hc3
        go_wp2_with fail
        refine (raw_any _ us 6 _ HU.out (by omega)).mono ?_
        rintro e w4 ⟨hb4, v4, rfl, hm4⟩
        obtain ⟨a4, c4, rfl, hc4, hx4⟩ := hm4.sl.form
        have HV2 := Kept.mk hm4.sl
        obtain ⟨r4, hr4⟩ : ∃ x, (us.take 6).length = x := ⟨_, rfl⟩
        rw [hr4] at HV2 ⊢
        replace HV := Kept.mk (HV.out.below hb4)
        replace HM := Kept.mk (HM.out.below hb4)
        replace HF := Kept.mk (HF.out.below hb4)
        replace HS := Kept.mk (HS.out.below hb4)
        replace HU := Kept.mk (HU.out.below hb4)
        replace hbr := Kept.mk (bstep hbr.out hb4)
        replace j0 := belowCell hb4 j0
        replace j1 := belowCell hb4 j1
        replace j2 := belowCell hb4 j2
        replace j3 := belowCell hb4 j3
        clear hm4 hb4 hr4 hc4
        clear HV HV2
        have HL1 := Kept.mk (fun W (hW : Below w4.heap.size w4 W) => list_any HD.out (.slice ab0 bs.length cb0) bs n W (HS.out.below hW) HBD.out (by omega))
        have HL2 := Kept.mk (fun W (hW : Below w4.heap.size w4 W) => list_any HD.out (.slice au0 us.length cu0) us n W (HU.out.below hW) HUD.out (by omega))
        obtain ⟨l1, hl1⟩ : ∃ l, ints ((bs.take n).map (redN D)) = l := ⟨_, rfl⟩
        obtain ⟨l2, hl2⟩ : ∃ l, ints ((us.take n).map (redN D)) = l := ⟨_, rfl⟩
        have hn1 : l1.length ≤ n := by rw [← hl1, FFld.ints_len, List.length_map, List.length_take]; omega
        have hn2 : l2.length ≤ n := by rw [← hl2, FFld.ints_len, List.length_map, List.length_take]; omega
        rw [hl1] at HL1
        rw [hl2] at HL2
        clear hl1 hl2
        go_wp2
        go_region_held3 (fun w' => w'.cell? ⟨g8, 0, none⟩ = some (.int .i64 D.q) ∧ w'.cell? ⟨g8, 1, none⟩ = some (.int .i64 D.p) ∧ w'.cell? ⟨g8, 2, none⟩ = some (.int .i64 D.k) ∧ w'.cell? ⟨g8, 3, none⟩ = some (.int .i64 D.m))
          (first | exact ⟨l0, l1x, l2x, l3⟩ | exact ⟨k0, k1, k2, k3⟩ | exact ⟨j0, j1, j2, j3⟩ | go_keep)
          ((first
            | (go_at_call 73; (with_reducible refine (HL1.out _ ?h1).mono ?_); (case h1 => first | exact Below.refl _ _ | exact (Below.refl _ _).drew); rintro e v1 ⟨hb, vv, rfl, hmv⟩; have HMV := Kept.mk (show Mine 3 .i64 w4.heap.size v1 vv l1 from hmv); have hy1 := Kept.mk (bstep (show Below w4.heap.size w4 _ from (by first | exact Below.refl _ _ | exact (Below.refl _ _).drew)) hb); have k0 := belowCell hy1.out j0; have k1 := belowCell hy1.out j1; have k2 := belowCell hy1.out j2; have k3 := belowCell hy1.out j3; clear hb hmv)
            | (go_at_call 73; (with_reducible refine (HL2.out _ ?h1).mono ?_); (case h1 => exact hy1.out); rintro e v2 ⟨hb, uu, rfl, hmu⟩; have HMU := Kept.mk (show Mine 3 .i64 v1.heap.size v2 uu l2 from hmu); have HMW := Kept.mk (HMV.out.below hb); have HAP := Kept.mk (show Apart uu vv from fun k e1 e2 => by have := (HMU.out.own k e1).1; have := (HMV.out.own k e2).2; omega); have hy2 := Kept.mk (bstep hy1.out hb); have l0 := belowCell hy2.out j0; have l1x := belowCell hy2.out j1; have l2x := belowCell hy2.out j2; have l3 := belowCell hy2.out j3; clear hb hmu)))
        have HMY := Kept.mk (HMU.out.lower hy1.out.size)
        clear HL1 HL2 k0 k1 k2 k3 l0 l1x l2x l3 hy1
        go_wp2
        obtain ⟨av, cv, rfl, hcv, hxv⟩ := HMW.out.sl.form
        obtain ⟨au, cu, rfl, hcu, hxu⟩ := HMY.out.sl.form
        obtain ⟨n1, hq1⟩ : ∃ x, l1.length = x := ⟨_, rfl⟩
        obtain ⟨n2, hq2⟩ : ∃ x, l2.length = x := ⟨_, rfl⟩
        rw [hq1] at HMW HAP hn1 ⊢
        rw [hq2] at HMY HAP hn2 ⊢
        have HQ1 := Kept.mk hq1
        have HQ2 := Kept.mk hq2
        clear hq1 hq2 hcv hxv hcu hxu HMU HMV
        go_loopw [13] (fun v wr => ∃ (i c : Nat) (a : Option Addr) (l : List Int), i ≤ n ∧ v = .slice a i c ∧ Kept (l.length = i) ∧ Kept (Mine 3 .i64 w4.heap.size wr (.slice a i c) l) ∧ Kept (Mine 3 .i64 w4.heap.size wr (.slice au n2 cu) l2) ∧ Kept (Apart (.slice au n2 cu) (.slice a i c)) ∧ Kept (Below w4.heap.size w4 wr)) (fun v _ => n - sliceLen v)
        case atStart => exact ⟨n1, cv, av, l1, hn1, rfl, HQ1, HMW, HMY, HAP, hy2⟩
        case round =>
          obtain ⟨i, c, a, l, hi, rfl, hll, hmv, hmu, hap, hby⟩ := hrel
          obtain ⟨wy, rfl⟩ : ∃ W, W = wr := ⟨_, rfl⟩
          by_cases hlt : i < n
          · have HMa := Kept.mk (hmv.out.alloc (.cells #[.int .i64 1] 3))
            have HNW := Kept.mk (new_one (K := .i64) (x := (1 : Int)) (w := wy.alloc (.cells #[.int .i64 1] 3)) (b := wy.heap.size) (o := 0) (by exact (Row.new (E := 3) (K := .i64) wy [(1 : Int)]).cell (i := 0) (by simp)))
            have HBB := Kept.mk (show w4.heap.size ≤ (wy.alloc (.cells #[.int .i64 1] 3)).heap.size by have := hby.out.size; simp; omega)
            have H1 := Kept.mk (show (l.length + [(1 : Int)].length) * 8 ≤ 140737488355328 by rw [hll.out]; simp; omega)
            have H2 := Kept.mk (show l.length + [(1 : Int)].length ≤ maxLen by rw [hll.out]; unfold maxLen; simp; omega)
            have HLL := Kept.mk (show (l ++ [(1 : Int)]).length = i + 1 by rw [List.length_append, hll.out]; rfl)
            have hOwn := Kept.mk hmv.out.own
            have hOwu := Kept.mk hmu.out.own
            go_wp2_with (at_builtin; refine wpList_append_mine _ rfl _ _ 34 rfl 3 .i64 8 Try.underlying34 info_i64 w4.heap.size (.slice a i c) l (by rfl) HMa.out HBB.out ⟨wy.heap.size, 0, none⟩ 1 1 [(1 : Int)] (by rfl) rfl HNW.out H1.out H2.out ?_)
            intro v' w5 hm5 hg5 hn5
            have hgg := growTrans (World.grownBy_alloc wy (.cells #[.int .i64 1] 3) _) hg5
            have HMU5 := Kept.mk (hmu.out.kept hgg hap.out.ne)
            have HAP5 := Kept.mk (hap.out.step hn5 (fun k hk => by have := (hOwu.out k hk).2; simp; omega))
            have HB5 := Kept.mk (hby.out.grown hgg hby.out.size (fun j hj => (hOwn.out j hj).1))
            have HM5 := Kept.mk hm5
            obtain ⟨a', c', hvv, _, _⟩ := hm5.sl.form
            rw [HLL.out] at hvv
            subst hvv
            clear hm5 hg5 hn5 hgg
            go_wp2
            go_roundw
            case rel => exact ⟨i + 1, c', a', l ++ [1], by omega, rfl, HLL, HM5, HMU5, HAP5, HB5⟩
            case measure => simp [sliceLen] <;> omega
          · obtain rfl : i = n := by omega
            clear hlt hi HMW HMY HAP
            go_wp2
            go_loopw [14] (fun u wr => ∃ (i' c' : Nat) (a' : Option Addr) (l' : List Int), i' ≤ i ∧ u = .slice a' i' c' ∧ Kept (l'.length = i') ∧ Kept (Mine 3 .i64 w4.heap.size wr (.slice a' i' c') l') ∧ Kept (Mine 3 .i64 w4.heap.size wr (.slice a i c) l) ∧ Kept (Apart (.slice a i c) (.slice a' i' c')) ∧ Kept (Below w4.heap.size w4 wr)) (fun v _ => i - sliceLen v)
            case atStart => exact ⟨n2, cu, au, l2, hn2, rfl, HQ2, hmu, hmv, ⟨hap.out.sym⟩, hby⟩
            case round =>
              clear hmu hmv hap hby
              obtain ⟨i', c', a', l', hi, rfl, hll', hmu, hmv, hap, hby⟩ := hrel
              obtain ⟨wx, rfl⟩ : ∃ W, W = wr := ⟨_, rfl⟩
              by_cases hlt : i' < i
              · have HMa := Kept.mk (hmu.out.alloc (.cells #[.int .i64 1] 3))
                have HNW := Kept.mk (new_one (K := .i64) (x := (1 : Int)) (w := wx.alloc (.cells #[.int .i64 1] 3)) (b := wx.heap.size) (o := 0) (by exact (Row.new (E := 3) (K := .i64) wx [(1 : Int)]).cell (i := 0) (by simp)))
                have HBB := Kept.mk (show w4.heap.size ≤ (wx.alloc (.cells #[.int .i64 1] 3)).heap.size by have := hby.out.size; simp; omega)
                have H1 := Kept.mk (show (l'.length + [(1 : Int)].length) * 8 ≤ 140737488355328 by rw [hll'.out]; simp; omega)
                have H2 := Kept.mk (show l'.length + [(1 : Int)].length ≤ maxLen by rw [hll'.out]; unfold maxLen; simp; omega)
                have HLL := Kept.mk (show (l' ++ [(1 : Int)]).length = i' + 1 by rw [List.length_append, hll'.out]; rfl)
                have hOwn := Kept.mk hmu.out.own
                have hOwu := Kept.mk hmv.out.own
                go_wp2_with (at_builtin; refine wpList_append_mine _ rfl _ _ 34 rfl 3 .i64 8 Try.underlying34 info_i64 w4.heap.size (.slice a' i' c') l' (by rfl) HMa.out HBB.out ⟨wx.heap.size, 0, none⟩ 1 1 [(1 : Int)] (by rfl) rfl HNW.out H1.out H2.out ?_)
                intro v' w5 hm5 hg5 hn5
                have hgg := growTrans (World.grownBy_alloc wx (.cells #[.int .i64 1] 3) _) hg5
                have HMU5 := Kept.mk (hmv.out.kept hgg hap.out.ne)
                have HAP5 := Kept.mk (hap.out.step hn5 (fun k hk => by have := (hOwu.out k hk).2; simp; omega))
                have HB5 := Kept.mk (hby.out.grown hgg hby.out.size (fun j hj => (hOwn.out j hj).1))
                have HM5 := Kept.mk hm5
                obtain ⟨a'', c'', hvv, _, _⟩ := hm5.sl.form
                rw [HLL.out] at hvv
                subst hvv
                clear hm5 hg5 hn5 hgg
                go_wp2
                go_roundw
                case rel => exact ⟨i' + 1, c'', a'', l' ++ [1], by omega, rfl, HLL, HM5, HMU5, HAP5, HB5⟩
                case measure => simp [sliceLen] <;> omega
              · obtain rfl : i' = i := by omega
                clear hlt hi
                have HMx := Kept.mk (HM.out.below hby.out)
                have HFx := Kept.mk (HF.out.below hby.out)
                replace j0 := belowCell hby.out j0
                replace j1 := belowCell hby.out j1
                replace j2 := belowCell hby.out j2
                replace j3 := belowCell hby.out j3
                have HP1 := Kept.mk hmv.out.sl
                have HP2 := Kept.mk hmu.out.sl
                clear hmv hmu hap
                go_wp2
                obtain ⟨t, hd1, hd2⟩ := HN.out _ HMx.out _ _ _ _ HP1.out HP2.out
                have D1 := Kept.mk (fun X (hX : Below wx.heap.size wx X) => hd1 X hX (HFx.out.below hX))
                have D2 := Kept.mk hd2
                have ett : (t != t) = false := by simp
                clear hd1 hd2
                go_region_held3 (fun w' => w'.cell? ⟨g8, 0, none⟩ = some (.int .i64 D.q) ∧ w'.cell? ⟨g8, 1, none⟩ = some (.int .i64 D.p) ∧ w'.cell? ⟨g8, 2, none⟩ = some (.int .i64 D.k) ∧ w'.cell? ⟨g8, 3, none⟩ = some (.int .i64 D.m))
                  (first | exact ⟨q0, q1, q2, q3⟩ | exact ⟨p0, p1, p2, p3⟩ | exact ⟨j0, j1, j2, j3⟩ | go_keep)
                  ((first
                    | (go_at_call 48; (with_reducible refine (D1.out _ ?h1).mono ?_); (case h1 => exact (by first | exact Below.refl _ _ | exact (Below.refl _ _).drew)); rintro e vd1 ⟨hbd1, rfl⟩; have hyd1 := Kept.mk (bstep (show Below wx.heap.size wx _ from (by first | exact Below.refl _ _ | exact (Below.refl _ _).drew)) hbd1); have p0 := belowCell hyd1.out j0; have p1 := belowCell hyd1.out j1; have p2 := belowCell hyd1.out j2; have p3 := belowCell hyd1.out j3; clear hbd1)
                    | (go_at_call 80; (with_reducible refine (D2.out _ ?h1).mono ?_); (case h1 => exact hyd1.out); rintro e vd2 ⟨hbd2, rfl⟩; have hyd2 := Kept.mk (bstep (show Below wx.heap.size wx _ from hyd1.out) hbd2); have q0 := belowCell hyd2.out j0; have q1 := belowCell hyd2.out j1; have q2 := belowCell hyd2.out j2; have q3 := belowCell hyd2.out j3; clear hbd2)))
                go_wp2
                go_roundw
                case rel => exact ⟨2, by omega, rfl, ⟨bstep (bstep hbr.out hby.out) hyd2.out⟩⟩
                case measure => simp [intOf] <;> omega
end Go.Proofs.Ytfhhnfpapgfnmaa
