/-
  Texts of the proof, merged by program: Lga Lgb.
-/
import Derived.Test.YtfhhnfpapgfnmaaZLla
import Derived.Maps.Own
import Derived.Maps.OwnOps
import Derived.Maps.OwnSet
set_option linter.unusedVariables false
set_option linter.unusedSimpArgs false
namespace Go.Proofs.Ytfhhnfpapgfnmaa
namespace FFld
/-- a times the n-th power of the generator. -/
def agn (D : FD) (h : D.Ok) (a n : Nat) : Nat := pmul D.p D.k D.m a D.k (ppow h.pre.pk D.g n)
theorem agn_lt {D : FD} (h : D.Ok) (a n : Nat) : agn D h a n < D.p ^ D.k := pmul_lt h.pre.pk _ _ _
theorem agn_zero {D : FD} (h : D.Ok) {a : Nat} (ha : a < D.p ^ D.k) : agn D h a 0 = a := by
  unfold agn
  rw [ppow_zero h.pre.pk _ h.gq, pmul_by_one h.pre.pk a ha]
theorem agn_succ {D : FD} (h : D.Ok) {a : Nat} (ha : a < D.p ^ D.k) (n : Nat) : pmul D.p D.k D.m (agn D h a n) D.k D.g = agn D h a (n + 1) := by
  unfold agn
  rw [ppow_succ h.pre.pk _ _ h.gq, pmul_assoc h.pre.pk _ _ _ ha (ppow_lt _ _ _) h.gq]
theorem agn_pow {D : FD} (h : D.Ok) {a l : Nat} (hla : ppow h.pre.pk D.g l = a) (n : Nat) : agn D h a n = ppow h.pre.pk D.g (l + n) := by
  unfold agn
  rw [← hla, ppow_add h.pre.pk _ _ _ h.gq]
/-- Some large step meets a small one. -/
theorem bs_hit {D : FD} (h : D.Ok) {a l step : Nat} (hl : l < D.p ^ D.k - 1) (hla : ppow h.pre.pk D.g l = a) (hs : 1 ≤ step) (hss : D.p ^ D.k ≤ step * step) :
    ∃ i, 1 ≤ i ∧ i ≤ step ∧ ∃ c, c < step ∧ agn D h a c = ppow h.pre.pk D.g (step * i) := by
  obtain ⟨l', h1, h2, h3⟩ : ∃ l', 1 ≤ l' ∧ l' ≤ D.p ^ D.k - 1 ∧ ∀ n, ppow h.pre.pk D.g (l' + n) = ppow h.pre.pk D.g (l + n) := by
    by_cases h0 : l = 0
    · refine ⟨D.p ^ D.k - 1, by omega, Nat.le_refl _, fun n => ?_⟩
      rw [h0, ← ppow_add h.pre.pk _ _ _ h.gq, h.cycle, pmul_comm h.pre.pk 1 _ h.pre.pk.one_lt (ppow_lt _ _ _), pmul_by_one h.pre.pk _ (ppow_lt _ _ _), Nat.zero_add]
    · exact ⟨l, by omega, by omega, fun n => rfl⟩
  have hq := h.pre.pk.one_lt
  have hd := Nat.div_add_mod (l' - 1) step
  have hm := Nat.mod_lt (l' - 1) (show 0 < step by omega)
  have hlt : (l' - 1) / step < step := (Nat.div_lt_iff_lt_mul (by omega)).2 (by omega)
  generalize (l' - 1) / step = dq at hd hlt
  generalize (l' - 1) % step = mq at hd hm
  refine ⟨dq + 1, by omega, by omega, step - 1 - mq, by omega, ?_⟩
  rw [agn_pow h hla, ← h3]
  congr 1
  rw [Nat.mul_add, Nat.mul_one]
  omega
/-- What a small step and a large one tell. -/
theorem bs_val {D : FD} (h : D.Ok) {a l c n : Nat} (hl : l < D.p ^ D.k - 1) (hla : ppow h.pre.pk D.g l = a) (hc : c ≤ n) (he : agn D h a c = ppow h.pre.pk D.g n) : (n - c) % (D.p ^ D.k - 1) = l := by
  have hq := h.pre.pk.one_lt
  rw [agn_pow h hla] at he
  refine h.pow_inj (Nat.mod_lt _ (by omega)) hl ?_
  rw [h.pow_mod]
  have e1 : ppow h.pre.pk D.g n = pmul D.p D.k D.m (ppow h.pre.pk D.g (n - c)) D.k (ppow h.pre.pk D.g c) := by rw [ppow_add h.pre.pk _ _ _ h.gq]; congr 1; omega
  rw [e1, ← ppow_add h.pre.pk _ _ _ h.gq] at he
  have hk := h.pre.pk
  rw [pmul_comm hk _ _ (ppow_lt _ _ _) (ppow_lt _ _ _), pmul_comm hk (ppow _ _ (n - c)) _ (ppow_lt _ _ _) (ppow_lt _ _ _)] at he
  have := (FD.dom h.nzd).mul_left_cancel (a := ⟨ppow hk D.g c, ppow_lt _ _ _⟩) (b := ⟨ppow hk D.g l, ppow_lt _ _ _⟩) (c := ⟨ppow hk D.g (n - c), ppow_lt _ _ _⟩) (fun e => h.pow_ne c (congrArg Subtype.val e)) (Subtype.ext he)
  exact (congrArg Subtype.val this).symm
end FFld
end Go.Proofs.Ytfhhnfpapgfnmaa

set_option linter.unusedVariables false
set_option linter.unusedSimpArgs false
namespace Go.Proofs.Ytfhhnfpapgfnmaa
open Go Go.RowKit Go.Deep Go.Maps
open FFld (ints)
theorem lawInt : Keyed Try.prog 3 := int_keyed Try.underlying3
theorem zeroInt (w : World) : (zeroValue 3).run Try.prog w = .ok (.int .i64 0) w := by kernel_rfl
theorem run_make_int (n : Int) (w : World) : (Instr.makeMap 149 (some (.int .i64 n))).run Try.prog w = .ok (.map (some w.heap.size)) (w.alloc (.map #[] 0)) := by kernel_rfl
/-- The small steps that the map holds. -/
structure SmAt (f : Nat → Nat) (j : Nat) (Dm : DataW Unit) : Prop where
  hit : ∀ n, n < j → Maps.has Dm (.int .i64 (f n)) = true
  val : ∀ (x c : Int), Maps.has Dm (.int .i64 x) = true → Dm.atKey (.int .i64 x) (.lit (.int .i64 0)) = .lit (.int .i64 c) → ∃ n : Nat, n < j ∧ (f n : Int) = x ∧ c = n
theorem SmAt.start (f : Nat → Nat) : SmAt f 0 (.map []) := ⟨fun n hn => by omega, fun x c h => by simp [Maps.has] at h⟩
theorem SmAt.next {f : Nat → Nat} {j : Nat} {Dm : DataW Unit} (h : SmAt f j Dm) (hD : IsMap Dm) : SmAt f (j + 1) (Dm.put (.int .i64 (f j)) (.lit (.int .i64 j))) := by
  have hk : WideAt.IsKeyLit (.int .i64 ((f j : Nat) : Int)) := trivial
  refine ⟨fun n hn => ?_, fun x c hx hc => ?_⟩
  · by_cases e : f n = f j
    · rw [e]
      exact has_put_same hD hk _
    · rw [has_put_other (fun e2 => e (by injection e2 with _ e3; omega))]
      rcases Nat.lt_or_ge n j with h1 | h1
      · exact h.hit n h1
      · exact absurd (show f n = f j by rw [show n = j by omega]) e
  · by_cases e : x = f j
    · subst e
      rw [atKey_put_same hD hk] at hc
      injection hc with hc'
      injection hc' with _ hc''
      exact ⟨j, by omega, rfl, hc''.symm⟩
    · have hne : (Lit.int .i64 x) ≠ .int .i64 (f j) := fun e2 => e (by injection e2)
      rw [has_put_other hne] at hx
      rw [atKey_put_other hne] at hc
      obtain ⟨n, h1, h2, h3⟩ := h.val x c hx hc
      exact ⟨n, by omega, h2, h3⟩
set_option maxRecDepth 20000 in
set_option maxHeartbeats 8000000 in
theorem rlog_any {D : FFld.FD} (hD : D.Ok) (hk1 : D.k = 1) (a l : Nat) (w : World) (ha : a < D.p ^ D.k) (hl : l < D.p ^ D.k - 1) (hla : FFld.ppow hD.pre.pk D.g l = a) :
    Calls Try.prog 161 #[rmv D.p D.g, .int .i64 a] w (RB w (.int .i64 l)) := by
  have hm : D.m = D.p := hD.pre.mod1 hk1
  have hp6 := hD.p6
  have hp2 := hD.pre.pk.p2
  have hpp : D.p ^ D.k = D.p := by rw [hk1, Nat.pow_one]
  have hpk1 : FFld.PK D.p 1 D.p := ⟨hp2, Nat.le_refl _⟩
  have HPR := Kept.mk (fun W x y (hx : x < D.p ^ D.k) (hy : y < D.p ^ D.k) => show Calls Try.prog 125 #[rmv D.p D.g, .int .i64 (x : Nat), .int .i64 (y : Nat)] W (RB W (.int .i64 (FFld.pmul D.p D.k D.m x D.k y : Nat))) from by
    rw [hk1] at hx hy ⊢
    rw [hm]
    exact fproduct_any D.p D.g x y W hpk1 hp6 hx hy)
  have HPW := Kept.mk (fun W n (hn : n ≤ 70000) => show Calls Try.prog 162 #[rmv D.p D.g, .int .i64 (D.g : Nat), .int .i64 (n : Nat)] W (RB W (.int .i64 (FFld.ppow hD.pre.pk D.g n : Nat))) from by
    have key : ∀ (k m : Nat) (hpk : FFld.PK D.p k m) (e1 : k = 1) (e2 : m = D.p) (ha : D.g < D.p ^ k), Calls Try.prog 162 #[rmv D.p D.g, .int .i64 (D.g : Nat), .int .i64 (n : Nat)] W (RB W (.int .i64 (FFld.ppow hpk D.g n : Nat))) := by
      intro k m hpk e1 e2 ha
      subst e1 e2
      exact fpower_any D.p D.g D.g n W hpk1 hp6 ha hn
    exact key D.k D.m hD.pre.pk hk1 hm hD.gq)
  have hmm := run_make_int
  have HX0 : Kept (Bxs w [rmbox D.p D.g] (w.alloc (rmbox D.p D.g))) := ⟨(Bxs.start w).alloc (by simp) _⟩
  have HAL := Kept.mk (fun n => FFld.agn_lt hD a n)
  have HAS := Kept.mk (fun n => FFld.agn_succ hD ha n)
  have HA0 := Kept.mk (FFld.agn_zero hD ha)
  have HGQ := Kept.mk hD.gq
  have HHIT := Kept.mk (fun step (hs : 1 ≤ step) (hss : D.p ≤ step * step) => FFld.bs_hit hD hl hla hs (by rw [hpp]; exact hss))
  have HVAL := Kept.mk (fun c n (hc : c ≤ n) he => show (n - c) % (D.p - 1) = l from by have := FFld.bs_val hD hl hla (c := c) (n := n) hc he; rw [hpp] at this; exact this)
  have HPS := Kept.mk (fun n => FFld.ppow_add hD.pre.pk D.g n)
  have HPL := Kept.mk (fun n => FFld.ppow_lt hD.pre.pk D.g n)
  have HQP : Kept (∀ x, x < D.p ^ D.k → x ≤ 65536) := ⟨fun x hx => by omega⟩
  clear ha hl hla hm hpp hpk1
  go_enter Try.func161, Try.ntmps161
  obtain ⟨c0, c1, _, _⟩ := two_cells HX0.out.b0
  go_wp2
  obtain ⟨W0, hW0⟩ : ∃ W, w.alloc (rmbox D.p D.g) = W := ⟨_, rfl⟩
  rw [hW0] at HX0 c0 c1
  try rw [hW0]
  clear hW0
  go_loopw [5] (fun sv wr => ∃ (s : Nat), 1 ≤ s ∧ s ≤ 256 ∧ sv = .int .i64 s ∧ W0 = wr) (fun sv _ => 256 - (intOf sv).toNat)
  case atStart => exact ⟨1, by omega, by omega, rfl, rfl⟩
  case round =>
    obtain ⟨step, hs1, hs2, rfl, rfl⟩ := hrel
    obtain ⟨ss, hss⟩ : ∃ s, step * step = s := ⟨_, rfl⟩
    have hssl : ss ≤ 65536 := by rw [← hss]; exact nmul_le (A := 256) (B := 256) hs2 hs2
    have e1 : wrap64 ((step : Int) * step) = ss := wmul hss (by omega)
    have e2 : IntKind.i64.wrap ((step : Int) * step) = ss := wimul hss (by omega)
    by_cases hlt : ss < D.p
    · have hs3 : step ≤ 255 := by
        rcases Nat.lt_or_ge 255 step with h | h
        · have := nmul_le (A := step) (B := step) (a := 256) (b := 256) h h
          omega
        · exact h
      clear hss
      go_wp2
      go_roundw
      case rel => exact ⟨step + 1, by omega, by omega, by go_num, trivial⟩
      case measure => simp [intOf] <;> omega
    · have HH := Kept.mk (HHIT.out step hs1 (by omega))
      have hssm : step * step ≤ 65536 := by rw [hss]; exact hssl
      have HSS := Kept.mk hssm
      clear hss hssm
      have hmap := World.ownsMap_made (H := Unit) W0 Try.prog 3 (plainElem Try.prog 3)
      have HXM := Kept.mk (HX0.out.below (show Below W0.heap.size W0 (W0.alloc (.map #[] 0)) from (Below.refl _ _).alloc (Nat.le_refl _) _))
      have hBl : w.heap.size + 1 ≤ W0.heap.size := by have := HX0.out.2.1; simpa using this
      obtain ⟨B, hB⟩ : ∃ B, W0.heap.size = B := ⟨_, rfl⟩
      rw [hB] at hmap hBl
      have HMAP := Kept.mk hmap
      clear hmap HX0
      go_wp2
      try rw [hB]
      clear hB c0 c1 e1 e2 hlt hssl
      go_loopw [1, 24] (fun av cv wr => ∃ (n x : Nat) (Dm : DataW Unit), n ≤ step ∧ cv = .int .i64 n ∧ av = .int .i64 x ∧ Kept (FFld.agn D hD a n = x) ∧ Kept (wr.ownsMap Try.prog 3 (plainElem Try.prog 3) B n Dm) ∧ Kept (SmAt (FFld.agn D hD a) n Dm) ∧ Kept (Bxs w [rmbox D.p D.g] wr)) (fun _ cv _ => step - (intOf cv).toNat)
      case atStart => exact ⟨0, a, _, Nat.zero_le _, rfl, rfl, HA0, HMAP, ⟨SmAt.start _⟩, HXM⟩
      case round =>
        obtain ⟨n, x, Dm, hn, rfl, rfl, hx, hown, hsm, hbx⟩ := hrel
        by_cases hlt : n < step
        · have hxq : x < D.p ^ D.k := by rw [← hx.out]; exact HAL.out n
          have hx6 := HQP.out x hxq
          have hwx : (Lit.int .i64 (x : Int)).wf = true := WalkArith.wf_i64 (by omega)
          have hwn : (Lit.int .i64 (n : Int)).wf = true := WalkArith.wf_i64 (by omega)
          have HSN := Kept.mk (hsm.out.next hown.out.isMap)
          rw [hx.out] at HSN
          obtain ⟨y, hy⟩ : ∃ y, FFld.pmul D.p D.k D.m x D.k D.g = y := ⟨_, rfl⟩
          have HY : Kept (FFld.agn D hD a (n + 1) = y) := ⟨by rw [← HAS.out, hx.out, hy]⟩
          have hP := Kept.mk (fun W => HPR.out W x D.g hxq HGQ.out)
          rw [hy] at hP
          clear hy hxq
          go_wp2_with (at_mapUpdate; refine wpList_mapUpdate_own _ rfl _ _ _ 149 rfl 3 3 lawInt Try.underlying149 _ B n _ rfl hown.out (by unfold maxLen; omega) _ _ _ rfl rfl (keyOf_int_mk Try.underlying3 hwx) _ [] (plainElem_int Try.underlying3 hwn) ?_)
          intro w3 hown3 hg3
          have HOWN3 := Kept.mk hown3
          have HX3 := Kept.mk (hbx.out.grown hg3 (fun k hk => by cases hk; simpa using hBl))
          obtain ⟨c0, c1, _, _⟩ := two_cells HX3.out.b0
          clear hown3 hg3
          go_wp2_with fail
          refine (hP.out _).mono ?_
          rintro e w4 ⟨hb4, rfl⟩
          have HOWN4 := Kept.mk (HOWN3.out.kept (growBelow (r := none) hb4) (by simp))
          have HX4 := Kept.mk (HX3.out.below hb4)
          clear hb4 c0 c1 hP
          go_wp2
          go_roundw
          case rel => exact ⟨n + 1, y, _, by omega, by go_num, rfl, HY, HOWN4, HSN, HX4⟩
          case measure => simp [intOf] <;> omega
        · obtain rfl : n = step := by omega
          obtain ⟨i0, hi1, hi2, cc, hcc, hec⟩ := HH.out
          have HEC := Kept.mk hec
          obtain ⟨st, hst⟩ : ∃ st, FFld.ppow hD.pre.pk D.g n = st := ⟨_, rfl⟩
          have hW := Kept.mk (fun W => HPW.out W n (by omega))
          rw [hst] at hW
          have HST := Kept.mk hst
          have hstq : st < D.p ^ D.k := by rw [← hst]; exact HPL.out n
          obtain ⟨c0, c1, _, _⟩ := two_cells hbx.out.b0
          clear hec hst hx
          go_wp2_with fail
          refine (hW.out _).mono ?_
          rintro e w5 ⟨hb5, rfl⟩
          have HOWN5 := Kept.mk (hown.out.kept (growBelow (r := none) hb5) (by simp))
          have HX5 := Kept.mk (hbx.out.below hb5)
          clear hb5 c0 c1 hW
          go_wp2
          go_loopw [9, 10] (fun lv nv wr => ∃ (i m x : Nat), 1 ≤ i ∧ i ≤ i0 ∧ Kept (n * i = m) ∧ m ≤ 65536 ∧ n ≤ m ∧ nv = .int .i64 m ∧ lv = .int .i64 x ∧ Kept (FFld.ppow hD.pre.pk D.g m = x) ∧ Kept (wr.ownsMap Try.prog 3 (plainElem Try.prog 3) B n Dm) ∧ Kept (Bxs w [rmbox D.p D.g] wr)) (fun _ nv _ => 70000 - (intOf nv).toNat)
          case atStart => exact ⟨1, n, st, Nat.le_refl _, hi1, ⟨Nat.mul_one _⟩, by omega, Nat.le_refl _, rfl, rfl, HST, HOWN5, HX5⟩
          case round =>
            obtain ⟨i, m, x, hi3, hi4, hm, hm6, hnm, rfl, rfl, hx, hown, hbx⟩ := hrel
            have hxq : x < D.p ^ D.k := by rw [← hx.out]; exact HPL.out m
            have hx6 := HQP.out x hxq
            have hwx : (Lit.int .i64 (x : Int)).wf = true := WalkArith.wf_i64 (by omega)
            obtain ⟨c0, c1, _, _⟩ := two_cells hbx.out.b0
            obtain ⟨t, ht⟩ : ∃ t, Maps.has Dm (.int .i64 (x : Int)) = t := ⟨_, rfl⟩
            have HT := Kept.mk ht
            clear ht
            cases t with
            | true =>
              go_wp2_with (at_lookup; refine wpList_lookup_own_ok_int _ rfl _ _ 149 rfl 3 3 .i64 lawInt Try.underlying149 Try.underlying3 (zeroInt _) B n Dm rfl hown.out _ _ rfl (keyOf_int_mk Try.underlying3 hwx) ?_)
              intro c hat hwc
              rw [HT.out]
              obtain ⟨n', hn', hx', rfl⟩ := hsm.out.val x c HT.out hat
              have hv := HVAL.out n' m (by omega) (by rw [hx.out]; omega)
              obtain ⟨d, hd⟩ : ∃ d, m - n' = d := ⟨_, rfl⟩
              obtain ⟨p1, hp1⟩ : ∃ p1, D.p - 1 = p1 := ⟨_, rfl⟩
              rw [hd, hp1] at hv
              have ed : (m : Int) - n' = d := by omega
              have ep : (D.p : Int) - 1 = p1 := by omega
              have hp0 : 0 < p1 := by omega
              have er : (d : Int) % p1 = l := by rw [← hv]; rfl
              have hd6 : d ≤ 65536 := by omega
              have hp16 : p1 ≤ 65536 := by omega
              have HV := Kept.mk er
              clear hat hwc hv hd hp1 er hx'
              go_wp2
              go_ret
              exact ⟨hbx.out.1, by simp [HV.out]⟩
            | false =>
              have hlt3 : i < i0 := by
                rcases Nat.lt_or_ge i i0 with h | h
                · exact h
                · exfalso
                  obtain rfl : i = i0 := by omega
                  have h1 := hsm.out.hit cc hcc
                  rw [HEC.out, hm.out, hx.out, HT.out] at h1
                  cases h1
              have hm2 : n * (i + 1) = m + n := by rw [Nat.mul_succ, hm.out]
              have hm3 : n * (i + 1) ≤ n * n := Nat.mul_le_mul_left _ (by omega)
              have hm7 : m + n ≤ 65536 := by have := HSS.out; omega
              obtain ⟨y, hy⟩ : ∃ y, FFld.pmul D.p D.k D.m x D.k st = y := ⟨_, rfl⟩
              have HY : Kept (FFld.ppow hD.pre.pk D.g (m + n) = y) := ⟨by rw [← HPS.out m n HGQ.out, hx.out, HST.out, hy]⟩
              have hP := Kept.mk (fun W => HPR.out W x st hxq hstq)
              rw [hy] at hP
              have HM2 := Kept.mk hm2
              clear hm2 hm3 hy
              go_wp2_with (at_lookup; refine wpList_lookup_own_ok_int _ rfl _ _ 149 rfl 3 3 .i64 lawInt Try.underlying149 Try.underlying3 (zeroInt _) B n Dm rfl hown.out _ _ rfl (keyOf_int_mk Try.underlying3 hwx) ?_)
              intro c hat hwc
              rw [HT.out]
              clear hat hwc
              go_wp2_with fail
              refine (hP.out _).mono ?_
              rintro e w6 ⟨hb6, rfl⟩
              have HOWN6 := Kept.mk (hown.out.kept (growBelow (r := none) hb6) (by simp))
              have HX6 := Kept.mk (hbx.out.below hb6)
              clear hb6 hP
              go_wp2
              go_roundw
              case rel => exact ⟨i + 1, m + n, y, by omega, by omega, HM2, hm7, by omega, by go_num, rfl, HY, HOWN6, HX6⟩
              case measure => simp [intOf] <;> omega
/-- The logarithm behind the interface. -/
theorem ArV.log {D : FFld.FD} {h : D.Ok} {w : World} {v : Value} (hv : ArV D h w v) : ∃ T x fl, v = .iface T x ∧ (∀ W, (method 251 T x "dauber/field.logarithm").run Try.prog W = .ok (fl, x) W) ∧ (∀ args W, (callFunc fl args).run Try.prog W = .ok (.enter fl args) W) ∧
    ∀ W, Below w.heap.size w W → ∀ a l, a < D.p ^ D.k → a ≠ 0 → l < D.p ^ D.k - 1 → FFld.ppow h.pre.pk D.g l = a → Calls Try.prog fl #[x, .int .i64 (a : Nat)] W (RB W (.int .i64 (l : Nat))) := by
  rcases hv with ⟨hk, rfl⟩ | ⟨h2, gP, gL, q1, q, P, L, rfl, r1, r2, ht, e1, e2⟩
  · exact ⟨_, _, 161, rfl, fun _ => by kernel_rfl, fun _ _ => by kernel_rfl, fun W _ a l ha _ hl hla => rlog_any h hk a l W ha hl hla⟩
  · have htb := TbW.of r1 r2 ht e1 e2
    exact ⟨_, _, 165, rfl, fun _ => by kernel_rfl, fun _ _ => by kernel_rfl, fun W hW a l ha a0 hl hla => tlog_any _ _ a l W (htb.below hW) ha a0 (by obtain ⟨h1, h2⟩ := ht.lg a ha a0; exact h.pow_inj h1 hl (h2.trans hla.symm))⟩
set_option maxRecDepth 20000 in
set_option maxHeartbeats 4000000 in
theorem flog_any {D : FFld.FD} {b : Nat} (x : Int) (w : World) (hf : FldB D w b) (hx0 : -9223372036854775808 ≤ x) (hx1 : x ≤ 9223372036854775807) (r l : Nat) (hr : x % D.q = r) (hrq : r < D.p ^ D.k) (r0 : r ≠ 0) (hl : l < D.p ^ D.k - 1) (hla : FFld.ppow hf.ok.pre.pk D.g l = r) :
    Calls Try.prog 29 #[.pointer (some ⟨b, 0, none⟩), .int .i64 x] w (RB w (.tuple #[.int .i64 l, .int .i64 0])) := by
  have hA := Kept.mk (reduced_any x w hf hx0 hx1)
  rw [hr] at hA
  obtain ⟨h, ar, ms, ml, hb, hv, _, _⟩ := hf
  obtain ⟨T, y, fl, rfl, hm, hc, hcall⟩ := hv.log
  obtain ⟨c0, _⟩ := six_cells hb
  have HL := Kept.mk (hcall w (Below.refl _ _) r l hrq r0 hl hla)
  have e0 : ((r : Int) == 0) = false := by rw [beq_eq_false_iff_ne]; omega
  clear hv hb hrq r0 hl hla hr hcall
  go_enter Try.func29, Try.ntmps29
  go_wp2_with fail
  refine hA.out.mono ?_
  rintro e w2 ⟨rfl, rfl⟩
  go_wp2_with fail
  refine HL.out.mono ?_
  rintro e w3 ⟨hb3, rfl⟩
  have HB3 := Kept.mk hb3
  clear hb3
  go_wp2
  go_ret2
  exact ⟨HB3.out, rfl⟩
set_option maxRecDepth 20000 in
set_option maxHeartbeats 2000000 in
theorem flog_zero {D : FFld.FD} {b : Nat} (x : Int) (w : World) (hf : FldB D w b) (hx0 : -9223372036854775808 ≤ x) (hx1 : x ≤ 9223372036854775807) (hr : x % D.q = 0) :
    Calls Try.prog 29 #[.pointer (some ⟨b, 0, none⟩), .int .i64 x] w (RB w (.tuple #[.int .i64 0, .int .i64 6])) := by
  have hA := Kept.mk (reduced_any x w hf hx0 hx1)
  rw [hr] at hA
  go_enter Try.func29, Try.ntmps29
  go_wp2_with fail
  refine hA.out.mono ?_
  rintro e w2 ⟨rfl, rfl⟩
  go_wp2
  go_ret2
  exact ⟨Below.refl _ _, rfl⟩
end Go.Proofs.Ytfhhnfpapgfnmaa
