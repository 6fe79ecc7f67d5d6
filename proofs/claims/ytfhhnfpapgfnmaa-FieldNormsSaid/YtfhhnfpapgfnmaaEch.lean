import Derived.Test.YtfhhnfpapgfnmaaMro
import Derived.Test.YtfhhnfpapgfnmaaZ25
set_option linter.unusedVariables false
set_option linter.unusedSimpArgs false
namespace Go.Proofs.Ytfhhnfpapgfnmaa
open Go Go.RowKit Go.Deep
open FFld (ints)
set_option maxRecDepth 20000 in
set_option maxHeartbeats 2000000 in
theorem clip_rows (g n cap : Nat) (w : World) (h : n ≤ cap) (hm : cap ≤ maxLen) :
    Calls Try.prog 107 #[.slice (some ⟨g, 0, none⟩) n cap] w (fun e w' => w = w' ∧ e = .returned (.slice (some ⟨g, 0, none⟩) n n)) := by
  unfold maxLen at hm
  have h1 : (n : Int) ≤ (cap : Int) := by omega
  have h2 : (0 : Int) ≤ (n : Int) := by omega
  go_enter Try.func107, Try.ntmps107
  go_wp2
  go_ret
  exact ⟨rfl, rfl⟩
/-- Rows of a matrix in memory. -/
theorem Mx.sls {w : World} {G : Nat} {L : List RH} (h : Mx w G L) (k : Nat) : Sls w (some ⟨G, 0, none⟩) (((L.map RH.xs).take k).map ints) := fun i hi => by
  have hi' : i < L.length := by simp at hi; omega
  have hik : i < k := by simp at hi; omega
  refine ⟨G, 0, (rowH L i).val, rfl, h.lt, by rw [Nat.zero_add]; exact h.cell hi', ?_⟩
  have := (h.ok _ (rowH_mem hi')).sl
  have e3 : (((L.map RH.xs).take k).map ints)[i]?.getD [] = ints (rowH L i).xs := by
    unfold rowH
    rw [List.getElem?_map, List.getElem?_take, if_pos hik, List.getElem?_map, List.getElem?_eq_getElem hi']
    rfl
  rw [e3]
  exact this
/-- What Echelon returns. -/
def EcRet (s : FFld.ESt) (w : World) (e : Ending) (w' : World) : Prop := Below w.heap.size w w' ∧ ∃ G, e = .returned (.tuple #[.slice (some ⟨G, 0, none⟩) s.cols.length s.cols.length, .int .i64 0]) ∧ Sls w' (some ⟨G, 0, none⟩) ((s.A.take s.cols.length).map ints)
set_option maxRecDepth 20000 in
set_option maxHeartbeats 4000000 in
theorem echelon_any {D : FFld.FD} {b : Nat} (hD : D.Ok) (rows : List (List Nat)) (ao : Option Addr) (cap wd n : Nat) (w : World) (hf : FldB D w b) (h : Sls w ao (rows.map ints)) (hcap : n ≤ cap) (hmax : cap ≤ maxLen) (hN : rows.length = n) (hn : n ≤ 64) (hw : FFld.Wfm D wd rows) (hwd : wd ≤ 64) (h0 : n = 0 → wd = 0) :
    Calls Try.prog 38 #[.pointer (some ⟨b, 0, none⟩), .slice ao n cap] w (EcRet (FFld.elimF D hD.pre.pk ⟨rows, List.replicate n [], []⟩ wd) w) := by
  have hk := hD.pre.pk
  have HCK := Kept.mk (checkMatrix_any (rows.map ints) ao cap w hf h (by rw [List.length_map]; omega) hmax)
  rw [mErr_ok hw hN hn hwd, List.length_map, hN] at HCK
  have HCP := Kept.mk (fun W (hW : Below w.heap.size w W) => copied_any rows ao cap W (h.below hW) (by omega) (fun r hr => by rw [(hw r hr).1]; omega))
  rw [hN] at HCP
  have HUR := Kept.mk (fun W => unrecorded_any b n W (by omega))
  have hes : FFld.EOk D wd 0 n ⟨rows, List.replicate n [], []⟩ := ⟨hN, by simp, hw, fun r hr => by rw [List.eq_of_mem_replicate hr]; exact ⟨rfl, by simp⟩, Nat.zero_le _⟩
  have HEL := Kept.mk (fun hi G1 G2 L1 L2 W (hbW : Below w.heap.size w W) (hhi : hi ≤ W.heap.size) (hp : Pr w.heap.size hi W G1 G2 L1 L2) (e1 : L1.map RH.xs = rows) (e2 : L2.map RH.xs = List.replicate n []) => eliminate_any hD hi b G1 G2 n wd 0 L1 L2 ⟨rows, List.replicate n [], []⟩ w W hf hbW hhi hp hes e1 e2 rfl (by omega) (by omega) (by omega) (wid_eq hes h0))
  have hef := hes.elim hk wd
  obtain ⟨s, hs⟩ : ∃ s, FFld.elimF D hk ⟨rows, List.replicate n [], []⟩ wd = s := ⟨_, rfl⟩
  rw [hs] at hef
  have hsx : FFld.elimF D hD.pre.pk ⟨rows, List.replicate n [], []⟩ wd = s := hs
  rw [hsx] at HEL ⊢
  obtain ⟨k, hkk⟩ : ∃ k, s.cols.length = k := ⟨_, rfl⟩
  have hkn : k ≤ n := by rw [← hkk]; exact hef.cl
  have HKK := Kept.mk hkk
  have HN := Kept.mk hN
  unfold EcRet
  rw [hkk]
  unfold maxLen at hmax
  clear hs hsx hes hef hf h hN hw hkk
  go_enter Try.func38, Try.ntmps38
  go_wp2_with fail
  refine HCK.out.mono ?_
  rintro e w0 ⟨rfl, rfl⟩
  have ez : (((0 : Nat) : Int) == 0) = true := rfl
  go_wp2_with fail
  refine (HCP.out _ (Below.refl _ _)).mono ?_
  rintro e w1 ⟨hb1, G1, L1, rfl, ho1⟩
  have HO1 := Kept.mk ho1
  have hs1 := ho1.mx.lt
  have hlo1 := ho1.lo
  have HB1 := Kept.mk hb1
  rw [HN.out]
  clear hb1 ho1 HCP HCK
  go_wp2_with fail
  refine (HUR.out _).mono ?_
  rintro e w2 ⟨hb2, G2, rfl, ho2⟩
  have hs2 := ho2.mx.lt
  have hlo2 := ho2.lo
  have hz2 := hb2.size
  have HB2 := Kept.mk (bstep HB1.out hb2)
  have hp2 : Pr w.heap.size w2.heap.size w2 G1 G2 L1 (List.replicate n RH.nil) :=
    { b1 := hlo1, b2 := by omega, b3 := hs2, r1 := fun r hr g e => ⟨HO1.out.low r hr g e, by have := (HO1.out.mx.ok r hr).lt e; omega⟩,
      r2 := fun r hr g e => (by rw [List.eq_of_mem_replicate hr] at e; cases e), d1 := HO1.out.dis, d2 := dis_rep n, m1 := HO1.out.mx.below hb2, m2 := ho2.mx }
  have hbx : Below w2.heap.size w2 (w2.alloc (prbox b G1 G2 n)) := (Below.refl _ _).alloc (Nat.le_refl _) _
  have hw1 := bstep HB2.out hbx
  have hEl := Kept.mk (HEL.out w2.heap.size G1 G2 L1 (List.replicate n RH.nil) _ hw1 (by simp) (hp2.below hbx) HO1.out.val (by simp [RH.nil]))
  have HBW := Kept.mk hw1
  obtain ⟨b0, b1, b2, b3⟩ := four_cells_ (heap_alloc_new w2 (prbox b G1 G2 n))
  have hns : w2.heap.size < (w2.alloc (prbox b G1 G2 n)).heap.size := by simp
  clear hb2 ho2 hp2 HEL HUR hbx hw1 HO1 HB1
  go_wp2_with fail
  obtain ⟨W1, hW1⟩ : ∃ W, w2.alloc (prbox b G1 G2 n) = W := ⟨_, rfl⟩
  rw [hW1] at hEl HBW b0 b1 b2 b3 hns
  try rw [hW1]
  clear hW1
  refine hEl.out.mono ?_
  rintro e w3 ⟨vc, rfl, hes⟩
  have hcg := hes.chg
  have HB3 := Kept.mk (hcg.below HBW.out)
  have c0 := hcg.cell b0 (.inr (by omega))
  have c1 := hcg.cell b1 (.inr (by omega))
  have hcm := hes.colsM
  obtain ⟨ac, cc, rfl, hcc, hcx⟩ := hcm.sl.form
  have HSL : Kept (Sls w3 (some ⟨G1, 0, none⟩) ((s.A.take k).map ints)) := ⟨by
    obtain ⟨L1', L2', hx⟩ := hes
    have := hx.pr.m1.sls k
    rw [hx.a] at this
    exact this⟩
  rw [FFld.ints_len, HKK.out] at hcc ⊢
  have hkc1 : (k : Int) ≤ (n : Int) := by omega
  have hkc2 : (0 : Int) ≤ (k : Int) := by omega
  have HCL := Kept.mk (clip_rows G1 k n w3 hkn (by unfold maxLen; omega))
  clear hes hcg hcm hEl b0 b1 b2 b3 HBW HB2
  go_wp2_with fail
  refine HCL.out.mono ?_
  rintro e w4 ⟨rfl, rfl⟩
  go_wp2
  go_ret2
  exact ⟨HB3.out, G1, rfl, HSL.out⟩
set_option maxRecDepth 20000 in
set_option maxHeartbeats 2000000 in
theorem echelon_no {D : FFld.FD} {b : Nat} (rows : List (List Int)) (ao : Option Addr) (cap : Nat) (w : World) (hf : FldB D w b) (h : Sls w ao rows) (hcap : rows.length ≤ cap) (hmax : cap ≤ maxLen) (c : Nat) (hc : mErr D rows = c) (c0 : c ≠ 0) :
    Calls Try.prog 38 #[.pointer (some ⟨b, 0, none⟩), .slice ao rows.length cap] w (fun e w' => w = w' ∧ e = .returned (.tuple #[.slice none 0 0, .int .i64 (c : Nat)])) := by
  have HC := Kept.mk (checkMatrix_any rows ao cap w hf h hcap hmax)
  rw [hc] at HC
  have e0 : ((c : Int) == 0) = false := by rw [beq_eq_false_iff_ne]; omega
  clear hf h hc
  go_enter Try.func38, Try.ntmps38
  go_wp2_with fail
  refine HC.out.mono ?_
  rintro e w2 ⟨rfl, rfl⟩
  go_wp2
  go_ret2
  exact ⟨rfl, rfl⟩
/-- What Solve returns. -/
def SlRet (D : FFld.FD) (s : FFld.ESt) (bl : List Nat) (wd n : Nat) (w : World) (e : Ending) (w' : World) : Prop := Below w.heap.size w w' ∧
  ((∃ i, s.cols.length ≤ i ∧ i < n ∧ sopV D s bl i ≠ 0 ∧ e = .returned (.tuple #[.slice none 0 0, .int .i64 4])) ∨
   ((∀ j, s.cols.length ≤ j → j < n → sopV D s bl j = 0) ∧ ∃ vx, e = .returned (.tuple #[vx, .int .i64 0]) ∧ Sl .i64 w' vx (ints (solF D s bl wd s.cols.length))))
set_option maxRecDepth 20000 in
set_option maxHeartbeats 2000000 in
theorem fsolve_any {D : FFld.FD} {b : Nat} (hD : D.Ok) (rows : List (List Nat)) (ao : Option Addr) (cap : Nat) (vb : Value) (bl : List Nat) (wd n : Nat) (w : World) (hf : FldB D w b) (h : Sls w ao (rows.map ints)) (hcap : n ≤ cap) (hmax : cap ≤ maxLen) (hb : Sl .i64 w vb (ints bl)) (hN : rows.length = n) (hn : n ≤ 64) (hw : FFld.Wfm D wd rows) (hwd : wd ≤ 64) (h0 : n = 0 → wd = 0) (hbl : bl.length = n) (hbq : ∀ a ∈ bl, a < D.p ^ D.k) :
    Calls Try.prog 39 #[.pointer (some ⟨b, 0, none⟩), .slice ao n cap, vb] w (SlRet D (FFld.elimF D hD.pre.pk ⟨rows, idM n, []⟩ wd) bl wd n w) := by
  have HC := Kept.mk (checkEquations_any (rows.map ints) ao cap vb (ints bl) w hf h (by rw [List.length_map]; omega) hmax hb)
  rw [qErr_ok hw hN hn hwd hbl hbq, List.length_map, hN] at HC
  have HS := Kept.mk (solve_any hD rows ao cap vb bl wd n w hf h hb hN hn hw hwd h0 hbl hbq)
  have hnil := fun (wx : World) (a : Option Addr) (m c : Nat) => Lib.run_eql_slice_nil (P := Try.prog) wx 34 3 a m c 0 0 Try.underlying34
  generalize FFld.elimF D hD.pre.pk ⟨rows, idM n, []⟩ wd = s at *
  clear hf h hb hN hw hbq hbl
  unfold maxLen at hmax
  go_enter Try.func39, Try.ntmps39
  go_wp2_with fail
  refine HC.out.mono ?_
  rintro e w2 ⟨rfl, rfl⟩
  go_wp2_with fail
  refine HS.out.mono ?_
  rintro e w2 ⟨hb2, vx, vd, rfl, hcase⟩
  have HB2 := Kept.mk hb2
  clear hb2 HC HS
  rcases hcase with ⟨i, h1, h2, hz, hv, rfl, ⟨g, c, rfl⟩, hsl⟩ | ⟨hz, rfl, ⟨g, c, rfl⟩, hsl⟩
  · have HV := Kept.mk hv
    have hn1 := hnil w2 (some ⟨g, 0, none⟩) n c
    simp only [Option.isNone_some] at hn1
    clear hsl hv hz hnil
    go_wp2
    go_ret2
    exact ⟨HB2.out, .inl ⟨i, h1, h2, HV.out, rfl⟩⟩
  · have HZ := Kept.mk hz
    have HSL := Kept.mk hsl
    have hn1 := hnil w2 none 0 0
    simp only [Option.isNone_none] at hn1
    clear hsl hz hnil
    go_wp2
    go_ret2
    exact ⟨HB2.out, .inr ⟨HZ.out, _, rfl, HSL.out⟩⟩
set_option maxRecDepth 20000 in
set_option maxHeartbeats 2000000 in
theorem fsolve_no {D : FFld.FD} {b : Nat} (rows : List (List Int)) (ao : Option Addr) (cap : Nat) (vb : Value) (bl : List Int) (w : World) (hf : FldB D w b) (h : Sls w ao rows) (hcap : rows.length ≤ cap) (hmax : cap ≤ maxLen) (hb : Sl .i64 w vb bl) (c : Nat) (hc : qErr D rows bl = c) (c0 : c ≠ 0) :
    Calls Try.prog 39 #[.pointer (some ⟨b, 0, none⟩), .slice ao rows.length cap, vb] w (fun e w' => w = w' ∧ e = .returned (.tuple #[.slice none 0 0, .int .i64 (c : Nat)])) := by
  have HC := Kept.mk (checkEquations_any rows ao cap vb bl w hf h hcap hmax hb)
  rw [hc] at HC
  have e0 : ((c : Int) == 0) = false := by rw [beq_eq_false_iff_ne]; omega
  clear hf h hb hc
  go_enter Try.func39, Try.ntmps39
  go_wp2_with fail
  refine HC.out.mono ?_
  rintro e w2 ⟨rfl, rfl⟩
  go_wp2
  go_ret2
  exact ⟨rfl, rfl⟩
end Go.Proofs.Ytfhhnfpapgfnmaa
