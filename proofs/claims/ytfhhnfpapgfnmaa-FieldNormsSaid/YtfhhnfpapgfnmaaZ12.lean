/-
  Texts of the proof, merged by program: Ta Fu.
-/
import Derived.Test.YtfhhnfpapgfnmaaZ11
set_option linter.unusedVariables false
set_option linter.unusedSimpArgs false
namespace Go.Proofs.Ytfhhnfpapgfnmaa
open Go Go.RowKit
open FFld (ints)
/-- The cells of a slice of small numbers, in every later world. -/
def Cu (B : Nat) (ao : Option Addr) (l : List Nat) (w : World) : Prop := ∀ w', Below B w w' → ∀ i, i < l.length → ∃ b o, ao = some ⟨b, o, none⟩ ∧ w'.cell? ⟨b, o + i, none⟩ = some (.int .u16 ((l[i]?.getD 0 : Nat) : Int))
theorem Sl.cu {w : World} {ao : Option Addr} {k cap B : Nat} {l : List Nat} (h : Sl .u16 w (.slice ao k cap) (ints l)) (hB : w.heap.size ≤ B) : Cu B ao l w := by
  obtain ⟨ao', cap', e, hc, hm, hx⟩ := h
  simp only [Value.slice.injEq] at e
  obtain ⟨rfl, e2, rfl⟩ := e
  intro w' hb i hi
  obtain ⟨b, o, e, hl, hcell⟩ := hx i (by rw [FFld.ints_len]; exact hi)
  rw [FFld.ints_get] at hcell
  exact ⟨b, o, e, (hb.cell (p := ⟨b, o + i, none⟩) (Nat.lt_of_lt_of_le hl hB)).trans hcell⟩
/-- The tables' value. -/
abbrev tbv (p : Nat) (pa : Option Addr) (q1 pc : Nat) (la : Option Addr) (q lc : Nat) : Value := .agg #[.int .i64 p, .slice pa q1 pc, .slice la q lc]
abbrev tbbox (p : Nat) (pa : Option Addr) (q1 pc : Nat) (la : Option Addr) (q lc : Nat) : Obj := .cells #[.int .i64 p, .slice pa q1 pc, .slice la q lc] 124
/-- Tables of a field in memory. -/
structure TbW (D : FFld.FD) (h : D.Ok) (B : Nat) (pa : Option Addr) (q1 : Nat) (la : Option Addr) (q : Nat) (P L : List Nat) (w : World) : Prop where
  cp : Cu B pa P w
  cl : Cu B la L w
  ok : FFld.TabOk D h P L
  q1 : D.p ^ D.k - 1 = q1
  q : D.p ^ D.k = q
set_option maxRecDepth 20000 in
set_option maxHeartbeats 2000000 in
theorem generated_any {D : FFld.FD} {h : D.Ok} {pa la : Option Addr} {q1 q : Nat} {P L : List Nat} (pc lc n : Nat) (w : World) (ht : TbW D h w.heap.size pa q1 la q P L w) (hn : n ≤ 1099511627776) :
    Calls Try.prog 164 #[tbv D.p pa q1 pc la q lc, .int .i64 n] w (RB w (.int .i64 (FFld.ppow h.pre.pk D.g n : Nat))) := by
  have h1 := h.pre.pk.one_lt
  have hq1 := ht.q1
  have hq6 : q1 ≤ 65535 := by have := h.pre.small; unfold FFld.FD.q at this; omega
  have hq0 : 0 < q1 := by omega
  obtain ⟨r, hr⟩ : ∃ r, n % q1 = r := ⟨_, rfl⟩
  have hrl : r < q1 := by rw [← hr]; exact Nat.mod_lt _ hq0
  have hpl : P.length = q1 := by rw [ht.ok.pl, hq1]
  obtain ⟨v, hv⟩ : ∃ v, P[r]?.getD 0 = v := ⟨_, rfl⟩
  have hres : FFld.ppow h.pre.pk D.g n = v := by rw [← hv, ht.ok.pw r (by omega), ← hr, ← hq1, h.pow_mod]
  have hv6 : v ≤ 65535 := by
    have := FFld.ppow_lt h.pre.pk D.g n
    have h3 := h.pre.small
    unfold FFld.FD.q at h3
    omega
  rw [hres]
  have HX0 : Kept (Bxs w [tbbox D.p pa q1 pc la q lc] (w.alloc (tbbox D.p pa q1 pc la q lc))) := ⟨(Bxs.start w).alloc (by simp) _⟩
  obtain ⟨c0, c1, c2, _⟩ := three_cells HX0.out.b0
  obtain ⟨b, o, rfl, hcell⟩ := ht.cp _ HX0.out.1 r (by omega)
  rw [hv] at hcell
  have er : (n : Int) % q1 = r := by rw [← hr]; rfl
  clear hr hpl hv hres h1 hq1 ht h
  go_enter Try.func164, Try.ntmps164
  go_wp2
  go_quiet (fail)
  go_wp2
  go_ret
  refine ⟨below_drewN HX0.out.1 _, ?_⟩
  simp
theorem TbW.below {D : FFld.FD} {h : D.Ok} {pa la : Option Addr} {q1 q : Nat} {P L : List Nat} {w w' : World} (ht : TbW D h w.heap.size pa q1 la q P L w) (hb : Below w.heap.size w w') : TbW D h w'.heap.size pa q1 la q P L w' :=
  ⟨fun W hW i hi => ht.cp W (hb.trans (hW.mono hb.size)) i hi, fun W hW i hi => ht.cl W (hb.trans (hW.mono hb.size)) i hi, ht.ok, ht.q1, ht.q⟩
set_option maxRecDepth 20000 in
set_option maxHeartbeats 2000000 in
theorem tlog_any {D : FFld.FD} {h : D.Ok} {pa la : Option Addr} {q1 q : Nat} {P L : List Nat} (pc lc a n : Nat) (w : World) (ht : TbW D h w.heap.size pa q1 la q P L w) (ha : a < D.p ^ D.k) (a0 : a ≠ 0) (hn : L[a]?.getD 0 = n) :
    Calls Try.prog 165 #[tbv D.p pa q1 pc la q lc, .int .i64 a] w (RB w (.int .i64 n)) := by
  have h1 := h.pre.pk.one_lt
  have hq1 := ht.q1
  have hqq := ht.q
  have hq6 : q ≤ 65536 := by have := h.pre.small; unfold FFld.FD.q at this; omega
  have hq2 : 2 ≤ q := by omega
  have hll : L.length = q := by rw [ht.ok.ll, hqq]
  have HX0 : Kept (Bxs w [tbbox D.p pa q1 pc la q lc] (w.alloc (tbbox D.p pa q1 pc la q lc))) := ⟨(Bxs.start w).alloc (by simp) _⟩
  obtain ⟨c0, c1, c2, _⟩ := three_cells HX0.out.b0
  have al : a < L.length := by omega
  have haq : a < q := by omega
  have hl6 : n ≤ 65535 := by have := (ht.ok.lg a (by omega) a0).1; omega
  have ewa : IntKind.i64.wrap (n : Int) = n := wi (by omega) (by omega)
  obtain ⟨b, o, rfl, hcell⟩ := ht.cl _ HX0.out.1 a al
  rw [hn] at hcell
  clear hn a0 ht h1 hq1 hqq hll al
  go_enter Try.func165, Try.ntmps165
  go_wp2
  go_ret
  exact ⟨HX0.out.1, rfl⟩
set_option maxRecDepth 20000 in
set_option maxHeartbeats 2000000 in
theorem tproduct_any {D : FFld.FD} {h : D.Ok} {pa la : Option Addr} {q1 q : Nat} {P L : List Nat} (pc lc a b_ : Nat) (w : World) (ht : TbW D h w.heap.size pa q1 la q P L w) (ha : a < D.p ^ D.k) (hb : b_ < D.p ^ D.k) :
    Calls Try.prog 167 #[tbv D.p pa q1 pc la q lc, .int .i64 a, .int .i64 b_] w (RB w (.int .i64 (FFld.pmul D.p D.k D.m a D.k b_ : Nat))) := by
  have h1 := h.pre.pk.one_lt
  have hq1 := ht.q1
  have hqq := ht.q
  have hq6 : q ≤ 65536 := by have := h.pre.small; unfold FFld.FD.q at this; omega
  have hq2 : 2 ≤ q := by omega
  have hll : L.length = q := by rw [ht.ok.ll, hqq]
  have HX0 : Kept (Bxs w [tbbox D.p pa q1 pc la q lc] (w.alloc (tbbox D.p pa q1 pc la q lc))) := ⟨(Bxs.start w).alloc (by simp) _⟩
  obtain ⟨c0, c1, c2, _⟩ := three_cells HX0.out.b0
  by_cases a0 : a = 0
  · subst a0
    have hz := Kept.mk (show FFld.pmul D.p D.k D.m 0 D.k b_ = 0 from by rw [FFld.pmul_comm h.pre.pk 0 b_ ha hb, FFld.pmul_zero_right h.pre.pk])
    have e0 : (((0 : Nat) : Int) == 0) = true := rfl
    clear ht ha hb hll h1 hq1 hqq
    go_enter Try.func167, Try.ntmps167
    go_wp2
    go_ret
    exact ⟨HX0.out.1, by rw [hz.out]; rfl⟩
  by_cases b0 : b_ = 0
  · subst b0
    have hz := Kept.mk (FFld.pmul_zero_right h.pre.pk (m := D.m) a D.k)
    have e0 : (((0 : Nat) : Int) == 0) = true := rfl
    have e1 : ((a : Int) == 0) = false := by rw [beq_eq_false_iff_ne]; omega
    clear ht ha hb hll h1 hq1 hqq a0
    go_enter Try.func167, Try.ntmps167
    go_wp2
    go_ret
    exact ⟨HX0.out.1, by rw [hz.out]; rfl⟩
  have e1 : ((a : Int) == 0) = false := by rw [beq_eq_false_iff_ne]; omega
  have e2 : ((b_ : Int) == 0) = false := by rw [beq_eq_false_iff_ne]; omega
  obtain ⟨x, hx⟩ : ∃ l, L[a]?.getD 0 = l := ⟨_, rfl⟩
  obtain ⟨y, hy⟩ : ∃ l, L[b_]?.getD 0 = l := ⟨_, rfl⟩
  have hx6 : x ≤ 65535 := by have := (ht.ok.lg a ha a0).1; omega
  have hy6 : y ≤ 65535 := by have := (ht.ok.lg b_ hb b0).1; omega
  obtain ⟨n, hn⟩ : ∃ n, x + y = n := ⟨_, rfl⟩
  have ewx : IntKind.i64.wrap (x : Int) = x := wi (by omega) (by omega)
  have ewy : IntKind.i64.wrap (y : Int) = y := wi (by omega) (by omega)
  have exy : IntKind.i64.wrap ((x : Int) + y) = n := by rw [← hn]; simp; exact wi (by omega) (by omega)
  have hres : FFld.pmul D.p D.k D.m a D.k b_ = FFld.ppow h.pre.pk D.g n := by rw [← ht.ok.product a b_ ha hb a0 b0, hx, hy, hn]
  rw [hres]
  have hG := Kept.mk (fun W (hW : Below w.heap.size w W) => generated_any pc lc n W (ht.below hW) (by omega))
  obtain ⟨b, o, rfl, hcella⟩ := ht.cl _ HX0.out.1 a (by omega)
  obtain ⟨b', o', e', hcellb⟩ := ht.cl _ HX0.out.1 b_ (by omega)
  simp only [Option.some.injEq, Addr.mk.injEq, and_true] at e'
  obtain ⟨rfl, rfl⟩ := e'
  rw [hx] at hcella
  rw [hy] at hcellb
  have HCA := Kept.mk (fun W (hW : Below w.heap.size w W) => show W.cell? ⟨b, o + a, none⟩ = some (.int .u16 x) from by
    obtain ⟨b', o', e', hc⟩ := ht.cl W hW a (by omega)
    simp only [Option.some.injEq, Addr.mk.injEq, and_true] at e'
    obtain ⟨rfl, rfl⟩ := e'
    rw [hx] at hc
    exact hc)
  have HCB := Kept.mk (fun W (hW : Below w.heap.size w W) => show W.cell? ⟨b, o + b_, none⟩ = some (.int .u16 y) from by
    obtain ⟨b', o', e', hc⟩ := ht.cl W hW b_ (by omega)
    simp only [Option.some.injEq, Addr.mk.injEq, and_true] at e'
    obtain ⟨rfl, rfl⟩ := e'
    rw [hy] at hc
    exact hc)
  have haq : a < q := by omega
  have hbq : b_ < q := by omega
  clear hx hy hn hres ht ha hb hll h1 hq1 hqq a0 b0
  go_enter Try.func167, Try.ntmps167
  go_wp2
  go_region_held3 (fun w' => w'.cell? ⟨w.heap.size, 0, none⟩ = some (.int .i64 D.p) ∧ w'.cell? ⟨w.heap.size, 1, none⟩ = some (.slice pa q1 pc) ∧ w'.cell? ⟨w.heap.size, 2, none⟩ = some (.slice (some ⟨b, o, none⟩) q lc) ∧ w'.cell? ⟨b, o + a, none⟩ = some (.int .u16 x) ∧ w'.cell? ⟨b, o + b_, none⟩ = some (.int .u16 y))
    (first | exact ⟨c0, c1, c2, hcella, hcellb⟩ | exact ⟨k0, k1, k2, g0, g1⟩ | go_keep)
    ((first
      | (go_at_call 164; (with_reducible refine (hG.out _ ?_).mono ?_); (exact (by first | exact HX0.out.1 | exact HX0.out.1.drew)); rintro e w2 ⟨hb2, rfl⟩; have hx2 : Bxs w [tbbox D.p pa q1 pc (some ⟨b, o, none⟩) q lc] w2 := Bxs.below (by repeat (first | (with_reducible exact HX0.out) | (with_reducible refine Bxs.drew ?_))) hb2; obtain ⟨k0, k1, k2, _⟩ := three_cells hx2.b0; have g0 := HCA.out _ hx2.1; have g1 := HCB.out _ hx2.1; clear hb2)))
  go_wp2
  go_ret
  exact ⟨hx2.1, rfl⟩
set_option maxRecDepth 20000 in
set_option maxHeartbeats 2000000 in
theorem tpower_any {D : FFld.FD} {h : D.Ok} {pa la : Option Addr} {q1 q : Nat} {P L : List Nat} (pc lc a e_ : Nat) (w : World) (ht : TbW D h w.heap.size pa q1 la q P L w) (ha : a < D.p ^ D.k) (hne : a ≠ 0 ∨ 0 < e_) (hel : e_ ≤ 70000) :
    Calls Try.prog 166 #[tbv D.p pa q1 pc la q lc, .int .i64 a, .int .i64 e_] w (RB w (.int .i64 (FFld.ppow h.pre.pk a e_ : Nat))) := by
  have h1 := h.pre.pk.one_lt
  have hq1 := ht.q1
  have hqq := ht.q
  have hq6 : q ≤ 65536 := by have := h.pre.small; unfold FFld.FD.q at this; omega
  have hq2 : 2 ≤ q := by omega
  have hll : L.length = q := by rw [ht.ok.ll, hqq]
  have HX0 : Kept (Bxs w [tbbox D.p pa q1 pc la q lc] (w.alloc (tbbox D.p pa q1 pc la q lc))) := ⟨(Bxs.start w).alloc (by simp) _⟩
  obtain ⟨c0, c1, c2, _⟩ := three_cells HX0.out.b0
  by_cases a0 : a = 0
  · subst a0
    have hz : Kept (FFld.ppow h.pre.pk 0 e_ = 0) := ⟨by
      obtain ⟨n, rfl⟩ : ∃ n, e_ = n + 1 := ⟨e_ - 1, by omega⟩
      rw [FFld.ppow_succ h.pre.pk 0 n ha, FFld.pmul_zero_right h.pre.pk]⟩
    have e0 : (((0 : Nat) : Int) == 0) = true := rfl
    clear ht ha hll h1 hq1 hqq
    go_enter Try.func166, Try.ntmps166
    go_wp2
    go_ret
    exact ⟨HX0.out.1, by rw [hz.out]; rfl⟩
  have e1 : ((a : Int) == 0) = false := by rw [beq_eq_false_iff_ne]; omega
  obtain ⟨x, hx⟩ : ∃ l, L[a]?.getD 0 = l := ⟨_, rfl⟩
  have hx6 : x ≤ 65535 := by have := (ht.ok.lg a ha a0).1; omega
  obtain ⟨n, hn⟩ : ∃ n, x * e_ = n := ⟨_, rfl⟩
  have hnl : n ≤ 4587520000 := by rw [← hn]; exact nmul_le (A := 65536) (B := 70000) (by omega) hel
  have ewx : IntKind.i64.wrap (x : Int) = x := wi (by omega) (by omega)
  have exy : IntKind.i64.wrap ((x : Int) * e_) = n := wimul hn (by omega)
  have hres : FFld.ppow h.pre.pk a e_ = FFld.ppow h.pre.pk D.g n := by rw [← ht.ok.power a e_ ha a0, hx, hn]
  rw [hres]
  have hG := Kept.mk (fun W (hW : Below w.heap.size w W) => generated_any pc lc n W (ht.below hW) (by omega))
  obtain ⟨b, o, rfl, hcella⟩ := ht.cl _ HX0.out.1 a (by omega)
  rw [hx] at hcella
  have HCA := Kept.mk (fun W (hW : Below w.heap.size w W) => show W.cell? ⟨b, o + a, none⟩ = some (.int .u16 x) from by
    obtain ⟨b', o', e', hc⟩ := ht.cl W hW a (by omega)
    simp only [Option.some.injEq, Addr.mk.injEq, and_true] at e'
    obtain ⟨rfl, rfl⟩ := e'
    rw [hx] at hc
    exact hc)
  have haq : a < q := by omega
  clear hx hn hres ht ha hll h1 hq1 hqq a0 hne
  go_enter Try.func166, Try.ntmps166
  go_wp2
  go_region_held3 (fun w' => w'.cell? ⟨w.heap.size, 0, none⟩ = some (.int .i64 D.p) ∧ w'.cell? ⟨w.heap.size, 1, none⟩ = some (.slice pa q1 pc) ∧ w'.cell? ⟨w.heap.size, 2, none⟩ = some (.slice (some ⟨b, o, none⟩) q lc) ∧ w'.cell? ⟨b, o + a, none⟩ = some (.int .u16 x))
    (first | exact ⟨c0, c1, c2, hcella⟩ | exact ⟨k0, k1, k2, g0⟩ | go_keep)
    ((first
      | (go_at_call 164; (with_reducible refine (hG.out _ ?_).mono ?_); (exact (by first | exact HX0.out.1 | exact HX0.out.1.drew)); rintro e w2 ⟨hb2, rfl⟩; have hx2 : Bxs w [tbbox D.p pa q1 pc (some ⟨b, o, none⟩) q lc] w2 := Bxs.below (by repeat (first | (with_reducible exact HX0.out) | (with_reducible refine Bxs.drew ?_))) hb2; obtain ⟨k0, k1, k2, _⟩ := three_cells hx2.b0; have g0 := HCA.out _ hx2.1; clear hb2)))
  go_wp2
  go_ret
  exact ⟨hx2.1, rfl⟩
set_option maxRecDepth 20000 in
set_option maxHeartbeats 4000000 in
theorem tsum_any {D : FFld.FD} {h : D.Ok} {pa la : Option Addr} {q1 q : Nat} {P L : List Nat} (pc lc a b_ : Nat) (w : World) (ht : TbW D h w.heap.size pa q1 la q P L w) (ha : a < D.p ^ D.k) (hb : b_ < D.p ^ D.k) :
    Calls Try.prog 168 #[tbv D.p pa q1 pc la q lc, .int .i64 a, .int .i64 b_] w (RB w (.int .i64 (FFld.padd D.p D.k a b_ : Nat))) := by
  have h1 := h.pre.pk.one_lt
  have hq1 := ht.q1
  have hqq := ht.q
  have hq6 : q ≤ 65536 := by have := h.pre.small; unfold FFld.FD.q at this; omega
  have hq2 : 2 ≤ q := by omega
  have hll : L.length = q := by rw [ht.ok.ll, hqq]
  have haq : a < q := by omega
  have hbq : b_ < q := by omega
  have hp2 := h.pre.prime.1
  have hpq : D.p ≤ q := by
    rw [← hqq]
    have := Nat.pow_le_pow_right (n := D.p) (by omega) h.pre.k1
    rw [Nat.pow_one] at this
    exact this
  obtain ⟨V, hV⟩ : ∃ V, FFld.padd D.p D.k a b_ = V := ⟨_, rfl⟩
  rw [hV]
  have hTP := Kept.mk (fun W (hW : Below w.heap.size w W) (y : Nat) (hy : y < D.p ^ D.k) => tproduct_any pc lc a y W (ht.below hW) ha hy)
  have hTG := Kept.mk (fun W (hW : Below w.heap.size w W) (n : Nat) (hn : n ≤ 1099511627776) => generated_any pc lc n W (ht.below hW) hn)
  have HX0 : Kept (Bxs w [tbbox D.p pa q1 pc la q lc] (w.alloc (tbbox D.p pa q1 pc la q lc))) := ⟨(Bxs.start w).alloc (by simp) _⟩
  obtain ⟨c0, c1, c2, _⟩ := three_cells HX0.out.b0
  by_cases hp : D.p = 2
  · have hx : V = a ^^^ b_ := by
      rw [← hV, hp]
      exact FFld.padd_xor (m := D.m) ⟨by omega, h.pre.k1⟩ a b_ (by rw [← hp]; exact ha) (by rw [← hp]; exact hb)
    have HXR := Kept.mk hx
    have e0 : ((D.p : Int) == 2) = true := by rw [hp]; rfl
    clear ha hb hx hV hTP hTG ht h1 hq1 hqq hll hp2
    go_enter Try.func168, Try.ntmps168
    go_wp2
    go_ret
    refine ⟨(Below.refl _ _).alloc (Nat.le_refl _) _, ?_⟩
    rw [HXR.out]
    simp
    exact xor_i64 a b_ (by omega) (by omega)
  have ep : ((D.p : Int) == 2) = false := by rw [beq_eq_false_iff_ne]; omega
  by_cases a0 : a = 0
  · subst a0
    have hz := Kept.mk (show V = b_ from by rw [← hV, FFld.padd_comm', FFld.padd_zero h.pre.pk _ hb])
    have e0 : (((0 : Nat) : Int) == 0) = true := rfl
    clear ha hb hV hTP hTG ht h1 hq1 hqq hll hp2 hp
    go_enter Try.func168, Try.ntmps168
    go_wp2
    go_ret
    exact ⟨HX0.out.1, by rw [hz.out]; rfl⟩
  have e1 : ((a : Int) == 0) = false := by rw [beq_eq_false_iff_ne]; omega
  by_cases b0 : b_ = 0
  · subst b0
    have hz := Kept.mk (show V = a from by rw [← hV, FFld.padd_zero h.pre.pk _ ha])
    have e0 : (((0 : Nat) : Int) == 0) = true := rfl
    clear ha hb hV hTP hTG ht h1 hq1 hqq hll hp2 a0 hp
    go_enter Try.func168, Try.ntmps168
    go_wp2
    go_ret
    exact ⟨HX0.out.1, by rw [hz.out]; rfl⟩
  have e2 : ((b_ : Int) == 0) = false := by rw [beq_eq_false_iff_ne]; omega
  obtain ⟨r, hr1, hr2, hr3, hr4⟩ := ht.ok.sum a b_ ha hb a0 b0
  have hx6 := (ht.ok.lg a ha a0).1
  have hy6 := (ht.ok.lg b_ hb b0).1
  obtain ⟨x, hx⟩ : ∃ l, L[a]?.getD 0 = l := ⟨_, rfl⟩
  obtain ⟨y, hy⟩ : ∃ l, L[b_]?.getD 0 = l := ⟨_, rfl⟩
  rw [hx] at hx6 hr1
  rw [hy, hq1] at hr1
  rw [hq1] at hx6 hy6
  rw [hy] at hy6
  obtain ⟨n, hn⟩ : ∃ n, y + q1 - x = n := ⟨_, rfl⟩
  rw [hn] at hr1
  have ewx : IntKind.i64.wrap (x : Int) = x := wi (by omega) (by omega)
  have ewy : IntKind.i64.wrap (y : Int) = y := wi (by omega) (by omega)
  have eyx : IntKind.i64.wrap ((y : Int) - x) = (y : Int) - x := by rw [IntKind.wrap_i64]; omega
  have eyq : IntKind.i64.wrap ((y : Int) - x + q1) = n := by rw [show (y : Int) - x + q1 = n from by omega]; exact wi (by omega) (by omega)
  have hG := Kept.mk (fun W (hW : Below w.heap.size w W) => hTG.out W hW n (by omega))
  rw [hr1] at hG
  have hrq : r < q := by omega
  obtain ⟨s, hs⟩ : ∃ s, r % D.p = s := ⟨_, rfl⟩
  have er : (r : Int) % D.p = s := by rw [← hs]; rfl
  have hpo := FFld.padd_one h.pre.pk r hr2
  rw [hs] at hpo
  rw [hV] at hr4
  obtain ⟨b, o, rfl, hcella⟩ := ht.cl _ HX0.out.1 a (by omega)
  obtain ⟨b', o', e', hcellb⟩ := ht.cl _ HX0.out.1 b_ (by omega)
  simp only [Option.some.injEq, Addr.mk.injEq, and_true] at e'
  obtain ⟨rfl, rfl⟩ := e'
  rw [hx] at hcella
  rw [hy] at hcellb
  have HCA := Kept.mk (fun W (hW : Below w.heap.size w W) => show W.cell? ⟨b, o + a, none⟩ = some (.int .u16 x) from by
    obtain ⟨b', o', e', hc⟩ := ht.cl W hW a (by omega)
    simp only [Option.some.injEq, Addr.mk.injEq, and_true] at e'
    obtain ⟨rfl, rfl⟩ := e'
    rw [hx] at hc
    exact hc)
  have HCB := Kept.mk (fun W (hW : Below w.heap.size w W) => show W.cell? ⟨b, o + b_, none⟩ = some (.int .u16 y) from by
    obtain ⟨b', o', e', hc⟩ := ht.cl W hW b_ (by omega)
    simp only [Option.some.injEq, Addr.mk.injEq, and_true] at e'
    obtain ⟨rfl, rfl⟩ := e'
    rw [hy] at hc
    exact hc)
  have hsp : s < D.p := by rw [← hs]; exact Nat.mod_lt _ (by omega)
  have hrs : s ≤ r := by rw [← hs]; exact Nat.mod_le _ _
  obtain ⟨u, hu⟩ : ∃ u, FFld.padd D.p D.k r 1 = u := ⟨_, rfl⟩
  have huq : u < D.p ^ D.k := by rw [← hu]; exact FFld.padd_lt h.pre.pk _ _
  rw [hu] at hr4 hpo
  have hP := Kept.mk (fun W (hW : Below w.heap.size w W) => hTP.out W hW u huq)
  have hul : u < q := by omega
  have ep1 : IntKind.i64.wrap ((D.p : Int) - 1) = (D.p : Int) - 1 := by rw [IntKind.wrap_i64]; omega
  have ews : IntKind.i64.wrap (s : Int) = s := wi (by omega) (by omega)
  rw [hr4] at hP
  by_cases hsl : s = D.p - 1
  · rw [if_pos hsl] at hpo
    have eu : (r : Int) - D.p + 1 = u := by omega
    have es : ((s : Int) == (D.p : Int) - 1) = true := by rw [beq_iff_eq]; omega
    clear hx hy hn ht ha hb hll h1 hq1 hqq a0 b0 hTP hTG hV hr1 hr2 hr3 hr4 hs hpo hu huq hp2 hp hsl
    go_enter Try.func168, Try.ntmps168
    go_wp2
    go_region_held3 (fun w' => w'.cell? ⟨w.heap.size, 0, none⟩ = some (.int .i64 D.p) ∧ w'.cell? ⟨w.heap.size, 1, none⟩ = some (.slice pa q1 pc) ∧ w'.cell? ⟨w.heap.size, 2, none⟩ = some (.slice (some ⟨b, o, none⟩) q lc) ∧ w'.cell? ⟨b, o + a, none⟩ = some (.int .u16 x) ∧ w'.cell? ⟨b, o + b_, none⟩ = some (.int .u16 y))
      (first | exact ⟨c0, c1, c2, hcella, hcellb⟩ | exact ⟨k0, k1, k2, g0, g1⟩ | go_keep)
      ((first
        | (go_at_call 164; (with_reducible refine (hG.out _ ?_).mono ?_); (exact (by first | exact HX0.out.1 | exact HX0.out.1.drew)); rintro e w2 ⟨hb2, rfl⟩; have hx2 : Bxs w [tbbox D.p pa q1 pc (some ⟨b, o, none⟩) q lc] w2 := Bxs.below (by repeat (first | (with_reducible exact HX0.out) | (with_reducible refine Bxs.drew ?_))) hb2; obtain ⟨k0, k1, k2, _⟩ := three_cells hx2.b0; have g0 := HCA.out _ hx2.1; have g1 := HCB.out _ hx2.1; clear hb2)))
    have HX2 := Kept.mk hx2
    go_wp2
    go_quiet (fail)
    go_wp2_with fail
    refine (hP.out _ (below_drewN HX2.out.1 _)).mono ?_
    rintro e w3 ⟨hb3, rfl⟩
    have HX3 : Kept (Bxs w [tbbox D.p pa q1 pc (some ⟨b, o, none⟩) q lc] w3) := ⟨(HX2.out.below (below_drewN (Below.refl _ _) _)).below hb3⟩
    clear hb3
    go_wp2
    go_ret
    exact ⟨HX3.out.1, rfl⟩
  · rw [if_neg hsl] at hpo
    have eu : (r : Int) + 1 = u := by omega
    have es : ((s : Int) == (D.p : Int) - 1) = false := by rw [beq_eq_false_iff_ne]; omega
    clear hx hy hn ht ha hb hll h1 hq1 hqq a0 b0 hTP hTG hV hr1 hr2 hr3 hr4 hs hpo hu huq hp2 hp hsl
    go_enter Try.func168, Try.ntmps168
    go_wp2
    go_region_held3 (fun w' => w'.cell? ⟨w.heap.size, 0, none⟩ = some (.int .i64 D.p) ∧ w'.cell? ⟨w.heap.size, 1, none⟩ = some (.slice pa q1 pc) ∧ w'.cell? ⟨w.heap.size, 2, none⟩ = some (.slice (some ⟨b, o, none⟩) q lc) ∧ w'.cell? ⟨b, o + a, none⟩ = some (.int .u16 x) ∧ w'.cell? ⟨b, o + b_, none⟩ = some (.int .u16 y))
      (first | exact ⟨c0, c1, c2, hcella, hcellb⟩ | exact ⟨k0, k1, k2, g0, g1⟩ | go_keep)
      ((first
        | (go_at_call 164; (with_reducible refine (hG.out _ ?_).mono ?_); (exact (by first | exact HX0.out.1 | exact HX0.out.1.drew)); rintro e w2 ⟨hb2, rfl⟩; have hx2 : Bxs w [tbbox D.p pa q1 pc (some ⟨b, o, none⟩) q lc] w2 := Bxs.below (by repeat (first | (with_reducible exact HX0.out) | (with_reducible refine Bxs.drew ?_))) hb2; obtain ⟨k0, k1, k2, _⟩ := three_cells hx2.b0; have g0 := HCA.out _ hx2.1; have g1 := HCB.out _ hx2.1; clear hb2)))
    have HX2 := Kept.mk hx2
    go_wp2
    go_quiet (fail)
    go_wp2_with fail
    refine (hP.out _ (below_drewN HX2.out.1 _)).mono ?_
    rintro e w3 ⟨hb3, rfl⟩
    have HX3 : Kept (Bxs w [tbbox D.p pa q1 pc (some ⟨b, o, none⟩) q lc] w3) := ⟨(HX2.out.below (below_drewN (Below.refl _ _) _)).below hb3⟩
    clear hb3
    go_wp2
    go_ret
    exact ⟨HX3.out.1, rfl⟩
end Go.Proofs.Ytfhhnfpapgfnmaa

set_option linter.unusedVariables false
set_option linter.unusedSectionVars false
set_option linter.unusedSimpArgs false
namespace Go.Proofs.Ytfhhnfpapgfnmaa
namespace FFld
/-- How far the tables are filled. -/
structure TfAt (D : FD) (h : D.Ok) (P L : List Nat) (n a : Nat) : Prop where
  pl : P.length = D.p ^ D.k - 1
  pw : ∀ i, i < n → P[i]?.getD 0 = ppow h.pre.pk D.g i
  ll : L.length = D.p ^ D.k
  lg : ∀ i, i < n → L[ppow h.pre.pk D.g i]?.getD 0 = i
  cur : a = ppow h.pre.pk D.g n
  le : n ≤ D.p ^ D.k - 1
theorem TfAt.start {D : FD} (h : D.Ok) : TfAt D h (List.replicate (D.p ^ D.k - 1) 0) (List.replicate (D.p ^ D.k) 0) 0 1 :=
  ⟨by simp, fun i hi => by omega, by simp, fun i hi => by omega, (ppow_zero h.pre.pk _ h.gq).symm, by omega⟩
theorem TfAt.next {D : FD} {h : D.Ok} {P L : List Nat} {n a : Nat} (t : TfAt D h P L n a) (hn : n < D.p ^ D.k - 1) : TfAt D h (P.set n a) (L.set a n) (n + 1) (pmul D.p D.k D.m a D.k D.g) := by
  have ha : a < D.p ^ D.k := by rw [t.cur]; exact ppow_lt _ _ _
  refine ⟨by rw [List.length_set]; exact t.pl, fun i hi => ?_, by rw [List.length_set]; exact t.ll, fun i hi => ?_, ?_, by omega⟩
  · by_cases e : i = n
    · subst e
      rw [List.getElem?_set_self (by rw [t.pl]; exact hn), Option.getD_some]
      exact t.cur
    · rw [List.getElem?_set_ne (by omega)]
      exact t.pw i (by omega)
  · by_cases e : i = n
    · subst e
      rw [← t.cur, List.getElem?_set_self (by rw [t.ll]; exact ha), Option.getD_some]
    · have hne : a ≠ ppow h.pre.pk D.g i := fun e2 => by
        rw [t.cur] at e2
        exact e (h.pow_inj (by omega) hn e2.symm)
      rw [List.getElem?_set_ne hne]
      exact t.lg i (by omega)
  · rw [ppow_succ h.pre.pk _ _ h.gq, ← t.cur]
theorem TfAt.done {D : FD} {h : D.Ok} {P L : List Nat} {a : Nat} (t : TfAt D h P L (D.p ^ D.k - 1) a) : TabOk D h P L :=
  ⟨t.pl, t.pw, t.ll, fun x hx h0 => by
    obtain ⟨n, hn, e⟩ := h.log x hx h0
    have := t.lg n hn
    rw [e] at this
    rw [this]
    exact ⟨hn, e⟩⟩
theorem TfAt.cur_lt {D : FD} {h : D.Ok} {P L : List Nat} {n a : Nat} (t : TfAt D h P L n a) : a < D.p ^ D.k := by rw [t.cur]; exact ppow_lt _ _ _
end FFld
end Go.Proofs.Ytfhhnfpapgfnmaa
