/-
  Texts of the proof, merged by program: Fp Pf Pp Pw Lg.
-/
import Derived.Test.YtfhhnfpapgfnmaaZ9
import Derived.Test.YtfhhnfpapgfnmaaZ8
import Derived.WalkMore
set_option linter.unusedVariables false
set_option linter.unusedSectionVars false
set_option linter.unusedSimpArgs false
namespace Go.Proofs.Ytfhhnfpapgfnmaa
namespace FFld
/-- The list of the primes that divide n. -/
structure Facs (n : Nat) (l : List Nat) : Prop where
  mem : ∀ f, f ∈ l ↔ Prime f ∧ f ∣ n
  nodup : l.Nodup
  len : l.length ≤ 300
structure PfAt (n0 d n : Nat) (l : List Nat) : Prop where
  n1 : 1 ≤ n
  dv : n ∣ n0
  mem : ∀ f, f ∈ l → Prime f ∧ f ∣ n0 ∧ f < d
  all : ∀ f, Prime f → f ∣ n0 → f ∈ l ∨ f ∣ n
  non : ∀ i, 2 ≤ i → i < d → ¬ i ∣ n
  nodup : l.Nodup
  len : l.length + 1 ≤ d
theorem PfAt.start {n : Nat} (h : 1 ≤ n) : PfAt n 2 n [] := ⟨h, Nat.dvd_refl _, fun f h => by simp at h, fun f _ h => .inr h, fun i h1 h2 => by omega, List.nodup_nil, by simp⟩
theorem PfAt.prime {n0 d n : Nat} {l : List Nat} (h : PfAt n0 d n l) (h2 : 2 ≤ d) (hd : d ∣ n) : Prime d := prime_least h2 hd h.non
/-- Within the division by d, which is in the list. -/
structure PgAt (n0 d n : Nat) (l : List Nat) : Prop where
  n1 : 1 ≤ n
  dv : n ∣ n0
  mem : ∀ f, f ∈ l → Prime f ∧ f ∣ n0 ∧ f < d + 1
  all : ∀ f, Prime f → f ∣ n0 → f ∈ l ∨ f ∣ n
  non : ∀ i, 2 ≤ i → i < d → ¬ i ∣ n
  nodup : l.Nodup
  len : l.length + 1 ≤ d + 1
  has : d ∣ n → d ∈ l
theorem PfAt.put {n0 d n : Nat} {l : List Nat} (h : PfAt n0 d n l) (h2 : 2 ≤ d) (hd : d ∣ n) : PgAt n0 d n (l ++ [d]) := by
  refine ⟨h.n1, h.dv, fun f hf => ?_, fun f hp hf => ?_, h.non, ?_, by have := h.len; simp; omega, fun _ => by simp⟩
  · rcases List.mem_append.1 hf with h1 | h1
    · obtain ⟨a, b, c⟩ := h.mem f h1; exact ⟨a, b, by omega⟩
    · rw [List.mem_singleton.1 h1]; exact ⟨h.prime h2 hd, Nat.dvd_trans hd h.dv, by omega⟩
  · rcases h.all f hp hf with h1 | h1
    · exact .inl (List.mem_append_left _ h1)
    · exact .inr h1
  · rw [List.nodup_append]
    refine ⟨h.nodup, by simp, fun a ha b hb e => ?_⟩
    rw [List.mem_singleton.1 hb] at e
    have := (h.mem a ha).2.2
    omega
theorem PfAt.skip {n0 d n : Nat} {l : List Nat} (h : PfAt n0 d n l) (hd : ¬ d ∣ n) : PgAt n0 d n l :=
  ⟨h.n1, h.dv, fun f hf => by obtain ⟨a, b, c⟩ := h.mem f hf; exact ⟨a, b, by omega⟩, h.all, h.non, h.nodup, by have := h.len; omega, fun h => absurd h hd⟩
theorem PgAt.next {n0 d n : Nat} {l : List Nat} (h : PgAt n0 d n l) (h2 : 2 ≤ d) (hd : d ∣ n) : PgAt n0 d (n / d) l := by
  have e : n = d * (n / d) := (Nat.mul_div_cancel' hd).symm
  have hn := h.n1
  have hdv : n / d ∣ n := ⟨d, by rw [Nat.mul_comm]; exact e⟩
  refine ⟨?_, Nat.dvd_trans hdv h.dv, h.mem, fun f hp hf => ?_, fun i h1 h2 h3 => h.non i h1 h2 (Nat.dvd_trans h3 hdv), h.nodup, h.len, fun _ => h.has hd⟩
  · rcases Nat.eq_zero_or_pos (n / d) with h0 | h0
    · rw [h0] at e; omega
    · exact h0
  · rcases h.all f hp hf with h1 | h1
    · exact .inl h1
    · rw [e] at h1
      rcases hp.dvd_mul h1 with h3 | h3
      · have hpd := (h.mem d (h.has hd)).1
        rcases hpd.2 f h3 with h4 | h4
        · have := hp.1; omega
        · rw [h4]; exact .inl (h.has hd)
      · exact .inr h3
theorem PgAt.done {n0 d n : Nat} {l : List Nat} (h : PgAt n0 d n l) (hd : ¬ d ∣ n) : PfAt n0 (d + 1) n l :=
  ⟨h.n1, h.dv, h.mem, h.all, fun i h1 h2 h3 => by
    by_cases e : i = d
    · subst e; exact hd h3
    · exact h.non i h1 (by omega) h3, h.nodup, h.len⟩
theorem PfAt.last {n0 d n : Nat} {l : List Nat} (h : PfAt n0 d n l) (h2 : 2 ≤ d) (hn : n < d * d) (hn1 : 1 < n) (hl : l.length ≤ 299) : Facs n0 (l ++ [n]) := by
  have hp : Prime n := by rw [← isP_iff, isP_none h2 h.non hn]; exact decide_eq_true hn1
  refine ⟨fun f => ⟨fun hf => ?_, fun hf => ?_⟩, ?_, by simp; omega⟩
  · rcases List.mem_append.1 hf with h1 | h1
    · exact ⟨(h.mem f h1).1, (h.mem f h1).2.1⟩
    · rw [List.mem_singleton.1 h1]; exact ⟨hp, h.dv⟩
  · rcases h.all f hf.1 hf.2 with h1 | h1
    · exact List.mem_append_left _ h1
    · rcases hp.2 f h1 with h3 | h3
      · have := hf.1.1; omega
      · rw [h3]; simp
  · rw [List.nodup_append]
    refine ⟨h.nodup, by simp, fun a ha b hb e => ?_⟩
    rw [List.mem_singleton.1 hb] at e
    obtain ⟨ha1, _, ha3⟩ := h.mem a ha
    subst e
    exact h.non a ha1.1 ha3 (Nat.dvd_refl _)
theorem PfAt.full {n0 d : Nat} {l : List Nat} (h : PfAt n0 d 1 l) (hl : l.length ≤ 300) : Facs n0 l :=
  ⟨fun f => ⟨fun hf => ⟨(h.mem f hf).1, (h.mem f hf).2.1⟩, fun hf => by
    rcases h.all f hf.1 hf.2 with h1 | h1
    · exact h1
    · have := Nat.le_of_dvd (by omega) h1; have := hf.1.1; omega⟩, h.nodup, hl⟩
theorem Facs.one {n p : Nat} (h : Facs n [p]) : Prime p ∧ p ∣ n ∧ ∀ f, Prime f → f ∣ n → f = p := by
  have := (h.mem p).1 (by simp)
  exact ⟨this.1, this.2, fun f h1 h2 => by simpa using (h.mem f).2 ⟨h1, h2⟩⟩
theorem Facs.two {n p q : Nat} {l : List Nat} (h : Facs n (p :: q :: l)) : ¬ Fit (n : Int) := by
  have h1 := (h.mem p).1 (by simp)
  have h2 := (h.mem q).1 (by simp)
  refine Fit.more h1.1 h2.1 (fun e => ?_) h1.2 h2.2
  have := h.nodup
  subst e
  simp at this
theorem Facs.nil {n : Nat} (h : Facs n []) (hn : 2 ≤ n) : False := by
  obtain ⟨f, hf, hd⟩ := exists_prime n hn
  have := (h.mem f).2 ⟨hf, hd⟩
  simp at this
end FFld
end Go.Proofs.Ytfhhnfpapgfnmaa

set_option linter.unusedVariables false
set_option linter.unusedSimpArgs false
namespace Go.Proofs.Ytfhhnfpapgfnmaa
open Go Go.RowKit
open FFld (ints)
set_option maxRecDepth 20000 in
set_option maxHeartbeats 1000000 in
theorem fdigits_any (n p : Nat) (w : World) (hp : 2 ≤ p) (hp1 : p ≤ 65536) (hn : n < 1099511627776) :
    Calls Try.prog 131 #[.int .i64 n, .int .i64 p] w (DigRet p n w) := by
  go_enter Try.func131, Try.ntmps131
  go_wp2
  go_loopw [0, 5] (fun c o wr => ∃ (cur : Nat) (l : List Nat), c = .int .i64 cur ∧ cur ≤ n ∧ l.length ≤ 41 ∧ Kept (FFld.DgAt p n l cur) ∧ Kept (Mine 3 .i64 w.heap.size wr o (ints l)) ∧ Kept (Below w.heap.size w wr)) (fun c _ _ => (intOf c).toNat)
  case atStart => exact ⟨n, [], rfl, by omega, by simp, ⟨FFld.DgAt.start p n⟩, ⟨Mine.nil _ _ _ _⟩, ⟨Below.refl _ _⟩⟩
  case round =>
    obtain ⟨cur, l, rfl, hc, hl, hat, hm, hbl⟩ := hrel
    by_cases h0 : 0 < cur
    · have hlen : l.length ≤ 40 := FFld.len_of_pow (hat.out.len hp h0) (Nat.le_of_lt hn)
      have HNX := Kept.mk (hat.out.next hp h0)
      obtain ⟨d, hd⟩ : ∃ d, cur % p = d := ⟨_, rfl⟩
      obtain ⟨q, hq⟩ : ∃ q, cur / p = q := ⟨_, rfl⟩
      have hql : q < cur := by rw [← hq]; exact Nat.div_lt_self h0 hp
      have hdz : (cur : Int) % p = (d : Int) := by rw [← hd]; rfl
      have hqz : (cur : Int) / p = (q : Int) := by rw [← hq]; rfl
      rw [hd, hq] at HNX
      clear hd hq
      have HMa := Lib.hid (hm.out.alloc (.cells #[.int .i64 d] 3))
      have HNW := Lib.hid (new_one (K := .i64) (x := (d : Int)) (w := wr.alloc (.cells #[.int .i64 d] 3)) (b := wr.heap.size) (o := 0) (by exact (Row.new (E := 3) (K := .i64) wr [(d : Int)]).cell (i := 0) (by simp)))
      have HBB := Lib.hid (show w.heap.size ≤ (wr.alloc (.cells #[.int .i64 d] 3)).heap.size by have := hbl.out.size; simp; omega)
      have H1 := Lib.hid (show ((ints l).length + [(d : Int)].length) * 8 ≤ 140737488355328 by rw [FFld.ints_len]; simp; omega)
      have H2 := Lib.hid (show (ints l).length + [(d : Int)].length ≤ maxLen by rw [FFld.ints_len]; unfold maxLen; simp; omega)
      have hOwn := Kept.mk hm.out.own
      go_wp2_with (at_builtin; refine wpList_append_mine _ rfl _ _ 34 rfl 3 .i64 8 Try.underlying34 info_i64 w.heap.size _ (ints l) rfl HMa.out HBB.out ⟨wr.heap.size, 0, none⟩ 1 1 [(d : Int)] rfl rfl HNW.out H1.out H2.out ?_)
      intro v' w5 hm5 hg5 hn5
      have HM5 := Kept.mk hm5
      have HB5 := Kept.mk (hbl.out.grown (growTrans (World.grownBy_alloc wr (.cells #[.int .i64 d] 3) _) hg5) hbl.out.size (fun j hj => (hOwn.out j hj).1))
      clear hm5 hg5 hn5
      go_wp2
      go_roundw
      case rel => exact ⟨q, l ++ [d], rfl, by omega, by simp; omega, HNX, by rw [FFld.ints_append]; exact HM5, HB5⟩
      case measure => simp [intOf] <;> omega
    · have : cur = 0 := by omega
      subst this
      go_wp2
      go_ret
      exact ⟨hbl.out, _, _, rfl, hm.out, hat.out.done⟩
/-- The call returns the primes that divide n in a slice of its own. -/
def PfRet (n : Nat) (w : World) (e : Ending) (w' : World) : Prop := Below w.heap.size w w' ∧ ∃ v l, e = .returned v ∧ Mine 3 .i64 w.heap.size w' v (ints l) ∧ FFld.Facs n l
set_option maxRecDepth 20000 in
set_option maxHeartbeats 2000000 in
theorem factors_any (n0 : Nat) (w : World) (hn0 : 1 ≤ n0) (hn6 : n0 ≤ 65536) :
    Calls Try.prog 123 #[.int .i64 n0] w (PfRet n0 w) := by
  go_enter Try.func123, Try.ntmps123
  go_wp2
  go_loopw [0, 3, 4] (fun nv fv dv wr => ∃ (n d : Nat) (l : List Nat), n ≤ 65536 ∧ 2 ≤ d ∧ d ≤ 257 ∧ nv = .int .i64 n ∧ dv = .int .i64 d ∧ l.length ≤ 256 ∧ Kept (FFld.PfAt n0 d n l) ∧ Kept (Mine 3 .i64 w.heap.size wr fv (ints l)) ∧ Kept (Below w.heap.size w wr)) (fun _ _ dv _ => 258 - (intOf dv).toNat)
  case atStart => exact ⟨n0, 2, [], hn6, Nat.le_refl _, by omega, rfl, rfl, by simp, ⟨FFld.PfAt.start hn0⟩, ⟨Mine.nil _ _ _ _⟩, ⟨Below.refl _ _⟩⟩
  case round =>
    obtain ⟨n, d, l, hn6, hd2, hd7, rfl, rfl, hll, hat, hm, hbl⟩ := hrel
    obtain ⟨dd, hdd⟩ : ∃ dd, d * d = dd := ⟨_, rfl⟩
    have hddl : dd ≤ 66049 := by rw [← hdd]; exact nmul_le (A := 257) (B := 257) hd7 hd7
    have edd : wrap64 ((d : Int) * d) = dd := wmul hdd (by omega)
    by_cases hle : dd ≤ n
    · have hd6 : d ≤ 256 := by
        rcases Nat.lt_or_ge 256 d with h | h
        · have := nmul_le (A := d) (B := d) (a := 257) (b := 257) h h
          omega
        · exact h
      obtain ⟨s, hs⟩ : ∃ s, n % d = s := ⟨_, rfl⟩
      have es : (n : Int) % d = s := by rw [← hs]; rfl
      by_cases hs0 : s = 0
      · subst hs0
        have hdv : d ∣ n := Nat.dvd_of_mod_eq_zero hs
        have HPG := Kept.mk (hat.out.put hd2 hdv)
        have ez : (((0 : Nat) : Int) == 0) = true := rfl
        have hl9 : l.length ≤ 255 := by have := hat.out.len; omega
        clear hs hdv hdd
        have HMa := Lib.hid (hm.out.alloc (.cells #[.int .i64 d] 3))
        have HNW := Lib.hid (new_one (K := .i64) (x := (d : Int)) (w := wr.alloc (.cells #[.int .i64 d] 3)) (b := wr.heap.size) (o := 0) (by exact (Row.new (E := 3) (K := .i64) wr [(d : Int)]).cell (i := 0) (by simp)))
        have HBB := Lib.hid (show w.heap.size ≤ (wr.alloc (.cells #[.int .i64 d] 3)).heap.size by have := hbl.out.size; simp; omega)
        have H1 := Lib.hid (show ((ints l).length + [(d : Int)].length) * 8 ≤ 140737488355328 by rw [FFld.ints_len]; simp; omega)
        have H2 := Lib.hid (show (ints l).length + [(d : Int)].length ≤ maxLen by rw [FFld.ints_len]; unfold maxLen; simp; omega)
        have hOwn := Kept.mk hm.out.own
        go_wp2_with (at_builtin; refine wpList_append_mine _ rfl _ _ 34 rfl 3 .i64 8 Try.underlying34 info_i64 w.heap.size _ (ints l) rfl HMa.out HBB.out ⟨wr.heap.size, 0, none⟩ 1 1 [(d : Int)] rfl rfl HNW.out H1.out H2.out ?_)
        intro v' w5 hm5 hg5 hn5
        have HM5 := Kept.mk hm5
        have HB5 := Kept.mk (hbl.out.grown (growTrans (World.grownBy_alloc wr (.cells #[.int .i64 d] 3) _) hg5) hbl.out.size (fun j hj => (hOwn.out j hj).1))
        clear hm5 hg5 hn5
        go_wp2
        go_loopw [0] (fun nv wr' => ∃ (n' : Nat), n' ≤ n ∧ nv = .int .i64 n' ∧ Kept (FFld.PgAt n0 d n' (l ++ [d])) ∧ w5 = wr') (fun nv _ => (intOf nv).toNat)
        case atStart => exact ⟨n, Nat.le_refl _, rfl, HPG, rfl⟩
        case round =>
          obtain ⟨n', hn', rfl, hpg, rfl⟩ := hrel
          obtain ⟨t, ht⟩ : ∃ t, n' % d = t := ⟨_, rfl⟩
          have et : (n' : Int) % d = t := by rw [← ht]; rfl
          by_cases ht0 : t = 0
          · subst ht0
            obtain ⟨q, hq⟩ : ∃ q, n' / d = q := ⟨_, rfl⟩
            have eq : (n' : Int) / d = q := by rw [← hq]; rfl
            have hlt : q < n' := by rw [← hq]; exact Nat.div_lt_self hpg.out.n1 hd2
            have HPN := Kept.mk (hpg.out.next hd2 (Nat.dvd_of_mod_eq_zero ht))
            rw [hq] at HPN
            have ez2 : (((0 : Nat) : Int) == 0) = true := rfl
            clear ht hq
            go_wp2
            go_roundw
            case rel => exact ⟨q, by omega, rfl, HPN, trivial⟩
            case measure => simp [intOf] <;> omega
          · have HPD := Kept.mk (hpg.out.done (fun h => ht0 (by rw [← ht]; exact Nat.mod_eq_zero_of_dvd h)))
            have ez2 : ((t : Int) == 0) = false := by rw [beq_eq_false_iff_ne]; omega
            clear ht ht0
            go_wp2
            go_roundw
            case rel => exact ⟨n', d + 1, l ++ [d], by omega, by omega, by omega, rfl, by go_num, by simp; omega, HPD, ⟨by rw [FFld.ints_append]; exact HM5.out⟩, HB5⟩
            case measure => simp [intOf] <;> omega
      · have ez : ((s : Int) == 0) = false := by rw [beq_eq_false_iff_ne]; omega
        have HPG := Kept.mk (hat.out.skip (fun h => hs0 (by rw [← hs]; exact Nat.mod_eq_zero_of_dvd h)))
        have hl9 : l.length ≤ 255 := by have := hat.out.len; omega
        clear hs hs0 hdd
        go_wp2
        go_loopw [0] (fun nv wr' => ∃ (n' : Nat), n' ≤ n ∧ nv = .int .i64 n' ∧ Kept (FFld.PgAt n0 d n' (l)) ∧ wr = wr') (fun nv _ => (intOf nv).toNat)
        case atStart => exact ⟨n, Nat.le_refl _, rfl, HPG, rfl⟩
        case round =>
          obtain ⟨n', hn', rfl, hpg, rfl⟩ := hrel
          obtain ⟨t, ht⟩ : ∃ t, n' % d = t := ⟨_, rfl⟩
          have et : (n' : Int) % d = t := by rw [← ht]; rfl
          by_cases ht0 : t = 0
          · subst ht0
            obtain ⟨q, hq⟩ : ∃ q, n' / d = q := ⟨_, rfl⟩
            have eq : (n' : Int) / d = q := by rw [← hq]; rfl
            have hlt : q < n' := by rw [← hq]; exact Nat.div_lt_self hpg.out.n1 hd2
            have HPN := Kept.mk (hpg.out.next hd2 (Nat.dvd_of_mod_eq_zero ht))
            rw [hq] at HPN
            have ez2 : (((0 : Nat) : Int) == 0) = true := rfl
            clear ht hq
            go_wp2
            go_roundw
            case rel => exact ⟨q, by omega, rfl, HPN, trivial⟩
            case measure => simp [intOf] <;> omega
          · have HPD := Kept.mk (hpg.out.done (fun h => ht0 (by rw [← ht]; exact Nat.mod_eq_zero_of_dvd h)))
            have ez2 : ((t : Int) == 0) = false := by rw [beq_eq_false_iff_ne]; omega
            clear ht ht0
            go_wp2
            go_roundw
            case rel => exact ⟨n', d + 1, l, by omega, by omega, by omega, rfl, by go_num, by omega, HPD, hm, hbl⟩
            case measure => simp [intOf] <;> omega
    · have hlt : n < d * d := by omega
      by_cases hn1 : 1 < n
      · have HF := Kept.mk (hat.out.last hd2 hlt hn1 (by omega))
        clear hlt hdd
        have HMa := Lib.hid (hm.out.alloc (.cells #[.int .i64 n] 3))
        have HNW := Lib.hid (new_one (K := .i64) (x := (n : Int)) (w := wr.alloc (.cells #[.int .i64 n] 3)) (b := wr.heap.size) (o := 0) (by exact (Row.new (E := 3) (K := .i64) wr [(n : Int)]).cell (i := 0) (by simp)))
        have HBB := Lib.hid (show w.heap.size ≤ (wr.alloc (.cells #[.int .i64 n] 3)).heap.size by have := hbl.out.size; simp; omega)
        have H1 := Lib.hid (show ((ints l).length + [(n : Int)].length) * 8 ≤ 140737488355328 by rw [FFld.ints_len]; simp; omega)
        have H2 := Lib.hid (show (ints l).length + [(n : Int)].length ≤ maxLen by rw [FFld.ints_len]; unfold maxLen; simp; omega)
        have hOwn := Kept.mk hm.out.own
        go_wp2_with (at_builtin; refine wpList_append_mine _ rfl _ _ 34 rfl 3 .i64 8 Try.underlying34 info_i64 w.heap.size _ (ints l) rfl HMa.out HBB.out ⟨wr.heap.size, 0, none⟩ 1 1 [(n : Int)] rfl rfl HNW.out H1.out H2.out ?_)
        intro v' w5 hm5 hg5 hn5
        have HM5 := Kept.mk hm5
        have HB5 := Kept.mk (hbl.out.grown (growTrans (World.grownBy_alloc wr (.cells #[.int .i64 n] 3) _) hg5) hbl.out.size (fun j hj => (hOwn.out j hj).1))
        clear hm5 hg5 hn5
        go_wp2
        go_ret
        exact ⟨HB5.out, _, _, rfl, by rw [FFld.ints_append]; exact HM5.out, HF.out⟩
      · obtain rfl : n = 1 := by have := hat.out.n1; omega
        have HF := Kept.mk (hat.out.full (by omega))
        clear hlt hdd
        go_wp2
        go_ret
        exact ⟨hbl.out, _, _, rfl, hm.out, HF.out⟩
end Go.Proofs.Ytfhhnfpapgfnmaa

set_option linter.unusedVariables false
set_option linter.unusedSimpArgs false
namespace Go.Proofs.Ytfhhnfpapgfnmaa
open Go Go.RowKit
open FFld (ints)
/-- What primePower returns. -/
def PpRet (q : Int) (w : World) (e : Ending) (w' : World) : Prop := Below w.heap.size w w' ∧
  ((∃ p k : Nat, FFld.Prime p ∧ 1 ≤ k ∧ q = ((p ^ k : Nat) : Int) ∧ p ^ k ≤ 65536 ∧ e = .returned (.tuple #[.int .i64 p, .int .i64 k, .bool true])) ∨ (¬ FFld.Fit q ∧ e = .returned (.tuple #[.int .i64 0, .int .i64 0, .bool false])))
set_option maxRecDepth 20000 in
set_option maxHeartbeats 2000000 in
theorem primePower_any (q : Int) (w : World) (hr0 : -9223372036854775808 ≤ q) (hr1 : q ≤ 9223372036854775807) :
    Calls Try.prog 83 #[.int .i64 q] w (PpRet q w) := by
  by_cases hin : 2 ≤ q ∧ q ≤ 65536
  · obtain ⟨n0, rfl⟩ : ∃ n0 : Nat, q = n0 := ⟨q.toNat, by omega⟩
    have h2 : 2 ≤ n0 := by omega
    have h6 : n0 ≤ 65536 := by omega
    clear hin hr0 hr1
    go_enter Try.func83, Try.ntmps83
    go_wp2_with fail
    refine (factors_any n0 _ (by omega) h6).mono ?_
    rintro e w1 ⟨hb1, v1, l, rfl, hm1, hf1⟩
    obtain ⟨a1, c1, rfl, hc1, hx1⟩ := hm1.sl.form
    rw [FFld.ints_len] at hc1 hm1 ⊢
    have hl3 := hf1.len
    have HB1 := Kept.mk hb1
    have HM1 := Kept.mk hm1
    have HF1 := Kept.mk hf1
    clear hb1 hm1 hf1
    rcases l with _ | ⟨p, _ | ⟨p2, l⟩⟩
    · exact absurd HF1.out (fun h => h.nil h2)
    · obtain ⟨hp, hd, hu⟩ := HF1.out.one
      have hp2 := hp.1
      have HP := Kept.mk hp
      have HD := Kept.mk hd
      have HU := Kept.mk hu
      obtain ⟨g, cap', ev, hgB, hgl, _, _, hcell, _, _⟩ := HM1.out.at (i := 0) (by simp [ints])
      rw [FFld.ints_len] at ev
      simp only [Value.slice.injEq, true_and] at ev
      obtain ⟨rfl, rfl⟩ := ev
      rw [FFld.ints_get] at hcell
      have hcell' : w1.cell? ⟨g, 0, none⟩ = some (.int .i64 p) := hcell
      simp only [List.length_singleton] at hc1 HM1 ⊢
      have hpl : p ≤ n0 := Nat.le_of_dvd (by omega) hd
      clear hcell hp hd hu
      go_wp2
      go_loopw [0, 3] (fun nv kv wr => ∃ (n k : Nat), 1 ≤ n ∧ n ≤ 65536 ∧ k ≤ 16 ∧ kv = .int .i64 k ∧ nv = .int .i64 n ∧ Kept (n * p ^ k = n0) ∧ w1 = wr) (fun nv _ _ => (intOf nv).toNat)
      case atStart => exact ⟨n0, 0, by omega, h6, by omega, rfl, rfl, ⟨by simp⟩, rfl⟩
      case round =>
        obtain ⟨n, k, hn1, hn6, hk16, rfl, rfl, hnk, rfl⟩ := hrel
        by_cases h1 : 1 < n
        · obtain ⟨n', hn'⟩ : ∃ n', n / p = n' := ⟨_, rfl⟩
          have en : (n : Int) / p = n' := by rw [← hn']; rfl
          have hpn : p ∣ n := by
            obtain ⟨f, hf, hfd⟩ := FFld.exists_prime n h1
            rw [← HU.out f hf (Nat.dvd_trans hfd ⟨p ^ k, hnk.out.symm⟩)]
            exact hfd
          have hnn : n = p * n' := by rw [← hn']; exact (Nat.mul_div_cancel' hpn).symm
          have hlt : n' < n := by rw [← hn']; exact Nat.div_lt_self (by omega) hp2
          have hn'1 : 1 ≤ n' := by
            rcases Nat.eq_zero_or_pos n' with h | h
            · subst h; omega
            · exact h
          have HNK : Kept (n' * p ^ (k + 1) = n0) := ⟨by rw [← hnk.out, hnn, Nat.pow_succ, Nat.mul_comm p n', Nat.mul_assoc, Nat.mul_comm p]⟩
          have hk15 : k + 1 ≤ 16 := by
            have h3 : p ^ (k + 1) ≤ n0 := by rw [← HNK.out]; exact Nat.le_mul_of_pos_left _ hn'1
            rcases Nat.lt_or_ge 16 (k + 1) with h | h
            · have h4 : 2 ^ 17 ≤ p ^ (k + 1) := Nat.le_trans (Nat.pow_le_pow_right (by omega) h) (Nat.pow_le_pow_left hp2 _)
              rw [show (2 : Nat) ^ 17 = 131072 from rfl] at h4
              generalize p ^ (k + 1) = z at *
              omega
            · exact h
          clear hn' hpn hnn hnk
          go_wp2
          go_roundw
          case rel => exact ⟨n', k + 1, hn'1, by omega, hk15, by go_num, rfl, HNK, trivial⟩
          case measure => simp [intOf] <;> omega
        · obtain rfl : n = 1 := by omega
          have hqk : p ^ k = n0 := by have := hnk.out; rw [Nat.one_mul] at this; exact this
          have hk1 : 1 ≤ k := by
            rcases Nat.eq_zero_or_pos k with h | h
            · subst h; rw [Nat.pow_zero] at hqk; omega
            · exact h
          have HQK := Kept.mk hqk
          clear hnk hqk
          go_wp2
          go_ret3
          exact ⟨HB1.out, .inl ⟨p, k, HP.out, hk1, by rw [HQK.out], by rw [HQK.out]; exact h6, rfl⟩⟩
    · have hnf : Kept (¬ FFld.Fit (n0 : Int)) := ⟨HF1.out.two⟩
      have hlen : ((p :: p2 :: l).length : Int) > 1 := by simp; omega
      obtain ⟨L, hL⟩ : ∃ L, (p :: p2 :: l).length = L := ⟨_, rfl⟩
      have hl1 : 1 < L := by rw [← hL]; simp
      rw [hL]
      clear hlen HM1 HF1 hL
      go_wp2
      go_ret3
      exact ⟨HB1.out, .inr ⟨hnf.out, rfl⟩⟩
  · have hnf : Kept (¬ FFld.Fit q) := ⟨fun h => hin h.range⟩
    have htest : q < 2 ∨ (¬ q < 2 ∧ 65536 < q) := by omega
    clear hin
    go_enter Try.func83, Try.ntmps83
    rcases htest with h | ⟨h, h'⟩
    all_goals
      go_wp2
      go_ret3
      exact ⟨Below.refl _ _, .inr ⟨hnf.out, rfl⟩⟩
end Go.Proofs.Ytfhhnfpapgfnmaa

set_option linter.unusedVariables false
set_option linter.unusedSimpArgs false
namespace Go.Proofs.Ytfhhnfpapgfnmaa
open Go Go.RowKit
open FFld (ints)
set_option maxRecDepth 20000 in
set_option maxHeartbeats 2000000 in
theorem power_rem (p k m : Nat) (hpk : FFld.PK p k m) (rv : Value) (a n : Nat) (w : World) (ha : a < p ^ k) (hn : n ≤ 70000)
    (hP : ∀ W (x y : Nat), x < p ^ k → y < p ^ k → Calls Try.prog 125 #[rv, .int .i64 x, .int .i64 y] W (RB W (.int .i64 (FFld.pmul p k m x k y : Nat)))) :
    Calls Try.prog 139 #[.int .i64 a, .int .i64 n, .func (.func 125) #[rv] #[]] w (RB w (.int .i64 (FFld.ppow hpk a n : Nat))) := by
  obtain ⟨V, hV⟩ : ∃ V, FFld.ppow hpk a n = V := ⟨_, rfl⟩
  have HPW : Kept (FFld.PwAt p k m hpk V 1 a n) := ⟨hV ▸ FFld.PwAt.start hpk a n ha⟩
  rw [hV]
  have hMul := Kept.mk hP
  clear hV ha hP
  go_enter Try.func139, Try.ntmps139
  go_wp2
  go_loopw [0, 1, 7] (fun av nv rv wr => ∃ (x n r : Nat), n ≤ 70000 ∧ av = .int .i64 x ∧ nv = .int .i64 n ∧ rv = .int .i64 r ∧ Kept (FFld.PwAt p k m hpk V r x n) ∧ Kept (Below w.heap.size w wr)) (fun _ nv _ _ => (intOf nv).toNat)
  case atStart => exact ⟨a, n, 1, hn, rfl, rfl, rfl, HPW, ⟨Below.refl _ _⟩⟩
  case round =>
    obtain ⟨x, n, r, hn, rfl, rfl, rfl, hpw, hbx⟩ := hrel
    by_cases h0 : 0 < n
    · obtain ⟨n', hn'⟩ : ∃ n', n / 2 = n' := ⟨_, rfl⟩
      have en : (n : Int) / 2 = n' := by rw [← hn']; rfl
      have hlt : n' < n := by omega
      by_cases h1 : n % 2 = 1
      · have HP := Kept.mk (hpw.out.odd h1)
        rw [hn'] at HP
        have e1 : ((n : Int) % 2 == 1) = true := by rw [beq_iff_eq]; omega
        have HR := Kept.mk hpw.out.rl
        have HA := Kept.mk hpw.out.al
        clear hn' h1
        go_wp2_with fail
        refine (hMul.out _ r x HR.out HA.out).mono ?_
        rintro e w2 ⟨hb2, rfl⟩
        have HX2 := Kept.mk (hbx.out.trans (hb2.mono hbx.out.size))
        clear hb2
        go_wp2_with fail
        refine (hMul.out _ x x HA.out HA.out).mono ?_
        rintro e w3 ⟨hb3, rfl⟩
        have HX3 := Kept.mk (HX2.out.trans (hb3.mono HX2.out.size))
        clear hb3
        go_wp2
        go_roundw
        case rel => exact ⟨_, n', _, by omega, rfl, rfl, rfl, HP, HX3⟩
        case measure => simp [intOf] <;> omega
      · have HP := Kept.mk (hpw.out.even (by omega))
        rw [hn'] at HP
        have e1 : ((n : Int) % 2 == 1) = false := by rw [beq_eq_false_iff_ne]; omega
        have HA := Kept.mk hpw.out.al
        clear hn' h1
        go_wp2_with fail
        refine (hMul.out _ x x HA.out HA.out).mono ?_
        rintro e w3 ⟨hb3, rfl⟩
        have HX3 := Kept.mk (hbx.out.trans (hb3.mono hbx.out.size))
        clear hb3
        go_wp2
        go_roundw
        case rel => exact ⟨_, n', _, by omega, rfl, rfl, rfl, HP, HX3⟩
        case measure => simp [intOf] <;> omega
    · obtain rfl : n = 0 := by omega
      have HR := Kept.mk hpw.out.done
      go_wp2
      go_ret
      exact ⟨hbx.out, by rw [HR.out]; rfl⟩
set_option maxRecDepth 20000 in
set_option maxHeartbeats 2000000 in
theorem power_res (p k m : Nat) (hpk : FFld.PK p k m) (rv : Value) (a n : Nat) (w : World) (ha : a < p ^ k) (hn : n ≤ 70000)
    (hP : ∀ W (x y : Nat), x < p ^ k → y < p ^ k → Calls Try.prog 128 #[rv, .int .i64 x, .int .i64 y] W (RB W (.int .i64 (FFld.pmul p k m x k y : Nat)))) :
    Calls Try.prog 139 #[.int .i64 a, .int .i64 n, .func (.func 128) #[rv] #[]] w (RB w (.int .i64 (FFld.ppow hpk a n : Nat))) := by
  obtain ⟨V, hV⟩ : ∃ V, FFld.ppow hpk a n = V := ⟨_, rfl⟩
  have HPW : Kept (FFld.PwAt p k m hpk V 1 a n) := ⟨hV ▸ FFld.PwAt.start hpk a n ha⟩
  rw [hV]
  have hMul := Kept.mk hP
  clear hV ha hP
  go_enter Try.func139, Try.ntmps139
  go_wp2
  go_loopw [0, 1, 7] (fun av nv rv wr => ∃ (x n r : Nat), n ≤ 70000 ∧ av = .int .i64 x ∧ nv = .int .i64 n ∧ rv = .int .i64 r ∧ Kept (FFld.PwAt p k m hpk V r x n) ∧ Kept (Below w.heap.size w wr)) (fun _ nv _ _ => (intOf nv).toNat)
  case atStart => exact ⟨a, n, 1, hn, rfl, rfl, rfl, HPW, ⟨Below.refl _ _⟩⟩
  case round =>
    obtain ⟨x, n, r, hn, rfl, rfl, rfl, hpw, hbx⟩ := hrel
    by_cases h0 : 0 < n
    · obtain ⟨n', hn'⟩ : ∃ n', n / 2 = n' := ⟨_, rfl⟩
      have en : (n : Int) / 2 = n' := by rw [← hn']; rfl
      have hlt : n' < n := by omega
      by_cases h1 : n % 2 = 1
      · have HP := Kept.mk (hpw.out.odd h1)
        rw [hn'] at HP
        have e1 : ((n : Int) % 2 == 1) = true := by rw [beq_iff_eq]; omega
        have HR := Kept.mk hpw.out.rl
        have HA := Kept.mk hpw.out.al
        clear hn' h1
        go_wp2_with fail
        refine (hMul.out _ r x HR.out HA.out).mono ?_
        rintro e w2 ⟨hb2, rfl⟩
        have HX2 := Kept.mk (hbx.out.trans (hb2.mono hbx.out.size))
        clear hb2
        go_wp2_with fail
        refine (hMul.out _ x x HA.out HA.out).mono ?_
        rintro e w3 ⟨hb3, rfl⟩
        have HX3 := Kept.mk (HX2.out.trans (hb3.mono HX2.out.size))
        clear hb3
        go_wp2
        go_roundw
        case rel => exact ⟨_, n', _, by omega, rfl, rfl, rfl, HP, HX3⟩
        case measure => simp [intOf] <;> omega
      · have HP := Kept.mk (hpw.out.even (by omega))
        rw [hn'] at HP
        have e1 : ((n : Int) % 2 == 1) = false := by rw [beq_eq_false_iff_ne]; omega
        have HA := Kept.mk hpw.out.al
        clear hn' h1
        go_wp2_with fail
        refine (hMul.out _ x x HA.out HA.out).mono ?_
        rintro e w3 ⟨hb3, rfl⟩
        have HX3 := Kept.mk (hbx.out.trans (hb3.mono hbx.out.size))
        clear hb3
        go_wp2
        go_roundw
        case rel => exact ⟨_, n', _, by omega, rfl, rfl, rfl, HP, HX3⟩
        case measure => simp [intOf] <;> omega
    · obtain rfl : n = 0 := by omega
      have HR := Kept.mk hpw.out.done
      go_wp2
      go_ret
      exact ⟨hbx.out, by rw [HR.out]; rfl⟩
end Go.Proofs.Ytfhhnfpapgfnmaa

set_option linter.unusedVariables false
set_option linter.unusedSimpArgs false
namespace Go.Proofs.Ytfhhnfpapgfnmaa
open Go Go.RowKit
open FFld (ints)
set_option maxRecDepth 20000 in
set_option maxHeartbeats 4000000 in
theorem leastgen_rem (D : FFld.FD) (hD : D.Ok) (rv : Value) (w : World)
    (hP : ∀ W (x y : Nat), x < D.p ^ D.k → y < D.p ^ D.k → Calls Try.prog 125 #[rv, .int .i64 x, .int .i64 y] W (RB W (.int .i64 (FFld.pmul D.p D.k D.m x D.k y : Nat)))) :
    Calls Try.prog 124 #[.int .i64 D.q, .func (.func 125) #[rv] #[]] w (RB w (.int .i64 (D.g : Nat))) := by
  obtain ⟨q, hqd⟩ : ∃ q, D.p ^ D.k = q := ⟨_, rfl⟩
  have hqq : D.q = q := hqd
  have hpk := hD.pre.pk
  have hq1 : 1 < q := by rw [← hqd]; exact hpk.one_lt
  have hq2 : q ≤ 65536 := by have := hD.pre.small; rw [hqq] at this; exact this
  have hgq : D.g < q := by rw [← hqd]; exact hD.gq
  have hPow := Kept.mk (fun W (a n : Nat) (ha : a < q) (hn : n ≤ 70000) => power_rem D.p D.k D.m hpk rv a n W (by rw [hqd]; exact ha) hn hP)
  have HG := Kept.mk (fun (a : Nat) (h1 : 1 ≤ a) (hg : a ≤ D.g) (ht : ∀ r, 2 ≤ r → r < q → FFld.GTest D hpk a r) => hD.gen h1 hg (by rw [hqd]; exact ht))
  have HNG := Kept.mk (fun (a r : Nat) (hg : a ≤ D.g) (h2 : 2 ≤ r) (hr : r < q) (ht : ¬ FFld.GTest D hpk a r) => hD.not_gen hg h2 (by rw [hqd]; exact hr) ht)
  have HQ := Kept.mk hqd
  rw [hqq]
  obtain ⟨q1, hq1e⟩ : ∃ q1, q - 1 = q1 := ⟨_, rfl⟩
  have e0 : (q : Int) - 1 = (q1 : Int) := by omega
  clear hqd hqq hP
  go_enter Try.func124, Try.ntmps124
  go_wp2
  go_step3
  go_wp2_with fail
  refine (factors_any q1 _ (by omega) (by omega)).mono ?_
  rintro e w1 ⟨hb1, v1, l, rfl, hm1, hf1⟩
  obtain ⟨a1, c1, rfl, hc1, hx1⟩ := hm1.sl.form
  rw [FFld.ints_len] at hc1 hm1 ⊢
  have hl3 := hf1.len
  have HB1 := Kept.mk hb1
  have HC1 := Kept.mk (hm1.sl.cells (Nat.le_refl _))
  have HF1 := Kept.mk hf1
  have HQ1 := Kept.mk hq1e
  clear hb1 hm1 hf1 hq1e
  go_wp2
  go_step3
  go_wp2
  go_loopw [6] (fun gv wr => ∃ (a : Nat), 1 ≤ a ∧ a ≤ D.g ∧ gv = .int .i64 a ∧ Kept (Below w1.heap.size w1 wr)) (fun gv _ => q - (intOf gv).toNat)
  case atStart => exact ⟨1, Nat.le_refl _, hD.g1, rfl, ⟨Below.refl _ _⟩⟩
  case round =>
    obtain ⟨a, ha1, hag, rfl, hbx⟩ := hrel
    go_wp2
    go_loopw [16] (fun iv wr => ∃ (i : Nat), iv = .int .i64 i ∧ i ≤ l.length ∧ Kept (∀ j, j < i → FFld.GTest D hpk a (l[j]?.getD 0)) ∧ Kept (Below w1.heap.size w1 wr)) (fun iv _ => l.length - (intOf iv).toNat)
    case atStart => exact ⟨0, rfl, Nat.zero_le _, ⟨fun j hj => by omega⟩, hbx⟩
    case round =>
      obtain ⟨i, rfl, hil, hat, hbx⟩ := hrel
      by_cases hlt : i < l.length
      · obtain ⟨b, o, rfl, hcell⟩ := HC1.out _ hbx.out i hlt
        obtain ⟨r, hr⟩ : ∃ r, l[i]?.getD 0 = r := ⟨_, rfl⟩
        rw [hr] at hcell
        have hrm : r ∈ l := by rw [← hr]; simp [hlt]
        obtain ⟨hpr, hdv⟩ := (HF1.out.mem r).1 hrm
        have hr2 := hpr.1
        have hrl := Nat.le_of_dvd (by omega) hdv
        obtain ⟨d, hd⟩ : ∃ d, q1 / r = d := ⟨_, rfl⟩
        have hdl : d ≤ 70000 := by rw [← hd]; exact Nat.le_trans (Nat.div_le_self _ _) (by omega)
        have ed : (q1 : Int) / r = d := by rw [← hd]; rfl
        obtain ⟨v, hv⟩ : ∃ v, FFld.ppow hpk a d = v := ⟨_, rfl⟩
        have hPo := Kept.mk (fun W => hPow.out W a d (by omega) hdl)
        rw [hv] at hPo
        have HT : Kept (FFld.GTest D hpk a r ↔ v ≠ 1) := ⟨by
          unfold FFld.GTest
          rw [HQ.out, HQ1.out, hd, hv]
          exact ⟨fun h => h hdv hpr, fun h _ _ => h⟩⟩
        have HR := Kept.mk hr
        clear hr hrm hpr hdv hd hv
        by_cases hv1 : v = 1
        · subst hv1
          have ev : (((1 : Nat) : Int) == 1) = true := rfl
          have hN := HNG.out a r hag hr2 (by omega) (fun h => HT.out.1 h rfl)
          go_wp2_with fail
          refine (hPo.out _).mono ?_
          rintro e w3 ⟨hb3, rfl⟩
          have HX3 := Kept.mk (hbx.out.trans (hb3.mono hbx.out.size))
          clear hb3
          go_wp2
          go_roundw
          case rel => exact ⟨a + 1, by omega, hN, by go_num, HX3⟩
          case measure => simp [intOf] <;> omega
        · have ev : ((v : Int) == 1) = false := by rw [beq_eq_false_iff_ne]; omega
          have HN2 := Kept.mk (show ∀ j, j < i + 1 → FFld.GTest D hpk a (l[j]?.getD 0) from fun j hj => by
            by_cases e : j = i
            · subst e; rw [HR.out]; exact HT.out.2 hv1
            · exact hat.out j (by omega))
          go_wp2_with fail
          refine (hPo.out _).mono ?_
          rintro e w3 ⟨hb3, rfl⟩
          have HX3 := Kept.mk (hbx.out.trans (hb3.mono hbx.out.size))
          clear hb3
          go_wp2
          go_roundw
          case rel => exact ⟨i + 1, by go_num, by omega, HN2, HX3⟩
          case measure => simp [intOf] <;> omega
      · obtain rfl : i = l.length := by omega
        have hN := HG.out a ha1 hag (fun r h2 hr hd hp => by
          have hm := (HF1.out.mem r).2 ⟨hp, by rw [HQ.out, HQ1.out] at hd; exact hd⟩
          obtain ⟨j, hj, e⟩ := List.getElem_of_mem hm
          have := hat.out j hj
          rw [List.getElem?_eq_getElem hj, Option.getD_some, e] at this
          exact this hd hp)
        go_wp2
        go_ret
        exact ⟨HB1.out.trans (hbx.out.mono HB1.out.size), by rw [← hN]; rfl⟩
set_option maxRecDepth 20000 in
set_option maxHeartbeats 4000000 in
theorem leastgen_res (D : FFld.FD) (hD : D.Ok) (rv : Value) (w : World)
    (hP : ∀ W (x y : Nat), x < D.p ^ D.k → y < D.p ^ D.k → Calls Try.prog 128 #[rv, .int .i64 x, .int .i64 y] W (RB W (.int .i64 (FFld.pmul D.p D.k D.m x D.k y : Nat)))) :
    Calls Try.prog 124 #[.int .i64 D.q, .func (.func 128) #[rv] #[]] w (RB w (.int .i64 (D.g : Nat))) := by
  obtain ⟨q, hqd⟩ : ∃ q, D.p ^ D.k = q := ⟨_, rfl⟩
  have hqq : D.q = q := hqd
  have hpk := hD.pre.pk
  have hq1 : 1 < q := by rw [← hqd]; exact hpk.one_lt
  have hq2 : q ≤ 65536 := by have := hD.pre.small; rw [hqq] at this; exact this
  have hgq : D.g < q := by rw [← hqd]; exact hD.gq
  have hPow := Kept.mk (fun W (a n : Nat) (ha : a < q) (hn : n ≤ 70000) => power_res D.p D.k D.m hpk rv a n W (by rw [hqd]; exact ha) hn hP)
  have HG := Kept.mk (fun (a : Nat) (h1 : 1 ≤ a) (hg : a ≤ D.g) (ht : ∀ r, 2 ≤ r → r < q → FFld.GTest D hpk a r) => hD.gen h1 hg (by rw [hqd]; exact ht))
  have HNG := Kept.mk (fun (a r : Nat) (hg : a ≤ D.g) (h2 : 2 ≤ r) (hr : r < q) (ht : ¬ FFld.GTest D hpk a r) => hD.not_gen hg h2 (by rw [hqd]; exact hr) ht)
  have HQ := Kept.mk hqd
  rw [hqq]
  obtain ⟨q1, hq1e⟩ : ∃ q1, q - 1 = q1 := ⟨_, rfl⟩
  have e0 : (q : Int) - 1 = (q1 : Int) := by omega
  clear hqd hqq hP
  go_enter Try.func124, Try.ntmps124
  go_wp2
  go_step3
  go_wp2_with fail
  refine (factors_any q1 _ (by omega) (by omega)).mono ?_
  rintro e w1 ⟨hb1, v1, l, rfl, hm1, hf1⟩
  obtain ⟨a1, c1, rfl, hc1, hx1⟩ := hm1.sl.form
  rw [FFld.ints_len] at hc1 hm1 ⊢
  have hl3 := hf1.len
  have HB1 := Kept.mk hb1
  have HC1 := Kept.mk (hm1.sl.cells (Nat.le_refl _))
  have HF1 := Kept.mk hf1
  have HQ1 := Kept.mk hq1e
  clear hb1 hm1 hf1 hq1e
  go_wp2
  go_step3
  go_wp2
  go_loopw [6] (fun gv wr => ∃ (a : Nat), 1 ≤ a ∧ a ≤ D.g ∧ gv = .int .i64 a ∧ Kept (Below w1.heap.size w1 wr)) (fun gv _ => q - (intOf gv).toNat)
  case atStart => exact ⟨1, Nat.le_refl _, hD.g1, rfl, ⟨Below.refl _ _⟩⟩
  case round =>
    obtain ⟨a, ha1, hag, rfl, hbx⟩ := hrel
    go_wp2
    go_loopw [16] (fun iv wr => ∃ (i : Nat), iv = .int .i64 i ∧ i ≤ l.length ∧ Kept (∀ j, j < i → FFld.GTest D hpk a (l[j]?.getD 0)) ∧ Kept (Below w1.heap.size w1 wr)) (fun iv _ => l.length - (intOf iv).toNat)
    case atStart => exact ⟨0, rfl, Nat.zero_le _, ⟨fun j hj => by omega⟩, hbx⟩
    case round =>
      obtain ⟨i, rfl, hil, hat, hbx⟩ := hrel
      by_cases hlt : i < l.length
      · obtain ⟨b, o, rfl, hcell⟩ := HC1.out _ hbx.out i hlt
        obtain ⟨r, hr⟩ : ∃ r, l[i]?.getD 0 = r := ⟨_, rfl⟩
        rw [hr] at hcell
        have hrm : r ∈ l := by rw [← hr]; simp [hlt]
        obtain ⟨hpr, hdv⟩ := (HF1.out.mem r).1 hrm
        have hr2 := hpr.1
        have hrl := Nat.le_of_dvd (by omega) hdv
        obtain ⟨d, hd⟩ : ∃ d, q1 / r = d := ⟨_, rfl⟩
        have hdl : d ≤ 70000 := by rw [← hd]; exact Nat.le_trans (Nat.div_le_self _ _) (by omega)
        have ed : (q1 : Int) / r = d := by rw [← hd]; rfl
        obtain ⟨v, hv⟩ : ∃ v, FFld.ppow hpk a d = v := ⟨_, rfl⟩
        have hPo := Kept.mk (fun W => hPow.out W a d (by omega) hdl)
        rw [hv] at hPo
        have HT : Kept (FFld.GTest D hpk a r ↔ v ≠ 1) := ⟨by
          unfold FFld.GTest
          rw [HQ.out, HQ1.out, hd, hv]
          exact ⟨fun h => h hdv hpr, fun h _ _ => h⟩⟩
        have HR := Kept.mk hr
        clear hr hrm hpr hdv hd hv
        by_cases hv1 : v = 1
        · subst hv1
          have ev : (((1 : Nat) : Int) == 1) = true := rfl
          have hN := HNG.out a r hag hr2 (by omega) (fun h => HT.out.1 h rfl)
          go_wp2_with fail
          refine (hPo.out _).mono ?_
          rintro e w3 ⟨hb3, rfl⟩
          have HX3 := Kept.mk (hbx.out.trans (hb3.mono hbx.out.size))
          clear hb3
          go_wp2
          go_roundw
          case rel => exact ⟨a + 1, by omega, hN, by go_num, HX3⟩
          case measure => simp [intOf] <;> omega
        · have ev : ((v : Int) == 1) = false := by rw [beq_eq_false_iff_ne]; omega
          have HN2 := Kept.mk (show ∀ j, j < i + 1 → FFld.GTest D hpk a (l[j]?.getD 0) from fun j hj => by
            by_cases e : j = i
            · subst e; rw [HR.out]; exact HT.out.2 hv1
            · exact hat.out j (by omega))
          go_wp2_with fail
          refine (hPo.out _).mono ?_
          rintro e w3 ⟨hb3, rfl⟩
          have HX3 := Kept.mk (hbx.out.trans (hb3.mono hbx.out.size))
          clear hb3
          go_wp2
          go_roundw
          case rel => exact ⟨i + 1, by go_num, by omega, HN2, HX3⟩
          case measure => simp [intOf] <;> omega
      · obtain rfl : i = l.length := by omega
        have hN := HG.out a ha1 hag (fun r h2 hr hd hp => by
          have hm := (HF1.out.mem r).2 ⟨hp, by rw [HQ.out, HQ1.out] at hd; exact hd⟩
          obtain ⟨j, hj, e⟩ := List.getElem_of_mem hm
          have := hat.out j hj
          rw [List.getElem?_eq_getElem hj, Option.getD_some, e] at this
          exact this hd hp)
        go_wp2
        go_ret
        exact ⟨HB1.out.trans (hbx.out.mono HB1.out.size), by rw [← hN]; rfl⟩
end Go.Proofs.Ytfhhnfpapgfnmaa
