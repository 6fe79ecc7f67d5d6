import Derived.Test.YtalahdkhglagpaaGreatDoorItl
import Derived.Test.YtalahdkhglagpaaGreatDoorDj
import Derived.RangeFuncNested
import Derived.RangeFuncLeaves
import Derived.Shelf.Abstract
import Derived.Shelf.RegionOpen
import Derived.OwnWalkIn
import Derived.TacticsInMore
import Derived.LoopNIn
import Derived.LoopIn
set_option linter.unusedVariables false
set_option linter.unusedSimpArgs false
namespace Go.Proofs.YtalahdkhglagpaaGreatDoor
open Go Go.RowKit Go.Deep
open Dnt
attribute [local go_sem] Oper.semAt_some
set_option maxRecDepth 20000 in
set_option maxHeartbeats 1000000 in
theorem abs_any (n : Int) (w : World) (h : -1000000000000 ≤ n ∧ n ≤ 1000000000000) : Calls Tryz.prog 68 #[.int .i64 n] w (fun e w' => w = w' ∧ e = .returned (.int .i64 (n.natAbs : Nat))) := by
  have w1' : IntKind.i64.wrap (-n) = -n := wrapB (by omega) (by omega)
  by_cases h0 : 0 ≤ n
  · rw [show ((n.natAbs : Nat) : Int) = n by omega]
    have e1 : max n (-n) = n := by omega
    go_enter Tryz.func68, Tryz.ntmps68
    go_wp2
    go_ret
    exact ⟨rfl, rfl⟩
  · rw [show ((n.natAbs : Nat) : Int) = -n by omega]
    have e1 : max n (-n) = -n := by omega
    go_enter Tryz.func68, Tryz.ntmps68
    go_wp2
    go_ret
    exact ⟨rfl, rfl⟩
theorem Dnt.Pf.inv {p n : Nat} {l : List (Nat × Nat)} (h : Pf p n l) (hp : p * p ≤ n) : ∃ e r l', n = p ^ e * r ∧ r % p ≠ 0 ∧ Pf (p + 1) r l' ∧ ((e = 0 ∧ l = l') ∨ (1 ≤ e ∧ l = (p, e) :: l')) := by
  cases h with
  | done h1 h2 => exact absurd hp h1
  | last h1 h2 => exact absurd hp h1
  | skip h1 h2 h3 => exact ⟨0, n, l, by simp, h2, h3, .inl ⟨rfl, rfl⟩⟩
  | take h1 h2 h3 h4 h5 => exact ⟨_, _, _, h3, h4, h5, .inr ⟨h2, rfl⟩⟩
theorem Dnt.Pf.stop {p n : Nat} {l : List (Nat × Nat)} (h : Pf p n l) (hp : ¬ p * p ≤ n) : (n ≤ 1 ∧ l = []) ∨ (1 < n ∧ l = [(n, 1)]) := by
  cases h with
  | done h1 h2 => exact .inl ⟨h2, rfl⟩
  | last h1 h2 => exact .inr ⟨h2, rfl⟩
  | skip h1 h2 h3 => exact absurd h1 hp
  | take h1 h2 h3 h4 h5 => exact absurd h1 hp
theorem nat_tdiv {c p : Nat} : ((c : Int)).tdiv (p : Int) = ((c / p : Nat) : Int) := by
  rw [Int.tdiv_eq_ediv_of_nonneg (Int.natCast_nonneg _), Int.natCast_ediv]
theorem nat_tmod {c p : Nat} : ((c : Int)).tmod (p : Int) = ((c % p : Nat) : Int) := by
  rw [Int.tmod_eq_emod_of_nonneg (Int.natCast_nonneg _), Int.natCast_emod]
theorem pow_step {c p k r : Nat} (hp : 0 < p) (h : c = p ^ (k + 1) * r) : c % p = 0 ∧ c / p = p ^ k * r := by
  have : c = p * (p ^ k * r) := by rw [h, Nat.pow_succ, Nat.mul_comm (p ^ k) p, Nat.mul_assoc]
  exact ⟨by rw [this]; exact Nat.mul_mod_right _ _, by rw [this]; exact Nat.mul_div_cancel_left _ hp⟩
/-- All of l; a beginning of l. -/
structure AllOf (l xs : List (Nat × Nat)) : Prop where
  eq : xs = l
structure PreOf (l pre : List (Nat × Nat)) : Prop where
  ex : ∃ suf, l = pre ++ suf
set_option maxRecDepth 100000 in
set_option maxHeartbeats 4000000 in
/-- What the iterator of the primes of n yields. -/
theorem primes1_any (n : Int) (b : Nat) (l : List (Nat × Nat)) (w : World) (hl : Pf 2 n.natAbs l) (h0 : n ≠ 0) (hn : -1000000 ≤ n ∧ n ≤ 1000000) (hb : b < w.heap.size) (hc : w.cell? ⟨b, 0, none⟩ = some (.int .i64 n)) :
    Iter Tryz.prog 67 #[.pointer (some ⟨b, 0, none⟩)] 0 (fun _ (x : Nat × Nat) => #[.int .i64 (x.1 : Nat), .int .i64 (x.2 : Nat)]) (fun _ pre x _ => ∃ suf, l = pre ++ x :: suf) (fun _ _ _ => True) (AllOf l) (PreOf l) w := by
  intro L J Jx W hW hJ hJx hY hJ0
  have hc' := (hW.cell (p := ⟨b, 0, none⟩) hb).trans hc
  have HAB := Kept.mk (fun W => abs_any n W (by omega))
  obtain ⟨m, hm⟩ : ∃ m, n.natAbs = m := ⟨_, rfl⟩
  rw [hm] at hl HAB
  have hm1 : 1 ≤ m := by omega
  have hm2 : m ≤ 1000000 := by omega
  have HL : Kept (Pf 2 m l) := ⟨hl⟩
  clear hm hl hJ hJx
  refine (callsIn_wide (n := 1)).1 ?_
  refine callsIn_of_wp Tryz.func67 rfl trivial ?_ rfl
  simp only [Tryz.ntmps67, List.size_toArray, List.length_cons, List.length_nil, Nat.reduceAdd, Nat.reduceSub, Array.replicate_succ, Array.replicate_zero, List.push_toArray, List.append_toArray, List.nil_append, List.cons_append]
  gi_wp2
  refine ⟨trivial, (callsIn_wide (n := 0)).2 ((HAB.out _).mono ?_)⟩
  rintro e w1 ⟨rfl, rfl⟩
  gi_wp2
  gi_loopw [3, 4] (fun rv pv wr => ∃ (rest p : Nat) (pre suf : List (Nat × Nat)), rv = .int .i64 rest ∧ pv = .int .i64 p ∧ 2 ≤ p ∧ p ≤ 1001 ∧ 1 ≤ rest ∧ rest ≤ 1000000 ∧ Kept (l = pre ++ suf ∧ Pf p rest suf) ∧ J pre wr) (fun _ pv _ => 1002 - (intOf pv).toNat)
  case atStart => exact ⟨m, 2, [], l, rfl, rfl, by omega, by omega, hm1, hm2, ⟨by simp, HL.out⟩, hJ0⟩
  case round =>
    obtain ⟨rest, p, pre, suf, rfl, rfl, hp2, hp1, hr1, hr2, hat, hJs⟩ := hrel
    obtain ⟨q, hq⟩ : ∃ q, p * p = q := ⟨_, rfl⟩
    have hqb : q ≤ 1001 * 1001 := by rw [← hq]; exact Nat.mul_le_mul hp1 hp1
    have w1' : IntKind.i64.wrap ((p : Int) * p) = q := by rw [← Int.natCast_mul, hq]; exact wrapB (by omega) (by omega)
    by_cases hlt : q ≤ rest
    · have hp3 : p ≤ 1000 := by
        apply Classical.byContradiction
        intro hc
        have : 1001 * 1001 ≤ p * p := Nat.mul_le_mul (by omega) (by omega)
        omega
      obtain ⟨e, r, l', hre, hrp, hpf, hcs⟩ := hat.out.2.inv (by rw [hq]; exact hlt)
      have hlt' : (q : Int) ≤ (rest : Int) := by omega
      have hr0 : 1 ≤ r := by
        apply Classical.byContradiction
        intro hc
        have : r = 0 := by omega
        rw [this] at hre
        simp at hre
        omega
      have hrr : r ≤ rest := by rw [hre]; exact Nat.le_mul_of_pos_left _ (Nat.pow_pos (by omega))
      have he40 : e ≤ 40 := exp_le (n := rest) (by
        have h1 : 2 ^ e ≤ p ^ e := Nat.pow_le_pow_left hp2 e
        have h2 : p ^ e ≤ p ^ e * r := Nat.le_mul_of_pos_right _ hr0
        omega) (by omega)
      have hpz : ¬ ((p : Int) = 0) := by omega
      have HPF := Kept.mk (And.intro hpf hcs)
      have HCU : Kept (rest = p ^ e * r ∧ r % p ≠ 0) := ⟨hre, hrp⟩
      clear hq hre hrp hpf hcs
      gi_wp2
      gi_loopw [3, 5] (fun cv iv W2 => ∃ (c i k : Nat), cv = .int .i64 c ∧ iv = .int .i64 i ∧ i + k = e ∧ 1 ≤ c ∧ c ≤ 1000000 ∧ Kept (c = p ^ k * r ∧ r % p ≠ 0) ∧ W2 = wr) (fun cv _ _ => (intOf cv).toNat)
      case atStart => exact ⟨rest, 0, e, rfl, rfl, by omega, hr1, hr2, HCU, rfl⟩
      case round =>
        obtain ⟨c, i, k, rfl, rfl, hik, hc1, hc2, hcc, rfl⟩ := hrel
        obtain ⟨hc3, hc4⟩ := hcc.out
        cases k with
        | succ k =>
          obtain ⟨hd1, hd2⟩ := pow_step (by omega) hc3
          have hdv : c / p < c := Nat.div_lt_self (by omega) (by omega)
          have hdp : 1 ≤ c / p := by rw [hd2]; exact Nat.mul_pos (Nat.pow_pos (by omega)) hr0
          have e1 : ((c : Int)).tmod (p : Int) = 0 := by rw [nat_tmod, hd1]; rfl
          obtain ⟨d, hdd⟩ : ∃ d, c / p = d := ⟨_, rfl⟩
          have e2 : ((c : Int)).tdiv (p : Int) = d := by rw [nat_tdiv, hdd]
          have HC2 : Kept (d = p ^ k * r ∧ r % p ≠ 0) := ⟨by rw [← hdd]; exact hd2, hc4⟩
          rw [hdd] at hdv hdp
          have e3 : (c : Int) % (p : Int) = 0 := by rw [← Int.natCast_emod, hd1]; rfl
          have e4 : (c : Int) / (p : Int) = d := by rw [← Int.natCast_ediv, hdd]
          clear hcc hc3 hc4 hd1 hd2 hdd
          gi_wp2
          go_roundw
          case rel => exact ⟨d, i + 1, k, rfl, by go_num, by omega, hdp, by omega, HC2, trivial⟩
          case measure => simp [intOf] <;> omega
        | zero =>
          obtain rfl : i = e := by omega
          have hcr : c = r := by rw [hc3]; simp
          subst hcr
          have e1 : ¬ ((c : Int)).tmod (p : Int) = 0 := by rw [nat_tmod]; omega
          have e2 : (((c : Int)).tmod (p : Int) == 0) = false := beq_eq_false_iff_ne.2 e1
          have e3 : ¬ (c : Int) % (p : Int) = 0 := by rw [← Int.natCast_emod]; omega
          have e4 : ((c : Int) % (p : Int) == 0) = false := beq_eq_false_iff_ne.2 e3
          clear hcc hc3 hc4
          by_cases hi : 1 ≤ i
          · obtain ⟨hpf, hcs⟩ := HPF.out
            have hsf : suf = (p, i) :: l' := by
              rcases hcs with ⟨h1, _⟩ | ⟨_, h2⟩
              · omega
              · exact h2
            obtain ⟨fn, tmps, assign, body, hy, hR⟩ := hY pre (p, i) wr hJs ⟨l', by rw [hat.out.1, hsf]⟩
            dsimp only at hy
            have HAT : Kept (l = (pre ++ [(p, i)]) ++ l' ∧ Pf (p + 1) c l') := ⟨by rw [hat.out.1, hsf]; simp, hpf⟩
            have hi0 : (i : Int) > 0 := by omega
            clear hpf hcs hsf HPF
            gi_wp2
            refine hR.mono ?_
            rintro e' W3 (⟨rfl, hJ3, hk3⟩ | ⟨rfl, hJx3⟩)
            · gi_wp2
              go_roundw
              case rel => exact ⟨c, p + 1, _, l', rfl, by go_num, by omega, by omega, hr0, by omega, HAT, hJ3⟩
              case measure => simp [intOf] <;> omega
            · gi_wp2
              refine bodyPost_ret (results_none rfl _ _ _) rfl ?_
              exact ⟨⟨_, rfl⟩, .inr ⟨_, ⟨⟨l', HAT.out.1⟩⟩, hJx3⟩⟩
          · obtain ⟨hpf, hcs⟩ := HPF.out
            have hsf : suf = l' := by
              rcases hcs with ⟨_, h1⟩ | ⟨h2, _⟩
              · exact h1
              · omega
            have HAT : Kept (l = pre ++ l' ∧ Pf (p + 1) c l') := ⟨by rw [hat.out.1, hsf], hpf⟩
            have hi0 : i = 0 := by omega
            subst hi0
            clear hpf hcs hsf HPF
            gi_wp2
            refine ⟨fun f hf => (by cases hf), ?_⟩
            gi_wp2
            go_roundw
            case rel => exact ⟨c, p + 1, _, l', rfl, by go_num, by omega, by omega, hr0, by omega, HAT, hJs⟩
            case measure => simp [intOf] <;> omega
    · have hlt' : ¬ (q : Int) ≤ (rest : Int) := by omega
      rcases hat.out.2.stop (by rw [hq]; exact hlt) with ⟨h1, h2⟩ | ⟨h1, h2⟩
      · obtain rfl : rest = 1 := by omega
        have HE : Kept (pre = l) := ⟨by rw [hat.out.1, h2, List.append_nil]⟩
        clear hq
        gi_wp2
        go_end0
        exact ⟨⟨_, rfl⟩, .inl ⟨_, ⟨HE.out⟩, hJs⟩⟩
      · have h1' : (rest : Int) > 1 := by omega
        obtain ⟨fn, tmps, assign, body, hy, hR⟩ := hY pre (rest, 1) wr hJs ⟨[], by rw [hat.out.1, h2]⟩
        have HE : Kept (pre ++ [(rest, 1)] = l) := ⟨by rw [hat.out.1, h2]⟩
        dsimp only at hy
        rw [show ((1 : Nat) : Int) = 1 from rfl] at hy
        clear hq
        gi_wp2
        refine hR.mono ?_
        rintro e' W3 (⟨rfl, hJ3, hk3⟩ | ⟨rfl, hJx3⟩)
        · gi_wp2
          go_end0
          exact ⟨⟨_, rfl⟩, .inl ⟨_, ⟨HE.out⟩, hJ3⟩⟩
        · gi_wp2
          go_end0
          exact ⟨⟨_, rfl⟩, .inr ⟨_, ⟨⟨[], by rw [HE.out, List.append_nil]⟩⟩, hJx3⟩⟩
end Go.Proofs.YtalahdkhglagpaaGreatDoor
