import Derived.Test.YtfhhnfpapgfnmaaDnb
set_option linter.unusedVariables false
set_option linter.unusedSimpArgs false
namespace Go.Proofs.Ytfhhnfpapgfnmaa
open Go Go.RowKit Go.Deep
open FFld (ints)
/-- The numbers are n elements. -/
def VecB (D : FFld.FD) (n : Nat) (xs : List Int) : Prop := xs.length = n ∧ elsB D xs = true
set_option maxRecDepth 20000 in
set_option maxHeartbeats 4000000 in
theorem fdenies_false {D : FFld.FD} {b : Nat} (rows : List (List Nat)) (ao : Option Addr) (cap : Nat) (vb vw : Value) (bl ul : List Int) (wd n : Nat) (w : World) (hf : FldB D w b) (h : Sls w ao (rows.map ints)) (hcap : n ≤ cap) (hmax : cap ≤ maxLen) (hb : Sl .i64 w vb bl) (hu : Sl .i64 w vw ul) (hN : rows.length = n) (hn : n ≤ 64) (hw : FFld.Wfm D wd rows) (hwd : wd ≤ 64) (h0 : n = 0 → wd = 0) (hg : ¬ (VecB D n bl ∧ VecB D n ul)) :
    Calls Try.prog 48 #[.pointer (some ⟨b, 0, none⟩), .slice ao n cap, vb, vw] w (RB w (.bool false)) := by
  obtain ⟨au, cu, hvu, hcu, hmu⟩ := hu.form
  subst hvu
  have hm0 := mErr_ok (D := D) hw hN hn hwd
  have hlen : (rows.map ints).length = n := by rw [List.length_map]; exact hN
  have hqp := qErr_parts (D := D) (rows := rows.map ints) (bl := bl)
  by_cases hv : VecB D n bl
  · have hq : qErr D (rows.map ints) bl = 0 := hqp.2.2.2 hm0 (by rw [hlen]; exact hv.1) hv.2
    have HC := Kept.mk (checkEquations_any (rows.map ints) ao cap vb bl w hf h (by rw [hlen]; exact hcap) hmax hb)
    rw [hq, hlen] at HC
    have HA := Kept.mk (areElements_any _ ul w hf hu)
    obtain ⟨nu, hnu⟩ : ∃ nu, ul.length = nu := ⟨_, rfl⟩
    rw [hnu] at HA ⊢
    have HG : Kept (nu = n → elsB D ul = false) := ⟨fun e => by
      cases hb : elsB D ul with
      | false => rfl
      | true => exact absurd ⟨hv, hnu.trans e, hb⟩ hg⟩
    unfold maxLen at hmax hmu
    clear hqp hq hm0 hlen hf h hb hu hN hw hv hg hnu hcu
    by_cases he : nu = n
    · subst he
      have hel := HG.out rfl
      rw [hel] at HA
      have enn : ((nu : Int) == (nu : Int)) = true := by simp
      clear hel
      go_enter Try.func48, Try.ntmps48
      go_wp2_with fail
      refine HC.out.mono ?_
      rintro e w2 ⟨rfl, rfl⟩
      go_wp2_with fail
      refine HA.out.mono ?_
      rintro e w2 ⟨rfl, rfl⟩
      go_wp2
      go_ret
      exact ⟨Below.refl _ _, rfl⟩
    · have enn : ((nu : Int) == (n : Int)) = false := by rw [beq_eq_false_iff_ne]; omega
      have enn2 : ((nu : Int) != (n : Int)) = true := by rw [bne_iff_ne]; omega
      clear he
      go_enter Try.func48, Try.ntmps48
      go_wp2_with fail
      refine HC.out.mono ?_
      rintro e w2 ⟨rfl, rfl⟩
      go_wp2
      go_ret
      exact ⟨Below.refl _ _, rfl⟩
  · have hq : qErr D (rows.map ints) bl ≠ 0 := fun e => hv (by
      unfold qErr at e
      rw [if_pos hm0, hlen] at e
      by_cases e1 : bl.length = n
      · rw [if_pos e1] at e
        by_cases e2 : elsB D bl = true
        · exact ⟨e1, e2⟩
        · rw [if_neg e2] at e; cases e
      · rw [if_neg e1] at e; cases e)
    have := fdenies_bad (rows.map ints) ao cap vb bl au ul.length cu w hf h (by rw [hlen]; exact hcap) hmax hb hq
    rw [hlen] at this
    exact this.mono fun e w' ⟨h1, h2⟩ => ⟨h1 ▸ Below.refl _ _, h2⟩
set_option maxRecDepth 20000 in
set_option maxHeartbeats 4000000 in
theorem rdenies_false {D : FFld.FD} (rows : List (List Nat)) (ao : Option Addr) (cap : Nat) (vb vw : Value) (bl ul : List Int) (wd n : Nat) (w : World) (h : Sls w ao (rows.map ints)) (hcap : n ≤ cap) (hmax : cap ≤ maxLen) (hb : Sl .i64 w vb bl) (hu : Sl .i64 w vw ul) (hN : rows.length = n) (hn : n ≤ 64) (hw : FFld.Wfm D wd rows) (hwd : wd ≤ 64) (h0 : n = 0 → wd = 0) (hg : ¬ (VecB D n bl ∧ VecB D n ul)) :
    Calls Try.prog 80 #[rfv D.q D.p D.k D.m, .slice ao n cap, vb, vw] w (RB w (.bool false)) := by
  have HX0 : Kept (Bxs w [rbox D.q D.p D.k D.m] (w.alloc (rbox D.q D.p D.k D.m))) := ⟨(Bxs.start w).alloc (by simp) _⟩
  obtain ⟨c0, c1, c2, c3⟩ := four_cells HX0.out.b0
  obtain ⟨au, cu, hvu, hcu, hmu⟩ := hu.form
  subst hvu
  obtain ⟨ab, cb, hvb, hcb, hmb⟩ := hb.form
  subst hvb
  have hm0 := mErr_ok (D := D) hw hN hn hwd
  have hlen : (rows.map ints).length = n := by rw [List.length_map]; exact hN
  have HSH := Kept.mk (fun W (hW : Below w.heap.size w W) => rshape_any D ao (rows.map ints) cap W (by rw [hlen]; exact hcap) hmax (h.below hW))
  rw [hm0, hlen] at HSH
  have HEB := Kept.mk (fun W (hW : Below w.heap.size w W) => relements_any D _ bl W (hb.below hW))
  have HEU := Kept.mk (fun W (hW : Below w.heap.size w W) => relements_any D _ ul W (hu.below hW))
  obtain ⟨nu, hnu⟩ : ∃ nu, ul.length = nu := ⟨_, rfl⟩
  obtain ⟨nb, hnb⟩ : ∃ nb, bl.length = nb := ⟨_, rfl⟩
  obtain ⟨tb, htb⟩ : ∃ t, elsB D bl = t := ⟨_, rfl⟩
  obtain ⟨tu, htu⟩ : ∃ t, elsB D ul = t := ⟨_, rfl⟩
  have hgg : ¬ (nb = n ∧ tb = true ∧ nu = n ∧ tu = true) := fun ⟨e1, e2, e3, e4⟩ => hg ⟨⟨hnb.trans e1, htb.trans e2⟩, hnu.trans e3, htu.trans e4⟩
  rw [hnb, htb] at HEB
  rw [hnu, htu] at HEU
  rw [hnb, hnu]
  unfold maxLen at hmax hmu hmb
  clear hm0 hlen h hb hu hN hw hg hnu hnb htb htu hcu hcb
  have ez : (((0 : Nat) : Int) == 0) = true := rfl
  by_cases h1 : nb = n
  · subst h1
    have enb : ((nb : Int) == (nb : Int)) = true := by simp
    cases tb with
    | false =>
      clear hgg
      go_enter Try.func80, Try.ntmps80
      go_wp2_with fail
      refine (HSH.out _ HX0.out.1).mono ?_
      rintro e w2 ⟨hb2, rfl⟩
      have HX2 := Kept.mk (HX0.out.below hb2)
      clear hb2 c0 c1 c2 c3
      obtain ⟨c0, c1, c2, c3⟩ := four_cells HX2.out.b0
      go_wp2_with fail
      refine (HEB.out _ HX2.out.1).mono ?_
      rintro e w3 ⟨hb3, rfl⟩
      have HX3 := Kept.mk (HX2.out.below hb3)
      clear hb3
      go_wp2
      go_ret
      exact ⟨HX3.out.1, rfl⟩
    | true =>
      by_cases h2 : nu = nb
      · subst h2
        obtain rfl : tu = false := by
          cases tu with
          | false => rfl
          | true => exact absurd ⟨rfl, rfl, rfl, rfl⟩ hgg
        clear hgg
        go_enter Try.func80, Try.ntmps80
        go_wp2_with fail
        refine (HSH.out _ HX0.out.1).mono ?_
        rintro e w2 ⟨hb2, rfl⟩
        have HX2 := Kept.mk (HX0.out.below hb2)
        clear hb2 c0 c1 c2 c3
        obtain ⟨c0, c1, c2, c3⟩ := four_cells HX2.out.b0
        go_wp2_with fail
        refine (HEB.out _ HX2.out.1).mono ?_
        rintro e w3 ⟨hb3, rfl⟩
        have HX3 := Kept.mk (HX2.out.below hb3)
        clear hb3 c0 c1 c2 c3
        obtain ⟨c0, c1, c2, c3⟩ := four_cells HX3.out.b0
        go_wp2_with fail
        refine (HEU.out _ HX3.out.1).mono ?_
        rintro e w4 ⟨hb4, rfl⟩
        have HX4 := Kept.mk (HX3.out.below hb4)
        clear hb4
        go_wp2
        go_ret
        exact ⟨HX4.out.1, rfl⟩
      · have enu : ((nu : Int) == (nb : Int)) = false := by rw [beq_eq_false_iff_ne]; omega
        have enu2 : ((nu : Int) != (nb : Int)) = true := by rw [bne_iff_ne]; omega
        clear h2 hgg
        go_enter Try.func80, Try.ntmps80
        go_wp2_with fail
        refine (HSH.out _ HX0.out.1).mono ?_
        rintro e w2 ⟨hb2, rfl⟩
        have HX2 := Kept.mk (HX0.out.below hb2)
        clear hb2 c0 c1 c2 c3
        obtain ⟨c0, c1, c2, c3⟩ := four_cells HX2.out.b0
        go_wp2_with fail
        refine (HEB.out _ HX2.out.1).mono ?_
        rintro e w3 ⟨hb3, rfl⟩
        have HX3 := Kept.mk (HX2.out.below hb3)
        clear hb3
        go_wp2
        go_ret
        exact ⟨HX3.out.1, rfl⟩
  · have enb : ((nb : Int) == (n : Int)) = false := by rw [beq_eq_false_iff_ne]; omega
    have enb2 : ((nb : Int) != (n : Int)) = true := by rw [bne_iff_ne]; omega
    clear h1 hgg
    go_enter Try.func80, Try.ntmps80
    go_wp2_with fail
    refine (HSH.out _ HX0.out.1).mono ?_
    rintro e w2 ⟨hb2, rfl⟩
    have HX2 := Kept.mk (HX0.out.below hb2)
    clear hb2
    go_wp2
    go_ret
    exact ⟨HX2.out.1, rfl⟩
/-- Both answer the same. -/
theorem denies_same {D : FFld.FD} {b : Nat} (hD : D.Ok) (rows : List (List Nat)) (ao : Option Addr) (cap : Nat) (vb vw : Value) (bl ul : List Int) (wd n : Nat) (w : World) (h : Sls w ao (rows.map ints)) (hcap : n ≤ cap) (hmax : cap ≤ maxLen) (hb : Sl .i64 w vb bl) (hu : Sl .i64 w vw ul) (hN : rows.length = n) (hn : n ≤ 64) (hw : FFld.Wfm D wd rows) (hwd : wd ≤ 64) (h0 : n = 0 → wd = 0) :
    ∃ t : Bool, (∀ W, Below w.heap.size w W → FldB D W b → Calls Try.prog 48 #[.pointer (some ⟨b, 0, none⟩), .slice ao n cap, vb, vw] W (RB W (.bool t))) ∧ (∀ W, Below w.heap.size w W → Calls Try.prog 80 #[rfv D.q D.p D.k D.m, .slice ao n cap, vb, vw] W (RB W (.bool t))) := by
  by_cases hg : VecB D n bl ∧ VecB D n ul
  · obtain ⟨⟨e1, e2⟩, e3, e4⟩ := hg
    obtain ⟨f1, f2⟩ := els_nat e2
    obtain ⟨f3, f4⟩ := els_nat e4
    obtain ⟨bn, hbn⟩ : ∃ l, bl.map Int.toNat = l := ⟨_, rfl⟩
    obtain ⟨un, hun⟩ : ∃ l, ul.map Int.toNat = l := ⟨_, rfl⟩
    have g1 : bn.length = n := by rw [← hbn, List.length_map]; exact e1
    have g2 : un.length = n := by rw [← hun, List.length_map]; exact e3
    rw [hbn] at f1 f2
    rw [hun] at f3 f4
    rw [f1] at hb
    rw [f3] at hu
    exact ⟨dnB D rows un bn wd n, fun W hW hf => fdenies_good hD rows ao cap vb vw bn un wd n W hf (h.below hW) hcap hmax (hb.below hW) (hu.below hW) hN hn hw hwd h0 g1 f2 g2 f4,
      fun W hW => rdenies_good hD rows ao cap vb vw bn un wd n W (h.below hW) hcap hmax (hb.below hW) (hu.below hW) hN hn hw hwd h0 g1 f2 g2 f4⟩
  · exact ⟨false, fun W hW hf => fdenies_false rows ao cap vb vw bl ul wd n W hf (h.below hW) hcap hmax (hb.below hW) (hu.below hW) hN hn hw hwd h0 hg,
      fun W hW => rdenies_false rows ao cap vb vw bl ul wd n W (h.below hW) hcap hmax (hb.below hW) (hu.below hW) hN hn hw hwd h0 hg⟩
end Go.Proofs.Ytfhhnfpapgfnmaa
