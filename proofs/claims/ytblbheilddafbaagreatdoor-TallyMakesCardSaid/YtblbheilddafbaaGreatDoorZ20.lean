/-
  Texts of the proof, merged by program: Awq.
-/
import Derived.Test.YtblbheilddafbaaGreatDoorZ19
import Derived.Deep.DeepCutAuto
set_option linter.unusedVariables false
set_option linter.unusedSimpArgs false
namespace Go.Proofs.YtblbheilddafbaaGreatDoor
open Go Go.RowKit
theorem small_word {n : Int} (h : n < 18446744073709551616) : smallB n = true := by
  have h2 : (2 : Int) ^ 64 ≤ 2 ^ maxBits := Dg.pow_mono (by omega) (by unfold maxBits; omega)
  have h3 : (2 : Int) ^ 64 = 18446744073709551616 := rfl
  exact decide_eq_true (by omega)
theorem smR_word {p q : Int} (h : (p.natAbs : Int) < 18446744073709551616) (h2 : q < 18446744073709551616) : smR p q = true := by
  unfold smR
  rw [small_word h, small_word (by split <;> omega)]
  rfl
/-- Parse at the canonical form of a small number. -/
theorem parse_ok (z : Int) (hz : smallB z.natAbs = true) (s : ByteArray) (hs : s.data.toList = Dg.decZ z) (w : World) (hl : s.size ≤ 140737488355328) :
    Calls Tryz.prog 19 #[.string s] w fun e w' => Below w.heap.size w w' ∧ ∃ v', e = .returned (.tuple #[v', .int .i64 0]) ∧ IntV 40000 w' v' z :=
  (parse_any s w hl).mono fun e w' ⟨h1, h2⟩ => ⟨h1, by
    rcases h2 with ⟨z', v', e1, _, e2, h⟩ | ⟨z', e1, h, _⟩ | ⟨h, _⟩
    · rw [hs] at e1
      rw [Dg.decZ_inj e1]
      exact ⟨v', e2, h⟩
    · rw [hs] at e1
      rw [← Dg.decZ_inj e1, hz] at h
      cases h
    · exact absurd hs (h z)⟩
theorem parseRat_ok (p q : Int) (hl : Low p q) (hz : smR p q = true) (s : ByteArray) (hs : s.data.toList = decR p q) (w : World) (hsz : s.size ≤ 67108864) :
    Calls Tryz.prog 55 #[.string s] w fun e w' => Below w.heap.size w w' ∧ ∃ v', e = .returned (.tuple #[v', .int .i64 0]) ∧ RatV (s.size + 40000) w' v' p q :=
  (parseRat_any s w (Nat.le_trans hsz (by decide))).mono fun e w' ⟨h1, h2⟩ => ⟨h1, by
    rcases h2 with ⟨p', q', v', e1, hl', _, e2, h⟩ | ⟨p', q', e1, hl', h, _⟩ | ⟨h, _⟩
    · rw [hs] at e1
      obtain ⟨a, b⟩ := decR_inj hl.1 hl'.1 e1
      rw [a, b]
      exact ⟨v', e2, h⟩
    · rw [hs] at e1
      obtain ⟨a, b⟩ := decR_inj hl.1 hl'.1 e1
      rw [← a, ← b, hz] at h
      cases h
    · exact absurd hs (h p q hl)⟩
theorem Bxs.more {w0 W : World} {os : List Obj} (h : Bxs w0 os W) (o : Obj) : Bxs w0 os (W.alloc o) := h.below ((Below.refl _ _).alloc (Nat.le_refl _) _)
theorem IntV.more {L : Nat} {W : World} {v : Value} {z : Int} (h : IntV L W v z) (o : Obj) : IntV L (W.alloc o) v z := h.below ((Below.refl _ _).alloc (Nat.le_refl _) _)
/-- Block g is an integer's box that holds nothing yet. -/
def Zb (W : World) (g : Nat) : Prop := W.heap[g]? = some (.cells #[.bool false, .slice none 0 0] 30 (0, 0))
theorem Zb.lt {W : World} {g : Nat} (h : Zb W g) : g < W.heap.size := (Array.getElem?_eq_some_iff.1 h).1
theorem Zb.more {W : World} {g : Nat} (h : Zb W g) (o : Obj) : Zb (W.alloc o) g := (heap_alloc_old W o h.lt).trans h
theorem Zb.drw {W : World} {g : Nat} (h : Zb W g) : Zb W.drew g := h
theorem Zb.below {W W' : World} {g : Nat} (h : Zb W g) (hb : Below W.heap.size W W') : Zb W' g := (hb.block g h.lt).trans h
theorem Zb.new (W : World) (n : Nat) (h : W.heap.size = n) : Zb (W.alloc (.cells #[.bool false, .slice none 0 0] 30)) n := heap_last W _ n h
theorem Zb.cells {W : World} {g : Nat} (h : Zb W g) : W.cell? ⟨g, 0, none⟩ = some (.bool false) ∧ W.cell? ⟨g, 1, none⟩ = some (.slice none 0 0) ∧ W.frozen? ⟨g, 0, none⟩ = false ∧ W.frozen? ⟨g, 1, none⟩ = false := two_cells h
/-- Block g holds these two cells. -/
def Hb (W : World) (g : Nat) (x y : Value) : Prop := W.heap[g]? = some (.cells #[x, y] 30 (0, 0))
theorem Zb.hb {W : World} {g : Nat} (h : Zb W g) : Hb W g (.bool false) (.slice none 0 0) := h
theorem Hb.more {W : World} {g : Nat} {x y : Value} (h : Hb W g x y) (o : Obj) : Hb (W.alloc o) g x y := (heap_alloc_old W o (Array.getElem?_eq_some_iff.1 h).1).trans h
theorem Hb.new (W : World) (n : Nat) (x y : Value) (h : W.heap.size = n) : Hb (W.alloc (.cells #[x, y] 30)) n x y := heap_last W _ n h
theorem Hb.two {W : World} {g : Nat} (h : Hb W g (.bool false) (.slice none 0 0)) (u v : Value) : Hb ((W.setCell ⟨g, 0, none⟩ u).setCell ⟨g, 1, none⟩ v) g u v := two_set h u v
theorem Hb.other {W : World} {g g' : Nat} {x y : Value} (h : Hb W g x y) (hne : ¬ g = g') (u v : Value) : Hb ((W.setCell ⟨g', 0, none⟩ u).setCell ⟨g', 1, none⟩ v) g x y := by
  unfold Hb
  rw [heap_setCell_other _ _ _ _ (by simpa using hne), heap_setCell_other _ _ _ _ (by simpa using hne)]
  exact h
/-- W is w3 but for blocks that hold no numbers, and new behind w0. -/
def Okw (w0 w3 W : World) : Prop := Below w0.heap.size w0 W ∧ ∀ L v n, Num L w3 v n → Num L W v n
theorem Okw.start {w0 w3 : World} (h : Below w0.heap.size w0 w3) : Okw w0 w3 w3 := ⟨h, fun _ _ _ h => h⟩
theorem Okw.alloc {w0 w3 W : World} (h : Okw w0 w3 W) (o : Obj) : Okw w0 w3 (W.alloc o) := ⟨h.1.alloc h.1.size _, fun L v n hn => (h.2 L v n hn).below ((Below.refl _ _).alloc (Nat.le_refl _) _)⟩
theorem Okw.set {w0 w3 W : World} {g : Nat} (h : Okw w0 w3 W) (hg : Hb W g (.bool false) (.slice none 0 0)) (hle : w0.heap.size ≤ g) (u v : Value) : Okw w0 w3 ((W.setCell ⟨g, 0, none⟩ u).setCell ⟨g, 1, none⟩ v) :=
  ⟨(h.1.setCell (p := ⟨g, 0, none⟩) hle _).setCell (p := ⟨g, 1, none⟩) hle _, fun L v' n hn => (h.2 L v' n hn).box hg u v⟩
theorem Okw.num {w0 w3 W : World} (h : Okw w0 w3 W) {L : Nat} {v : Value} {n : Int} (hn : Num L w3 v n) : Num L W v n := h.2 L v n hn
theorem Okw.bel {w0 w3 W : World} (h : Okw w0 w3 W) : Below w0.heap.size w0 W := h.1
/-- Block g holds the integer z. -/
def BoxI (L : Nat) (W : World) (g : Nat) (z : Int) : Prop := ∃ s ao k c, Hb W g (.bool s) (.slice ao k c) ∧ IntV L W (.agg #[.bool s, .slice ao k c]) z
set_option maxRecDepth 20000 in
set_option maxHeartbeats 4000000 in
theorem awake_any (w : World) : Calls Tryz.prog 21 #[] w (RetV w (.bool true)) := by
  go_enter Tryz.func21, Tryz.ntmps21
  go_wp2_with fail
  refine (parse_ok (-7) (small_word (by decide)) ⟨#[45, 55]⟩ rfl _ (by decide)).mono ?_
  rintro e w1 ⟨hb1, v1, rfl, hI1⟩
  obtain ⟨s1, u1, rfl, hs1, hn1⟩ := hI1
  obtain ⟨o1, k1, c1, rfl⟩ := hn1.form
  have HB1 := Kept.mk hb1
  have HX1 : Hid (Bxs w1 [.cells #[.bool s1, .slice o1 k1 c1] 30] (w1.alloc (.cells #[.bool s1, .slice o1 k1 c1] 30))) := (Bxs.start w1).alloc (by simp) _
  have HI1 : Kept (IntV 40000 w1 (.agg #[.bool s1, .slice o1 k1 c1]) (-7)) := ⟨⟨_, _, rfl, hs1, hn1⟩⟩
  have hid : ∀ W v, IntV 40000 W (.agg #[.bool s1, .slice o1 k1 c1]) (-7) → IntV 1 W v 3 → Calls Tryz.prog 44 #[.agg #[.bool s1, .slice o1 k1 c1], v] W (IdRet 40002 W (-7) 3) := fun W v h h' => idiv_any h h' (by decide) (by decide) (by decide)
  have HID := Kept.mk hid
  clear hb1 hs1 hn1 hid
  go_upto_region 2 with fail
  go_cut [3, 4, 5] (fun p3 p4 s5 wx => ∃ g3 g4 : Nat, p3 = .pointer (some ⟨g3, 0, none⟩) ∧ p4 = .pointer (some ⟨g4, 0, none⟩) ∧ s5 = .int .i64 0 ∧ BoxI 40002 wx g3 (-7 / 3) ∧ BoxI 40002 wx g4 (-7 % 3) ∧ Below w.heap.size w wx)
  case first =>
    go_region_held3 (fun w' => w'.cell? ⟨w1.heap.size, 0, none⟩ = some (.bool s1) ∧ w'.cell? ⟨w1.heap.size, 1, none⟩ = some (.slice o1 k1 c1))
      (first | exact ⟨l0, l1⟩ | exact ⟨k0', k1'⟩ | (refine ⟨?_, ?_⟩ <;> simp [go_sem, l0, l1, n1, n2, n3, n4, m1, m2, m3, m4]; done) | (refine ⟨?_, ?_⟩ <;> simp [go_sem, k0', k1', n1, n2, n3, n4]; done) | (refine ⟨?_, ?_⟩ <;> simp [go_sem]; done) | go_keep)
      ((first
        | (go_at_call 30; refine (of_any 3 _ (by decide) (by decide)).mono ?_; rintro e w2 ⟨hb2, v2, rfl, hI2⟩; have hx2 : Bxs w1 [.cells #[.bool s1, .slice o1 k1 c1] 30] w2 := Bxs.below (by repeat (first | (with_reducible exact HX1.out) | (with_reducible refine Bxs.drew ?_) | (with_reducible refine Bxs.more ?_ _))) hb2; obtain ⟨k0', k1', _⟩ := two_cells hx2.b0; have hl2 := hx2.l1; have n1 : ¬ w1.heap.size = w2.heap.size := (by omega); have n2 : ¬ w2.heap.size = w1.heap.size := (by omega); have n3 : ¬ w1.heap.size = w2.heap.size + 1 := (by omega); have n4 : ¬ w2.heap.size + 1 = w1.heap.size := (by omega); (try ((have za : Zb w2 (w1.heap.size + 1) := ?hzz); (case hzz => ((refine Zb.below ?_ hb2); (repeat (first | (with_reducible assumption) | ((with_reducible refine Zb.new _ _ ?_); simp; done) | (with_reducible refine Zb.drw ?_) | (with_reducible refine Zb.more ?_ _))); done)); obtain ⟨za0, za1, za2, za3⟩ := za.cells; have zal := za.lt)); (try ((have zb : Zb w2 (w1.heap.size + 1 + 1) := ?hzz); (case hzz => ((refine Zb.below ?_ hb2); (repeat (first | (with_reducible assumption) | ((with_reducible refine Zb.new _ _ ?_); simp; done) | (with_reducible refine Zb.drw ?_) | (with_reducible refine Zb.more ?_ _))); done)); obtain ⟨zb0, zb1, zb2, zb3⟩ := zb.cells; have zbl := zb.lt)); clear hb2)
        | (go_at_call 44; (with_reducible refine (HID.out _ _ ?h1 ?h2).mono ?_); (case h1 => exact HI1.out.below (show Bxs w1 [.cells #[.bool s1, .slice o1 k1 c1] 30] _ from (by repeat (first | (with_reducible exact hx2) | (with_reducible refine Bxs.drew ?_) | (with_reducible refine Bxs.more ?_ _)))).1); (case h2 => repeat (first | (with_reducible exact hI2) | (with_reducible refine IntV.more ?_ _))); rintro e w3 ⟨hb3, q3, r3, rfl, hq3, hr3⟩; have hx3 : Bxs w1 [.cells #[.bool s1, .slice o1 k1 c1] 30] w3 := Bxs.below (by repeat (first | (with_reducible exact hx2) | (with_reducible refine Bxs.drew ?_) | (with_reducible refine Bxs.more ?_ _))) hb3; have hl3 := hx3.l1; have hl23 : w2.heap.size ≤ w3.heap.size := (by have := hb3.size; (try simp at this); omega); obtain ⟨l0, l1, _⟩ := two_cells hx3.b0; obtain ⟨sq, uq, rfl, hsq, hnq⟩ := hq3; obtain ⟨oq, kq, cq, rfl⟩ := hnq.form; obtain ⟨sr, ur, rfl, hsr, hnr⟩ := hr3; obtain ⟨or, kr, cr, rfl⟩ := hnr.form; have HSQ := Kept.mk hsq; have HSR := Kept.mk hsr; clear hsq hsr; have m1 : ¬ w1.heap.size = w3.heap.size := (by omega); have m2 : ¬ w3.heap.size = w1.heap.size := (by omega); have m3 : ¬ w1.heap.size = w3.heap.size + 1 := (by omega); have m4 : ¬ w3.heap.size + 1 = w1.heap.size := (by omega); (try ((have zc : Zb w3 (w1.heap.size + 1) := ?hzz); (case hzz => ((refine Zb.below ?_ hb3); (repeat (first | (with_reducible assumption) | ((with_reducible refine Zb.new _ _ ?_); simp; done) | (with_reducible refine Zb.drw ?_) | (with_reducible refine Zb.more ?_ _))); done)); obtain ⟨zc0, zc1, zc2, zc3⟩ := zc.cells; have zcl := zc.lt)); (try ((have zd : Zb w3 (w1.heap.size + 1 + 1) := ?hzz); (case hzz => ((refine Zb.below ?_ hb3); (repeat (first | (with_reducible assumption) | ((with_reducible refine Zb.new _ _ ?_); simp; done) | (with_reducible refine Zb.drw ?_) | (with_reducible refine Zb.more ?_ _))); done)); obtain ⟨zd0, zd1, zd2, zd3⟩ := zd.cells; have zdl := zd.lt)); (try ((have ze : Zb w3 (w2.heap.size) := ?hzz); (case hzz => ((refine Zb.below ?_ hb3); (repeat (first | (with_reducible assumption) | ((with_reducible refine Zb.new _ _ ?_); simp; done) | (with_reducible refine Zb.drw ?_) | (with_reducible refine Zb.more ?_ _))); done)); obtain ⟨ze0, ze1, ze2, ze3⟩ := ze.cells; have zel := ze.lt)); (try ((have zf : Zb w3 (w2.heap.size + 1) := ?hzz); (case hzz => ((refine Zb.below ?_ hb3); (repeat (first | (with_reducible assumption) | ((with_reducible refine Zb.new _ _ ?_); simp; done) | (with_reducible refine Zb.drw ?_) | (with_reducible refine Zb.more ?_ _))); done)); obtain ⟨zf0, zf1, zf2, zf3⟩ := zf.cells; have zfl := zf.lt)); clear hb3 k0' k1'; (try clear za0 za1 za2 za3); (try clear zb0 zb1 zb2 zb3))))
    all_goals
      (go_wp2_with fail
       go_meet
       have hbw : Below w.heap.size w w3 := HB1.out.trans (hx3.1.mono HB1.out.size)
       have hw01 := HB1.out.size
       refine ⟨_, _, rfl, rfl, rfl, ⟨sq, oq, kq, cq, ?_, ⟨_, _, rfl, HSQ.out, Okw.num (w0 := w) ?_ hnq⟩⟩, ⟨sr, or, kr, cr, ?_, ⟨_, _, rfl, HSR.out, Okw.num (w0 := w) ?_ hnr⟩⟩, Okw.bel (w3 := w3) ?_⟩
       all_goals (try (repeat (any_goals (first | (with_reducible exact Okw.start hbw) | (with_reducible refine Okw.alloc ?_ _) | (with_reducible refine Okw.set ?_ ?_ ?_ _ _)))))
       all_goals (first | omega | (repeat (first | ((with_reducible refine Zb.hb ?_); (with_reducible assumption)) | ((with_reducible refine Hb.new _ _ _ _ ?_); simp; done) | (with_reducible refine Hb.two ?_ _ _) | ((with_reducible refine Hb.other ?_ ?hne _ _); (case hne => omega)) | (with_reducible refine Hb.more ?_ _)))))
  case rest =>
    obtain ⟨g3, g4, rfl, rfl, rfl, hq, hr, hbw⟩ := hcut
    obtain ⟨sq, oq, kq, cq, hgq, hiq⟩ := hq
    obtain ⟨sr, or, kr, cr, hgr, hir⟩ := hr
    have HGQ := Kept.mk hgq
    have HIQ := Kept.mk hiq
    have HGR := Kept.mk hgr
    have HIR := Kept.mk hir
    have HBW := Kept.mk hbw
    clear hgq hiq hgr hir hbw HI1 HX1 HID HB1
    go_wp2_with fail
    refine (ratio_any 1 3 _ (by decide) (by decide) (by decide) (by decide)).mono ?_
    rintro e w4 ⟨hb4, v4, err4, rfl, hR4, he4⟩
    have he4' : err4 = 0 := he4
    subst he4'
    have hR4' : RatV 1 w4 v4 1 3 := hR4
    obtain ⟨s4, o4, k4, c4, u4, j4, d4, rfl, hs4, hn4, hu4, hk4⟩ := hR4'.form
    have HR4 := Kept.mk hR4'
    have HB4 := Kept.mk hb4
    have HX4 : Kept (Bxs w4 [.cells #[.bool s4, .slice o4 k4 c4, .slice u4 j4 d4] 76] (w4.alloc (.cells #[.bool s4, .slice o4 k4 c4, .slice u4 j4 d4] 76))) := ⟨(Bxs.start w4).alloc (by simp) _⟩
    clear he4 hR4 hR4' hs4 hn4 hu4 hk4 hb4
    go_wp2_with fail
    refine (parseRat_ok 1 6 ⟨by decide, rfl⟩ (smR_word (by decide) (by decide)) ⟨#[49, 47, 54]⟩ rfl _ (by decide)).mono ?_
    rintro e w5 ⟨hb5, v5, rfl, hR5⟩
    obtain ⟨s5, o5, k5, c5, u5, j5, d5, rfl, hs5, hn5, hu5, hk5⟩ := hR5.form
    have HX5 := Kept.mk (HX4.out.below hb5)
    have HR5 := Kept.mk hR5
    have HX5' : Kept (Bxs w5 [.cells #[.bool s5, .slice o5 k5 c5, .slice u5 j5 d5] 76] (w5.alloc (.cells #[.bool s5, .slice o5 k5 c5, .slice u5 j5 d5] 76))) := ⟨(Bxs.start w5).alloc (by simp) _⟩
    obtain ⟨a0, a1, a2, _⟩ := three_cells HX5.out.b0
    have hl5 := HX5.out.l1
    clear hs5 hn5 hu5 hk5 hR5 hb5
    have hadd : ∀ W, RatV 1 W (.agg #[.bool s4, .slice o4 k4 c4, .slice u4 j4 d4]) 1 3 → RatV 40003 W (.agg #[.bool s5, .slice o5 k5 c5, .slice u5 j5 d5]) 1 6 → Calls Tryz.prog 69 #[.agg #[.bool s4, .slice o4 k4 c4, .slice u4 j4 d4], .agg #[.bool s5, .slice o5 k5 c5, .slice u5 j5 d5]] W (MkRet 40006 W 1 2) := fun W h h' =>
      radd_any h h' (by decide) (by decide) (by decide) (by decide) (smR_word (by decide) (by decide))
    have HADD := Kept.mk hadd
    clear hadd
    go_wp2_with fail
    refine (HADD.out _ (HR4.out.below (HX5.out.1.trans (HX5'.out.1.mono HX5.out.1.size))) (HR5.out.below HX5'.out.1)).mono ?_
    rintro e w6 ⟨hb6, v6, rfl, hR6⟩
    obtain ⟨s6, o6, k6, c6, u6, j6, d6, rfl, hs6, hn6, hu6, hk6⟩ := hR6.form
    have HB6 := Kept.mk (Below.trans (HB4.out.trans (HX5.out.1.mono HB4.out.size)) ((HX5'.out.below hb6).1.mono (Nat.le_trans HB4.out.size HX5.out.1.size)))
    have HR6 := Kept.mk hR6
    have HX6 : Kept (Bxs w6 [.cells #[.bool s6, .slice o6 k6 c6, .slice u6 j6 d6] 76] (w6.alloc (.cells #[.bool s6, .slice o6 k6 c6, .slice u6 j6 d6] 76))) := ⟨(Bxs.start w6).alloc (by simp) _⟩
    have HB6' := Kept.mk (HB6.out.trans (HX6.out.1.mono HB6.out.size))
    clear hs6 hn6 hu6 hk6 hR6 hb6 a0 a1 a2 hl5
    obtain ⟨b0, b1, _⟩ := two_cells ((HB6.out.block _ (Array.getElem?_eq_some_iff.1 HGQ.out).1).trans HGQ.out)
    obtain ⟨b2, b3, _⟩ := two_cells ((HB6.out.block _ (Array.getElem?_eq_some_iff.1 HGR.out).1).trans HGR.out)
    have hl3 : g3 < w6.heap.size := Nat.lt_of_lt_of_le (Array.getElem?_eq_some_iff.1 HGQ.out).1 HB6.out.size
    have hl4 : g4 < w6.heap.size := Nat.lt_of_lt_of_le (Array.getElem?_eq_some_iff.1 HGR.out).1 HB6.out.size
    have t1 : ((⟨#[45, 51]⟩ : ByteArray).toList == [45, 51]) = true := by rw [ByteArray.toList_eq]; rfl
    have t2 : ((⟨#[50]⟩ : ByteArray).toList == [50]) = true := by rw [ByteArray.toList_eq]; rfl
    have t3 : ((⟨#[49, 47, 50]⟩ : ByteArray).toList == [49, 47, 50]) = true := by rw [ByteArray.toList_eq]; rfl
    go_wp2_with fail
    refine (string_any (HIQ.out.below HB6'.out) (by decide)).mono ?_
    rintro e w7 ⟨hb7, he7⟩
    have he7' : e = .returned (.string ⟨#[45, 51]⟩) := he7
    subst he7'
    have HB7 := Kept.mk (HB6'.out.trans (hb7.mono HB6'.out.size))
    have HX7 := Kept.mk (HX6.out.below hb7)
    clear he7 hb7 b0 b1 b2 b3
    obtain ⟨b2, b3, _⟩ := two_cells ((HB7.out.block _ (Array.getElem?_eq_some_iff.1 HGR.out).1).trans HGR.out)
    go_wp2_with fail
    refine (string_any (HIR.out.below HB7.out) (by decide)).mono ?_
    rintro e w8 ⟨hb8, he8⟩
    have he8' : e = .returned (.string ⟨#[50]⟩) := he8
    subst he8'
    have HB8 := Kept.mk (HB7.out.trans (hb8.mono HB7.out.size))
    have HX8 := Kept.mk (HX7.out.below hb8)
    clear he8 hb8 b2 b3
    obtain ⟨a0, a1, a2, _⟩ := three_cells HX8.out.b0
    go_wp2_with fail
    refine (rstring_any (HR6.out.below HX8.out.1) (by decide) (by decide)).mono ?_
    rintro e w9 ⟨hb9, he9⟩
    have he9' : e = .returned (.string ⟨#[49, 47, 50]⟩) := he9
    subst he9'
    have HB9 := Kept.mk (HBW.out.trans ((HB8.out.trans (hb9.mono HB8.out.size)).mono HBW.out.size))
    clear he9 hb9 a0 a1 a2
    go_wp2
    go_ret
    exact ⟨HB9.out, rfl⟩
end Go.Proofs.YtblbheilddafbaaGreatDoor
