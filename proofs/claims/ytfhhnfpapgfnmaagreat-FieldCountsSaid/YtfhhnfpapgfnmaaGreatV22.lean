/-
  Texts of the proof, merged by program: TZpa TAwq TPow TMcut TBin TFac TSiz TWho TRst.
-/
import Derived.Test.YtfhhnfpapgfnmaaGreatV21
import Derived.Test.YtfhhnfpapgfnmaaGreatV20
import Derived.Test.YtfhhnfpapgfnmaaGreatV7
import Derived.Deep.DeepCutAuto
import Derived.Lib.ItoaNum
import Derived.Test.YtfhhnfpapgfnmaaGreatV3
set_option linter.unusedVariables false
set_option linter.unusedSimpArgs false
namespace Go.Proofs.YtfhhnfpapgfnmaaGreat
open Go Go.RowKit
/-- What the reference's Parse returns. -/
def RpaRet (s : List UInt8) (w : World) (e : Ending) (w' : World) : Prop := Below w.heap.size w w' ∧
  ((∃ z v', s = Dg.decZ z ∧ e = .returned (.tuple #[v', .bool true]) ∧ ZV (s.length + 1) w' v' z) ∨ ((∀ z, s ≠ Dg.decZ z) ∧ e = .returned (.tuple #[.agg #[.bool false, .slice none 0 0], .bool false])))
theorem no_dec {s : List UInt8} (h : ∀ neg d, ¬ Dg.Canon s neg d) : ∀ z, s ≠ Dg.decZ z := fun z e => by
  have := Dg.canon_decZ z
  rw [← e] at this
  exact h _ _ this
theorem rpa_no {s : List UInt8} {w W : World} (h : ∀ neg d, ¬ Dg.Canon s neg d) (hb : Below w.heap.size w W) : RpaRet s w (.returned (.tuple #[.agg #[.bool false, .slice none 0 0], .bool false])) W :=
  ⟨hb, .inr ⟨no_dec h, rfl⟩⟩
theorem rpa_yes {s D : List UInt8} {n : Nat} {neg : Bool} {w W : World} {v : Value} (h : Dg.decZ (Dg.ofSign neg (Dg.valD D)) = s) (hn : n ≤ s.length) (hR : RetZ (n + 1) w (sgn neg (Dg.valD D)) (.returned v) W) : RpaRet s w (.returned (.tuple #[v, .bool true])) W := by
  obtain ⟨hb, v', e, hz⟩ := hR
  cases e
  refine ⟨hb, .inl ⟨_, _, h.symm, rfl, ?_⟩⟩
  have e1 : sgn neg (Dg.valD D : Int) = Dg.ofSign neg (Dg.valD D) := by unfold sgn Dg.ofSign; cases neg <;> rfl
  rw [e1] at hz
  exact hz.mono (by omega)
theorem byte_at {D : ByteArray} {k : Nat} (h : k < D.size) : D.data.toList[k]? = some D[k] := by
  have hl : D.data.toList.length = D.size := Array.length_toList
  rw [List.getElem?_eq_getElem (by omega)]
  rfl
theorem head_at {D : ByteArray} (h : 0 < D.size) : ∃ t, D.data.toList = D[0] :: t := by
  have hl : D.data.toList.length = D.size := Array.length_toList
  cases hd : D.data.toList with
  | nil => rw [hd] at hl; simp at hl; omega
  | cons c t =>
    have := byte_at h
    rw [hd] at this
    simp at this
    exact ⟨t, by rw [this]⟩
theorem Cutsign.not48 {s D : List UInt8} {neg : Bool} (h : Dg.Cutsign s neg D) (hc : 1 < D.length ∨ neg = true) : s ≠ [48] := by
  intro e
  rcases h with ⟨rfl, rfl⟩ | ⟨rfl, rfl, _⟩
  · simp at e
  · subst e
    rcases hc with hc | hc <;> simp at hc
theorem Cutsign.is48 {s D : List UInt8} (h : Dg.Cutsign s false D) {c : UInt8} (e : D = [c]) (hc : c.toNat = 48) : s = [48] := by
  rcases h with ⟨h, _⟩ | ⟨_, rfl, _⟩
  · cases h
  · rw [e]
    congr 1
    exact UInt8.toNat_inj.1 (by rw [hc]; rfl)
set_option maxRecDepth 20000 in
set_option maxHeartbeats 4000000 in
theorem rparse_any (s : ByteArray) (w : World) (hs : s.size ≤ 140737488355328) :
    Calls Tryz.prog 11 #[.string s] w (RpaRet s.data.toList w) := by
  have HX0 : TKept (TBxs w [.cells #[.bool false, .slice none 0 0] 38] (w.alloc (.cells #[.bool false, .slice none 0 0] 38))) := ⟨(TBxs.start w).alloc (by simp) _⟩
  have HSL : TKept (s.data.toList.length = s.size) := ⟨Array.length_toList⟩
  by_cases hz : s.size = 0
  · have hne : s.data.toList = [] := List.eq_nil_of_length_eq_zero (by rw [HSL.out]; exact hz)
    have he2 : s.toList = [] := by rw [ByteArray.toList_eq]; exact hne
    have HR := TKept.mk (rpa_no (s := s.data.toList) (fun neg d hc => hc.1.1 (by rcases hc.2 with ⟨_, e⟩ | ⟨_, e, _⟩ <;> rw [hne] at e <;> first | exact e.symm | cases e)) HX0.out.1)
    clear hne
    go_enter Tryz.func11, Tryz.ntmps11
    go_wp2
    exact bodyPost_ret (v := .tuple #[.agg #[.bool false, .slice none 0 0], .bool false]) (by simp [results, Tryz.results11, go_sem]) rfl HR.out
  · have hpos : 0 < s.size := by omega
    by_cases h45 : (s[0].toNat : Int) = 45
    · have t1 : ((s[0].toNat : Int) == 45) = true := by simpa using h45
      obtain ⟨D, hD⟩ : ∃ D, D = s.extract 1 s.size := ⟨_, rfl⟩
      have HC : TKept (Dg.Cutsign s.data.toList true D.data.toList) := ⟨by
        obtain ⟨t, ht⟩ := head_at hpos
        refine .inl ⟨rfl, ?_⟩
        have e1 : D.data.toList = s.data.toList.drop 1 := by rw [hD]; exact Lib.extract_to_end s 1
        rw [e1, ht]
        show s[0] :: t = 45 :: t
        congr 1
        exact UInt8.toNat_inj.1 (by show s[0].toNat = 45; omega)⟩
      have hDs : D.size ≤ s.size := by rw [hD]; simp [ByteArray.size_extract]
      have HDD := TKept.mk hD.symm
      clear hD
      have HDL : TKept (D.data.toList.length = D.size) := ⟨Array.length_toList⟩
      have HSD : TKept (D.size ≤ s.data.toList.length) := ⟨by rw [HSL.out]; exact hDs⟩
      by_cases hd0 : D.size = 0
      · have hne : D.data.toList = [] := List.eq_nil_of_length_eq_zero (by rw [HDL.out]; exact hd0)
        have he2 : D.toList = [] := by rw [ByteArray.toList_eq]; exact hne
        have HR := TKept.mk (rpa_no (HC.out.no1 (by rw [hne]; rfl)) HX0.out.1)
        clear hne
        go_enter Tryz.func11, Tryz.ntmps11
        go_upto_region 4 with fail
        rw [HDD.out]
        go_wp2
        exact bodyPost_ret (v := .tuple #[.agg #[.bool false, .slice none 0 0], .bool false]) (by simp [results, Tryz.results11, go_sem]) rfl HR.out
      · have hdp : 0 < D.size := by omega
        have HNE : TKept (D.data.toList ≠ []) := ⟨fun e => by have := HDL.out; rw [e] at this; simp at this; omega⟩
        have he2 : D.toList.isEmpty = false := by rw [ByteArray.toList_eq]; have := HNE.out; simpa using this
        have he3 : (D.toList == []) = false := by rw [ByteArray.toList_eq]; have := HNE.out; simpa using this
        by_cases hbad : (D[0].toNat : Int) = 48 ∧ (1 < D.size ∨ true = true)
        · have t2 : ((D[0].toNat : Int) == 48) = true := by simpa using hbad.1
          have HR := TKept.mk (rpa_no (by obtain ⟨t, ht⟩ := head_at hdp; exact HC.out.no2 ht (by omega) (Cutsign.not48 HC.out (by rw [HDL.out]; exact hbad.2))) HX0.out.1)
          by_cases h1s : (1 : Int) < D.size
          · clear hbad
            go_enter Tryz.func11, Tryz.ntmps11
            go_upto_region 4 with fail
            rw [HDD.out]
            go_wp2
            exact bodyPost_ret (v := .tuple #[.agg #[.bool false, .slice none 0 0], .bool false]) (by simp [results, Tryz.results11, go_sem]) rfl HR.out
          · clear hbad
            go_enter Tryz.func11, Tryz.ntmps11
            go_upto_region 4 with fail
            rw [HDD.out]
            go_wp2
            exact bodyPost_ret (v := .tuple #[.agg #[.bool false, .slice none 0 0], .bool false]) (by simp [results, Tryz.results11, go_sem]) rfl HR.out
        · have HZ : TKept ((∀ c t, D.data.toList = c :: t → c.toNat ≠ 48) ∨ s.data.toList = [48]) := ⟨by
            obtain ⟨t, ht⟩ := head_at hdp
            by_cases h48 : D[0].toNat = 48
            · refine .inr ?_
              exact absurd (.inr rfl) (fun h => hbad ⟨by omega, h⟩)
            · refine .inl fun c t' e => ?_
              rw [ht] at e
              rw [← (List.cons.inj e).1]
              exact h48⟩
          have t2 : ((D[0].toNat : Int) == 48) = false := by have : ¬ (D[0].toNat : Int) = 48 := fun h => hbad ⟨h, .inr rfl⟩; simpa using this
          clear hbad
          go_enter Tryz.func11, Tryz.ntmps11
          go_upto_region 4 with fail
          rw [HDD.out]
          go_wp2
          go_loopw [5, 6, 7, 8] (fun m u p i wr => ∃ (k : Nat) (iv uv pv : Int) (jj : Nat) (L : List Int), k ≤ D.size ∧ Hid (iv + 1 = k) ∧ i = .int .i64 iv ∧ u = .int .i64 uv ∧ p = .int .i64 pv ∧ 0 ≤ uv ∧ uv < pv ∧ 1 ≤ pv ∧ pv ≤ 100000000 ∧ TKept (RpAt D.data.toList k L uv pv jj) ∧ TKept (Mine 3 .i64 (w.heap.size + 1) wr m L) ∧ TKept (TBxs w [.cells #[.bool false, .slice none 0 0] 38] wr)) (fun _ _ _ i _ => (intOf i + 1).toNat)
          case atStart => exact ⟨D.size, (D.size : Int) - 1, 0, 1, 0, [], Nat.le_refl _, by show _ - (1 : Int) + 1 = _; omega, rfl, rfl, rfl, by omega, by omega, by omega, by omega, ⟨by have := RpAt.start D.data.toList; rw [HDL.out] at this; exact this⟩, ⟨Mine.nil _ _ _ _⟩, ⟨HX0.out⟩⟩
          case round =>
            obtain ⟨k, iv, uv, pv, jj, L, hk, hiv, rfl, rfl, rfl, hu0, hu1, hp0, hp1, hat, hm, hx⟩ := hrel
            by_cases h0 : 0 < k
            · obtain ⟨k, rfl⟩ : ∃ j, k = j + 1 := ⟨k - 1, by omega⟩
              obtain rfl : iv = (k : Int) := by have := hiv.out; omega
              clear hiv
              have hki : k < D.size := by omega
              have hcl : D[k].toNat < 256 := D[k].toNat_lt
              have hby := TKept.mk (byte_at hki)
              have hlk : TKept (k < D.data.toList.length) := ⟨by rw [HDL.out]; exact hki⟩
              by_cases h1 : (D[k].toNat : Int) < 48
              · have hno := TKept.mk (HC.out.no1 (Dg.isNum_no k hlk.out (.inl (by have := hby.out; rw [List.getElem?_eq_getElem hlk.out] at this; rw [Option.some.inj this]; omega))))
                obtain ⟨c0, c1, f0, f1⟩ := ttwo_cells hx.out.b0
                have hsz := hx.out.l1
                have HE := TKept.mk (rint_end (L := 0) (z := 0) (w := w) (s := false) (ao := none) (k := 0) (c := 0) hx.out.b0 hx.out.1 (Nat.le_refl _) rfl ⟨[], Sl.nil _ _, Dg.Wf.nil _, Dg.Nz.nil, rfl, Nat.le_refl _⟩)
                go_wp2
                exact bodyPost_ret (v := .tuple #[.agg #[.bool false, .slice none 0 0], .bool false]) (by simp [results, Tryz.results11, go_sem, HE.out.2.1, HE.out.2.2]) rfl (rpa_no hno.out HE.out.1.1)
              · by_cases h2 : 57 < (D[k].toNat : Int)
                · have hno := TKept.mk (HC.out.no1 (Dg.isNum_no k hlk.out (.inr (by have := hby.out; rw [List.getElem?_eq_getElem hlk.out] at this; rw [Option.some.inj this]; omega))))
                  obtain ⟨c0, c1, f0, f1⟩ := ttwo_cells hx.out.b0
                  have hsz := hx.out.l1
                  have HE := TKept.mk (rint_end (L := 0) (z := 0) (w := w) (s := false) (ao := none) (k := 0) (c := 0) hx.out.b0 hx.out.1 (Nat.le_refl _) rfl ⟨[], Sl.nil _ _, Dg.Wf.nil _, Dg.Nz.nil, rfl, Nat.le_refl _⟩)
                  go_wp2
                  exact bodyPost_ret (v := .tuple #[.agg #[.bool false, .slice none 0 0], .bool false]) (by simp [results, Tryz.results11, go_sem, HE.out.2.1, HE.out.2.2]) rfl (rpa_no hno.out HE.out.1.1)
                · have hs := hat.out.step hby.out (by omega) (by omega)
                  have hst := TKept.mk (hat.out.stay (c := D[k]))
                  have hpu := TKept.mk (hat.out.push (c := D[k]))
                  obtain ⟨hs0, hs1, _⟩ := hs
                  obtain ⟨dg, hdg⟩ : ∃ dg : Int, dg = (D[k].toNat : Int) - 48 := ⟨_, rfl⟩
                  obtain ⟨pm, hpm⟩ : ∃ pm : Int, pm = pv * dg := ⟨_, rfl⟩
                  rw [← hdg, ← hpm] at hs0 hs1
                  have hpm0 : 0 ≤ pm := by rw [hpm]; exact Int.mul_nonneg (by omega) (by omega)
                  have hpm1 : pm ≤ 1000000000 := by omega
                  have hwr : IntKind.u8.wrap ((D[k].toNat : Int) - 48) = dg := by rw [IntKind.wrap_u8]; omega
                  have hdg0 : 0 ≤ dg := by omega
                  have hdg1 : dg ≤ 9 := by omega
                  have hmu : pv * dg = pm := hpm.symm
                  have HU : TKept (uv + pv * ((D[k].toNat : Int) - 48) = uv + pm) := ⟨by rw [← hdg, hmu]⟩
                  by_cases h9 : 10 * pv = 1000000000
                  · obtain rfl : pv = 100000000 := by omega
                    have t9 : ((10 : Int) * 100000000 == 1000000000) = true := rfl
                    have HNX : TKept (RpAt D.data.toList k (L ++ [uv + pm]) 0 1 0) := ⟨by have := hpu.out hby.out (by omega) (by omega) rfl; rw [HU.out] at this; exact this⟩
                    have hlen := hat.out.len
                    rw [HDL.out] at hlen
                    have HMa := Lib.hid (hm.out.alloc (.cells #[.int .i64 (uv + pm)] 3))
                    have HNW := Lib.hid (new_one (K := .i64) (x := uv + pm) (w := wr.alloc (.cells #[.int .i64 (uv + pm)] 3)) (b := wr.heap.size) (o := 0) (by exact (Row.new (E := 3) (K := .i64) wr [uv + pm]).cell (i := 0) (by simp)))
                    have HBB := Lib.hid (show w.heap.size + 1 ≤ (wr.alloc (.cells #[.int .i64 (uv + pm)] 3)).heap.size by have := hx.out.l1; simp; omega)
                    have H1 := Lib.hid (show (L.length + [uv + pm].length) * 8 ≤ 140737488355328 by simp; omega)
                    have H2 := Lib.hid (show L.length + [uv + pm].length ≤ maxLen by unfold maxLen; simp; omega)
                    have hOwn := TKept.mk hm.out.own
                    clear hlen hdg hpm h9
                    go_wp2_with (at_builtin; refine wpList_append_mine _ rfl _ _ 36 rfl 3 .i64 8 Tryz.underlying36 tinfo_i64 (w.heap.size + 1) _ L rfl HMa.out HBB.out ⟨wr.heap.size, 0, none⟩ 1 1 [uv + pm] rfl rfl HNW.out H1.out H2.out ?_)
                    intro v' w5 hm5 hg5 hn5
                    have HM5 := TKept.mk hm5
                    have HX5 := TKept.mk (hx.out.grown (tgrowTrans (World.grownBy_alloc wr (.cells #[.int .i64 (uv + pm)] 3) _) hg5) (fun j hj => (hOwn.out j hj).1))
                    clear hm5 hg5 hn5
                    go_wp2
                    go_roundw
                    case rel => exact ⟨k, (k : Int) - 1, 0, 1, 0, L ++ [uv + pm], by omega, by show _ - (1 : Int) + 1 = _; omega, by first | rfl | go_num, rfl, rfl, by omega, by omega, by omega, by omega, HNX, HM5, HX5⟩
                    case measure => simp [intOf] <;> omega
                  · have HNX : TKept (RpAt D.data.toList k L (uv + pm) (10 * pv) (jj + 1)) := ⟨by have := hst.out hby.out (by omega) (by omega) h9; rw [HU.out] at this; exact this⟩
                    have hp2 := HNX.out.p1
                    have t9 : ((10 : Int) * pv == 1000000000) = false := by simpa using h9
                    clear hdg hpm h9
                    go_wp2
                    go_roundw
                    case rel => exact ⟨k, (k : Int) - 1, uv + pm, 10 * pv, jj + 1, L, by omega, by show _ - (1 : Int) + 1 = _; omega, by first | rfl | go_num, rfl, rfl, by omega, by omega, hp2.1, hp2.2, HNX, hm, hx⟩
                    case measure => simp [intOf] <;> omega
            · obtain rfl : k = 0 := by omega
              obtain rfl : iv = -1 := by have := hiv.out; omega
              clear hiv
              have hnum : Dg.isNum D.data.toList = true := (Dg.isNum_iff _).2 ⟨HNE.out, by have := hat.out.dig; simpa using this⟩
              have HCA := TKept.mk (HC.out.yes hnum HZ.out)
              have HDZ := TKept.mk (Dg.decZ_canon HCA.out)
              clear hnum
              by_cases hu : 0 < uv
              · have hdn := hat.out.done1
                have hlen := hat.out.len
                rw [HDL.out] at hlen
                have HD1 := TKept.mk hdn.2
                have HW1 := TKept.mk hdn.1
                have HMa := Lib.hid (hm.out.alloc (.cells #[.int .i64 uv] 3))
                have HNW := Lib.hid (new_one (K := .i64) (x := uv) (w := wr.alloc (.cells #[.int .i64 uv] 3)) (b := wr.heap.size) (o := 0) (by exact (Row.new (E := 3) (K := .i64) wr [uv]).cell (i := 0) (by simp)))
                have HBB := Lib.hid (show w.heap.size + 1 ≤ (wr.alloc (.cells #[.int .i64 uv] 3)).heap.size by have := hx.out.l1; simp; omega)
                have H1 := Lib.hid (show (L.length + [uv].length) * 8 ≤ 140737488355328 by simp; omega)
                have H2 := Lib.hid (show L.length + [uv].length ≤ maxLen by unfold maxLen; simp; omega)
                have hOwn := TKept.mk hm.out.own
                have HLL : TKept ((L ++ [uv]).length ≤ D.size + 1) := ⟨by simp; omega⟩
                clear hdn hlen
                go_wp2_with (at_builtin; refine wpList_append_mine _ rfl _ _ 36 rfl 3 .i64 8 Tryz.underlying36 tinfo_i64 (w.heap.size + 1) _ L rfl HMa.out HBB.out ⟨wr.heap.size, 0, none⟩ 1 1 [uv] rfl rfl HNW.out H1.out H2.out ?_)
                intro v' w5 hm5 hg5 hn5
                have HS5 := TKept.mk hm5.sl
                have HX5 := TKept.mk (hx.out.grown (tgrowTrans (World.grownBy_alloc wr (.cells #[.int .i64 uv] 3) _) hg5) (fun j hj => (hOwn.out j hj).1))
                clear hm5 hg5 hn5
                go_wp2_with fail
                refine (trim_num HS5.out HW1.out).mono ?_
                rintro e w6 ⟨v6, rfl, rfl, hn6, _⟩
                rw [HD1.out] at hn6
                have HN6 := TKept.mk (hn6.mono HLL.out)
                clear hn6
                go_wp2_with fail
                refine (rint_any _ HN6.out).mono ?_
                rintro e w7 ⟨hb7, v7, rfl, s7, u7, rfl, hs7, hn7⟩
                obtain ⟨o7, k7, c7, rfl, _, _⟩ := hn7.form
                have HX7 := TKept.mk (HX5.out.below hb7)
                have hbx := HX7.out.b0
                obtain ⟨c0, c1, f0, f1⟩ := ttwo_cells hbx
                have hsz := HX7.out.l1
                have HE := TKept.mk (rint_end (w := w) (s := s7) (ao := o7) (k := k7) (c := c7) hbx HX7.out.1 (Nat.le_refl _) hs7 hn7)
                clear hb7 hs7 hn7 hbx
                go_wp2
                exact bodyPost_ret (v := .tuple #[.agg #[.bool s7, .slice o7 k7 c7], .bool true]) (by simp [results, Tryz.results11, go_sem, HE.out.2.1, HE.out.2.2]) rfl (rpa_yes HDZ.out HSD.out HE.out.1)
              · obtain rfl : uv = 0 := by omega
                have HD1 := TKept.mk hat.out.done0
                have HW1 := TKept.mk hat.out.wf
                have HS5 := TKept.mk hm.out.sl
                have HLL : TKept (L.length ≤ D.size + 1) := ⟨by have hlen := hat.out.len; rw [HDL.out] at hlen; omega⟩
                go_wp2_with fail
                refine (trim_num HS5.out HW1.out).mono ?_
                rintro e w6 ⟨v6, rfl, rfl, hn6, _⟩
                rw [HD1.out] at hn6
                have HN6 := TKept.mk (hn6.mono HLL.out)
                clear hn6
                go_wp2_with fail
                refine (rint_any _ HN6.out).mono ?_
                rintro e w7 ⟨hb7, v7, rfl, s7, u7, rfl, hs7, hn7⟩
                obtain ⟨o7, k7, c7, rfl, _, _⟩ := hn7.form
                have HX7 := TKept.mk (hx.out.below hb7)
                have hbx := HX7.out.b0
                obtain ⟨c0, c1, f0, f1⟩ := ttwo_cells hbx
                have hsz := HX7.out.l1
                have HE := TKept.mk (rint_end (w := w) (s := s7) (ao := o7) (k := k7) (c := c7) hbx HX7.out.1 (Nat.le_refl _) hs7 hn7)
                clear hb7 hs7 hn7 hbx
                go_wp2
                exact bodyPost_ret (v := .tuple #[.agg #[.bool s7, .slice o7 k7 c7], .bool true]) (by simp [results, Tryz.results11, go_sem, HE.out.2.1, HE.out.2.2]) rfl (rpa_yes HDZ.out HSD.out HE.out.1)

    · have t1 : ((s[0].toNat : Int) == 45) = false := by simpa using h45
      have HC : TKept (Dg.Cutsign s.data.toList false s.data.toList) := ⟨by
        obtain ⟨t, ht⟩ := head_at hpos
        refine .inr ⟨rfl, rfl, fun t' e => h45 ?_⟩
        rw [ht] at e
        rw [(List.cons.inj e).1]
        rfl⟩
      have hDs : s.size ≤ s.size := Nat.le_refl _
      have HDL : TKept (s.data.toList.length = s.size) := ⟨Array.length_toList⟩
      have HSD : TKept (s.size ≤ s.data.toList.length) := ⟨by rw [HSL.out]; exact hDs⟩
      by_cases hd0 : s.size = 0
      · exact absurd hd0 hz
      · have hdp : 0 < s.size := by omega
        have HNE : TKept (s.data.toList ≠ []) := ⟨fun e => by have := HDL.out; rw [e] at this; simp at this; omega⟩
        have he2 : s.toList.isEmpty = false := by rw [ByteArray.toList_eq]; have := HNE.out; simpa using this
        have he3 : (s.toList == []) = false := by rw [ByteArray.toList_eq]; have := HNE.out; simpa using this
        by_cases hbad : (s[0].toNat : Int) = 48 ∧ (1 < s.size ∨ false = true)
        · have t2 : ((s[0].toNat : Int) == 48) = true := by simpa using hbad.1
          have HR := TKept.mk (rpa_no (by obtain ⟨t, ht⟩ := head_at hdp; exact HC.out.no2 ht (by omega) (Cutsign.not48 HC.out (by rw [HDL.out]; exact hbad.2))) HX0.out.1)
          have h1s : (1 : Int) < s.size := by rcases hbad.2 with h | h <;> first | omega | cases h
          clear hbad
          go_enter Tryz.func11, Tryz.ntmps11
          go_upto_region 4 with fail
          skip
          go_wp2
          exact bodyPost_ret (v := .tuple #[.agg #[.bool false, .slice none 0 0], .bool false]) (by simp [results, Tryz.results11, go_sem]) rfl HR.out
        · have HZ : TKept ((∀ c t, s.data.toList = c :: t → c.toNat ≠ 48) ∨ s.data.toList = [48]) := ⟨by
            obtain ⟨t, ht⟩ := head_at hdp
            by_cases h48 : s[0].toNat = 48
            · refine .inr ?_
              have h1 : ¬ (1 < s.size ∨ false = true) := fun h => hbad ⟨by omega, h⟩
              have ht0 : t = [] := by have := HDL.out; rw [ht] at this; simp at this; simp at h1; exact List.eq_nil_of_length_eq_zero (by omega)
              rw [ht0] at ht
              exact Cutsign.is48 HC.out ht h48
            · refine .inl fun c t' e => ?_
              rw [ht] at e
              rw [← (List.cons.inj e).1]
              exact h48⟩
          by_cases h48 : (s[0].toNat : Int) = 48
          · have t2 : ((s[0].toNat : Int) == 48) = true := by simpa using h48
            have h1s : ¬ (1 : Int) < s.size := fun h => hbad ⟨h48, .inl (by omega)⟩
            clear hbad h48
            go_enter Tryz.func11, Tryz.ntmps11
            go_upto_region 4 with fail
            skip
            go_wp2
            go_loopw [5, 6, 7, 8] (fun m u p i wr => ∃ (k : Nat) (iv uv pv : Int) (jj : Nat) (L : List Int), k ≤ s.size ∧ Hid (iv + 1 = k) ∧ i = .int .i64 iv ∧ u = .int .i64 uv ∧ p = .int .i64 pv ∧ 0 ≤ uv ∧ uv < pv ∧ 1 ≤ pv ∧ pv ≤ 100000000 ∧ TKept (RpAt s.data.toList k L uv pv jj) ∧ TKept (Mine 3 .i64 (w.heap.size + 1) wr m L) ∧ TKept (TBxs w [.cells #[.bool false, .slice none 0 0] 38] wr)) (fun _ _ _ i _ => (intOf i + 1).toNat)
            case atStart => exact ⟨s.size, (s.size : Int) - 1, 0, 1, 0, [], Nat.le_refl _, by show _ - (1 : Int) + 1 = _; omega, rfl, rfl, rfl, by omega, by omega, by omega, by omega, ⟨by have := RpAt.start s.data.toList; rw [HDL.out] at this; exact this⟩, ⟨Mine.nil _ _ _ _⟩, ⟨HX0.out⟩⟩
            case round =>
              obtain ⟨k, iv, uv, pv, jj, L, hk, hiv, rfl, rfl, rfl, hu0, hu1, hp0, hp1, hat, hm, hx⟩ := hrel
              by_cases h0 : 0 < k
              · obtain ⟨k, rfl⟩ : ∃ j, k = j + 1 := ⟨k - 1, by omega⟩
                obtain rfl : iv = (k : Int) := by have := hiv.out; omega
                clear hiv
                have hki : k < s.size := by omega
                have hcl : s[k].toNat < 256 := s[k].toNat_lt
                have hby := TKept.mk (byte_at hki)
                have hlk : TKept (k < s.data.toList.length) := ⟨by rw [HDL.out]; exact hki⟩
                by_cases h1 : (s[k].toNat : Int) < 48
                · have hno := TKept.mk (HC.out.no1 (Dg.isNum_no k hlk.out (.inl (by have := hby.out; rw [List.getElem?_eq_getElem hlk.out] at this; rw [Option.some.inj this]; omega))))
                  obtain ⟨c0, c1, f0, f1⟩ := ttwo_cells hx.out.b0
                  have hsz := hx.out.l1
                  have HE := TKept.mk (rint_end (L := 0) (z := 0) (w := w) (s := false) (ao := none) (k := 0) (c := 0) hx.out.b0 hx.out.1 (Nat.le_refl _) rfl ⟨[], Sl.nil _ _, Dg.Wf.nil _, Dg.Nz.nil, rfl, Nat.le_refl _⟩)
                  go_wp2
                  exact bodyPost_ret (v := .tuple #[.agg #[.bool false, .slice none 0 0], .bool false]) (by simp [results, Tryz.results11, go_sem, HE.out.2.1, HE.out.2.2]) rfl (rpa_no hno.out HE.out.1.1)
                · by_cases h2 : 57 < (s[k].toNat : Int)
                  · have hno := TKept.mk (HC.out.no1 (Dg.isNum_no k hlk.out (.inr (by have := hby.out; rw [List.getElem?_eq_getElem hlk.out] at this; rw [Option.some.inj this]; omega))))
                    obtain ⟨c0, c1, f0, f1⟩ := ttwo_cells hx.out.b0
                    have hsz := hx.out.l1
                    have HE := TKept.mk (rint_end (L := 0) (z := 0) (w := w) (s := false) (ao := none) (k := 0) (c := 0) hx.out.b0 hx.out.1 (Nat.le_refl _) rfl ⟨[], Sl.nil _ _, Dg.Wf.nil _, Dg.Nz.nil, rfl, Nat.le_refl _⟩)
                    go_wp2
                    exact bodyPost_ret (v := .tuple #[.agg #[.bool false, .slice none 0 0], .bool false]) (by simp [results, Tryz.results11, go_sem, HE.out.2.1, HE.out.2.2]) rfl (rpa_no hno.out HE.out.1.1)
                  · have hs := hat.out.step hby.out (by omega) (by omega)
                    have hst := TKept.mk (hat.out.stay (c := s[k]))
                    have hpu := TKept.mk (hat.out.push (c := s[k]))
                    obtain ⟨hs0, hs1, _⟩ := hs
                    obtain ⟨dg, hdg⟩ : ∃ dg : Int, dg = (s[k].toNat : Int) - 48 := ⟨_, rfl⟩
                    obtain ⟨pm, hpm⟩ : ∃ pm : Int, pm = pv * dg := ⟨_, rfl⟩
                    rw [← hdg, ← hpm] at hs0 hs1
                    have hpm0 : 0 ≤ pm := by rw [hpm]; exact Int.mul_nonneg (by omega) (by omega)
                    have hpm1 : pm ≤ 1000000000 := by omega
                    have hwr : IntKind.u8.wrap ((s[k].toNat : Int) - 48) = dg := by rw [IntKind.wrap_u8]; omega
                    have hdg0 : 0 ≤ dg := by omega
                    have hdg1 : dg ≤ 9 := by omega
                    have hmu : pv * dg = pm := hpm.symm
                    have HU : TKept (uv + pv * ((s[k].toNat : Int) - 48) = uv + pm) := ⟨by rw [← hdg, hmu]⟩
                    by_cases h9 : 10 * pv = 1000000000
                    · obtain rfl : pv = 100000000 := by omega
                      have t9 : ((10 : Int) * 100000000 == 1000000000) = true := rfl
                      have HNX : TKept (RpAt s.data.toList k (L ++ [uv + pm]) 0 1 0) := ⟨by have := hpu.out hby.out (by omega) (by omega) rfl; rw [HU.out] at this; exact this⟩
                      have hlen := hat.out.len
                      rw [HDL.out] at hlen
                      have HMa := Lib.hid (hm.out.alloc (.cells #[.int .i64 (uv + pm)] 3))
                      have HNW := Lib.hid (new_one (K := .i64) (x := uv + pm) (w := wr.alloc (.cells #[.int .i64 (uv + pm)] 3)) (b := wr.heap.size) (o := 0) (by exact (Row.new (E := 3) (K := .i64) wr [uv + pm]).cell (i := 0) (by simp)))
                      have HBB := Lib.hid (show w.heap.size + 1 ≤ (wr.alloc (.cells #[.int .i64 (uv + pm)] 3)).heap.size by have := hx.out.l1; simp; omega)
                      have H1 := Lib.hid (show (L.length + [uv + pm].length) * 8 ≤ 140737488355328 by simp; omega)
                      have H2 := Lib.hid (show L.length + [uv + pm].length ≤ maxLen by unfold maxLen; simp; omega)
                      have hOwn := TKept.mk hm.out.own
                      clear hlen hdg hpm h9
                      go_wp2_with (at_builtin; refine wpList_append_mine _ rfl _ _ 36 rfl 3 .i64 8 Tryz.underlying36 tinfo_i64 (w.heap.size + 1) _ L rfl HMa.out HBB.out ⟨wr.heap.size, 0, none⟩ 1 1 [uv + pm] rfl rfl HNW.out H1.out H2.out ?_)
                      intro v' w5 hm5 hg5 hn5
                      have HM5 := TKept.mk hm5
                      have HX5 := TKept.mk (hx.out.grown (tgrowTrans (World.grownBy_alloc wr (.cells #[.int .i64 (uv + pm)] 3) _) hg5) (fun j hj => (hOwn.out j hj).1))
                      clear hm5 hg5 hn5
                      go_wp2
                      go_roundw
                      case rel => exact ⟨k, (k : Int) - 1, 0, 1, 0, L ++ [uv + pm], by omega, by show _ - (1 : Int) + 1 = _; omega, by first | rfl | go_num, rfl, rfl, by omega, by omega, by omega, by omega, HNX, HM5, HX5⟩
                      case measure => simp [intOf] <;> omega
                    · have HNX : TKept (RpAt s.data.toList k L (uv + pm) (10 * pv) (jj + 1)) := ⟨by have := hst.out hby.out (by omega) (by omega) h9; rw [HU.out] at this; exact this⟩
                      have hp2 := HNX.out.p1
                      have t9 : ((10 : Int) * pv == 1000000000) = false := by simpa using h9
                      clear hdg hpm h9
                      go_wp2
                      go_roundw
                      case rel => exact ⟨k, (k : Int) - 1, uv + pm, 10 * pv, jj + 1, L, by omega, by show _ - (1 : Int) + 1 = _; omega, by first | rfl | go_num, rfl, rfl, by omega, by omega, hp2.1, hp2.2, HNX, hm, hx⟩
                      case measure => simp [intOf] <;> omega
              · obtain rfl : k = 0 := by omega
                obtain rfl : iv = -1 := by have := hiv.out; omega
                clear hiv
                have hnum : Dg.isNum s.data.toList = true := (Dg.isNum_iff _).2 ⟨HNE.out, by have := hat.out.dig; simpa using this⟩
                have HCA := TKept.mk (HC.out.yes hnum HZ.out)
                have HDZ := TKept.mk (Dg.decZ_canon HCA.out)
                clear hnum
                by_cases hu : 0 < uv
                · have hdn := hat.out.done1
                  have hlen := hat.out.len
                  rw [HDL.out] at hlen
                  have HD1 := TKept.mk hdn.2
                  have HW1 := TKept.mk hdn.1
                  have HMa := Lib.hid (hm.out.alloc (.cells #[.int .i64 uv] 3))
                  have HNW := Lib.hid (new_one (K := .i64) (x := uv) (w := wr.alloc (.cells #[.int .i64 uv] 3)) (b := wr.heap.size) (o := 0) (by exact (Row.new (E := 3) (K := .i64) wr [uv]).cell (i := 0) (by simp)))
                  have HBB := Lib.hid (show w.heap.size + 1 ≤ (wr.alloc (.cells #[.int .i64 uv] 3)).heap.size by have := hx.out.l1; simp; omega)
                  have H1 := Lib.hid (show (L.length + [uv].length) * 8 ≤ 140737488355328 by simp; omega)
                  have H2 := Lib.hid (show L.length + [uv].length ≤ maxLen by unfold maxLen; simp; omega)
                  have hOwn := TKept.mk hm.out.own
                  have HLL : TKept ((L ++ [uv]).length ≤ s.size + 1) := ⟨by simp; omega⟩
                  clear hdn hlen
                  go_wp2_with (at_builtin; refine wpList_append_mine _ rfl _ _ 36 rfl 3 .i64 8 Tryz.underlying36 tinfo_i64 (w.heap.size + 1) _ L rfl HMa.out HBB.out ⟨wr.heap.size, 0, none⟩ 1 1 [uv] rfl rfl HNW.out H1.out H2.out ?_)
                  intro v' w5 hm5 hg5 hn5
                  have HS5 := TKept.mk hm5.sl
                  have HX5 := TKept.mk (hx.out.grown (tgrowTrans (World.grownBy_alloc wr (.cells #[.int .i64 uv] 3) _) hg5) (fun j hj => (hOwn.out j hj).1))
                  clear hm5 hg5 hn5
                  go_wp2_with fail
                  refine (trim_num HS5.out HW1.out).mono ?_
                  rintro e w6 ⟨v6, rfl, rfl, hn6, _⟩
                  rw [HD1.out] at hn6
                  have HN6 := TKept.mk (hn6.mono HLL.out)
                  clear hn6
                  go_wp2_with fail
                  refine (rint_any _ HN6.out).mono ?_
                  rintro e w7 ⟨hb7, v7, rfl, s7, u7, rfl, hs7, hn7⟩
                  obtain ⟨o7, k7, c7, rfl, _, _⟩ := hn7.form
                  have HX7 := TKept.mk (HX5.out.below hb7)
                  have hbx := HX7.out.b0
                  obtain ⟨c0, c1, f0, f1⟩ := ttwo_cells hbx
                  have hsz := HX7.out.l1
                  have HE := TKept.mk (rint_end (w := w) (s := s7) (ao := o7) (k := k7) (c := c7) hbx HX7.out.1 (Nat.le_refl _) hs7 hn7)
                  clear hb7 hs7 hn7 hbx
                  go_wp2
                  exact bodyPost_ret (v := .tuple #[.agg #[.bool s7, .slice o7 k7 c7], .bool true]) (by simp [results, Tryz.results11, go_sem, HE.out.2.1, HE.out.2.2]) rfl (rpa_yes HDZ.out HSD.out HE.out.1)
                · obtain rfl : uv = 0 := by omega
                  have HD1 := TKept.mk hat.out.done0
                  have HW1 := TKept.mk hat.out.wf
                  have HS5 := TKept.mk hm.out.sl
                  have HLL : TKept (L.length ≤ s.size + 1) := ⟨by have hlen := hat.out.len; rw [HDL.out] at hlen; omega⟩
                  go_wp2_with fail
                  refine (trim_num HS5.out HW1.out).mono ?_
                  rintro e w6 ⟨v6, rfl, rfl, hn6, _⟩
                  rw [HD1.out] at hn6
                  have HN6 := TKept.mk (hn6.mono HLL.out)
                  clear hn6
                  go_wp2_with fail
                  refine (rint_any _ HN6.out).mono ?_
                  rintro e w7 ⟨hb7, v7, rfl, s7, u7, rfl, hs7, hn7⟩
                  obtain ⟨o7, k7, c7, rfl, _, _⟩ := hn7.form
                  have HX7 := TKept.mk (hx.out.below hb7)
                  have hbx := HX7.out.b0
                  obtain ⟨c0, c1, f0, f1⟩ := ttwo_cells hbx
                  have hsz := HX7.out.l1
                  have HE := TKept.mk (rint_end (w := w) (s := s7) (ao := o7) (k := k7) (c := c7) hbx HX7.out.1 (Nat.le_refl _) hs7 hn7)
                  clear hb7 hs7 hn7 hbx
                  go_wp2
                  exact bodyPost_ret (v := .tuple #[.agg #[.bool s7, .slice o7 k7 c7], .bool true]) (by simp [results, Tryz.results11, go_sem, HE.out.2.1, HE.out.2.2]) rfl (rpa_yes HDZ.out HSD.out HE.out.1)

          · have t2 : ((s[0].toNat : Int) == 48) = false := by simpa using h48
            clear hbad h48
            go_enter Tryz.func11, Tryz.ntmps11
            go_upto_region 4 with fail
            skip
            go_wp2
            go_loopw [5, 6, 7, 8] (fun m u p i wr => ∃ (k : Nat) (iv uv pv : Int) (jj : Nat) (L : List Int), k ≤ s.size ∧ Hid (iv + 1 = k) ∧ i = .int .i64 iv ∧ u = .int .i64 uv ∧ p = .int .i64 pv ∧ 0 ≤ uv ∧ uv < pv ∧ 1 ≤ pv ∧ pv ≤ 100000000 ∧ TKept (RpAt s.data.toList k L uv pv jj) ∧ TKept (Mine 3 .i64 (w.heap.size + 1) wr m L) ∧ TKept (TBxs w [.cells #[.bool false, .slice none 0 0] 38] wr)) (fun _ _ _ i _ => (intOf i + 1).toNat)
            case atStart => exact ⟨s.size, (s.size : Int) - 1, 0, 1, 0, [], Nat.le_refl _, by show _ - (1 : Int) + 1 = _; omega, rfl, rfl, rfl, by omega, by omega, by omega, by omega, ⟨by have := RpAt.start s.data.toList; rw [HDL.out] at this; exact this⟩, ⟨Mine.nil _ _ _ _⟩, ⟨HX0.out⟩⟩
            case round =>
              obtain ⟨k, iv, uv, pv, jj, L, hk, hiv, rfl, rfl, rfl, hu0, hu1, hp0, hp1, hat, hm, hx⟩ := hrel
              by_cases h0 : 0 < k
              · obtain ⟨k, rfl⟩ : ∃ j, k = j + 1 := ⟨k - 1, by omega⟩
                obtain rfl : iv = (k : Int) := by have := hiv.out; omega
                clear hiv
                have hki : k < s.size := by omega
                have hcl : s[k].toNat < 256 := s[k].toNat_lt
                have hby := TKept.mk (byte_at hki)
                have hlk : TKept (k < s.data.toList.length) := ⟨by rw [HDL.out]; exact hki⟩
                by_cases h1 : (s[k].toNat : Int) < 48
                · have hno := TKept.mk (HC.out.no1 (Dg.isNum_no k hlk.out (.inl (by have := hby.out; rw [List.getElem?_eq_getElem hlk.out] at this; rw [Option.some.inj this]; omega))))
                  obtain ⟨c0, c1, f0, f1⟩ := ttwo_cells hx.out.b0
                  have hsz := hx.out.l1
                  have HE := TKept.mk (rint_end (L := 0) (z := 0) (w := w) (s := false) (ao := none) (k := 0) (c := 0) hx.out.b0 hx.out.1 (Nat.le_refl _) rfl ⟨[], Sl.nil _ _, Dg.Wf.nil _, Dg.Nz.nil, rfl, Nat.le_refl _⟩)
                  go_wp2
                  exact bodyPost_ret (v := .tuple #[.agg #[.bool false, .slice none 0 0], .bool false]) (by simp [results, Tryz.results11, go_sem, HE.out.2.1, HE.out.2.2]) rfl (rpa_no hno.out HE.out.1.1)
                · by_cases h2 : 57 < (s[k].toNat : Int)
                  · have hno := TKept.mk (HC.out.no1 (Dg.isNum_no k hlk.out (.inr (by have := hby.out; rw [List.getElem?_eq_getElem hlk.out] at this; rw [Option.some.inj this]; omega))))
                    obtain ⟨c0, c1, f0, f1⟩ := ttwo_cells hx.out.b0
                    have hsz := hx.out.l1
                    have HE := TKept.mk (rint_end (L := 0) (z := 0) (w := w) (s := false) (ao := none) (k := 0) (c := 0) hx.out.b0 hx.out.1 (Nat.le_refl _) rfl ⟨[], Sl.nil _ _, Dg.Wf.nil _, Dg.Nz.nil, rfl, Nat.le_refl _⟩)
                    go_wp2
                    exact bodyPost_ret (v := .tuple #[.agg #[.bool false, .slice none 0 0], .bool false]) (by simp [results, Tryz.results11, go_sem, HE.out.2.1, HE.out.2.2]) rfl (rpa_no hno.out HE.out.1.1)
                  · have hs := hat.out.step hby.out (by omega) (by omega)
                    have hst := TKept.mk (hat.out.stay (c := s[k]))
                    have hpu := TKept.mk (hat.out.push (c := s[k]))
                    obtain ⟨hs0, hs1, _⟩ := hs
                    obtain ⟨dg, hdg⟩ : ∃ dg : Int, dg = (s[k].toNat : Int) - 48 := ⟨_, rfl⟩
                    obtain ⟨pm, hpm⟩ : ∃ pm : Int, pm = pv * dg := ⟨_, rfl⟩
                    rw [← hdg, ← hpm] at hs0 hs1
                    have hpm0 : 0 ≤ pm := by rw [hpm]; exact Int.mul_nonneg (by omega) (by omega)
                    have hpm1 : pm ≤ 1000000000 := by omega
                    have hwr : IntKind.u8.wrap ((s[k].toNat : Int) - 48) = dg := by rw [IntKind.wrap_u8]; omega
                    have hdg0 : 0 ≤ dg := by omega
                    have hdg1 : dg ≤ 9 := by omega
                    have hmu : pv * dg = pm := hpm.symm
                    have HU : TKept (uv + pv * ((s[k].toNat : Int) - 48) = uv + pm) := ⟨by rw [← hdg, hmu]⟩
                    by_cases h9 : 10 * pv = 1000000000
                    · obtain rfl : pv = 100000000 := by omega
                      have t9 : ((10 : Int) * 100000000 == 1000000000) = true := rfl
                      have HNX : TKept (RpAt s.data.toList k (L ++ [uv + pm]) 0 1 0) := ⟨by have := hpu.out hby.out (by omega) (by omega) rfl; rw [HU.out] at this; exact this⟩
                      have hlen := hat.out.len
                      rw [HDL.out] at hlen
                      have HMa := Lib.hid (hm.out.alloc (.cells #[.int .i64 (uv + pm)] 3))
                      have HNW := Lib.hid (new_one (K := .i64) (x := uv + pm) (w := wr.alloc (.cells #[.int .i64 (uv + pm)] 3)) (b := wr.heap.size) (o := 0) (by exact (Row.new (E := 3) (K := .i64) wr [uv + pm]).cell (i := 0) (by simp)))
                      have HBB := Lib.hid (show w.heap.size + 1 ≤ (wr.alloc (.cells #[.int .i64 (uv + pm)] 3)).heap.size by have := hx.out.l1; simp; omega)
                      have H1 := Lib.hid (show (L.length + [uv + pm].length) * 8 ≤ 140737488355328 by simp; omega)
                      have H2 := Lib.hid (show L.length + [uv + pm].length ≤ maxLen by unfold maxLen; simp; omega)
                      have hOwn := TKept.mk hm.out.own
                      clear hlen hdg hpm h9
                      go_wp2_with (at_builtin; refine wpList_append_mine _ rfl _ _ 36 rfl 3 .i64 8 Tryz.underlying36 tinfo_i64 (w.heap.size + 1) _ L rfl HMa.out HBB.out ⟨wr.heap.size, 0, none⟩ 1 1 [uv + pm] rfl rfl HNW.out H1.out H2.out ?_)
                      intro v' w5 hm5 hg5 hn5
                      have HM5 := TKept.mk hm5
                      have HX5 := TKept.mk (hx.out.grown (tgrowTrans (World.grownBy_alloc wr (.cells #[.int .i64 (uv + pm)] 3) _) hg5) (fun j hj => (hOwn.out j hj).1))
                      clear hm5 hg5 hn5
                      go_wp2
                      go_roundw
                      case rel => exact ⟨k, (k : Int) - 1, 0, 1, 0, L ++ [uv + pm], by omega, by show _ - (1 : Int) + 1 = _; omega, by first | rfl | go_num, rfl, rfl, by omega, by omega, by omega, by omega, HNX, HM5, HX5⟩
                      case measure => simp [intOf] <;> omega
                    · have HNX : TKept (RpAt s.data.toList k L (uv + pm) (10 * pv) (jj + 1)) := ⟨by have := hst.out hby.out (by omega) (by omega) h9; rw [HU.out] at this; exact this⟩
                      have hp2 := HNX.out.p1
                      have t9 : ((10 : Int) * pv == 1000000000) = false := by simpa using h9
                      clear hdg hpm h9
                      go_wp2
                      go_roundw
                      case rel => exact ⟨k, (k : Int) - 1, uv + pm, 10 * pv, jj + 1, L, by omega, by show _ - (1 : Int) + 1 = _; omega, by first | rfl | go_num, rfl, rfl, by omega, by omega, hp2.1, hp2.2, HNX, hm, hx⟩
                      case measure => simp [intOf] <;> omega
              · obtain rfl : k = 0 := by omega
                obtain rfl : iv = -1 := by have := hiv.out; omega
                clear hiv
                have hnum : Dg.isNum s.data.toList = true := (Dg.isNum_iff _).2 ⟨HNE.out, by have := hat.out.dig; simpa using this⟩
                have HCA := TKept.mk (HC.out.yes hnum HZ.out)
                have HDZ := TKept.mk (Dg.decZ_canon HCA.out)
                clear hnum
                by_cases hu : 0 < uv
                · have hdn := hat.out.done1
                  have hlen := hat.out.len
                  rw [HDL.out] at hlen
                  have HD1 := TKept.mk hdn.2
                  have HW1 := TKept.mk hdn.1
                  have HMa := Lib.hid (hm.out.alloc (.cells #[.int .i64 uv] 3))
                  have HNW := Lib.hid (new_one (K := .i64) (x := uv) (w := wr.alloc (.cells #[.int .i64 uv] 3)) (b := wr.heap.size) (o := 0) (by exact (Row.new (E := 3) (K := .i64) wr [uv]).cell (i := 0) (by simp)))
                  have HBB := Lib.hid (show w.heap.size + 1 ≤ (wr.alloc (.cells #[.int .i64 uv] 3)).heap.size by have := hx.out.l1; simp; omega)
                  have H1 := Lib.hid (show (L.length + [uv].length) * 8 ≤ 140737488355328 by simp; omega)
                  have H2 := Lib.hid (show L.length + [uv].length ≤ maxLen by unfold maxLen; simp; omega)
                  have hOwn := TKept.mk hm.out.own
                  have HLL : TKept ((L ++ [uv]).length ≤ s.size + 1) := ⟨by simp; omega⟩
                  clear hdn hlen
                  go_wp2_with (at_builtin; refine wpList_append_mine _ rfl _ _ 36 rfl 3 .i64 8 Tryz.underlying36 tinfo_i64 (w.heap.size + 1) _ L rfl HMa.out HBB.out ⟨wr.heap.size, 0, none⟩ 1 1 [uv] rfl rfl HNW.out H1.out H2.out ?_)
                  intro v' w5 hm5 hg5 hn5
                  have HS5 := TKept.mk hm5.sl
                  have HX5 := TKept.mk (hx.out.grown (tgrowTrans (World.grownBy_alloc wr (.cells #[.int .i64 uv] 3) _) hg5) (fun j hj => (hOwn.out j hj).1))
                  clear hm5 hg5 hn5
                  go_wp2_with fail
                  refine (trim_num HS5.out HW1.out).mono ?_
                  rintro e w6 ⟨v6, rfl, rfl, hn6, _⟩
                  rw [HD1.out] at hn6
                  have HN6 := TKept.mk (hn6.mono HLL.out)
                  clear hn6
                  go_wp2_with fail
                  refine (rint_any _ HN6.out).mono ?_
                  rintro e w7 ⟨hb7, v7, rfl, s7, u7, rfl, hs7, hn7⟩
                  obtain ⟨o7, k7, c7, rfl, _, _⟩ := hn7.form
                  have HX7 := TKept.mk (HX5.out.below hb7)
                  have hbx := HX7.out.b0
                  obtain ⟨c0, c1, f0, f1⟩ := ttwo_cells hbx
                  have hsz := HX7.out.l1
                  have HE := TKept.mk (rint_end (w := w) (s := s7) (ao := o7) (k := k7) (c := c7) hbx HX7.out.1 (Nat.le_refl _) hs7 hn7)
                  clear hb7 hs7 hn7 hbx
                  go_wp2
                  exact bodyPost_ret (v := .tuple #[.agg #[.bool s7, .slice o7 k7 c7], .bool true]) (by simp [results, Tryz.results11, go_sem, HE.out.2.1, HE.out.2.2]) rfl (rpa_yes HDZ.out HSD.out HE.out.1)
                · obtain rfl : uv = 0 := by omega
                  have HD1 := TKept.mk hat.out.done0
                  have HW1 := TKept.mk hat.out.wf
                  have HS5 := TKept.mk hm.out.sl
                  have HLL : TKept (L.length ≤ s.size + 1) := ⟨by have hlen := hat.out.len; rw [HDL.out] at hlen; omega⟩
                  go_wp2_with fail
                  refine (trim_num HS5.out HW1.out).mono ?_
                  rintro e w6 ⟨v6, rfl, rfl, hn6, _⟩
                  rw [HD1.out] at hn6
                  have HN6 := TKept.mk (hn6.mono HLL.out)
                  clear hn6
                  go_wp2_with fail
                  refine (rint_any _ HN6.out).mono ?_
                  rintro e w7 ⟨hb7, v7, rfl, s7, u7, rfl, hs7, hn7⟩
                  obtain ⟨o7, k7, c7, rfl, _, _⟩ := hn7.form
                  have HX7 := TKept.mk (hx.out.below hb7)
                  have hbx := HX7.out.b0
                  obtain ⟨c0, c1, f0, f1⟩ := ttwo_cells hbx
                  have hsz := HX7.out.l1
                  have HE := TKept.mk (rint_end (w := w) (s := s7) (ao := o7) (k := k7) (c := c7) hbx HX7.out.1 (Nat.le_refl _) hs7 hn7)
                  clear hb7 hs7 hn7 hbx
                  go_wp2
                  exact bodyPost_ret (v := .tuple #[.agg #[.bool s7, .slice o7 k7 c7], .bool true]) (by simp [results, Tryz.results11, go_sem, HE.out.2.1, HE.out.2.2]) rfl (rpa_yes HDZ.out HSD.out HE.out.1)

end Go.Proofs.YtfhhnfpapgfnmaaGreat

set_option linter.unusedVariables false
set_option linter.unusedSimpArgs false
namespace Go.Proofs.YtfhhnfpapgfnmaaGreat
open Go Go.RowKit
/-- Block g is an integer's box that holds nothing yet. -/
def Zb (W : World) (g : Nat) : Prop := W.heap[g]? = some (.cells #[.bool false, .slice none 0 0] 24 (0, 0))
/-- Block g holds these two cells. -/
def Hb (W : World) (g : Nat) (x y : Value) : Prop := W.heap[g]? = some (.cells #[x, y] 24 (0, 0))
/-- W is w3 but for blocks that hold no numbers, and new behind w0. -/
def Okw (w0 w3 W : World) : Prop := Below w0.heap.size w0 W ∧ ∀ L v n, Num L w3 v n → Num L W v n
/-- Block g holds the integer z. -/
def BoxI (L : Nat) (W : World) (g : Nat) (z : Int) : Prop := ∃ s ao k c, Hb W g (.bool s) (.slice ao k c) ∧ IntV L W (.agg #[.bool s, .slice ao k c]) z
end Go.Proofs.YtfhhnfpapgfnmaaGreat

set_option linter.unusedVariables false
set_option linter.unusedSimpArgs false
namespace Go.Proofs.YtfhhnfpapgfnmaaGreat
open Go Go.RowKit
end Go.Proofs.YtfhhnfpapgfnmaaGreat

set_option linter.unusedVariables false
set_option linter.unusedSimpArgs false
namespace Go.Proofs.YtfhhnfpapgfnmaaGreat
open Go Go.RowKit
def DwMine (L : Nat) (w : World) (m y : Int) (e : Ending) (w' : World) : Prop := ∃ v' ys r, e = .returned (.tuple #[v', .int .u64 r]) ∧ Below w.heap.size w w' ∧ Mine 62 .u64 w.heap.size w' v' ys ∧ Dg.Wf BW ys ∧ Dg.Nz ys ∧ Dg.val BW ys = m / y ∧ ys.length ≤ L ∧ r = m % y
end Go.Proofs.YtfhhnfpapgfnmaaGreat

set_option linter.unusedVariables false
set_option linter.unusedSimpArgs false
namespace Go.Proofs.YtfhhnfpapgfnmaaGreat
open Go Go.RowKit
/-- Binomials. -/
def bin : Nat → Nat → Nat
  | _, 0 => 1
  | 0, _ + 1 => 0
  | n + 1, k + 1 => bin n k + bin n (k + 1)
def fac : Nat → Nat
  | 0 => 1
  | n + 1 => fac n * (n + 1)
/-- The sum of the first binomials of a row. -/
def binSum (n : Nat) : Nat → Nat
  | 0 => 0
  | k + 1 => binSum n k + bin n k
end Go.Proofs.YtfhhnfpapgfnmaaGreat

set_option linter.unusedVariables false
set_option linter.unusedSimpArgs false
namespace Go.Proofs.YtfhhnfpapgfnmaaGreat
open Go Go.RowKit
/-- Numbers from 1 on, multiplied. -/
structure FcAt (B : Nat) (w : World) (v : Value) (k : Nat) (xs : List Int) : Prop where
  mine : Mine 62 .u64 B w v xs
  wf : Dg.Wf BW xs
  val : Dg.val BW xs = fac k
  len : xs.length ≤ k + 1
/-- The binomials of n, one after the other. -/
structure ChAt (B n : Nat) (w : World) (v : Value) (k : Nat) (xs : List Int) : Prop where
  mine : Mine 62 .u64 B w v xs
  wf : Dg.Wf BW xs
  nz : Dg.Nz xs
  val : Dg.val BW xs = bin n k
  len : xs.length ≤ k + 1
end Go.Proofs.YtfhhnfpapgfnmaaGreat

set_option linter.unusedVariables false
set_option linter.unusedSimpArgs false
namespace Go.Proofs.YtfhhnfpapgfnmaaGreat
open Go Go.RowKit
end Go.Proofs.YtfhhnfpapgfnmaaGreat

set_option linter.unusedVariables false
set_option linter.unusedSimpArgs false
namespace Go.Proofs.YtfhhnfpapgfnmaaGreat
open Go Go.RowKit
/-- What whole returns. -/
def WhRet (s : List UInt8) (w : World) (e : Ending) (w' : World) : Prop := Below w.heap.size w w' ∧ ∃ sa ao ka ca sb bo kb cb ok, e = .returned (.tuple #[.agg #[.bool sa, .slice ao ka ca], .agg #[.bool sb, .slice bo kb cb], .bool ok]) ∧
  (ok = true → ∃ z, s = Dg.decZ z ∧ s.length ≤ 700 ∧ smallB z.natAbs = true ∧ IntV 625 w' (.agg #[.bool sa, .slice ao ka ca]) z ∧ ZV 701 w' (.agg #[.bool sb, .slice bo kb cb]) z)
theorem ZV.parts {L : Nat} {w : World} {s : Bool} {o : Option Addr} {k c : Nat} {z : Int} (h : ZV L w (.agg #[.bool s, .slice o k c]) z) : s = decide (z < 0) ∧ NumR L w (.slice o k c) z.natAbs := by
  obtain ⟨sb, sv, e, h1, hn⟩ := h
  simp only [Value.agg.injEq, Array.mk.injEq, List.cons.injEq, Value.bool.injEq, and_true] at e
  obtain ⟨rfl, rfl⟩ := e
  exact ⟨h1, hn⟩
/-- TwoB results of a call, stored into their boxes g and g'. -/
structure TwoB (w W W' : World) (g g' : Nat) (sa : Bool) (ao : Option Addr) (ka ca : Nat) (sb : Bool) (bo : Option Addr) (kb cb : Nat) : Prop where
  bel : Below w.heap.size w W'
  a0 : W'.cell? ⟨g, 0, none⟩ = some (.bool sa)
  a1 : W'.cell? ⟨g, 1, none⟩ = some (.slice ao ka ca)
  b0 : W'.cell? ⟨g', 0, none⟩ = some (.bool sb)
  b1 : W'.cell? ⟨g', 1, none⟩ = some (.slice bo kb cb)
  num : ∀ L n, Num L W (.slice ao ka ca) n → Num L W' (.slice ao ka ca) n
  numR : ∀ L n, NumR L W (.slice bo kb cb) n → NumR L W' (.slice bo kb cb) n
end Go.Proofs.YtfhhnfpapgfnmaaGreat

set_option linter.unusedVariables false
set_option linter.unusedSimpArgs false
namespace Go.Proofs.YtfhhnfpapgfnmaaGreat
open Go Go.RowKit
/-- Digits written: D are those of the i lowest limbs and of k digits of the next one, x, of which v is left. -/
structure StAt (xs D : List Int) (i k : Nat) (x v : Int) : Prop where
  wf : Dg.Wf 10 D
  len : D.length = 9 * i + k
  eq : Dg.val 10 D + 10 ^ D.length * v = Dg.val BN (xs.take i) + BN ^ i * x
  v0 : 0 ≤ v
  v1 : v < 10 ^ (9 - k)
theorem pow9 (i : Nat) : (10 : Int) ^ (9 * i) = BN ^ i := by rw [Int.pow_mul]; rfl
theorem StAt.start {xs D : List Int} {i : Nat} {x : Int} (hw : Dg.Wf 10 D) (hl : D.length = 9 * i) (hv : Dg.val 10 D = Dg.val BN (xs.take i)) (x0 : 0 ≤ x) (x1 : x < 1000000000) : StAt xs D i 0 x x :=
  ⟨hw, by omega, by rw [hv, hl, pow9], x0, by simpa using x1⟩
theorem StAt.next {xs D : List Int} {i k : Nat} {x v : Int} (h : StAt xs D i k x v) (hk : k < 9) : StAt xs (D ++ [v % 10]) i (k + 1) x (v / 10) := by
  obtain ⟨hw, hl, he, h0, h1⟩ := h
  refine ⟨hw.append (Dg.Wf.one (by omega) (by omega)), by simp; omega, ?_, by omega, ?_⟩
  · rw [← he, Dg.val_append, Dg.val_one, List.length_append, List.length_singleton, Int.pow_succ]
    have : 10 ^ D.length * v = 10 ^ D.length * (v % 10 + 10 * (v / 10)) := by congr 1; omega
    rw [this, Int.mul_add, Int.mul_assoc]
    omega
  · have e : (10 : Int) ^ (9 - k) = 10 * 10 ^ (9 - (k + 1)) := by rw [Int.mul_comm, ← Int.pow_succ]; congr 1; omega
    omega
theorem StAt.done {xs D : List Int} {i : Nat} {x v : Int} (h : StAt xs D i 9 x v) (hi : i < xs.length) (hx : x = xs[i]?.getD 0) : Dg.val 10 D = Dg.val BN (xs.take (i + 1)) := by
  have hv : v = 0 := by
    have := h.v0
    have := h.v1
    simp at this
    omega
  have he := h.eq
  rw [hv, Int.mul_zero, Int.add_zero] at he
  rw [he, Dg.val_take_succD, ← hx]
/-- Bytes as numbers. -/
def nat8 (l : List UInt8) : List Int := l.map (fun c => (c.toNat : Int))
theorem dby_nat8 {D : List Int} (h : Dg.Wf 10 D) : dby D = nat8 (D.map Dg.byt) := by
  unfold dby nat8
  rw [List.map_map]
  apply List.map_congr_left
  intro d hd
  have := h d hd
  simp only [Function.comp]
  rw [Dg.byt_nat this.1 this.2]
  omega
theorem nat8_append (a b : List UInt8) : nat8 (a ++ b) = nat8 a ++ nat8 b := by simp [nat8]
theorem nat8_reverse (a : List UInt8) : (nat8 a).reverse = nat8 a.reverse := by simp [nat8]
theorem bytes_of (w : World) {v : Value} {l : List UInt8} (h : Sl .u8 w v (nat8 l)) (hne : l ≠ []) : (convert 61 9 v).run Tryz.prog w = .ok (str l) w := by
  obtain ⟨ao, cap, rfl, hc, hm, hx⟩ := h
  have hlen : (nat8 l).length = l.length := by simp [nat8]
  have h0 : 0 < l.length := List.length_pos_iff.2 hne
  obtain ⟨b, o, rfl, hb, _⟩ := hx 0 (by omega)
  rw [hlen]
  refine run_convert_bytes_back w 61 9 5 ⟨b, o, none⟩ cap l Tryz.underlying61 Tryz.underlying5 Tryz.underlying9 (fun j hj => ?_)
  obtain ⟨b', o', e, _, hcell⟩ := hx j (by omega)
  simp only [Option.some.injEq, Addr.mk.injEq, and_true] at e
  obtain ⟨rfl, rfl⟩ := e
  have : (⟨b, o, none⟩ : Addr).add j = ⟨b, o + j, none⟩ := by simp [Addr.add]
  rw [this, hcell]
  simp [nat8, hj]
/-- A row of one's own, cut at its end. -/
theorem Mine.uptoT {E : TypeId} {K : IntKind} {B : Nat} {w : World} {g n cap : Nat} {xs : List Int} (h : Mine E K B w (.slice (some ⟨g, 0, none⟩) xs.length cap) xs) (hn : n ≤ xs.length) : Mine E K B w (.slice (some ⟨g, 0, none⟩) n cap) (xs.take n) := by
  rcases h with ⟨e, _⟩ | ⟨g', cap', cur, e, hB, hg, h1, h2, h3, h4⟩
  · cases e
  · simp only [Value.slice.injEq, Option.some.injEq, Addr.mk.injEq, and_true, true_and] at e
    obtain ⟨rfl, rfl⟩ := e
    have hl : (xs.take n).length = n := by simp; omega
    refine .inr ⟨g, cap, cur, by rw [hl], hB, hg, by omega, h2, h3, ?_⟩
    rw [hl, List.map_take, ← h4, List.take_take, Nat.min_eq_left hn]
/-- The digits without the zeros that lead the number. -/
theorem cut_decN {N : Int} {D : List Int} (hw : Dg.Wf 10 D) (hv : Dg.val 10 D = N) (hN : 0 < N) : (Dg.cut D).reverse.map Dg.byt = Dg.decN N.toNat := by
  have h1 := Dg.val_cut 10 D
  rw [← hv, ← h1]
  refine Dg.decN_map hw.cut (Dg.nz_cut D) (fun e => ?_)
  rw [e] at h1
  simp [Dg.val] at h1
  omega
end Go.Proofs.YtfhhnfpapgfnmaaGreat
