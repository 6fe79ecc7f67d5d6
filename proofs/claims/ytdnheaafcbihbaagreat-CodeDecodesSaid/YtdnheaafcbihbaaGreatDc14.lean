/-
  Texts of the proof, merged by program: TIdiw TRat1 TRat2 TRat3 TRat4 TRat5 TRat6 TRat7 TRat8 TRmul TRadd TRops TCutz TPrat TPwm TPwx Czz Inz Gau Val.
-/
import Derived.Test.YtdnheaafcbihbaaGreatDc13
import Derived.Defers
import Derived.Recover
import Derived.Lib.IndexLaws
set_option linter.unusedSimpArgs false
set_option linter.unusedVariables false
set_option maxHeartbeats 16000000
namespace Go.Proofs.YtdnheaafcbihbaaGreat
section
open Go Go.RowKit
def Box4 (w:World)(sa sb:Bool)(ao bo:Option Addr)(ka ca kb cb:Nat)(W:World):Prop:=
 W.heap[w.heap.size]? =some (.cells #[.bool sa, .slice ao ka ca] 98 (0,0))/\W.heap[w.heap.size+1]? =some (.cells #[.bool sb, .slice bo kb cb] 98 (0,0))/\
 W.heap[w.heap.size+1+1]? =some (.cells #[.bool false, .slice none 0 0] 98 (0,0))/\W.heap[w.heap.size+1+1+1]? =some (.cells #[.bool false, .slice none 0 0] 98 (0,0))/\Below w.heap.size w W
theorem box4 (w:World)(sa sb:Bool)(ao bo:Option Addr)(ka ca kb cb:Nat):Box4 w sa sb ao bo ka ca kb cb ((((w.alloc (.cells #[.bool sa, .slice ao ka ca] 98)).alloc (.cells #[.bool sb, .slice bo kb cb] 98)).alloc (.cells #[.bool false, .slice none 0 0] 98)).alloc (.cells #[.bool false, .slice none 0 0] 98)):=by
 refine⟨?_,?_,?_,?_,?_⟩
 ·exact(heap_alloc_old _ _ (by simp;omega)).trans ((heap_alloc_old _ _ (by simp;omega)).trans ((heap_alloc_old _ _ (by simp)).trans (heap_alloc_new w _)))
 ·exact(heap_alloc_old _ _ (by simp)).trans ((heap_alloc_old _ _ (by simp)).trans (theap_last _ _ _ (by simp)))
 ·exact(heap_alloc_old _ _ (by simp)).trans (theap_last _ _ _ (by simp))
 ·exact theap_last _ _ _ (by simp)
 ·exact((((Below.refl _ _).alloc (Nat.le_refl _) _).alloc (by simp) _).alloc (by simp;omega) _).alloc (by simp;omega) _
theorem Box4.size {w W:World}{sa sb:Bool}{ao bo:Option Addr}{ka ca kb cb:Nat}(h:Box4 w sa sb ao bo ka ca kb cb W):w.heap.size+1+1+1<W.heap.size:=(Array.getElem?_eq_some_iff.1 h.2.2.2.1).1
theorem Box4.below {w W W' :World}{sa sb:Bool}{ao bo:Option Addr}{ka ca kb cb:Nat}(h:Box4 w sa sb ao bo ka ca kb cb W)(hb:Below W.heap.size W W'):Box4 w sa sb ao bo ka ca kb cb W' :=by
 have hs:=h.size;obtain⟨h0,h1,h2,h3,h4⟩:=h;exact⟨(hb.block _ (by omega)).trans h0,(hb.block _ (by omega)).trans h1,(hb.block _ (by omega)).trans h2,(hb.block _ (by omega)).trans h3,h4.trans (hb.mono (by omega))⟩
theorem Box4.ins {w W:World}{sa sb:Bool}{ao bo:Option Addr}{ka ca kb cb:Nat}(h:Box4 w sa sb ao bo ka ca kb cb W):
 W.cell? ⟨w.heap.size,0,none⟩=some (.bool sa)/\W.cell? ⟨w.heap.size,1,none⟩=some (.slice ao ka ca)/\W.cell? ⟨w.heap.size+1,0,none⟩=some (.bool sb)/\W.cell? ⟨w.heap.size+1,1,none⟩=some (.slice bo kb cb):=
 ⟨(ttwo_cells h.1).1,(ttwo_cells h.1).2.1,(ttwo_cells h.2.1).1,(ttwo_cells h.2.1).2.1⟩
theorem Box4.outs {w W:World}{sa sb:Bool}{ao bo:Option Addr}{ka ca kb cb:Nat}(h:Box4 w sa sb ao bo ka ca kb cb W):
 W.frozen? ⟨w.heap.size+1+1,0,none⟩=false/\W.frozen? ⟨w.heap.size+1+1,1,none⟩=false/\W.frozen? ⟨w.heap.size+1+1+1,0,none⟩=false/\W.frozen? ⟨w.heap.size+1+1+1,1,none⟩=false/\
 W.cell? ⟨w.heap.size+1+1,0,none⟩=some (.bool false)/\W.cell? ⟨w.heap.size+1+1,1,none⟩=some (.slice none 0 0)/\W.cell? ⟨w.heap.size+1+1+1,0,none⟩=some (.bool false)/\W.cell? ⟨w.heap.size+1+1+1,1,none⟩=some (.slice none 0 0):=
 ⟨(ttwo_cells h.2.2.1).2.2.1,(ttwo_cells h.2.2.1).2.2.2,(ttwo_cells h.2.2.2.1).2.2.1,(ttwo_cells h.2.2.2.1).2.2.2,(ttwo_cells h.2.2.1).1,(ttwo_cells h.2.2.1).2.1,(ttwo_cells h.2.2.2.1).1,(ttwo_cells h.2.2.2.1).2.1⟩
set_option maxRecDepth 20000 in
theorem idiv_up {La Lb:Nat}{va vb:Value}{z y:Int}{w:World}(ha:IntV La w va z)(hb:IntV Lb w vb y)(hy:y≠0)(hz:0<=z)(h1:La<=268435455)(h2:Lb<=268435455):
 Calls Tryz.prog 133 #[va,vb] w (IdRet (max La Lb+2) w z y):=by
 obtain⟨LL,hLL⟩:∃ LL,LL=max La Lb+2:=⟨_,rfl⟩;rw[<- hLL];have hb' :=hb;obtain⟨sa,ua,rfl,hsa,hna⟩:=ha;obtain⟨sb,ub,rfl,hsb,hnb⟩:=hb;obtain⟨ao,ka,ca,rfl⟩:=hna.form;obtain⟨bo,kb,cb,rfl⟩:=hnb.form;have HBX:=Lib.hid (box4 w sa sb ao bo ka ca kb cb);have HNA:=Lib.hid (hna.below HBX.out.2.2.2.2);have HNB:=Lib.hid (hnb.below HBX.out.2.2.2.2);have HBI:=Lib.hid (hb'.below HBX.out.2.2.2.2)
 obtain⟨sg,hsg0,hsg⟩:∃ sg:Int,(sg==0)=false/\Dg.sg y 0=sg:=by
  refine⟨_,?_,rfl⟩
  rcases Int.lt_trichotomy y 0 with h|h|h
  ·rw[Dg.sg_lt h];rfl
  ·exact absurd h hy
  ·rw[Dg.sg_gt h];rfl
 have hsi:=sign_any HBI.out;rw[hsg] at hsi;have HSI:=Lib.hid hsi;have hd:=div_pos hz hy;have e:sa=false:=by rw[hsa];simp;omega
 subst e;rw[<- hsa,<- hsb,show(false !=sb)=sb by cases sb<;>rfl] at hd;have HD:=Lib.hid hd;have HY:=Lib.hid hy;have HSB:=Lib.hid hsb;clear hna hnb hb' hsg hsi hsb hy hd hsa
 go_enter Tryz.func133,Tryz.ntmps133
 go_wp2_with fail;refine HSI.out.mono ?_;rintro e w1 ⟨hb1,rfl⟩;have HX1:=Lib.hid (HBX.out.below hb1);have HNA1:=Lib.hid (HNA.out.below hb1);have HNB1:=Lib.hid (HNB.out.below hb1);obtain⟨ka0,ka1,ka2,ka3⟩:=HX1.out.ins;clear hb1;go_wp2_with fail;refine(divide_num HNA1.out HNB1.out (by have:=HY.out;omega) (by omega)).mono ?_;rintro e w2 ⟨hb2,q,r,rfl,hq2,hr2,hfq,hfr⟩;obtain⟨qo,kq,cq,rfl⟩:=hq2.form;obtain⟨ro,kr,cr,rfl,hkr,_⟩:=hr2.form2;have HX2:=Lib.hid (HX1.out.below hb2);have HNB2:=Lib.hid (HNB1.out.below hb2);have HQ2:=Lib.hid hq2;have HR2:=Lib.hid hr2;clear hb2 hq2 hr2 hfq hfr hkr ka0 ka1 ka2 ka3;obtain⟨kb0,kb1,kb2,kb3⟩:=HX2.out.ins;go_wp2_with fail;refine(signed_any (sb) HQ2.out).mono ?_;rintro e w5 ⟨hb5,v5,rfl,s5,u5,rfl,hs5,hn5⟩;obtain⟨ao5,k5,c5,rfl⟩:=hn5.form;have HX5:=Lib.hid (HX2.out.below hb5);have HR5:=Lib.hid (HR2.out.below hb5);have HS5:=Lib.hid hs5;have HN5:=Lib.hid hn5;clear hb5 hs5 hn5;go_wp2_with fail;refine(signed_any false HR5.out).mono ?_;rintro e w6 ⟨hb6,v6,rfl,s6,u6,rfl,hs6,hn6⟩;obtain⟨ao6,k6,c6,rfl⟩:=hn6.form;have HX6:=Lib.hid (HX5.out.below hb6);obtain⟨f0,f1,f2,f3,g0,g1,g2,g3⟩:=HX6.out.outs;have hz6:=HX6.out.size
 have HE:=Lib.hid (fun W' =>int_end2 (L:=LL) (L' :=LL) (z:=z/y) (z' :=z%y) (w:=w) (s:=s5) (ao:=ao5) (k:=k5) (c:=c5) (s' :=s6) (ao' :=ao6) (k' :=k6) (c' :=c6) HX6.out.2.2.1 HX6.out.2.2.2.1 (by omega) HX6.out.2.2.2.2 (by omega) (by omega)
  (by rw[HS5.out,HD.out.1]) (by have:=HN5.out.below hb6;rw[HD.out.1] at this;exact this.mono (L' :=LL) (by omega))
  (by rw[hs6];show decide (sgn false _<0)=_;rw[HD.out.2];rfl) (by have:=hn6;rw[HD.out.2] at this;exact this.mono (L' :=LL) (by omega)) W')
 clear hb6 hs6 hn6 kb0 kb1 kb2 kb3;go_wp2;have hE:=HE.out _ rfl;exact bodyPost_ret (v:= .tuple #[.agg #[.bool s5, .slice ao5 k5 c5], .agg #[.bool s6, .slice ao6 k6 c6], .int .i64 0]) (by simp[results,Tryz.results133,go_sem,hE.2.2.2.1,hE.2.2.2.2.1,hE.2.2.2.2.2.1,hE.2.2.2.2.2.2]) rfl ⟨hE.1,_,_,rfl,hE.2.1,hE.2.2.1⟩
set_option maxRecDepth 20000 in
theorem idiv_flat {La Lb:Nat}{va vb:Value}{z y:Int}{w:World}(ha:IntV La w va z)(hb:IntV Lb w vb y)(hy:y≠0)(hz:z<0)(hr:(z.natAbs%y.natAbs:Int)=0)(h1:La<=268435455)(h2:Lb<=268435455):
 Calls Tryz.prog 133 #[va,vb] w (IdRet (max La Lb+2) w z y):=by
 obtain⟨LL,hLL⟩:∃ LL,LL=max La Lb+2:=⟨_,rfl⟩;rw[<- hLL];have hb' :=hb;obtain⟨sa,ua,rfl,hsa,hna⟩:=ha;obtain⟨sb,ub,rfl,hsb,hnb⟩:=hb;obtain⟨ao,ka,ca,rfl⟩:=hna.form;obtain⟨bo,kb,cb,rfl⟩:=hnb.form;have HBX:=Lib.hid (box4 w sa sb ao bo ka ca kb cb);have HNA:=Lib.hid (hna.below HBX.out.2.2.2.2);have HNB:=Lib.hid (hnb.below HBX.out.2.2.2.2);have HBI:=Lib.hid (hb'.below HBX.out.2.2.2.2)
 obtain⟨sg,hsg0,hsg⟩:∃ sg:Int,(sg==0)=false/\Dg.sg y 0=sg:=by
  refine⟨_,?_,rfl⟩
  rcases Int.lt_trichotomy y 0 with h|h|h
  ·rw[Dg.sg_lt h];rfl
  ·exact absurd h hy
  ·rw[Dg.sg_gt h];rfl
 have hsi:=sign_any HBI.out;rw[hsg] at hsi;have HSI:=Lib.hid hsi;have hd:=(show _/\_ from⟨(div_neg0 hz hy hr).1,hr.trans (div_neg0 hz hy hr).2⟩);have e:sa=true:=by rw[hsa];simpa using hz
 subst e;rw[<- hsa,<- hsb,show(true !=sb)= !sb by cases sb<;>rfl] at hd;have HD:=Lib.hid hd;have HY:=Lib.hid hy;have HSB:=Lib.hid hsb;clear hna hnb hb' hsg hsi hsb hy hd hsa
 go_enter Tryz.func133,Tryz.ntmps133
 go_wp2_with fail;refine HSI.out.mono ?_;rintro e w1 ⟨hb1,rfl⟩;have HX1:=Lib.hid (HBX.out.below hb1);have HNA1:=Lib.hid (HNA.out.below hb1);have HNB1:=Lib.hid (HNB.out.below hb1);obtain⟨ka0,ka1,ka2,ka3⟩:=HX1.out.ins;clear hb1;go_wp2_with fail;refine(divide_num HNA1.out HNB1.out (by have:=HY.out;omega) (by omega)).mono ?_;rintro e w2 ⟨hb2,q,r,rfl,hq2,hr2,hfq,hfr⟩;obtain⟨qo,kq,cq,rfl⟩:=hq2.form;obtain⟨ro,kr,cr,rfl,hkr,_⟩:=hr2.form2;have HX2:=Lib.hid (HX1.out.below hb2);have HNB2:=Lib.hid (HNB1.out.below hb2);have HQ2:=Lib.hid hq2;have HR2:=Lib.hid hr2;obtain rfl:kr=0:=hkr.2 hr;clear hb2 hq2 hr2 hfq hfr hkr ka0 ka1 ka2 ka3;obtain⟨kb0,kb1,kb2,kb3⟩:=HX2.out.ins;go_wp2_with fail;refine(signed_any (!sb) HQ2.out).mono ?_;rintro e w5 ⟨hb5,v5,rfl,s5,u5,rfl,hs5,hn5⟩;obtain⟨ao5,k5,c5,rfl⟩:=hn5.form;have HX5:=Lib.hid (HX2.out.below hb5);have HR5:=Lib.hid (HR2.out.below hb5);have HS5:=Lib.hid hs5;have HN5:=Lib.hid hn5;clear hb5 hs5 hn5;go_wp2_with fail;refine(signed_any false HR5.out).mono ?_;rintro e w6 ⟨hb6,v6,rfl,s6,u6,rfl,hs6,hn6⟩;obtain⟨ao6,k6,c6,rfl⟩:=hn6.form;have HX6:=Lib.hid (HX5.out.below hb6);obtain⟨f0,f1,f2,f3,g0,g1,g2,g3⟩:=HX6.out.outs;have hz6:=HX6.out.size
 have HE:=Lib.hid (fun W' =>int_end2 (L:=LL) (L' :=LL) (z:=z/y) (z' :=z%y) (w:=w) (s:=s5) (ao:=ao5) (k:=k5) (c:=c5) (s' :=s6) (ao' :=ao6) (k' :=k6) (c' :=c6) HX6.out.2.2.1 HX6.out.2.2.2.1 (by omega) HX6.out.2.2.2.2 (by omega) (by omega)
  (by rw[HS5.out,HD.out.1]) (by have:=HN5.out.below hb6;rw[HD.out.1] at this;exact this.mono (L' :=LL) (by omega))
  (by rw[hs6];show decide (sgn false _<0)=_;rw[HD.out.2];rfl) (by have:=hn6;rw[HD.out.2] at this;exact this.mono (L' :=LL) (by omega)) W')
 clear hb6 hs6 hn6 kb0 kb1 kb2 kb3;go_wp2;have hE:=HE.out _ rfl;exact bodyPost_ret (v:= .tuple #[.agg #[.bool s5, .slice ao5 k5 c5], .agg #[.bool s6, .slice ao6 k6 c6], .int .i64 0]) (by simp[results,Tryz.results133,go_sem,hE.2.2.2.1,hE.2.2.2.2.1,hE.2.2.2.2.2.1,hE.2.2.2.2.2.2]) rfl ⟨hE.1,_,_,rfl,hE.2.1,hE.2.2.1⟩
set_option maxRecDepth 20000 in
theorem idiv_down {La Lb:Nat}{va vb:Value}{z y:Int}{w:World}(ha:IntV La w va z)(hb:IntV Lb w vb y)(hy:y≠0)(hz:z<0)(hr:(z.natAbs%y.natAbs:Int)≠0)(h1:La<=268435455)(h2:Lb<=268435455):
 Calls Tryz.prog 133 #[va,vb] w (IdRet (max La Lb+2) w z y):=by
 obtain⟨LL,hLL⟩:∃ LL,LL=max La Lb+2:=⟨_,rfl⟩;rw[<- hLL];have hb' :=hb;obtain⟨sa,ua,rfl,hsa,hna⟩:=ha;obtain⟨sb,ub,rfl,hsb,hnb⟩:=hb;obtain⟨ao,ka,ca,rfl⟩:=hna.form;obtain⟨bo,kb,cb,rfl⟩:=hnb.form;have HBX:=Lib.hid (box4 w sa sb ao bo ka ca kb cb);have HNA:=Lib.hid (hna.below HBX.out.2.2.2.2);have HNB:=Lib.hid (hnb.below HBX.out.2.2.2.2);have HBI:=Lib.hid (hb'.below HBX.out.2.2.2.2)
 obtain⟨sg,hsg0,hsg⟩:∃ sg:Int,(sg==0)=false/\Dg.sg y 0=sg:=by
  refine⟨_,?_,rfl⟩
  rcases Int.lt_trichotomy y 0 with h|h|h
  ·rw[Dg.sg_lt h];rfl
  ·exact absurd h hy
  ·rw[Dg.sg_gt h];rfl
 have hsi:=sign_any HBI.out;rw[hsg] at hsi;have HSI:=Lib.hid hsi;have hd:=div_neg1 hz hy hr;have e:sa=true:=by rw[hsa];simpa using hz
 subst e;rw[<- hsa,<- hsb,show(true !=sb)= !sb by cases sb<;>rfl] at hd;have HD:=Lib.hid hd;have HY:=Lib.hid hy;have HSB:=Lib.hid hsb;clear hna hnb hb' hsg hsi hsb hy hd hsa
 go_enter Tryz.func133,Tryz.ntmps133
 go_wp2_with fail;refine HSI.out.mono ?_;rintro e w1 ⟨hb1,rfl⟩;have HX1:=Lib.hid (HBX.out.below hb1);have HNA1:=Lib.hid (HNA.out.below hb1);have HNB1:=Lib.hid (HNB.out.below hb1);obtain⟨ka0,ka1,ka2,ka3⟩:=HX1.out.ins;clear hb1;go_wp2_with fail;refine(divide_num HNA1.out HNB1.out (by have:=HY.out;omega) (by omega)).mono ?_;rintro e w2 ⟨hb2,q,r,rfl,hq2,hr2,hfq,hfr⟩;obtain⟨qo,kq,cq,rfl⟩:=hq2.form;obtain⟨ro,kr,cr,rfl,hkr,_⟩:=hr2.form2;have HX2:=Lib.hid (HX1.out.below hb2);have HNB2:=Lib.hid (HNB1.out.below hb2);have HQ2:=Lib.hid hq2;have HR2:=Lib.hid hr2
 have hk0:0<kr:=by
  apply Nat.pos_of_ne_zero
  intro hc;exact hr (hkr.1 hc)
 clear hb2 hq2 hr2 hfq hfr hkr ka0 ka1 ka2 ka3;obtain⟨kb0,kb1,kb2,kb3⟩:=HX2.out.ins;go_wp2_with fail;refine(oneWord_any 1 _ (by omega) (by omega)).mono ?_;rintro e w3 ⟨hb3,v3,rfl,hn3,hf3⟩;have HN3:=Lib.hid hn3;have HX3:=Lib.hid (HX2.out.below hb3);have HQ3:=Lib.hid (HQ2.out.below hb3);have HR3:=Lib.hid (HR2.out.below hb3);have HNB3:=Lib.hid (HNB2.out.below hb3);clear hb3 hn3 hf3 kb0 kb1 kb2 kb3;go_wp2_with fail;refine(sum_num HQ3.out HN3.out (by omega) (by omega)).mono ?_;rintro e w4 ⟨hb4,v4,rfl,hn4,hf4⟩;have HQ4:=Lib.hid hn4;have HX4:=Lib.hid (HX3.out.below hb4);have HR4:=Lib.hid (HR3.out.below hb4);have HNB4:=Lib.hid (HNB3.out.below hb4);clear hb4 hn4 hf4;obtain⟨kb0,kb1,kb2,kb3⟩:=HX4.out.ins;go_wp2_with fail;refine(difference_num HNB4.out HR4.out (by omega) (Int.le_of_lt (Int.emod_lt_of_pos _ (by have:=HY.out;omega)))).mono ?_;rintro e w4' ⟨hb4',v4',rfl,hn4',hf4'⟩;have HQ4' :=Lib.hid (HQ4.out.below hb4');have HX4' :=Lib.hid (HX4.out.below hb4');have HR4' :=Lib.hid hn4';clear hb4' hn4' hf4' kb0 kb1 kb2 kb3;obtain⟨kb0,kb1,kb2,kb3⟩:=HX4'.out.ins;go_wp2_with fail;refine(signed_any (!sb) HQ4'.out).mono ?_;rintro e w5 ⟨hb5,v5,rfl,s5,u5,rfl,hs5,hn5⟩;obtain⟨ao5,k5,c5,rfl⟩:=hn5.form;have HX5:=Lib.hid (HX4'.out.below hb5);have HR5:=Lib.hid (HR4'.out.below hb5);have HS5:=Lib.hid hs5;have HN5:=Lib.hid hn5;clear hb5 hs5 hn5;go_wp2_with fail;refine(signed_any false HR5.out).mono ?_;rintro e w6 ⟨hb6,v6,rfl,s6,u6,rfl,hs6,hn6⟩;obtain⟨ao6,k6,c6,rfl⟩:=hn6.form;have HX6:=Lib.hid (HX5.out.below hb6);obtain⟨f0,f1,f2,f3,g0,g1,g2,g3⟩:=HX6.out.outs;have hz6:=HX6.out.size
 have HE:=Lib.hid (fun W' =>int_end2 (L:=LL) (L' :=LL) (z:=z/y) (z' :=z%y) (w:=w) (s:=s5) (ao:=ao5) (k:=k5) (c:=c5) (s' :=s6) (ao' :=ao6) (k' :=k6) (c' :=c6) HX6.out.2.2.1 HX6.out.2.2.2.1 (by omega) HX6.out.2.2.2.2 (by omega) (by omega)
  (by rw[HS5.out,HD.out.1]) (by have:=HN5.out.below hb6;rw[HD.out.1] at this;exact this.mono (L' :=LL) (by omega))
  (by rw[hs6];show decide (sgn false _<0)=_;rw[HD.out.2];rfl) (by have:=hn6;rw[HD.out.2] at this;exact this.mono (L' :=LL) (by omega)) W')
 clear hb6 hs6 hn6 kb0 kb1 kb2 kb3;go_wp2;have hE:=HE.out _ rfl;exact bodyPost_ret (v:= .tuple #[.agg #[.bool s5, .slice ao5 k5 c5], .agg #[.bool s6, .slice ao6 k6 c6], .int .i64 0]) (by simp[results,Tryz.results133,go_sem,hE.2.2.2.1,hE.2.2.2.2.1,hE.2.2.2.2.2.1,hE.2.2.2.2.2.2]) rfl ⟨hE.1,_,_,rfl,hE.2.1,hE.2.2.1⟩
theorem idiv_any {La Lb:Nat}{va vb:Value}{z y:Int}{w:World}(ha:IntV La w va z)(hb:IntV Lb w vb y)(hy:y≠0)(h1:La<=268435455)(h2:Lb<=268435455):
 Calls Tryz.prog 133 #[va,vb] w (IdRet (max La Lb+2) w z y):=by
 by_cases hz:0<=z
 ·exact idiv_up ha hb hy hz h1 h2
 ·by_cases hr:(z.natAbs%y.natAbs:Int)=0
  ·exact idiv_flat ha hb hy (by omega) hr h1 h2
  ·exact idiv_down ha hb hy (by omega) hr h1 h2
def TBxs (w0:World)(os:List Obj)(W:World):Prop:=Below w0.heap.size w0 W/\w0.heap.size+os.length<=W.heap.size/\ ∀ i o,os[i]? =some o->W.heap[w0.heap.size+i]? =some o
theorem three_set {w:World}{g:Nat}{a b c:Value}{T:TypeId}(h:w.heap[g]? =some (.cells #[a,b,c] T (0,0)))(a' b' c' :Value):
 (((w.setCell ⟨g,0,none⟩ a').setCell ⟨g,1,none⟩ b').setCell ⟨g,2,none⟩ c').heap[g]? =some (.cells #[a',b',c'] T (0,0)):=by
 have h1:=heap_setCell_same w g 0 _ T a' h;have h2:=heap_setCell_same _ g 1 _ T b' h1;have h3:=heap_setCell_same _ g 2 _ T c' h2
 simpa using h3
def RatV (L:Nat)(w:World)(v:Value)(p q:Int):Prop:= ∃ sb sv uv,v= .agg #[.bool sb,sv,uv]/\sb=decide (p<0)/\Num L w sv p.natAbs/\Num L w uv (if q=1 then 0 else q)
def Low (p q:Int):Prop:=0<q/\Int.gcd p q=1
def RetRat (L:Nat)(w:World)(p q:Int)(e:Ending)(w' :World):Prop:=Below w.heap.size w w' /\ ∃ v',e= .returned v' /\RatV L w' v' p q


def decR (p q:Int):List UInt8:=if q=1 then Dg.decZ p else Dg.decZ p++47::Dg.decN q.toNat
def frN (a b:Int):Int:=(if b<0 then -a else a)/(Int.gcd a b:Int)
def frD (a b:Int):Int:=(b.natAbs:Int)/(Int.gcd a b:Int)
def MkRet (L:Nat)(w:World)(p q:Int)(e:Ending)(w' :World):Prop:=Below w.heap.size w w' /\ ∃ v',e= .returned (.tuple #[v', .int .i64 0])/\RatV L w' v' p q
abbrev rat0:Value:= .agg #[.bool false, .slice none 0 0, .slice none 0 0]
def MkRet2 (L:Nat)(w:World)(a b:Int)(e:Ending)(w' :World):Prop:=Below w.heap.size w w' /\ ∃ v' err,e= .returned (.tuple #[v', .int .i64 err])/\RatV L w' v' (if b=0 then 0 else frN a b) (if b=0 then 1 else frD a b)/\err=if b=0 then 6 else 0
def CrRet (L:Nat)(w:World)(y z:Int)(e:Ending)(w' :World):Prop:=Below w.heap.size w w' /\ ∃ v1 v2,e= .returned (.tuple #[v1,v2])/\IntV L w' v1 y/\IntV L w' v2 z
def smR (p q:Int):Bool:=smallB p.natAbs&&smallB (if q=1 then 0 else q)
def SmRat (L:Nat)(w:World)(p q:Int)(e:Ending)(w' :World):Prop:=Below w.heap.size w w' /\
 ((smR p q=true/\ ∃ v',e= .returned v' /\RatV L w' v' p q)\/(smR p q=false/\ ∃ u pv,e= .panicked [{v:= .iface u pv,recovered:=false}]))
def YdRat (L:Nat)(w:World)(p q:Int)(e:Ending)(w' :World):Prop:=Below w.heap.size w w' /\
 ((smR p q=true/\ ∃ v',e= .returned (.tuple #[v', .int .i64 0])/\RatV L w' v' p q)\/(smR p q=false/\e= .returned (.tuple #[rat0, .int .i64 11])))



def CutRet (s:ByteArray)(w:World)(e:Ending)(w' :World):Prop:=Below w.heap.size w w' /\
 ((∃ b a:ByteArray,e= .returned (.tuple #[.string b, .string a, .bool true])/\s.data.toList=b.data.toList++47::a.data.toList/\(47:UInt8)∉b.data.toList/\b.size<=s.size/\a.size<=s.size)\/
  (e= .returned (.tuple #[.string s, .string ⟨#[]⟩, .bool false])/\(47:UInt8)∉s.data.toList))
end
section
open Go Go.RowKit
end
section
open Go Go.RowKit
def PrRet (s:ByteArray)(w:World)(e:Ending)(w' :World):Prop:=Below w.heap.size w w' /\
 ((∃ p q v',s.data.toList=decR p q/\Low p q/\smR p q=true/\e= .returned (.tuple #[v', .int .i64 0])/\RatV (s.size+40000) w' v' p q)\/
  (∃ p q,s.data.toList=decR p q/\Low p q/\smR p q=false/\e= .returned (.tuple #[rat0, .int .i64 11]))\/
  ((∀ p q,Low p q->s.data.toList≠decR p q)/\e= .returned (.tuple #[rat0, .int .i64 10])))
structure TKept (p:Prop):Prop where
 out:p
theorem IntV.fit {L:Nat}{w:World}{v:Value}{z:Int}(h:IntV L w v z)(hs:smallB z.natAbs=true):IntV 625 w v z:=by
 obtain⟨sb,sv,e,h1,xs,a1,a2,a3,a4,a5⟩:=h;refine⟨sb,sv,e,h1,xs,a1,a2,a3,a4,?_⟩;refine Dg.len_le_of_val_lt (by decide) a2 a3 ?_;rw[a4];have h2:(z.natAbs:Int)<2 ^ maxBits:=of_decide_eq_true hs;rw[show maxBits=64*625 from rfl,Int.pow_mul] at h2;exact h2
def RetOk (L:Nat)(w:World)(z:Int)(e:Ending)(w' :World):Prop:=Below w.heap.size w w' /\ ∃ s ao k c,e= .returned (.tuple #[.agg #[.bool s, .slice ao k c], .int .i64 0])/\IntV L w' (.agg #[.bool s, .slice ao k c]) z
theorem YdRet.yes {L:Nat}{w:World}{z:Int}{e:Ending}{w' :World}(h:YdRet L w z e w')(hs:smallB z.natAbs=true):RetOk 625 w z e w' :=by
 obtain⟨hb,⟨hsm,v',rfl,hI⟩|⟨hsm,_⟩⟩:=h
 ·obtain⟨s,sv,rfl,h1,hn⟩:=hI.fit hsm;obtain⟨ao,k,c,rfl⟩:=hn.form;exact⟨hb,s,ao,k,c,rfl,_,_,rfl,h1,hn⟩
 ·rw[hs] at hsm;cases hsm
theorem Num.keep {L:Nat}{w w' :World}{v:Value}{n:Int}{g:Nat}{cs:Array Value}{T:TypeId}{fr:Nat × Nat}(h:Num L w v n)(hg:w.heap[g]? =some (.cells cs T fr))(hc:∀ (i:Nat) (m:Int),cs[i]? ≠some (Value.int .u64 m))(hgr:w.grownBy w' (some g)):Num L w' v n:=by
 obtain⟨xs,h1,h2⟩:=h;exact⟨xs,h1.kept hgr (fun k hk e=>h1.not_boxT hg hc (hk.trans e.symm)),h2⟩
theorem IntV.keep {L:Nat}{w w' :World}{v:Value}{z:Int}{g:Nat}{cs:Array Value}{T:TypeId}{fr:Nat × Nat}(h:IntV L w v z)(hg:w.heap[g]? =some (.cells cs T fr))(hc:∀ (i:Nat) (m:Int),cs[i]? ≠some (Value.int .u64 m))(hgr:w.grownBy w' (some g)):IntV L w' v z:=
 let ⟨sb,sv,e,h1,hn⟩:=h;⟨sb,sv,e,h1,hn.keep hg hc hgr⟩
def Cz (w:World)(g N:Nat)(F:Nat->Int):Prop:= ∃ cur:Array Value,w.heap[g]? =some (.cells cur 98 (0,0))/\cur.size=2*N/\
 ∀ d,d<N-> ∃ (s:Bool) (ao:Option Addr) (k c:Nat),cur[d*2]? =some (.bool s)/\cur[d*2+1]? =some (.slice ao k c)/\IntV 1 w (.agg #[.bool s, .slice ao k c]) (F d)
theorem Cz.lt {w:World}{g N:Nat}{F:Nat->Int}(h:Cz w g N F):g<w.heap.size:=by
 obtain⟨cur,h1,_⟩:=h;exact(Array.getElem?_eq_some_iff.1 h1).1
theorem Cz.below {w w' :World}{g N:Nat}{F:Nat->Int}(h:Cz w g N F)(hb:Below w.heap.size w w'):Cz w' g N F:=by
 have hl:=h.lt;obtain⟨cur,h1,h2,h3⟩:=h;refine⟨cur,(hb.block _ hl).trans h1,h2,fun d hd=> ?_⟩;obtain⟨s,ao,k,c,a1,a2,a3⟩:=h3 d hd;exact⟨s,ao,k,c,a1,a2,a3.below hb⟩
theorem Cz.at {w:World}{g N:Nat}{F:Nat->Int}(h:Cz w g N F){d:Nat}(hd:d<N):∃ (s:Bool) (ao:Option Addr) (k c:Nat),w.cell? ⟨g,d*2,none⟩=some (.bool s)/\w.cell? ⟨g,d*2+1,none⟩=some (.slice ao k c)/\IntV 1 w (.agg #[.bool s, .slice ao k c]) (F d):=by
 obtain⟨cur,h1,h2,h3⟩:=h;obtain⟨s,ao,k,c,a1,a2,a3⟩:=h3 d hd;exact⟨s,ao,k,c,by rw[cell_of_row w g _ cur _ (0,0) h1];exact a1,by rw[cell_of_row w g _ cur _ (0,0) h1];exact a2,a3⟩
theorem Cz.free {w:World}{g N:Nat}{F:Nat->Int}(h:Cz w g N F)(i:Nat):w.frozen? ⟨g,i,none⟩=false:=by
 obtain⟨cur,h1,_⟩:=h;exact frozen_of_row w g i cur _ h1
theorem Cz.no_int {cur:Array Value}{N:Nat}(h2:cur.size=2*N)(h3:∀ d,d<N-> ∃ (s:Bool) (ao:Option Addr) (k c:Nat),cur[d*2]? =some (.bool s)/\cur[d*2+1]? =some (.slice ao k c))(i:Nat)(m:Int):cur[i]? ≠some (Value.int .u64 m):=fun e=>by
 have hi:i<cur.size:=(Array.getElem?_eq_some_iff.1 e).1;obtain⟨s,ao,k,c,a1,a2⟩:=h3 (i/2) (by omega)
 rcases Nat.mod_two_eq_zero_or_one i with h|h
 ·rw[show i/2*2=i by omega,e] at a1
  cases a1
 ·rw[show i/2*2+1=i by omega,e] at a2
  cases a2
theorem Cz.set {w:World}{g N:Nat}{F:Nat->Int}(h:Cz w g N F){i:Nat}(hi:i<N){s:Bool}{ao:Option Addr}{k c:Nat}{z:Int}(hz:IntV 1 w (.agg #[.bool s, .slice ao k c]) z):Cz ((w.setCell ⟨g,i*2,none⟩ (.bool s)).setCell ⟨g,i*2+1,none⟩ (.slice ao k c)) g N (fun d=>if d=i then z else F d):=by
 obtain⟨cur,h1,h2,h3⟩:=h;have hg:w.grownBy ((w.setCell ⟨g,i*2,none⟩ (.bool s)).setCell ⟨g,i*2+1,none⟩ (.slice ao k c)) (some g):=growSet (growSet (growRefl w _) _ _) _ _;have hni:=Cz.no_int h2 (fun d hd=>by obtain⟨s,ao,k,c,a1,a2,_⟩:=h3 d hd;exact⟨s,ao,k,c,a1,a2⟩);refine⟨(cur.setIfInBounds (i*2) (.bool s)).setIfInBounds (i*2+1) (.slice ao k c),heap_setCell_same _ g _ _ _ _ (heap_setCell_same w g _ cur _ _ h1),by simp[h2],fun d hd=> ?_⟩
 by_cases e:d=i
 ·subst e;refine⟨s,ao,k,c,?_,?_,by show IntV 1 _ _ (if d=d then z else F d);rw[if_pos rfl];exact hz.keep h1 hni hg⟩
  ·rw[Array.getElem?_setIfInBounds_ne (by omega),Array.getElem?_setIfInBounds_self_of_lt (by omega)]
  ·rw[Array.getElem?_setIfInBounds_self_of_lt (by simp;omega)]
 ·obtain⟨s',ao',k',c',a1,a2,a3⟩:=h3 d hd;refine⟨s',ao',k',c',?_,?_,by show IntV 1 _ _ (if d=i then z else F d);rw[if_neg e];exact a3.keep h1 hni hg⟩
  ·rw[Array.getElem?_setIfInBounds_ne (by omega),Array.getElem?_setIfInBounds_ne (by omega)];exact a1
  ·rw[Array.getElem?_setIfInBounds_ne (by omega),Array.getElem?_setIfInBounds_ne (by omega)];exact a2
theorem IntV.zero (L:Nat)(w:World):IntV L w (.agg #[.bool false, .slice none 0 0]) 0:=⟨false,_,rfl,rfl,⟨[],Sl.nil _ _,by simp[Dg.Wf],by simp[Dg.Nz],rfl,by simp⟩⟩
theorem Cz.start {w:World}{g N:Nat}(h:w.heap[g]? =some (.cells (madeCells #[.bool false, .slice none 0 0] (N*2)) 98 (0,0))):Cz w g N (fun _=>0):=by
 refine⟨_,h,by rw[size_madeCells];omega,fun d hd=>⟨false,none,0,0,?_,?_,IntV.zero 1 w⟩⟩
 ·unfold madeCells;rw[Array.getElem?_map,Array.getElem?_range,if_pos (by omega)];simp[show d*2%2=0 by omega]
 ·unfold madeCells;rw[Array.getElem?_map,Array.getElem?_range,if_pos (by omega)];simp[show(d*2+1)%2=1 by omega]
set_option maxRecDepth 20000 in
theorem isum_any {La Lb:Nat}{va vb:Value}{y z:Int}{w:World}(ha:IntV La w va y)(hb:IntV Lb w vb z)(h1:La<=1000)(h2:Lb<=1000)(hsm:smallB (y+z).natAbs=true):
 Calls Tryz.prog 287 #[.agg #[],va,vb] w (RetInt 625 w (y+z)):=by
 have ha' :=ha;have hb' :=hb;obtain⟨sa,ua,rfl,hsa,hna⟩:=ha;obtain⟨sb,ub,rfl,hsb,hnb⟩:=hb;obtain⟨ao,ka,ca,rfl⟩:=hna.form;obtain⟨bo,kb,cb,rfl⟩:=hnb.form;have HX0:Kept (Bxs w [.cells #[] 227, .cells #[.bool sa, .slice ao ka ca] 98, .cells #[.bool sb, .slice bo kb cb] 98, .cells #[.bool false, .slice none 0 0] 98] ((((w.alloc (.cells #[] 227)).alloc (.cells #[.bool sa, .slice ao ka ca] 98)).alloc (.cells #[.bool sb, .slice bo kb cb] 98)).alloc (.cells #[.bool false, .slice none 0 0] 98))):=⟨((((Bxs.start w).alloc (by simp) _).alloc (by simp) _).alloc (by simp) _).alloc (by simp) _⟩;have HA:=Km (ha'.below HX0.out.1);have HB:=Km (hb'.below HX0.out.1);obtain⟨i0,i1,_⟩:=two_cells HX0.out.b1;obtain⟨j0,j1,_⟩:=two_cells (HX0.out.2.2 2 _ rfl);clear hsa hsb ha' hb'
 go_enter Tryz.func287,Tryz.ntmps287
 go_wp2_with fail;refine(add_any HA.out HB.out (by omega) (by omega)).mono ?_;intro e w1 hy;obtain⟨hb1,s,ao2,k2,c2,rfl,hI⟩:=YdRet.yes hy hsm;have HX1:=Km (HX0.out.below hb1);have HI:=Km hI;have h3:=HX1.out.2.2 3 _ rfl;have hl:w.heap.size+3<w1.heap.size:=(Array.getElem?_eq_some_iff.1 h3).1;obtain⟨c0,c1,f0,f1⟩:=two_cells h3;clear hy hb1 hI;go_wp2;have hset:=two_set h3 (.bool s) (.slice ao2 k2 c2);have hgr:w1.grownBy ((w1.setCell ⟨w.heap.size+3,0,none⟩ (.bool s)).setCell ⟨w.heap.size+3,1,none⟩ (.slice ao2 k2 c2)) (some (w.heap.size+3)):=growSet (growSet (growRefl _ _) _ _) _ _;have hI2:=HI.out.keep h3 (fun i m e=>by rcases i with _|_|i<;>simp at e) hgr;have hbA:Below ((w1.setCell ⟨w.heap.size+3,0,none⟩ (.bool s)).setCell ⟨w.heap.size+3,1,none⟩ (.slice ao2 k2 c2)).heap.size ((w1.setCell ⟨w.heap.size+3,0,none⟩ (.bool s)).setCell ⟨w.heap.size+3,1,none⟩ (.slice ao2 k2 c2)) (((w1.setCell ⟨w.heap.size+3,0,none⟩ (.bool s)).setCell ⟨w.heap.size+3,1,none⟩ (.slice ao2 k2 c2)).alloc (.cells #[.bool s, .slice ao2 k2 c2] 98)):=(Below.refl _ _).alloc (Nat.le_refl _) _;have hbb:=((HX1.out.1.setCell (p:=⟨w.heap.size+3,0,none⟩) (by simp) (.bool s)).setCell (p:=⟨w.heap.size+3,1,none⟩) (by simp) (.slice ao2 k2 c2));obtain⟨q0,q1,_⟩:=two_cells ((hbA.block _ (Array.getElem?_eq_some_iff.1 hset).1).trans hset);exact bodyPost_ret (v:= .agg #[.bool s, .slice ao2 k2 c2]) (by simp[results,Tryz.results287,go_sem,q0,q1]) rfl ⟨hbb.trans (hbA.mono hbb.size),_,rfl,hI2.below hbA⟩
set_option maxRecDepth 20000 in
theorem iproduct_any {La Lb:Nat}{va vb:Value}{y z:Int}{w:World}(ha:IntV La w va y)(hb:IntV Lb w vb z)(h1:La<=1000)(h2:Lb<=1000)(hsm:smallB (y*z).natAbs=true):
 Calls Tryz.prog 286 #[.agg #[],va,vb] w (RetInt 625 w (y*z)):=by
 have ha' :=ha;have hb' :=hb;obtain⟨sa,ua,rfl,hsa,hna⟩:=ha;obtain⟨sb,ub,rfl,hsb,hnb⟩:=hb;obtain⟨ao,ka,ca,rfl⟩:=hna.form;obtain⟨bo,kb,cb,rfl⟩:=hnb.form;have HX0:Kept (Bxs w [.cells #[] 227, .cells #[.bool sa, .slice ao ka ca] 98, .cells #[.bool sb, .slice bo kb cb] 98, .cells #[.bool false, .slice none 0 0] 98] ((((w.alloc (.cells #[] 227)).alloc (.cells #[.bool sa, .slice ao ka ca] 98)).alloc (.cells #[.bool sb, .slice bo kb cb] 98)).alloc (.cells #[.bool false, .slice none 0 0] 98))):=⟨((((Bxs.start w).alloc (by simp) _).alloc (by simp) _).alloc (by simp) _).alloc (by simp) _⟩;have HA:=Km (ha'.below HX0.out.1);have HB:=Km (hb'.below HX0.out.1);obtain⟨i0,i1,_⟩:=two_cells HX0.out.b1;obtain⟨j0,j1,_⟩:=two_cells (HX0.out.2.2 2 _ rfl);clear hsa hsb ha' hb'
 go_enter Tryz.func286,Tryz.ntmps286
 go_wp2_with fail;refine(mul_any HA.out HB.out (by omega) (by omega)).mono ?_;intro e w1 hy;obtain⟨hb1,s,ao2,k2,c2,rfl,hI⟩:=YdRet.yes hy hsm;have HX1:=Km (HX0.out.below hb1);have HI:=Km hI;have h3:=HX1.out.2.2 3 _ rfl;have hl:w.heap.size+3<w1.heap.size:=(Array.getElem?_eq_some_iff.1 h3).1;obtain⟨c0,c1,f0,f1⟩:=two_cells h3;clear hy hb1 hI;go_wp2;have hset:=two_set h3 (.bool s) (.slice ao2 k2 c2);have hgr:w1.grownBy ((w1.setCell ⟨w.heap.size+3,0,none⟩ (.bool s)).setCell ⟨w.heap.size+3,1,none⟩ (.slice ao2 k2 c2)) (some (w.heap.size+3)):=growSet (growSet (growRefl _ _) _ _) _ _;have hI2:=HI.out.keep h3 (fun i m e=>by rcases i with _|_|i<;>simp at e) hgr;have hbA:Below ((w1.setCell ⟨w.heap.size+3,0,none⟩ (.bool s)).setCell ⟨w.heap.size+3,1,none⟩ (.slice ao2 k2 c2)).heap.size ((w1.setCell ⟨w.heap.size+3,0,none⟩ (.bool s)).setCell ⟨w.heap.size+3,1,none⟩ (.slice ao2 k2 c2)) (((w1.setCell ⟨w.heap.size+3,0,none⟩ (.bool s)).setCell ⟨w.heap.size+3,1,none⟩ (.slice ao2 k2 c2)).alloc (.cells #[.bool s, .slice ao2 k2 c2] 98)):=(Below.refl _ _).alloc (Nat.le_refl _) _;have hbb:=((HX1.out.1.setCell (p:=⟨w.heap.size+3,0,none⟩) (by simp) (.bool s)).setCell (p:=⟨w.heap.size+3,1,none⟩) (by simp) (.slice ao2 k2 c2));obtain⟨q0,q1,_⟩:=two_cells ((hbA.block _ (Array.getElem?_eq_some_iff.1 hset).1).trans hset);exact bodyPost_ret (v:= .agg #[.bool s, .slice ao2 k2 c2]) (by simp[results,Tryz.results286,go_sem,q0,q1]) rfl ⟨hbb.trans (hbA.mono hbb.size),_,rfl,hI2.below hbA⟩
end
section
namespace FFld
def evz (q:Int):List Int->Int
 | []=>0
 |c::l=>c+q*evz q l
def adz:List Int->List Int->List Int
 | [],b=>b
 |a,[]=>a
 |x::a,y::b=>(x+y)::adz a b
theorem evz_cong (q r n m:Int)(h:q=r+n*m):∀ l,∃ k,evz q l=evz r l+n*k
 | []=>⟨0,by simp[evz]⟩
 | c::l=>by
   obtain⟨k,hk⟩:=evz_cong q r n m h l;refine⟨r*k+m*evz q l,?_⟩;simp only[evz];have e1:q*evz q l=r*evz q l+n*m*evz q l:=by rw[<- Int.add_mul,<- h]
   have e2:r*evz q l=r*evz r l+r*(n*k):=by rw[hk,Int.mul_add]
   have e3:n*(r*k+m*evz q l)=r*(n*k)+n*m*evz q l:=by rw[Int.mul_add,Int.mul_left_comm,Int.mul_assoc]
   omega
def pls (n:Nat):List Nat:=(List.range (n+1)).filter fun f=>isP f&&(n%f==0)
def muT (n:Nat):Int:=if (pls n).any (fun f=>n%(f*f)==0) then 0 else if (pls n).length%2==0 then 1 else -1
theorem Facs.perm {n:Nat}{l:List Nat}(h:Facs n l)(hn:1<=n):l.Perm (pls n):=by
 refine(List.perm_ext_iff_of_nodup h.nodup (List.nodup_range.filter _)).2 fun f=> ?_
 rw[h.mem,List.mem_filter,List.mem_range,Bool.and_eq_true,isP_iff,beq_iff_eq];constructor
 ·intro⟨h1,h2⟩;have:=Nat.le_of_dvd (by omega) h2;exact⟨by omega,h1,Nat.mod_eq_zero_of_dvd h2⟩
 ·intro⟨_,h1,h2⟩;exact⟨h1,Nat.dvd_of_mod_eq_zero h2⟩
theorem mu_zero {n f:Nat}{l:List Nat}(h:Facs n l)(hn:1<=n)(hf:f∈l)(hz:n%(f*f)=0):muT n=0:=by
 unfold muT;rw[if_pos];exact List.any_eq_true.2 ⟨f,(h.perm hn).mem_iff.1 hf,by rw[hz];rfl⟩
theorem mu_sign {n:Nat}{l:List Nat}(h:Facs n l)(hn:1<=n)(ha:∀ f∈l,n%(f*f)≠0):muT n=if l.length%2=0 then 1 else -1:=by
 unfold muT;rw[if_neg,<- (h.perm hn).length_eq]
 ·simp
 ·intro hc;obtain⟨f,hf,hz⟩:=List.any_eq_true.1 hc;exact ha f ((h.perm hn).mem_iff.2 hf) (by simpa using hz)
theorem mu_in:∀ n:Nat,n<41-> -1<=muT n/\muT n<=1:=by decide +kernel
def cfz (n:Nat):List Int:=(List.range (n+1)).map fun d=>if d=0 then 0 else if n%d=0 then muT (n/d) else 0
def sumz (n:Nat):List Int:=(List.range (n+1)).foldl (fun s d=>if d=0 then s else if n%d=0 then adz s (cfz d) else s) []
theorem gauss_dvd_dec:∀ n:Nat,n<41-> ∀ r:Nat,r<n->evz (r:Int) (cfz n)%(n:Int)=0:=by decide +kernel
theorem gauss_dvd {n:Nat}(h1:1<=n)(hn:n<=40)(q:Int):∃ k,evz q (cfz n)=n*k:=by
 have hm:0<=q%n:=Int.emod_nonneg _ (by omega);have hl:q%n<n:=Int.emod_lt_of_pos _ (by omega);obtain⟨r,hr⟩:∃ r:Nat,q%n=r:=⟨(q%n).toNat,by omega⟩;obtain⟨k,hk⟩:=evz_cong q (q%n) n (q/n) (by have:=Int.emod_add_mul_ediv q n;omega) (cfz n);have h0:=gauss_dvd_dec n (by omega) r (by omega);rw[hr] at hk;have h2:=Int.emod_add_mul_ediv (evz (r:Int) (cfz n)) n;rw[h0] at h2;exact⟨evz (r:Int) (cfz n)/n+k,by rw[Int.mul_add];omega⟩
theorem cfz_len (n:Nat):(cfz n).length=n+1:=by simp[cfz]
theorem cfz_get {n d:Nat}(hd:d<=n):(cfz n)[d]?.getD 0=if d=0 then 0 else if n%d=0 then muT (n/d) else 0:=by
 unfold cfz;rw[List.getElem?_map,List.getElem?_range (by omega)];rfl
def hz (l:List Int)(q:Int):Nat->Int
 |0=>0
 |i+1=>hz l q i*q+l[l.length-1-i]?.getD 0
theorem hz_evz (l:List Int)(q:Int):∀ i,i<=l.length->hz l q i=evz q (l.drop (l.length-i))
 |0,_=>by simp[hz,evz]
 | i +1,hi=>by
   have e:l.drop (l.length-(i+1))=(l[l.length-1-i]?.getD 0)::l.drop (l.length-i):=by
    rw[List.drop_eq_getElem_cons (by omega)]
    congr 1
    ·rw[List.getElem?_eq_getElem (by omega)];simp only[Option.getD_some]
     congr 1
     omega
    ·congr 1
     omega
   rw[e];simp only[hz,evz];rw[hz_evz l q i (by omega),Int.mul_comm];omega
theorem hz_all (l:List Int)(q:Int):hz l q l.length=evz q l:=by
 rw[hz_evz l q _ (Nat.le_refl _),Nat.sub_self,List.drop_zero]
def irrs (q n:Nat):Int:=evz q (cfz n)/n
theorem irrs_mul {q n:Nat}(h1:1<=n)(hn:n<=40):(n:Int)*irrs q n=evz q (cfz n):=by
 obtain⟨k,hk⟩:=gauss_dvd h1 hn q;unfold irrs;rw[hk,Int.mul_ediv_cancel_left _ (by omega)]
def dsum (f:Nat->Int)(n:Nat):Nat->Int
 |0=>0
 |i+1=>if n%(i+1)=0 then dsum f n i+(i+1:Nat)*f (i+1) else dsum f n i
end FFld
end
section
open Go Go.RowKit
namespace FFld
def hzF (F:Nat->Int)(N:Nat)(q:Int):Nat->Int
 |0=>0
 |i+1=>hzF F N q i*q+F (N-1-i)
theorem hzF_le {F:Nat->Int}(hF:∀ d, -1<=F d/\F d<=1)(N:Nat){q:Nat}(hq:q<=65536):∀ i,(hzF F N q i).natAbs+1<=2 ^ (17*i)
 |0=>by simp[hzF]
 | i+1=>by
   have ih:=hzF_le hF N hq i;have h1:=hF (N-1-i)
   have e:(hzF F N q (i+1)).natAbs<=(hzF F N q i).natAbs*q+1:=by
    have e1:hzF F N q (i+1)=hzF F N q i*q+F (N-1-i):=rfl;rw[e1];have e2:(hzF F N q i*(q:Int)).natAbs=(hzF F N q i).natAbs*q:=by rw[Int.natAbs_mul];rfl
    omega
   have e3:(hzF F N q i).natAbs*q<=(hzF F N q i).natAbs*65536:=Nat.mul_le_mul_left _ hq;have e4:2 ^ (17*(i+1))=2 ^ (17*i)*131072:=by rw[Nat.mul_add,Nat.pow_add]
   have e5:1<=2 ^ (17*i):=Nat.pow_pos (by omega);omega
end FFld
theorem small_pow {z:Int}{k:Nat}(h:z.natAbs+1<=2 ^ k)(hk:k<=1000):smallB z.natAbs=true:=by
 unfold smallB;rw[decide_eq_true_eq];have h1:2 ^ k<=2 ^ maxBits:=Nat.pow_le_pow_right (by omega) (Nat.le_trans hk (by unfold maxBits;omega));have h2:z.natAbs<2 ^ maxBits:=by omega
 have h3:((z.natAbs:Nat):Int)<((2 ^ maxBits:Nat):Int):=by omega
 rw[Int.natCast_pow] at h3;exact h3
theorem ring_sum:∀ W,(method 378 227 (.agg #[]) "dauber/field.sum").run Tryz.prog W= .ok (287, .agg #[]) W:=fun W=>by kernel_rfl
theorem ring_product:∀ W,(method 378 227 (.agg #[]) "dauber/field.product").run Tryz.prog W= .ok (286, .agg #[]) W:=fun W=>by kernel_rfl
theorem ring_nil:∀ W,(nilAhead 378 227 (.agg #[]) "dauber/field.sum").run Tryz.prog W= .ok (some false) W:=fun W=>by kernel_rfl
set_option maxRecDepth 20000 in
theorem value_any {g N q:Nat}{F:Nat->Int}{vx:Value}{w:World}(hc:Cz w g N F)(hF:∀ d, -1<=F d/\F d<=1)(hN:N<=41)(hx:IntV 1 w vx q)(hq:q<=65536):
 Calls Tryz.prog 214 #[.iface 227 (.agg #[]), .slice (some ⟨g,0,none⟩) N N,vx] w (RetInt 625 w (FFld.hzF F N q N)):=by
 have hx' :=hx;obtain⟨sx,sv,rfl,hsx,hnx⟩:=hx;obtain⟨xo,xk,xc,rfl⟩:=hnx.form;have hgl:=hc.lt;have HX0:Kept (Bxs w [.cells #[.bool sx, .slice xo xk xc] 98, .cells #[.bool false, .slice none 0 0] 98, .cells #[.bool false, .slice none 0 0] 98] (((w.alloc (.cells #[.bool sx, .slice xo xk xc] 98)).alloc (.cells #[.bool false, .slice none 0 0] 98)).alloc (.cells #[.bool false, .slice none 0 0] 98))):=⟨(((Bxs.start w).alloc (by simp) _).alloc (by simp) _).alloc (by simp) _⟩;have HC:=Km hc;have HX:=Km hx';have HLE:=Km (fun i=>FFld.hzF_le hF N hq i);have HFB:=Km hF;have hms:=ring_sum;have hmp:=ring_product;have hmn:=ring_nil;have hz1:Kept (IntV 625 (((w.alloc (.cells #[.bool sx, .slice xo xk xc] 98)).alloc (.cells #[.bool false, .slice none 0 0] 98)).alloc (.cells #[.bool false, .slice none 0 0] 98)) (.agg #[.bool false, .slice none 0 0]) (FFld.hzF F N q 0)):=⟨IntV.zero _ _⟩;clear hc hx' hsx hnx hF
 go_enter Tryz.func214,Tryz.ntmps214
 go_wp2
 go_loopw [8] (fun iv wr=> ∃ (i:Nat) (s:Bool) (ro:Option Addr) (rk rc:Nat),i<=N/\iv= .int .i64 ((N:Int)-1-i)/\Kept (Below w.heap.size w wr)/\Kept (wr.heap[w.heap.size]? =some (.cells #[.bool sx, .slice xo xk xc] 98 (0,0)))/\Kept (wr.heap[w.heap.size+1]? =some (.cells #[.bool false, .slice none 0 0] 98 (0,0)))/\Kept (wr.heap[w.heap.size+2]? =some (.cells #[.bool s, .slice ro rk rc] 98 (0,0)))/\Kept (IntV 625 wr (.agg #[.bool s, .slice ro rk rc]) (FFld.hzF F N q i))) (fun iv _=>(intOf iv+1).toNat)
 case atStart=>exact⟨0,false,none,0,0,Nat.zero_le _,by go_num,⟨HX0.out.1⟩,⟨HX0.out.b0⟩,⟨HX0.out.b1⟩,⟨HX0.out.2.2 2 _ rfl⟩,hz1⟩
 case round=>
  obtain⟨i,s,ro,rk,rc,hiN,rfl,hbw,hb5,hb6,hb7,hI⟩:=hrel;have hbx5:=hb5.out;have hbx7:=hb7.out;have hl7:w.heap.size+2<wr.heap.size:=(Array.getElem?_eq_some_iff.1 hbx7).1
  by_cases hlt:i<N
  ·obtain⟨j,hj⟩:∃ j,N-1-i=j:=⟨_,rfl⟩;have hj1:(N:Int)-1-i=j:=by omega
   rw[hj1];have hjN:j<N:=by omega
   obtain⟨sc,co,ck,cc,q2,q3,hci⟩:=(HC.out.below hbw.out).at hjN;obtain⟨q0,q1,_⟩:=two_cells hbx5;obtain⟨m0,m1,x0,x1⟩:=two_cells hbx7;obtain⟨h,hh⟩:∃ h,FFld.hzF F N q i=h:=⟨_,rfl⟩;obtain⟨h2,hh2⟩:∃ h,FFld.hzF F N q (i+1)=h:=⟨_,rfl⟩;have hrec:h*q+F j=h2:=by rw[<- hh2,<- hh,<- hj];rfl
   have HCI:=Km hci;have HXI:=Km (HX.out.below hbw.out);have HBW:=Km hbw.out;rw[hh] at hI;have HI:=hI;have b1:=HLE.out i;have b2:=HLE.out (i+1);rw[hh] at b1;rw[hh2] at b2
   have hsp:smallB (h*(q:Int)).natAbs=true:=small_pow (k:=17*i+17) (by
    have e2:(h*(q:Int)).natAbs=h.natAbs*q:=by rw[Int.natAbs_mul];rfl
    have e3:h.natAbs*q<=h.natAbs*65536:=Nat.mul_le_mul_left _ hq;have e4:2 ^ (17*i+17)=2 ^ (17*i)*131072:=by rw[Nat.pow_add]
    omega) (by omega)
   have hss:smallB (h*(q:Int)+F j).natAbs=true:=by rw[hrec];exact small_pow b2 (by omega)
   have HPR:Kept (∀ W,IntV 625 W (.agg #[.bool s, .slice ro rk rc]) h->IntV 1 W (.agg #[.bool sx, .slice xo xk xc]) q->Calls Tryz.prog 286 #[.agg #[], .agg #[.bool s, .slice ro rk rc], .agg #[.bool sx, .slice xo xk xc]] W (RetInt 625 W (h*q))):=⟨fun W h1 h2=>iproduct_any h1 h2 (by omega) (by omega) hsp⟩;have HSU:Kept (∀ W {v2 vc:Value},IntV 625 W v2 (h*q)->IntV 1 W vc (F j)->Calls Tryz.prog 287 #[.agg #[],v2,vc] W (RetInt 625 W h2)):=⟨fun W v2 vc h1 h2' =>by have:=isum_any h1 h2' (by omega) (by omega) hss;rewrite[hrec] at this;exact this⟩;have HH2:Kept (FFld.hzF F N q (i+1)=h2):=⟨hh2⟩;have hlj:(j:Int)<(N:Int):=by omega
   have hj0:(0:Int)<=(j:Int):=by omega
   have hgw:g<wr.heap.size:=by omega
   clear hci hh hh2 hrec b1 b2 hsp hss hI hj hbw;go_wp2;refine wp_region_held_drew (S:=fun w' =>w'.cell? ⟨w.heap.size,0,none⟩=some (.bool sx)/\w'.cell? ⟨w.heap.size,1,none⟩=some (.slice xo xk xc)/\w'.cell? ⟨g,j*2,none⟩=some (.bool sc)/\w'.cell? ⟨g,j*2+1,none⟩=some (.slice co ck cc)) (by kernel_rfl) ⟨q0,q1,q2,q3⟩ (fun hHeld=> ?_);refine wpAnyH_take (i:=0) (v:= ?_) rfl (by kernel_rfl) (by kernel_rfl) (by kernel_rfl) (fun _ _ _ h=>h) (Or.inl ⟨by rfl,?_⟩) (by assumption) ?_;rotate_left
   ·(intro w hSw;(try dsimp only at hSw);go_simp;(try with_reducible rfl))
   try simp only[Act.put,sA]
   refine wpAnyH_take (i:=1) (v:= ?_) rfl (by kernel_rfl) (by kernel_rfl) (by kernel_rfl) (fun _ _ _ h=>h) (Or.inl ⟨by rfl,?_⟩) (by assumption) ?_;rotate_left
   ·(intro w hSw;(try dsimp only at hSw);go_simp;(try with_reducible rfl))
   try simp only[Act.put,sA]
   refine wpAnyH_take (i:=3) (v:= ?_) rfl (by kernel_rfl) (by kernel_rfl) (by kernel_rfl) (fun _ _ _ h=>h) (Or.inl ⟨by rfl,?_⟩) (by assumption) ?_;rotate_left
   ·(intro w hSw;(try dsimp only at hSw);go_simp;(try with_reducible rfl))
   try simp only[Act.put,sA]
   refine wpAnyH_take (i:=5) (v:= ?_) rfl (by kernel_rfl) (by kernel_rfl) (by kernel_rfl) (fun _ _ _ h=>h) (Or.inl ⟨by rfl,?_⟩) (by assumption) ?_;rotate_left
   ·(intro w hSw;(try dsimp only at hSw);go_simp;(try with_reducible rfl))
   try simp only[Act.put,sA]
   refine wpAnyH_take (i:=6) (v:= ?_) rfl (by kernel_rfl) (by kernel_rfl) (by kernel_rfl) (fun _ _ _ h=>h) (Or.inl ⟨by rfl,?_⟩) (by assumption) ?_;rotate_left
   ·(intro w hSw;(try dsimp only at hSw);go_simp;(try with_reducible rfl))
   try simp only[Act.put,sA]
   refine wpAnyH_take (i:=7) (v:= ?_) rfl (by kernel_rfl) (by kernel_rfl) (by kernel_rfl) (fun _ _ _ h=>h) (Or.inl ⟨by rfl,?_⟩) (by assumption) ?_;rotate_left
   ·(intro w hSw;(try dsimp only at hSw);go_simp;(try with_reducible rfl))
   try simp only[Act.put,sA]
   refine wpAnyH_take (i:=8) (v:= ?_) rfl (by kernel_rfl) (by kernel_rfl) (by kernel_rfl) (fun _ _ _ h=>h) (Or.inl ⟨by rfl,?_⟩) (by assumption) ?_;rotate_left
   ·(intro w hSw;(try dsimp only at hSw);go_simp;(try with_reducible rfl))
   try simp only[Act.put,sA]
   refine wpAnyH_take (i:=9) (v:= ?_) rfl (by kernel_rfl) (by kernel_rfl) (by kernel_rfl) (fun _ _ _ h=>h) (Or.inl ⟨by rfl,?_⟩) (by assumption) ?_;rotate_left
   ·(intro w hSw;(try dsimp only at hSw);go_simp;(try with_reducible rfl))
   try simp only[Act.put,sA]
   refine wpAnyH_take (i:=10) (v:= ?_) rfl (by kernel_rfl) (by kernel_rfl) (by kernel_rfl) (fun _ _ _ h=>h) (Or.inl ⟨by rfl,?_⟩) (by assumption) ?_;rotate_left
   ·(intro w hSw;(try dsimp only at hSw);go_simp;(try with_reducible rfl))
   try simp only[Act.put,sA]
   refine wpAnyH_take (i:=11) (v:= ?_) rfl (by kernel_rfl) (by kernel_rfl) (by kernel_rfl) (fun _ _ _ h=>h) (Or.inl ⟨by rfl,?_⟩) (by assumption) ?_;rotate_left
   ·(intro w hSw;(try dsimp only at hSw);go_simp;(try with_reducible rfl))
   try simp only[Act.put,sA]
   refine wpAnyH_ready (rs:= [2]) (by kernel_rfl) (by simp) ?_;refine(AllReadyH.cons rfl (fun K hK=> ?_) AllReadyH.nil)
   go_simp
   refine hK.out _ _ ⟨q0,q1,q2,q3⟩ (fun hHeld=> ?_);clear hK K
   try simp only[Act.put,sA]
   refine wpAnyH_ready (rs:= [4]) (by kernel_rfl) (by simp) ?_;refine(AllReadyH.cons rfl (fun K hK=> ?_) AllReadyH.nil)
   go_simp
   refine(HPR.out _ (by exact HI.out.below (Below.refl _ _).drew) (by exact HXI.out.below (Below.refl _ _).drew)).mono ?_;rintro e w2 ⟨hb2,v2,rfl,hI2⟩;obtain⟨s2,sv2,rfl,hs2,hn2⟩:=hI2;obtain⟨o2,k2,c2,rfl⟩:=hn2.form;have hR2:Below wr.heap.size wr w2:=(Below.refl _ _).drew.trans hb2;have p0:=belowCell hR2 q0;have p1:=belowCell hR2 q1;have p2:=belowCell hR2 q2;have p3:=belowCell hR2 q3;have HI2:Kept (IntV 625 w2 (.agg #[.bool s2, .slice o2 k2 c2]) (h*q)):=⟨⟨_,_,rfl,hs2,hn2⟩⟩;have HCI2:=Km (HCI.out.below hR2);have HR2:=Km hR2;clear hb2 hR2 hs2 hn2;refine hK.out _ _ ⟨p0,p1,p2,p3⟩ (fun hHeld=> ?_);clear hK K
   try simp only[Act.put,sA]
   refine wpAnyH_ready (rs:= [12]) (by kernel_rfl) (by simp) ?_;refine(AllReadyH.cons rfl (fun K hK=> ?_) AllReadyH.nil)
   go_simp
   refine(HSU.out _ HI2.out HCI2.out).mono ?_;rintro e w3 ⟨hb3,v3,rfl,hI3⟩;obtain⟨s3,sv3,rfl,hs3,hn3⟩:=hI3;obtain⟨o3,k3,c3,rfl⟩:=hn3.form;have hR3:Below wr.heap.size wr w3:=HR2.out.trans (hb3.mono HR2.out.size);have r0:=belowCell hR3 q0;have r1:=belowCell hR3 q1;have r2:=belowCell hR3 q2;have r3:=belowCell hR3 q3;have HI3:Kept (IntV 625 w3 (.agg #[.bool s3, .slice o3 k3 c3]) h2):=⟨⟨_,_,rfl,hs3,hn3⟩⟩;have hx3:=(hR3.block _ (by omega)).trans hbx7;obtain⟨t0,t1,y0,y1⟩:=two_cells hx3;have hl3:w.heap.size+2<w3.heap.size:=(Array.getElem?_eq_some_iff.1 hx3).1;have hset:=two_set hx3 (.bool s3) (.slice o3 k3 c3);have hgr:w3.grownBy ((w3.setCell ⟨w.heap.size+2,0,none⟩ (.bool s3)).setCell ⟨w.heap.size+2,1,none⟩ (.slice o3 k3 c3)) (some (w.heap.size+2)):=growSet (growSet (growRefl _ _) _ _) _ _;have u0:=(hgr.cell (a:=⟨w.heap.size,0,none⟩) r0 (by simp));have u1:=(hgr.cell (a:=⟨w.heap.size,1,none⟩) r1 (by simp));have u2:=(hgr.cell (a:=⟨g,j*2,none⟩) r2 (by simp;omega));have u3:=(hgr.cell (a:=⟨g,j*2+1,none⟩) r3 (by simp;omega));have HI4:=Km (HI3.out.keep hx3 (fun i m e=>by rcases i with _|_|i<;>simp at e) hgr);have HB4:=Km (show Below w.heap.size w _ from(((HBW.out.trans (hR3.mono (by omega))).setCell (p:=⟨w.heap.size+2,0,none⟩) (by simp) (.bool s3)).setCell (p:=⟨w.heap.size+2,1,none⟩) (by simp) (.slice o3 k3 c3)));have HST:=Km hset;have HBX6:=Km ((hgr.block _ (by omega) (by simp)).trans ((hR3.block _ (by omega)).trans hb6.out));have HBX4:=Km ((hgr.block _ (by omega) (by simp)).trans ((hR3.block _ (by omega)).trans hbx5));clear hb3 hR3 hs3 hn3 hset hgr;refine hK.out _ _ ⟨r0,r1,r2,r3⟩ (fun hHeld=> ?_);clear hK K
   try simp only[Act.put,sA]
   refine wpAnyH_ready (rs:= [13]) (by kernel_rfl) (by simp) ?_;refine(AllReadyH.cons rfl (fun K hK=> ?_) AllReadyH.nil)
   go_simp
   refine hK.out _ _ ⟨u0,u1,u2,u3⟩ (fun hHeld=> ?_);clear hK K
   try simp only[Act.put,sA]
   refine wpAnyH_done (by kernel_rfl) ?_ _
   all_goals
    (go_wp2
     go_roundw
     case rel=>exact⟨i+1,s3,o3,k3,c3,by omega,by go_num,HB4,HBX4,HBX6,HST,by rw[HH2.out];exact HI4⟩
     case measure=>simp[intOf]<;>omega)
  ·obtain rfl:i=N:=by omega
   have hj1:(i:Int)-1-i= -1:=by omega
   rw[hj1];have h6:=hb6.out;obtain⟨m0,m1,_⟩:=two_cells hbx7;obtain⟨n0,n1,y0,y1⟩:=two_cells h6;have hset:=two_set h6 (.bool s) (.slice ro rk rc);have hgr:wr.grownBy ((wr.setCell ⟨w.heap.size+1,0,none⟩ (.bool s)).setCell ⟨w.heap.size+1,1,none⟩ (.slice ro rk rc)) (some (w.heap.size+1)):=growSet (growSet (growRefl _ _) _ _) _ _;have HI2:=Km (hI.out.keep h6 (fun i m e=>by rcases i with _|_|i<;>simp at e) hgr);have HB2:=Km ((hbw.out.setCell (p:=⟨w.heap.size+1,0,none⟩) (by simp) (.bool s)).setCell (p:=⟨w.heap.size+1,1,none⟩) (by simp) (.slice ro rk rc));obtain⟨q0,q1,_⟩:=two_cells hset;clear hset hgr;go_wp2;exact bodyPost_ret (v:= .agg #[.bool s, .slice ro rk rc]) (by simp[results,Tryz.results214,go_sem,q0,q1]) rfl ⟨HB2.out,_,rfl,HI2.out⟩
end
end Go.Proofs.YtdnheaafcbihbaaGreat
