/-
  Texts of the proof, merged by program: Csj Rcv Cqu Cnp Apd.
-/
import Derived.Test.YtdnheaafcbihbaaGreatDc23
set_option linter.unusedSimpArgs false
set_option linter.unusedVariables false
set_option maxHeartbeats 16000000
namespace Go.Proofs.YtdnheaafcbihbaaGreat
section
open Go Go.RowKit Go.Deep
open FFld (ints)
theorem bel_ints {D:FFld.FD}{l:List Nat}(h:∀ a∈l,a<D.p ^ D.k):belB (D.q:Int) (ints l)=true:=by
 unfold belB ints;rw[List.all_eq_true];intro x hx;obtain⟨a,ha,rfl⟩:=List.mem_map.1 hx;have h1:=h a ha;have h2:D.q=D.p ^ D.k:=rfl;exact decide_eq_true (by omega)
set_option maxRecDepth 20000 in
theorem cShortest_any {D:FFld.FD}(hD:D.Ok)(as_:Option Addr)(cs n:Nat)(sl:List Nat)(w:World)(hs:Sl .i64 w (.slice as_ n cs) (ints sl))(hn:sl.length=n)(hsq:∀ a∈sl,a<D.p ^ D.k)(hn2:n<=200):
 Calls Tryz.prog 62 #[.int .i64 D.q, .slice as_ n cs] w (fun e w' =>Below w.heap.size w w' /\ ∃ vt,e= .returned (.tuple #[vt, .int .i64 0])/\Sl .i64 w' vt (ints ((FFld.padF (FFld.bmF D hD.pre.pk sl n).reg ((FFld.bmF D hD.pre.pk sl n).len+1)).drop 1))):=by
 have hq6:D.p ^ D.k<=65536:=hD.pre.small;have hq0:D.q=D.p ^ D.k:=rfl
 have hse:seqE (D.q:Int) (ints sl)=0:=by
  unfold seqE;rw[if_pos ⟨D,hD,rfl⟩,if_neg (by rw[FFld.ints_len];omega),if_neg (by rw[bel_ints hsq];simp)]
 have hsc:=ccheckSeq_any (D.q:Int) as_ cs (ints sl) w (by rw[FFld.ints_len,hn];exact hs) (by omega) (by omega);rw[hse,FFld.ints_len,hn] at hsc;have HSC:Kept (Calls Tryz.prog 125 #[.int .i64 D.q, .slice as_ n cs] w (RB w (.int .i64 0))):=⟨hsc⟩;have HNW:=Km (fun W=>fnew_any (D.q:Int) W (by omega) (by omega));have HSH:=Km (fun(W:World) (hW:Below w.heap.size w W) (b:Nat) (hf:FldB D W b)=>cshort_any hD as_ cs n sl W hf (hs.below hW) hn hsq hn2);have HD:=Km hD;obtain⟨q,hq⟩:∃ q,D.q=q:=⟨_,rfl⟩;rw[hq] at HSC HNW ⊢;have HQ:=Km hq;clear hs hn hsq hse hsc hq hq0
 go_enter Tryz.func62,Tryz.ntmps62
 go_wp2_with fail;(with_reducible refine HSC.out.mono ?_);rintro e w1 ⟨hb1,rfl⟩;have HB1:=Km hb1;clear hb1;go_wp2_with fail;(with_reducible refine(HNW.out _).mono ?_);rintro e w2 ⟨hb2,⟨D',b,hq',hle,rfl,hf⟩|⟨hno,rfl⟩⟩
 ·obtain rfl:D' =D:=FFld.FD.uniq hf.ok HD.out (by have:=HQ.out;omega);have HB2:=Km (bstep HB1.out hb2);have HS2:=Km (HSH.out w2 HB2.out b hf);clear hb2 hf hq';go_wp2_with fail;(with_reducible refine HS2.out.mono ?_);rintro e w3 ⟨hb3,vt,vp,rfl,ht,hp⟩;have HB3:=Km (bstep HB2.out hb3);have HT:=Km ht;obtain⟨ta,tc,rfl,_,_⟩:=ht.form;obtain⟨pa,pc,rfl,_,_⟩:=hp.form;clear hb3 ht hp;go_wp2;exact bodyPost_ret (v:= .tuple #[.slice ta _ tc, .int .i64 0]) (by simp[results,Tryz.results62,go_sem]) rfl ⟨HB3.out,_,rfl,HT.out⟩
 ·exact absurd ⟨D,HD.out,by have:=HQ.out;omega⟩ hno
structure RcAt (b B g k rad:Nat)(pv ev:Value)(P W:List Nat)(w:World):Prop where
 box:w.heap[g]? =some (rcbox b pv ev k rad)
 pm:Mine 3 .i64 B w pv (ints P)
 em:Mine 3 .i64 B w ev (ints W)
 ne:∀ j,pv.ownBlock=some j->ev.ownBlock≠some j
 gB:g<B
theorem RcAt.below {b B g k rad:Nat}{pv ev:Value}{P W:List Nat}{w w' :World}(h:RcAt b B g k rad pv ev P W w)(hb:Below w.heap.size w w'):RcAt b B g k rad pv ev P W w' :=
 ⟨(hb.block _ (Array.getElem?_eq_some_iff.1 h.box).1).trans h.box,h.pm.below hb,h.em.below hb,h.ne,h.gB⟩
theorem Mine.setOther {B g i:Nat}{w:World}{v x:Value}{xs:List Int}(h:Mine 3 .i64 B w v xs)(hg:g<B):Mine 3 .i64 B (w.setCell ⟨g,i,none⟩ x) v xs:=by
 refine h.kept (growSet (growRefl _ (some g)) _ _) ?_
 cases hv:v.ownBlock with
 |none=>exact .inl rfl
 |some j=>exact .inr (fun e=>by have:=(h.own j hv).1;cases e;omega)
theorem RcAt.point {b B g k rad x:Nat}{pv ev v' :Value}{P W:List Nat}{w w' :World}(h:RcAt b B g k rad pv ev P W w)(hm:Mine 3 .i64 B w' v' (ints (P++ [x])))(hg:w.grownBy w' pv.ownBlock)(hn:v'.ownBlock=pv.ownBlock\/Frm w.heap.size v'):RcAt b B g k rad v' ev (P++ [x]) W (w'.setCell ⟨g,1,none⟩ v'):=by
 have hgB:=h.gB;have hb:w'.heap[g]? =some (rcbox b pv ev k rad):=(hg.block g (Array.getElem?_eq_some_iff.1 h.box).1 (fun e=>by have:=(h.pm.own g e.symm).1;omega)).trans h.box;refine⟨?_,hm.setOther hgB,Mine.setOther (h.em.kept hg ?_) hgB,fun j hj e=> ?_,hgB⟩
 ·have:=heap_setCell_same w' g 1 _ _ v' hb
  simpa using this
 ·cases hv:ev.ownBlock with
  |none=>exact .inl rfl
  |some j=>exact .inr (fun e=>h.ne j e.symm hv)
 ·rcases hn with h1|h1
  ·exact h.ne j (h1 ▸ hj) e
  ·have h2:=h1 j hj;have h3:=(h.em.own j e).2;omega
theorem RcAt.element {b B g k rad x:Nat}{pv ev v' :Value}{P W:List Nat}{w w' :World}(h:RcAt b B g k rad pv ev P W w)(hm:Mine 3 .i64 B w' v' (ints (W++ [x])))(hg:w.grownBy w' ev.ownBlock)(hn:v'.ownBlock=ev.ownBlock\/Frm w.heap.size v'):RcAt b B g k rad pv v' P (W++ [x]) (w'.setCell ⟨g,2,none⟩ v'):=by
 have hgB:=h.gB;have hb:w'.heap[g]? =some (rcbox b pv ev k rad):=(hg.block g (Array.getElem?_eq_some_iff.1 h.box).1 (fun e=>by have:=(h.em.own g e.symm).1;omega)).trans h.box;refine⟨?_,Mine.setOther (h.pm.kept hg ?_) hgB,hm.setOther hgB,fun j hj e=> ?_,hgB⟩
 ·have:=heap_setCell_same w' g 2 _ _ v' hb
  simpa using this
 ·cases hv:pv.ownBlock with
  |none=>exact .inl rfl
  |some j=>exact .inr (fun e=>h.ne j hv e.symm)
 ·rcases hn with h1|h1
  ·exact h.ne j hj (h1 ▸ e)
  ·have h2:=h1 j e;have h3:=(h.pm.own j hj).2;omega
def kpF (es:List Int)(i:Nat):List Nat:=(List.range i).filter fun j=>es.all fun e=>decide (e≠(j:Int))
theorem kpF_next (es:List Int)(i:Nat):kpF es (i+1)=if es.all (fun e=>decide (e≠(i:Int)))=true then kpF es i++ [i] else kpF es i:=by
 unfold kpF;rw[List.range_succ,List.filter_append,List.filter_cons,List.filter_nil]
 split
 ·rfl
 ·rw[List.append_nil]
def Good (D:FFld.FD)(xs ys Qu Rs:List Nat)(k rad:Nat):Prop:=Rs= []/\Qu.length<=k/\disF (ints (FFld.valsF D Qu xs xs.length)) (ints ys) xs.length<=rad
open Classical in
noncomputable def goodB (D:FFld.FD)(xs ys Qu Rs:List Nat)(k rad:Nat):Bool:=decide (Good D xs ys Qu Rs k rad)
def QuRet (D:FFld.FD)(xs ys Qu Rs:List Nat)(k rad:Nat)(w:World)(e:Ending)(w' :World):Prop:=Below w.heap.size w w' /\ ∃ v,e= .returned (.tuple #[v, .bool (goodB D xs ys Qu Rs k rad)])/\(Good D xs ys Qu Rs k rad->Sl .i64 w' v (ints Qu))
open Classical in
theorem good_no {D:FFld.FD}{xs ys Qu Rs:List Nat}{k rad:Nat}(h: ¬ Good D xs ys Qu Rs k rad):goodB D xs ys Qu Rs k rad=false:=by
 unfold goodB;exact decide_eq_false h
open Classical in
theorem good_yes {D:FFld.FD}{xs ys Qu Rs:List Nat}{k rad:Nat}(h:Good D xs ys Qu Rs k rad):goodB D xs ys Qu Rs k rad=true:=by
 unfold goodB;exact decide_eq_true h
set_option maxRecDepth 20000 in
theorem cquot_any {D:FFld.FD}{b:Nat}(hD:D.Ok)(ax ay aq ae:Option Addr)(cx cy cq ce k rad n:Nat)(xs ys Q E:List Nat)(w:World)(hf:FldB D w b)(hx:Sl .i64 w (.slice ax n cx) (ints xs))(hy:Sl .i64 w (.slice ay n cy) (ints ys))(lx:xs.length=n)(ly:ys.length=n)(hxq:∀ a∈xs,a<D.p ^ D.k)(hyq:∀ a∈ys,a<D.p ^ D.k)(hn:n<=64)(hr:rad<=64)(hk6:k<=64)
 (hQ:Sl .i64 w (.slice aq Q.length cq) (ints Q)) (hE:Sl .i64 w (.slice ae E.length ce) (ints E)) (qQ:∀ a∈Q,a<D.p ^ D.k) (qE:∀ a∈E,a<D.p ^ D.k) (tQ:FFld.Tz Q) (tE:FFld.Tz E) (lQ:Q.length<=200) (lE:E.length<=200) (hE0:E.length≠0):
 Calls Tryz.prog 91 #[rcv b (.slice ax n cx) (.slice ay n cy) k rad, .agg #[.slice aq Q.length cq, .slice ae E.length ce]] w (QuRet D xs ys (FFld.quoF D E (FFld.invT D hD.pre.pk E) Q) (FFld.rstF D E (FFld.invT D hD.pre.pk E) Q) k rad w):=by
 have hk:=hD.pre.pk;have HX0:Kept (Bxs w [rcbox b (.slice ax n cx) (.slice ay n cy) k rad,fabox (.slice aq Q.length cq) (.slice ae E.length ce)] ((w.alloc (rcbox b (.slice ax n cx) (.slice ay n cy) k rad)).alloc (fabox (.slice aq Q.length cq) (.slice ae E.length ce)))):=⟨((Bxs.start w).alloc (by simp) _).alloc (by simp) _⟩;have HDV:=Km (fun(W:World) (hW:Below w.heap.size w W)=>fpdivide_any (.slice aq Q.length cq) (.slice ae E.length ce) Q E W (hf.below hW) (hQ.below hW) (hE.below hW) (cErr_poly qQ tQ lQ) (cErr_poly qE tE lE) hD qQ qE (by omega) tE (by omega) (by omega));obtain⟨Qu,hQu⟩:∃ l,FFld.quoF D E (FFld.invT D hD.pre.pk E) Q=l:=⟨_,rfl⟩;obtain⟨Rs,hRs⟩:∃ l,FFld.rstF D E (FFld.invT D hD.pre.pk E) Q=l:=⟨_,rfl⟩;have qQu:∀ a∈Qu,a<D.p ^ D.k:=by rw[<- hQu];exact FFld.quoF_lt hk _ _ _
 rw[hQu,hRs] at HDV ⊢;have HVA:=Km (fun(W:World) (hW:Below w.heap.size w W) (aa:Option Addr) (ca:Nat) (h:Sl .i64 W (.slice aa Qu.length ca) (ints Qu)) (hl:Qu.length<=200)=>cvalues_any hD ax aa cx ca xs Qu W (hf.below hW) (by rw[lx];exact hx.below hW) h hxq qQu (by omega) hl);rw[lx] at HVA;have HYS:=Km hy;have HVL:Kept ((FFld.valsF D Qu xs n).length=n):=⟨by rw[FFld.valsF_len,lx]⟩;have HYL:=Km ly;have HGD:Kept (Good D xs ys Qu Rs k rad↔Rs= []/\Qu.length<=k/\disF (ints (FFld.valsF D Qu xs n)) (ints ys) n<=rad):=⟨by unfold Good;rw[lx]⟩;have HGN:=Km (fun h=>good_no (D:=D) (xs:=xs) (ys:=ys) (Qu:=Qu) (Rs:=Rs) (k:=k) (rad:=rad) h);have HGY:=Km (fun h=>good_yes (D:=D) (xs:=xs) (ys:=ys) (Qu:=Qu) (Rs:=Rs) (k:=k) (rad:=rad) h);obtain⟨nQ,hnQ⟩:∃ n,Q.length=n:=⟨_,rfl⟩;obtain⟨nE,hnE⟩:∃ n,E.length=n:=⟨_,rfl⟩;rw[hnQ,hnE] at HX0 HDV ⊢;clear hf hx hy hxq hyq hQ hE qQ qE tQ tE hQu hRs qQu lx ly hnQ hnE lQ lE hE0
 go_enter Tryz.func91,Tryz.ntmps91
 obtain⟨c0,c1,c2,c3,c4⟩:=five_cells_ HX0.out.b0;obtain⟨d0,d1,_,_⟩:=two_cells HX0.out.b1;go_wp2_with fail;refine(HDV.out _ HX0.out.1).mono ?_;rintro e w1 ⟨hb1,v1,v2,rfl,hs1,hs2⟩;obtain⟨a1,m1,rfl,hm1,hm1'⟩:=hs1.form;obtain⟨a2,m2,rfl,hm2,hm2'⟩:=hs2.form;rw[FFld.ints_len] at hs1 hs2 hm1 hm2 ⊢;rw[FFld.ints_len];have HX1:=Km (HX0.out.below hb1);have HS1:=Km hs1;obtain⟨nu,hnu⟩:∃ n,Qu.length=n:=⟨_,rfl⟩;obtain⟨nr,hnr⟩:∃ n,Rs.length=n:=⟨_,rfl⟩;have HNU:=Km hnu;rw[hnu] at HS1 HVA ⊢;rw[hnr] at hm2 ⊢;have HNR:Kept (Rs= []↔nr=0):=⟨by rw[<- hnr];exact List.length_eq_zero_iff.symm⟩;clear hb1 hs1 hs2 c0 c1 c2 c3 c4 d0 d1 hnu hnr HDV;obtain⟨c0,c1,c2,c3,c4⟩:=five_cells_ HX1.out.b0
 by_cases h1:0<nr
 ·have HNO:=Km (HGN.out (by rw[HGD.out,HNR.out];omega));have HNG:Kept (¬ Good D xs ys Qu Rs k rad):=⟨by rw[HGD.out,HNR.out];omega⟩;have g1:decide ((0:Int)<nr)=true:=decide_eq_true (by omega);go_wp2;exact bodyPost_ret (v:= .tuple #[.slice none 0 0, .bool false]) (by simp[results,Tryz.results91,go_sem]) rfl ⟨HX1.out.1,_,by rw[HNO.out],fun h=>absurd h HNG.out⟩
 ·have g1:decide ((0:Int)<nr)=false:=decide_eq_false (by omega)
  by_cases h2:k<nu
  ·have HNG:Kept (¬ Good D xs ys Qu Rs k rad):=⟨by rw[HGD.out,HNU.out];omega⟩;have HNO:=Km (HGN.out HNG.out);have g2:decide ((k:Int)<nu)=true:=decide_eq_true (by omega);go_wp2;exact bodyPost_ret (v:= .tuple #[.slice none 0 0, .bool false]) (by simp[results,Tryz.results91,go_sem]) rfl ⟨HX1.out.1,_,by rw[HNO.out],fun h=>absurd h HNG.out⟩
  ·have g2:decide ((k:Int)<nu)=false:=decide_eq_false (by omega);obtain⟨ds,hds⟩:∃ d,disF (ints (FFld.valsF D Qu xs n)) (ints ys) n=d:=⟨_,rfl⟩;have hdl:ds<=n:=by rw[<- hds];exact disF_le _ _ _
   have HS2:Kept (∀ W,Below w1.heap.size w1 W->Calls Tryz.prog 87 #[.pointer (some ⟨b,0,none⟩), .slice ax n cx, .slice a1 nu m1] W (fun e w' =>Below W.heap.size W w' /\ ∃ v,e= .returned v/\Sl .i64 w' v (ints (FFld.valsF D Qu xs n)))):=⟨fun W hW=>(HVA.out W (bstep HX1.out.1 hW) a1 m1 (HS1.out.below hW) (by omega)).mono fun e w' ⟨hb,he,hw⟩=>⟨hb,_,he,hw.sl HVL.out.symm (Nat.le_refl _) (by unfold maxLen;omega)⟩⟩
   have HS3:Kept (∀ W v,Below w1.heap.size w1 W->Sl .i64 W v (ints (FFld.valsF D Qu xs n))->Calls Tryz.prog 96 #[v, .slice ay n cy] W (RB W (.int .i64 (ds:Nat)))):=⟨fun W v hW hv=>by
    have h:=cdistance_any v (.slice ay n cy) _ _ W hv (HYS.out.below (bstep HX1.out.1 hW)) (by rw[FFld.ints_len,FFld.ints_len,HVL.out,HYL.out]);rw[FFld.ints_len,HVL.out,hds] at h
    exact h.mono fun e w' ⟨h1,h2⟩=>⟨by rw[<- h1];exact Below.refl _ _,h2⟩⟩
   have HGD2:Kept (Good D xs ys Qu Rs k rad↔ds<=rad):=⟨by rw[HGD.out,HNR.out,HNU.out,hds];omega⟩;clear hds HGD HVA
   go_upto_region 4 with fail
   go_region_held3 (fun w' =>w'.cell? ⟨w.heap.size,0,none⟩=some (.pointer (some ⟨b,0,none⟩))/\w'.cell? ⟨w.heap.size,1,none⟩=some (.slice ax n cx)/\w'.cell? ⟨w.heap.size,2,none⟩=some (.slice ay n cy)/\w'.cell? ⟨w.heap.size,4,none⟩=some (.int .i64 rad))
    (first|exact⟨jb0,jb1,jb2,jb3⟩|exact⟨ja0,ja1,ja2,ja3⟩|exact⟨c0,c1,c2,c4⟩|go_keep)
    ((first
      |(go_at_call 87;(with_reducible refine(HS2.out _ ?h1).mono ?_);(case h1=>exact(by first|exact Below.refl _ _|exact(Below.refl _ _).drew));rintro e v1 ⟨hb1,va,rfl,hva⟩;have hy1:=Km (bstep (show Below w1.heap.size w1 _ from(by first|exact Below.refl _ _|exact(Below.refl _ _).drew)) hb1);have ja0:=belowCell hy1.out c0;have ja1:=belowCell hy1.out c1;have ja2:=belowCell hy1.out c2;have ja3:=belowCell hy1.out c4;clear hb1)
      |(go_at_call 96;(with_reducible refine(HS3.out _ _ ?h1 ?h2).mono ?_);(case h1=>exact hy1.out);(case h2=>first|exact hva|exact hva.below (Below.refl _ _).drew);rintro e v2 ⟨hb2,rfl⟩;have hy2:=Km (bstep (show Below w1.heap.size w1 _ from hy1.out) hb2);have jb0:=belowCell hy2.out c0;have jb1:=belowCell hy2.out c1;have jb2:=belowCell hy2.out c2;have jb3:=belowCell hy2.out c4;clear hb2)))
   have HB4:=Km (bstep HX1.out.1 hy2.out);have HS4:=Km (HS1.out.below hy2.out)
   by_cases h3:ds<=rad
   ·have HG:=Km (HGY.out (HGD2.out.2 h3));have g3:decide ((ds:Int)<=rad)=true:=decide_eq_true (by omega);clear hy1 hy2 hva;go_wp2;exact bodyPost_ret (v:= .tuple #[.slice a1 nu m1, .bool true]) (by simp[results,Tryz.results91,go_sem];omega) rfl ⟨HB4.out,_,by rw[HG.out],fun _=>HS4.out⟩
   ·have HNG:Kept (¬ Good D xs ys Qu Rs k rad):=⟨fun h=>h3 (HGD2.out.1 h)⟩;have HG:=Km (HGN.out HNG.out);have g3:decide ((ds:Int)<=rad)=false:=decide_eq_false (by omega);clear hy1 hy2 hva;go_wp2;exact bodyPost_ret (v:= .tuple #[.slice a1 nu m1, .bool false]) (by simp[results,Tryz.results91,go_sem];omega) rfl ⟨HB4.out,_,by rw[HG.out],fun h=>absurd h HNG.out⟩
structure Near (D:FFld.FD)(xs ys:List Nat)(k t:Nat)(P:List Nat):Prop where
 lt:∀ a∈P,a<D.p ^ D.k
 tz:FFld.Tz P
 len:P.length<=k
 dis:disF (ints (FFld.valsF D P xs xs.length)) (ints ys) xs.length<=t
def sameL (xs ys:List Int)(n:Nat):List Nat:=(List.range n).filter fun j=>decide (xs[j]?.getD 0=ys[j]?.getD 0)
theorem same_len (xs ys:List Int):∀ n,(sameL xs ys n).length+disF xs ys n=n
 |0=>rfl
 | n+1=>by
   have ih:=same_len xs ys n;unfold sameL at ih ⊢;rw[List.range_succ,List.filter_append,List.filter_cons,List.filter_nil,disF,List.length_append]
   by_cases h:xs[n]?.getD 0=ys[n]?.getD 0
   ·rw[if_pos (decide_eq_true h),if_pos h];simp only[List.length_cons,List.length_nil];omega
   ·rw[if_neg (by simpa using h),if_neg h];simp only[List.length_nil];omega
theorem vals_get {D:FFld.FD}(P xs:List Nat){j:Nat}(hj:j<xs.length):(FFld.valsF D P xs xs.length)[j]?.getD 0=FFld.hornF D (FFld.trm P) (xs[j]?.getD 0) (FFld.trm P).length:=by
 unfold FFld.valsF;rw[List.getElem?_map,List.getElem?_range hj];simp[hj]
theorem vals_ev {D:FFld.FD}(hD:D.Ok){P xs:List Nat}(hP:∀ a∈P,a<D.p ^ D.k)(tP:FFld.Tz P)(hx:∀ a∈xs,a<D.p ^ D.k){j:Nat}(hj:j<xs.length):FFld.toE hD.pre.pk ((FFld.valsF D P xs xs.length)[j]?.getD 0)=FFld.evE hD P (FFld.plE hD xs j):=by
 rw[vals_get P xs hj,FFld.trm_self tP];exact FFld.horn_ev hD hP (FFld.at_lt hD hx j)
theorem gao_near {D:FFld.FD}(hD:D.Ok){xs ys bf Q el E P:List Nat}{n k t:Nat}(g:FFld.GaoOk hD xs ys n bf Q el E)(lx:xs.length=n)(hx:∀ a∈xs,a<D.p ^ D.k)(hd:∀ i j,j<i->i<n->xs[i]?.getD 0≠xs[j]?.getD 0)(lQ:Q.length+t<=n)(lb:n<bf.length+t)(hk:2*t+k<=n)(hN:Near D xs ys k t P):FFld.quoF D E (FFld.invT D hD.pre.pk E) Q=P/\FFld.rstF D E (FFld.invT D hD.pre.pk E) Q= []:=by
 have h1:=g.len;have h2:=g.up;have h3:=hN.len;have h4:=same_len (ints (FFld.valsF D P xs xs.length)) (ints ys) n;have h5:=hN.dis;rw[lx] at h4 h5;refine FFld.near hD (xs:=xs) (ys:=ys) (n:=n) (t:=t) g.nlt g.elt hN.lt g.tn g.te hN.tz hx (by omega) (fun a b ha hb hab=> ?_) lQ (by omega) g.ev2 (sameL (ints (FFld.valsF D P xs n)) (ints ys) n) (List.Pairwise.filter _ List.nodup_range) (fun j hj=> ?_) (by omega) (fun j hj=> ?_)
 ·rcases Nat.lt_or_ge a b with h|h
  ·exact(hd b a h hb).symm
  ·exact hd a b (by omega) ha
 ·exact List.mem_range.1 (List.mem_filter.1 hj).1
 ·obtain⟨h6,h7⟩:=List.mem_filter.1 hj;have h8:=of_decide_eq_true h7;rw[FFld.ints_get,FFld.ints_get] at h8;have h9:=vals_ev hD hN.lt hN.tz hx (j:=j) (by rw[lx];exact List.mem_range.1 h6);rw[<- h9,lx];unfold FFld.plE;exact congrArg _ (Int.ofNat.inj h8)
theorem near_good {D:FFld.FD}(hD:D.Ok){xs ys bf Q el E P:List Nat}{n k t:Nat}(g:FFld.GaoOk hD xs ys n bf Q el E)(lx:xs.length=n)(hx:∀ a∈xs,a<D.p ^ D.k)(hd:∀ i j,j<i->i<n->xs[i]?.getD 0≠xs[j]?.getD 0)(lQ:Q.length+t<=n)(lb:n<bf.length+t)(hk:2*t+k<=n)(hN:Near D xs ys k t P):Good D xs ys (FFld.quoF D E (FFld.invT D hD.pre.pk E) Q) (FFld.rstF D E (FFld.invT D hD.pre.pk E) Q) k t:=by
 obtain⟨h1,h2⟩:=gao_near hD g lx hx hd lQ lb hk hN;rw[h1,h2];exact⟨rfl,hN.len,hN.dis⟩
theorem good_near {D:FFld.FD}(hD:D.Ok){xs ys bf Q el E:List Nat}{n k t:Nat}(g:FFld.GaoOk hD xs ys n bf Q el E)(h:Good D xs ys (FFld.quoF D E (FFld.invT D hD.pre.pk E) Q) (FFld.rstF D E (FFld.invT D hD.pre.pk E) Q) k t):Near D xs ys k t (FFld.quoF D E (FFld.invT D hD.pre.pk E) Q):=by
 have h2:=g.up;refine⟨FFld.quoF_lt hD.pre.pk _ _ _,FFld.quo_tz hD g.elt g.nlt (by omega) ?_ g.tn,h.2.1,h.2.2⟩
 rcases g.te with h1|h1
 ·omega
 ·exact h1
theorem dif_get {es:List Int}{m i j:Nat}(h:difB es m=true)(hj:j<i)(hi:i<m):es[i]?.getD 0≠es[j]?.getD 0:=fun e=>by
 have h1:=difB_no hj hi e;rw[h1] at h
 cases h
theorem nodup_dif {es:List Int}{m:Nat}(h:difB es m=true)(hm:es.length=m):es.Nodup:=by
 refine List.pairwise_iff_getElem.2 fun i j hi hj hij e=> ?_
 have h1:=dif_get h hij (by omega);rw[List.getElem?_eq_getElem hi,List.getElem?_eq_getElem hj] at h1;exact h1 e.symm
theorem nodup_get {L:List Nat}(h:L.Nodup){i j:Nat}(hj:j<i)(hi:i<L.length):L[i]?.getD 0≠L[j]?.getD 0:=by
 have h1:=List.pairwise_iff_getElem.1 h j i (by omega) hi hj;rw[List.getElem?_eq_getElem hi,List.getElem?_eq_getElem (show j<L.length by omega)];exact fun e=>h1 e.symm
theorem one_out (a:Nat):∀ (L:List Nat),L.Nodup->a∈L->(L.filter fun j:Nat=>decide ((a:Int)≠(j:Int))).length+1=L.length
 | [],_,h=>(by cases h)
 | b ::L,hn,h=>by
   obtain⟨h1,h2⟩:=List.nodup_cons.1 hn;rw[List.filter_cons]
   by_cases e:b=a
   ·subst e;have hF:(L.filter fun j:Nat=>decide ((b:Int)≠(j:Int)))=L:=List.filter_eq_self.2 (fun j hj=>decide_eq_true (fun e=>h1 (by have e' :b=j:=Int.ofNat.inj e;exact e' ▸ hj)));rw[if_neg (by simp),hF];rfl
   ·rw[if_pos (decide_eq_true (p:=((a:Int)≠(b:Int))) (fun e' =>e (Int.ofNat.inj e').symm))]
    have h3:=one_out a L h2 (by
     rcases List.mem_cons.1 h with h4|h4
     ·exact absurd h4.symm e
     ·exact h4)
    simp only[List.length_cons];omega
theorem filter_out (n:Nat):∀ (es:List Int),es.Nodup->(∀ e∈es,0<=e/\e<n)->((List.range n).filter fun j:Nat=>es.all fun e=>decide (e≠(j:Int))).length+es.length=n
 | [],_,_=>by
   have hF:((List.range n).filter fun j:Nat=>([]:List Int).all fun e=>decide (e≠(j:Int)))=List.range n:=List.filter_eq_self.2 (fun _ _=>rfl);rw[hF];simp
 | e::es,hn,hb=>by
   obtain⟨h1,h2⟩:=List.nodup_cons.1 hn;have ih:=filter_out n es h2 fun x hx=>hb x (List.mem_cons_of_mem _ hx)
   obtain⟨h3,h4⟩:=hb e (List.mem_cons_self ..);obtain⟨a,rfl⟩:=Int.eq_ofNat_of_zero_le h3
   have h5:=one_out a ((List.range n).filter fun j:Nat=>es.all fun e=>decide (e≠(j:Int))) (List.Pairwise.filter _ List.nodup_range) (by
    rw[List.mem_filter];refine⟨List.mem_range.2 (by omega),?_⟩;rw[List.all_eq_true]
    exact fun x hx=>decide_eq_true fun ex=>h1 (ex ▸ hx))
   rw[List.filter_filter] at h5;simp only[List.all_cons,List.length_cons];omega
theorem kp_len {es:List Int}{n m:Nat}(hb:belB n es=true)(hd:difB es m=true)(hm:es.length=m):(kpF es n).length+m=n:=by
 have h:=filter_out n es (nodup_dif hd hm) fun e he=>by
  have:=List.all_eq_true.1 hb e he;exact of_decide_eq_true this
 rw[hm] at h;exact h
theorem kp_nodup (es:List Int)(n:Nat):(kpF es n).Nodup:=List.Pairwise.filter _ List.nodup_range
theorem kp_lt {es:List Int}{n j:Nat}(h:j∈kpF es n):j<n:=List.mem_range.1 (List.mem_filter.1 h).1
theorem kp_nil (n:Nat):kpF [] n=List.range n:=by
 unfold kpF;rw[List.filter_eq_self];intro a _;rfl
def kpL (es:List Int)(n:Nat)(xs:List Nat):List Nat:=(kpF es n).map fun j=>xs[j]?.getD 0
theorem kpL_len (es:List Int)(n:Nat)(xs:List Nat):(kpL es n xs).length=(kpF es n).length:=List.length_map ..
theorem kpL_lt {q:Nat}{es:List Int}{n:Nat}{xs:List Nat}(lx:xs.length=n)(h:∀ a∈xs,a<q):∀ a∈kpL es n xs,a<q:=fun a ha=>by
 obtain⟨j,hj,rfl⟩:=List.mem_map.1 ha;exact h _ (FFld.get_mem (by rw[lx];exact kp_lt hj))
theorem kpL_dif {es:List Int}{n:Nat}{xs:List Nat}(hd:∀ i j,j<i->i<n->xs[i]?.getD 0≠xs[j]?.getD 0):∀ i j,j<i->i<(kpL es n xs).length->(kpL es n xs)[i]?.getD 0≠(kpL es n xs)[j]?.getD 0:=by
 have hnd:(kpL es n xs).Nodup:=by
  unfold kpL;have h1:=kp_nodup es n;have h2:∀ j∈kpF es n,j<n:=fun j hj=>kp_lt hj
  generalize kpF es n=L at h1 h2
  induction L with
  |nil=>exact List.nodup_nil
  | cons a L ih=>
    rw[List.map_cons,List.nodup_cons];obtain⟨h3,h4⟩:=List.nodup_cons.1 h1;refine⟨fun hm=> ?_,ih h4 fun j hj=>h2 j (List.mem_cons_of_mem _ hj)⟩;obtain⟨b,hb,e⟩:=List.mem_map.1 hm;have ha:=h2 a (List.mem_cons_self ..);have hb' :=h2 b (List.mem_cons_of_mem _ hb)
    rcases Nat.lt_trichotomy a b with h|h|h
    ·exact hd b a h hb' e
    ·exact h3 (h ▸ hb)
    ·exact hd a b h ha e.symm
 exact fun i j hj hi=>nodup_get hnd hj hi
structure CodeV (D:FFld.FD)(xs:List Nat)(n k:Nat):Prop where
 len:xs.length=n
 n64:n<=64
 k1:1<=k
 kn:k<=n
 lt:∀ a∈xs,a<D.p ^ D.k
 dif:∀ i j,j<i->i<n->xs[i]?.getD 0≠xs[j]?.getD 0
 chk:chkE (D.q:Int) (ints xs) k=0
theorem CodeV.of {D:FFld.FD}(hD:D.Ok){xs:List Nat}{n k:Nat}(lx:xs.length=n)(n64:n<=64)(k1:1<=k)(kn:k<=n)(hx:∀ a∈xs,a<D.p ^ D.k)(hd:difB (ints xs) n=true):CodeV D xs n k:=by
 refine⟨lx,n64,k1,kn,hx,fun i j hj hi e=>dif_get hd hj hi (by rw[FFld.ints_get,FFld.ints_get,e]),?_⟩;unfold chkE;rw[FFld.ints_len,lx,if_pos ⟨D,hD,rfl⟩,if_neg (by omega),if_neg];rw[bel_ints hx,hd];simp;omega
end
section
open Go Go.RowKit Go.Deep
theorem wp_append_parts {P:Program}(w:World){o:Oper}{a:Act}{K' :Act->World->Prop}{Q:Exit->Act->World->Prop}(s x:Operand)(t:TypeId)
 (ho:o.op= .call {callee:= .builtin .append,args:= #[s,x],argTypes:= #[t,t]}) (E:TypeId) (K:IntKind) (bytes:Nat) (ht:P.underlying t=some (.slice E))
 (hinfo:(P.info? E).map (fun i=>(i.zero,i.size,i.bytes))=some (some (.int K 0),1,bytes)) (B:Nat) (v:Value) (xs:List Int) (hs:a.eval s=v) (hM:Mine E K B w v xs) (hB:B<=w.heap.size)
 (ad:Addr) (m c:Nat) (news:List Int) (hx:a.eval x= .slice (some ad) m c) (hl:news.length=m) (hnews:∀ j u,(news.map (Value.int K))[j]? =some u->w.cell? (ad.add j)=some u)
 (hb:(xs.length+news.length)*bytes<=140737488355328) (hm:xs.length+news.length<=maxLen)
 (h:∀ va nv vc w',(xs++news).length=nv->Mine E K B w' (.slice va nv vc) (xs++news)->w.grownBy w' v.ownBlock->((Value.slice va nv vc).ownBlock=v.ownBlock\/Frm w.heap.size (.slice va nv vc))->K' (a.put o.dst (.slice va nv vc)) w'):o.wp P a w K' Q:=by
 refine wp_append_mine w s x t ho E K bytes ht hinfo B v xs hs hM hB ad m c news hx hl hnews hb hm ?_;intro v' w' h1 h2 h3;obtain⟨va,vc,rfl,_⟩:=h1.sl;exact h va _ vc w' rfl h1 h2 h3
theorem wpList_append_parts {P:Program}(w:World){ops:Array Oper}{rest:List Oper}{o:Oper}{a:Act}{Q:Exit->Act->World->Prop}(hgd:o.guard=none)(s x:Operand)(t:TypeId)
 (ho:o.op= .call {callee:= .builtin .append,args:= #[s,x],argTypes:= #[t,t]}) (E:TypeId) (K:IntKind) (bytes:Nat) (ht:P.underlying t=some (.slice E))
 (hinfo:(P.info? E).map (fun i=>(i.zero,i.size,i.bytes))=some (some (.int K 0),1,bytes)) (B:Nat) (v:Value) (xs:List Int) (hs:a.eval s=v) (hM:Mine E K B w v xs) (hB:B<=w.heap.size)
 (ad:Addr) (m c:Nat) (news:List Int) (hx:a.eval x= .slice (some ad) m c) (hl:news.length=m) (hnews:∀ j u,(news.map (Value.int K))[j]? =some u->w.cell? (ad.add j)=some u)
 (hb:(xs.length+news.length)*bytes<=140737488355328) (hm:xs.length+news.length<=maxLen)
 (h:∀ va nv vc w',(xs++news).length=nv->Mine E K B w' (.slice va nv vc) (xs++news)->w.grownBy w' v.ownBlock->((Value.slice va nv vc).ownBlock=v.ownBlock\/Frm w.heap.size (.slice va nv vc))->wpList P ops Q rest (a.put o.dst (.slice va nv vc)) w'):wpList P ops Q (o::rest) a w:=by
 refine wpList_append_mine w hgd s x t ho E K bytes ht hinfo B v xs hs hM hB ad m c news hx hl hnews hb hm ?_;intro v' w' h1 h2 h3;obtain⟨va,vc,rfl,_⟩:=h1.sl;exact h va _ vc w' rfl h1 h2 h3
end
end Go.Proofs.YtdnheaafcbihbaaGreat
