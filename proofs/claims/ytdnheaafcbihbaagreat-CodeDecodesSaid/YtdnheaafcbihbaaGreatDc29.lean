/-
  Texts of the proof, merged by program: Rec.
-/
import Derived.Test.YtdnheaafcbihbaaGreatDc16
set_option linter.unusedSimpArgs false
set_option linter.unusedVariables false
set_option maxHeartbeats 16000000
namespace Go.Proofs.YtdnheaafcbihbaaGreat
open Go Go.RowKit Go.Deep
open FFld (ints)
namespace FFld
theorem stepF_none {D:FD}(h:PK D.p D.k D.m)(c:Nat){s:ESt}{p:Nat}(hp:piv s.A c (s.A.length-s.cols.length) s.cols.length=p)(hn:p=s.A.length):stepF D h c s=s:=by
 unfold stepF;simp only;rw[hp,if_pos hn]
theorem stepF_some {D:FD}(h:PK D.p D.k D.m)(c:Nat){s:ESt}{p:Nat}(hp:piv s.A c (s.A.length-s.cols.length) s.cols.length=p)(hn:p≠s.A.length):
 ∃ R1,(stepF D h c s).A=(subsF D s.cols.length c (mulAt D (exch [] s.A s.cols.length p) s.cols.length (ppow h (cellAt (exch [] s.A s.cols.length p) s.cols.length c) (D.q-2)),R1) s.A.length).1/\(stepF D h c s).cols.length=s.cols.length+1:=by
 unfold stepF;simp only;rw[hp,if_neg hn];exact⟨_,rfl,by simp⟩
theorem piv_next {A:List (List Nat)}{c n p:Nat}(hp:p<n)(h:cellAt A p c=0):piv A c (n-p) p=piv A c (n-(p+1)) (p+1):=by
 obtain⟨d,hd⟩:∃ d,n-p=d+1:=⟨n-p-1,by omega⟩;rw[hd,show n-(p+1)=d by omega];simp only[piv];rw[if_pos h]
theorem piv_here {A:List (List Nat)}{c n p:Nat}(hp:p<n)(h:cellAt A p c≠0):piv A c (n-p) p=p:=by
 obtain⟨d,hd⟩:∃ d,n-p=d+1:=⟨n-p-1,by omega⟩;rw[hd];simp only[piv];rw[if_neg h]
theorem subsF_top {D:FD}{top c:Nat}{s:List (List Nat) × List (List Nat)}{i:Nat}(h:i=top):subsF D top c s (i+1)=subsF D top c s i:=by
 simp only[subsF];rw[if_pos h]
theorem subsF_off {D:FD}{top c:Nat}{s:List (List Nat) × List (List Nat)}{i:Nat}(h:i≠top):(subsF D top c s (i+1)).1=subAt D (subsF D top c s i).1 i top (cellAt (subsF D top c s i).1 i c):=by
 simp only[subsF];rw[if_neg h]
end FFld
def RecRet (s:FFld.ESt)(w:World)(e:Ending)(w' :World):Prop:=Below w.heap.size w w' /\ ∃ ao cap,e= .returned (.slice ao s.cols.length cap)/\s.cols.length<=cap/\cap<=maxLen/\Sls w' ao ((s.A.take s.cols.length).map ints)
theorem rcol_mat {D:FFld.FD}{B:Nat}{w:World}{G n wd cap:Nat}{H C:Nat->Nat}{A:List (List Nat)}(h:Mat B w G n wd H C A)(h1:0<n)(hc:n<=cap)(hm:cap<=maxLen):
 Calls Tryz.prog 118 #[.slice (some ⟨G,0,none⟩) n cap] w (fun e w' =>w=w' /\e= .returned (.int .i64 (wd:Nat))):=by
 have hs:=h.sls (Nat.le_refl n);rw[List.take_of_length_le (by rw[h.len];exact Nat.le_refl _)] at hs;have e:(A.map ints).length=n:=by rw[List.length_map,h.len]
 have hr:rlen (A.map ints) 0=wd:=by
  unfold rlen;rw[rows_cell,FFld.ints_len];exact h.wid 0 h1
 have:=rcolumns_any (some ⟨G,0,none⟩) (A.map ints) cap w (by rw[e];exact hc) hm hs;rw[e,hr] at this;exact this
set_option maxRecDepth 20000 in
theorem rechelon_any {D:FFld.FD}(hD:D.Ok)(rows:List (List Nat))(ao:Option Addr)(cap wd n:Nat)(w:World)(h:Sls w ao (rows.map ints))(hcap:n<=cap)(hmax:cap<=maxLen)(hN:rows.length=n)(hn:n<=64)(hw:FFld.Wfm D wd rows)(hwd:wd<=65)(h0:n=0->wd=0):
 Calls Tryz.prog 55 #[rfv D.q D.p D.k D.m, .slice ao n cap] w (RecRet (FFld.elimF D hD.pre.pk ⟨rows,List.replicate n [],[]⟩ wd) w):=by
 have HX0:Kept (Bxs w [rbox D.q D.p D.k D.m] (w.alloc (rbox D.q D.p D.k D.m))):=⟨(Bxs.start w).alloc (by simp) _⟩;have hq6:D.p ^ D.k<=65536:=hD.pre.small;have hk:=hD.pre.pk;obtain⟨s0,hs0⟩:∃ s:FFld.ESt,(⟨rows,List.replicate n [],[]⟩:FFld.ESt)=s:=⟨_,rfl⟩;have hs0A:s0.A=rows:=by rw[<- hs0]
 have hs0c:s0.cols.length=0:=by rw[<- hs0];rfl
 have hEO:FFld.EOk D wd 0 n s0:=by
  rw[<- hs0];exact⟨hN,by simp,hw,fun r hr=>by rw[List.eq_of_mem_replicate hr];simp,by simp⟩
 have HEO:=Km (fun c=>FFld.EOk.elim hEO hk c);rw[hs0];have HC:=Km h;have HW:=Km hw;have HN:=Km hN;have HS0A:=Km hs0A;have HS0C:=Km hs0c;have HD:=Km hD;have hm0:=hmax;unfold maxLen at hm0;have HM:=Km (fun W x y (hx:x<D.p ^ D.k) (hy:y<D.p ^ D.k)=>rmul_any D.q D.p D.k D.m x y W hk.p2 hk.k1 hx hy hq6 (md_ok hD));have HSB:=Km (fun W x y (hx:x<D.p ^ D.k) (hy:y<D.p ^ D.k)=>rsub_any D.q D.p D.k D.m x y W hk hx hy hq6);have HIV:=Km (fun W x (hx:x<D.p ^ D.k)=>rinv_any D.q D.p D.k D.m x W hk hx rfl hq6 (md_ok hD));clear h hw hN hs0A hs0c hEO hs0 hq6 hmax
 go_enter Tryz.func55,Tryz.ntmps55
 go_wp2
 go_loopw [5,6] (fun ov iv wr=> ∃ (i:Nat) (L:List (Value × List Int)),i<=n/\iv= .int .i64 i/\L.length=i/\Kept ((rows.take i).map ints=L.map (·.2))/\Kept (Rws (w.heap.size+1) wr ov L)/\Kept (DisR L)/\Kept (Bxs w [rbox D.q D.p D.k D.m] wr)) (fun _ iv _=>n-(intOf iv).toNat)
 case atStart=>exact⟨0,[],Nat.zero_le _,rfl,rfl,⟨rfl⟩,⟨Rws.nil _ _⟩,⟨DisR.nil⟩,HX0⟩
 case round =>
  obtain⟨i,L,hik,rfl,hll,hat,hrw,hdi,hbx⟩:=hrel
  by_cases hlt:i<n
  ·obtain⟨g,o,rv,rfl,hg,hcell,hsl⟩:=(HC.out.below hbx.out.1) i (by rw[List.length_map,HN.out];exact hlt);rw[rows_cell] at hsl;have HL:Kept ((rows.take (i+1)).map ints=L.map (·.2)++ [ints (FFld.rowAt rows i)]):=⟨by rw[map_take_next' (d:= []) (by rw[HN.out];exact hlt),hat.out];rfl⟩;have hwr:(FFld.rowAt rows i).length=wd:=(HW.out.row (by rw[HN.out];exact hlt)).1;obtain⟨a1,c1,rfl,hc1,hm1⟩:=hsl.form;rw[FFld.ints_len,hwr] at hsl hcell hc1;obtain⟨xs,hxs⟩:∃ xs,ints (FFld.rowAt rows i)=xs:=⟨_,rfl⟩;have hxl:xs.length=wd:=by rw[<- hxs,FFld.ints_len,hwr]
   rw[hxs] at hsl HL;have HSL:=Km hsl;have H1:=Km (show(([]:List Int).length+xs.length)*8<=140737488355328 by rw[hxl];simp;omega);have H2:=Km (show([]:List Int).length+xs.length<=maxLen by rw[hxl];unfold maxLen;simp;omega);have HXL:=Km hxl;obtain⟨ov0,oc,rfl,hoc,hom⟩:=hrw.out.own.form;rw[List.length_map,hll] at hoc hrw ⊢;clear hxs hsl hwr hxl
   go_wp2_with (at_builtin;refine wpList_append_sl _ rfl _ _ 22 rfl 3 .i64 8 Tryz.underlying22 info_i64 wr.heap.size (.slice none 0 0) [] (by rfl) (Mine.nil _ _ _ _) (Nat.le_refl _) _ _ (by rfl) HSL.out H1.out H2.out ?_)
   intro v3 w3 hm3 hg3
   try rw[List.nil_append] at hm3
   have hb3:Below wr.heap.size wr w3:=(Below.refl _ _).grown hg3 (Nat.le_refl _) (by simp[Value.ownBlock]);obtain⟨vra,vrc,rfl,hvc,hvm⟩:=hm3.sl.form;rw[HXL.out] at hm3 hvc ⊢;obtain⟨vr,hvr⟩:∃ v,Value.slice vra wd vrc=v:=⟨_,rfl⟩;rw[hvr] at hm3;have hX3:=hbx.out.below hb3;have HX3:=Km hX3;have hsz:=hbx.out.l1;have hsz3:=hb3.size;have HW3:=Km (hrw.out.below hb3);have HMR:=Km (hm3.lower hsz)
   have HNE:Kept (∀ g,vr.ownBlock=some g->(Value.slice ov0 i oc).ownBlock≠some g):=⟨fun g hgb e=>by
    have h1:=(hm3.own g hgb).1;have h2:=(hrw.out.own.own g e).2
    omega⟩
   have HDN:Kept (∀ g,vr.ownBlock=some g-> ∀ s∈L,s.1.ownBlock≠some g):=⟨fun g hgb s hs e=>by
    have h1:=(hm3.own g hgb).1;have h2:=((hrw.out.ok s hs).own g e).2
    omega⟩
   have HDI:=Km (hdi.out.push (r:=(vr,xs)) HDN.out);have hal:Below w3.heap.size w3 (w3.alloc (.cells #[vr] 22)):=(Below.refl _ _).alloc (Nat.le_refl _) _;have HW4:=Km (HW3.out.below hal);have HX4:=Km (HX3.out.below hal);have HM4:=Km (HMR.out.below hal);have HON:=Km HW4.out.own;have HNW:=Km (rows_one (W:=w3) (rv:=vr));have H3:=Km HMR.out.one;have H4:Kept ((L.map (·.1)).length=i):=⟨by rw[List.length_map,hll]⟩;have HBB:Kept (w.heap.size+1<=(w3.alloc (.cells #[vr] 22)).heap.size):=⟨by simp;omega⟩;clear hb3 hm3 hg3 hal hsz hsz3 HW3 hcell hrw HMR HDN hdi;subst hvr
   go_wp2_with (at_builtin;refine wpList_append_w _ rfl _ _ 39 (by rfl) 22 (.slice none 0 0) 24 Tryz.underlying39 info_rows (by rfl) (w.heap.size+1) (.slice ov0 i oc) (L.map (·.1)) (by rfl) HON.out HBB.out ⟨w3.heap.size,0,none⟩ 1 (.slice vra wd vrc) (by rfl) HNW.out H3.out i H4.out (by omega) (by omega) ?_)
   intro v' w5 ho5 hg5 hv5;have HR5:=Km (HW4.out.push HM4.out HNE.out ho5 hg5 (by simpa using hv5));have hown:=HON.out.own;have HB5:=Km (HX4.out.grown hg5 (fun j hj=>(hown j hj).1));clear ho5 hg5 hv5 hown;go_wp2;go_roundw
   case rel=>exact⟨i+1,L++ [(.slice vra wd vrc,xs)],by omega,by go_num,by simp[hll],⟨by rw[HL.out,List.map_append];rfl⟩,HR5,HDI,HB5⟩
   case measure=>simp[intOf]<;>omega
  ·obtain rfl : i =n:=by omega
   have HE:Kept (L.map (·.2)=rows.map ints):=⟨by rw[<- hat.out,List.take_of_length_le (by rw[HN.out];exact Nat.le_refl _)]⟩;clear hlt hik hat
   by_cases hw0:wd=0
   ·subst hw0;obtain⟨ov0,oc,rfl,hoc,hom,hsls⟩:=hrw.out.sls;rw[hll] at hoc ⊢
    have hr0:rlen (L.map (·.2)) 0=0:=by
     rw[HE.out];unfold rlen;rw[rows_cell,FFld.ints_len]
     by_cases hi0:i=0
     ·unfold FFld.rowAt;rw[List.getElem?_eq_none (by rw[HN.out];omega)];rfl
     ·exact(HW.out.row (i:=0) (by rw[HN.out];omega)).1
    have HCL:=rcolumns_any ov0 (L.map (·.2)) oc wr (by rw[List.length_map,hll];exact hoc) hom hsls;rw[List.length_map,hll,hr0] at HCL;have HCK:=Km HCL;have HZ:Kept (FFld.elimF D hk s0 0=s0):=⟨rfl⟩;have hm00:=hom;unfold maxLen at hm00;have HOM:=Km hom;clear hsls hr0 HCL hrw hom;go_wp2
    go_loopw [8,9] (fun av cv wr' =>av= .int .i64 (0:Nat)/\cv= .int .i64 (0:Nat)/\wr' =wr) (fun _ _ _=>0)
    case atStart=>exact⟨rfl,rfl,rfl⟩
    case round=>
     obtain⟨rfl,rfl,rfl⟩:=hrel;go_wp2_with fail;refine HCK.out.mono ?_;rintro e w4 ⟨rfl,rfl⟩;go_wp2
     go_ret
     refine⟨hbx.out.1,ov0,oc,?_,?_,HOM.out,?_⟩
     ·(rw[HZ.out,HS0C.out];first|done|rfl)
     ·rw[HZ.out,HS0C.out];exact Nat.zero_le _
     ·rw[HZ.out,HS0C.out];intro j hj;simp at hj
   ·have hw1 : 0 < wd:=by omega
    have hi1:0<i:=by
     apply Classical.byContradiction
     intro hc;exact hw0 (h0 (by omega))
    clear hw0 h0;obtain⟨G,gc,H0,C0,rfl,hgc,hgm,hmat⟩:=hrw.out.mat hdi.out HE.out HW.out HN.out hi1 hw1;have HM0:=Km hmat;have hgm0:=hgm;unfold maxLen at hgm0;have HGM:=Km hgm;clear hmat hgm hrw hdi HE;go_wp2
    go_loopw [8,9] (fun av cv wr=> ∃ (c t:Nat) (H C:Nat->Nat),c<=wd/\t<=i/\av= .int .i64 t/\cv= .int .i64 c/\Kept ((FFld.elimF D hk s0 c).cols.length=t)/\Kept (Mat (w.heap.size+1) wr G i wd H C (FFld.elimF D hk s0 c).A)/\Kept (Bxs w [rbox D.q D.p D.k D.m] wr)) (fun _ cv _=>wd-(intOf cv).toNat)
    case atStart=>exact⟨0,0,H0,C0,Nat.zero_le _,Nat.zero_le _,rfl,rfl,⟨HS0C.out⟩,⟨by have:=HM0.out;rw[<- HS0A.out] at this;exact this⟩,hbx⟩
    case round =>
     clear hbx HM0;obtain⟨c,t,H,C,hcw,hti,rfl,rfl,htc,hma,hbx⟩:=hrel;have HCL:=Km (rcol_mat (D:=D) hma.out hi1 hgc HGM.out);obtain⟨A,hA⟩:∃ A,(FFld.elimF D hk s0 c).A=A:=⟨_,rfl⟩;have HA:=Km hA;rw[hA] at hma;have HAL:=Km hma.out.len;have HAW:Kept (FFld.Wfm D wd A):=⟨by rw[<- hA];exact(HEO.out c).wa⟩;clear hA;obtain⟨wz,rfl⟩:∃ W,W=wr:=⟨_,rfl⟩;go_wp2_with fail;refine HCL.out.mono ?_;rintro e w4 ⟨rfl,rfl⟩;clear HCL
     by_cases hcl:c<wd
     ·by_cases htl :t<i
      ·clear hcw hti;go_wp2
       go_loopw [10] (fun pv wr' => ∃ p:Nat,t<=p/\p<=i/\pv= .int .i64 p/\Kept (FFld.piv A c (i-t) t=FFld.piv A c (i-p) p)/\wr' =wz) (fun pv _=>i-(intOf pv).toNat)
       case atStart=>exact⟨t,Nat.le_refl _,Nat.le_of_lt htl,rfl,⟨rfl⟩,by first|rfl|trivial⟩
       case round =>
        obtain⟨p,htp,hpi,rfl,hpv,rfl⟩:=hrel;obtain⟨wz,rfl⟩:∃ W,W=wr:=⟨_,rfl⟩
        by_cases hpl:p<i
        ·have d0 :=hma.out.cell hpl;have d1:=hma.out.el hpl hcl;obtain⟨hp,hhp⟩:∃ x,H p=x:=⟨_,rfl⟩;obtain⟨cp,hcp⟩:∃ x,C p=x:=⟨_,rfl⟩;rw[hhp] at d0 d1;rw[hcp] at d0;obtain⟨x,hx⟩:∃ x,FFld.cellAt A p c=x:=⟨_,rfl⟩;rw[hx] at d1
         by_cases hx0:x=0
         ·subst hx0;have HNX:=Km (FFld.piv_next hpl hx);have ez:(((0:Nat):Int)==0)=true:=rfl;clear hx hhp hcp;go_wp2;go_roundw
          case rel=>exact⟨p+1,by omega,by omega,by go_num,⟨hpv.out.trans HNX.out⟩,by first|rfl|trivial⟩
          case measure=>simp[intOf]<;>omega
         ·have ex :((x:Int)==0)=false:=by rw[beq_eq_false_iff_ne];omega
          have HPH:Kept (FFld.piv A c (i-t) t=p):=⟨hpv.out.trans (FFld.piv_here hpl (by rw[hx];exact hx0))⟩;have epi:((p:Int)==(i:Int))=false:=by rw[beq_eq_false_iff_ne];omega
          obtain⟨st,hst1,hst2,hst3⟩:∃ R1,(FFld.stepF D hk c (FFld.elimF D hk s0 c)).A=(FFld.subsF D t c (FFld.mulAt D (FFld.exch [] A t p) t (FFld.ppow hk (FFld.cellAt (FFld.exch [] A t p) t c) (D.q-2)),R1) i).1/\(FFld.stepF D hk c (FFld.elimF D hk s0 c)).cols.length=t+1/\True:=by
           obtain⟨R1,r1,r2⟩:=FFld.stepF_some hk c (s:=FFld.elimF D hk s0 c) (p:=p) (by rw[htc.out,HA.out,HAL.out,HPH.out]) (by rw[HA.out,HAL.out];omega);rw[htc.out,HA.out,HAL.out] at r1;rw[htc.out] at r2;exact⟨R1,r1,r2,trivial⟩
          have HSA:=Km (show(FFld.elimF D hk s0 (c+1)).A=_ from hst1);have HSC:=Km (show(FFld.elimF D hk s0 (c+1)).cols.length=t+1 from hst2);have e0:=hma.out.cell htl;obtain⟨ht,hht⟩:∃ x,H t=x:=⟨_,rfl⟩;obtain⟨ct,hct⟩:∃ x,C t=x:=⟨_,rfl⟩;have hsw:=hma.out.swap htl hpl;rw[hht,hhp,hct,hcp] at hsw;rw[hht,hct] at e0;have f0:=hma.out.free p;have f1:=hma.out.free t;have HGL:=Km hma.out.gB;have hgl:=HGL.out;have hgr:=growTrans (grow_set wz G p (.slice (some ⟨ht,0,none⟩) wd ct)) (grow_set _ G t (.slice (some ⟨hp,0,none⟩) wd cp));have HXS:=Km (hbx.out.grown hgr (fun j hj=>by cases hj;simp;omega));have HMS:=Km hsw
          have f2:(wz.setCell ⟨G,p,none⟩ (.slice (some ⟨ht,0,none⟩) wd ct)).frozen? ⟨G,t,none⟩=false:=by
           obtain⟨cur,q1,_⟩:=hma.out.hdr;exact frozen_of_row _ G t _ _ (heap_setCell_same wz G p cur _ _ q1)
          have e2:(wz.setCell ⟨G,p,none⟩ (.slice (some ⟨ht,0,none⟩) wd ct)).cell? ⟨G,t,none⟩=some (.slice (some ⟨ht,0,none⟩) wd ct):=by
           obtain⟨cur,q1,q2⟩:=hma.out.hdr;have q3:=q2 t htl;rw[hht,hct] at q3;rw[cell_of_row _ G t _ _ (0,0) (heap_setCell_same wz G p cur _ _ q1),Array.getElem?_setIfInBounds]
           by_cases e:p=t
           ·rw[if_pos e,if_pos (Array.getElem?_eq_some_iff.1 (q2 p hpl)).1]
           ·rw[if_neg e];exact q3
          obtain⟨M,hM⟩:∃ M,FFld.exch [] A t p=M:=⟨_,rfl⟩;have HMW:Kept (FFld.Wfm D wd M):=⟨by rw[<- hM];exact HAW.out.exch (by rw[HAL.out];exact htl) (by rw[HAL.out];exact hpl)⟩;have HML:Kept (M.length=i):=⟨by rw[<- hM,FFld.exch_len];exact HAL.out⟩;rw[hM] at HMS HSA;clear hst1 hst2 hst3 hsw hgr hM hht hhp hct hcp hx hx0 hpv HPH HA HAW hma htc hbx;go_wp2;obtain⟨W1,hW1⟩:∃ W,((wz.setCell ⟨G,p,none⟩ (.slice (some ⟨ht,0,none⟩) wd ct)).setCell ⟨G,t,none⟩ (.slice (some ⟨hp,0,none⟩) wd cp))=W:=⟨_,rfl⟩;rw[hW1] at HMS HXS ⊢;obtain⟨H1,hH1⟩:∃ f:Nat->Nat,(fun k=>H (swapN t p k))=f:=⟨_,rfl⟩;obtain⟨C1,hC1⟩:∃ f:Nat->Nat,(fun k=>C (swapN t p k))=f:=⟨_,rfl⟩;rw[hH1,hC1] at HMS;clear hW1 hH1 hC1 d0 d1 e0 e2 f0 f1 f2 ex;obtain⟨i0,i1,i2,i3⟩:=four_cells HXS.out.b0;have d0:=HMS.out.cell htl;have d1:=HMS.out.el htl hcl;obtain⟨g1,hg1⟩:∃ x,H1 t=x:=⟨_,rfl⟩;obtain⟨k1,hk1⟩:∃ x,C1 t=x:=⟨_,rfl⟩;rw[hg1] at d0 d1;rw[hk1] at d0;obtain⟨x,hx⟩:∃ x,FFld.cellAt M t c=x:=⟨_,rfl⟩;have hxq:x<D.p ^ D.k:=by rw[<- hx];exact HMW.out.cell hk t c
          rw[hx] at d1 HSA;obtain⟨iv,hiv⟩:∃ v,FFld.ppow hk x (D.q-2)=v:=⟨_,rfl⟩;have hI:=Km (fun W=>HIV.out W x hxq);rw[hiv] at hI HSA;have hivq:iv<D.p ^ D.k:=by rw[<- hiv];exact FFld.ppow_lt hk _ _
          have HG1:=Km hg1;have HK1:=Km hk1;clear hx hxq hiv hg1 hk1
          go_region_held3 (fun w' =>(w'.cell? ⟨w.heap.size,0,none⟩=some (.int .i64 D.q)/\w'.cell? ⟨w.heap.size,1,none⟩=some (.int .i64 D.p)/\w'.cell? ⟨w.heap.size,2,none⟩=some (.int .i64 D.k)/\w'.cell? ⟨w.heap.size,3,none⟩=some (.int .i64 D.m))/\w'.cell? ⟨G,t,none⟩=some (.slice (some ⟨g1,0,none⟩) wd k1)/\w'.cell? ⟨g1,c,none⟩=some (.int .i64 x))
           (first|exact⟨⟨j0,j1,j2,j3⟩,j4,j5⟩|exact⟨⟨i0,i1,i2,i3⟩,d0,d1⟩|go_keep)
           ((first
             |(go_at_call 119;(with_reducible refine(hI.out _).mono ?_);rintro e W2 ⟨hb,rfl⟩;have hy:=Km (bstep (show Below W1.heap.size W1 _ from(by first|exact Below.refl _ _|exact(Below.refl _ _).drew)) hb);have j0:=belowCell hy.out i0;have j1:=belowCell hy.out i1;have j2:=belowCell hy.out i2;have j3:=belowCell hy.out i3;have j4:=belowCell hy.out d0;have j5:=belowCell hy.out d1;clear hb)))
          replace HMS:=Km (HMS.out.below hy.out);replace HXS:=Km (HXS.out.below hy.out);clear hy hI i0 i1 i2 i3 d0 d1 j0 j1 j2 j3 j4 j5;obtain⟨r,hr⟩:∃ r,FFld.rowAt M t=r:=⟨_,rfl⟩;have HR:=Km hr;have HRL:Kept (r.length=wd):=⟨by rw[<- hr];exact HMS.out.wid t htl⟩;have HRQ:Kept (∀ a∈r,a<D.p ^ D.k):=⟨by rw[<- hr];exact FFld.rowAt_lt HMW.out t⟩
          have HM1:Kept (Mat (w.heap.size+1) W2 G i wd H1 C1 (M.set t (FFld.rowMulF D r iv 0))):=⟨by
           have e:M.set t (FFld.rowMulF D r iv 0)=M:=by rw[show FFld.rowMulF D r iv 0=r from rfl,<- hr];exact FFld.rowAt_set_self (by rw[HML.out];exact htl)
           rw[e]
           exact HMS.out⟩
          clear hr HMS;go_wp2
          go_loopw [13] (fun jv wr=> ∃ j:Nat,j<=wd/\jv= .int .i64 j/\Kept (Mat (w.heap.size+1) wr G i wd H1 C1 (M.set t (FFld.rowMulF D r iv j)))/\Kept (Bxs w [rbox D.q D.p D.k D.m] wr)) (fun jv _=>wd-(intOf jv).toNat)
          case atStart=>exact⟨0,Nat.zero_le _,rfl,HM1,HXS⟩
          case round=>
           clear HM1 HXS;obtain⟨j,hj,rfl,hma,hbx⟩:=hrel;have d0:=hma.out.cell htl;rw[HG1.out,HK1.out] at d0
           by_cases hjl:j<wd
           ·obtain⟨i0,i1,i2,i3⟩:=four_cells hbx.out.b0;have i4:=d0;have t1:=hma.out.el htl hjl;rw[HG1.out] at t1;obtain⟨u,hu⟩:∃ u,FFld.cellAt (M.set t (FFld.rowMulF D r iv j)) t j=u:=⟨_,rfl⟩;have hur:(FFld.rowMulF D r iv j)[j]?.getD 0=u:=by rw[<- hu];unfold FFld.cellAt;rw[FFld.rowAt_put (by rw[HML.out];exact htl)]
            have huq:u<D.p ^ D.k:=by rw[<- hur];exact FFld.getD_lt (Nat.pow_pos hk.p0) (FFld.rowMulF_lt hk iv j HRQ.out) _
            rw[hu] at t1;obtain⟨v,hv⟩:∃ v,FFld.pmul D.p D.k D.m u D.k iv=v:=⟨_,rfl⟩;have hM:=Km (fun W=>HM.out W u iv huq hivq);rw[hv] at hM
            have HNX:Kept ((M.set t (FFld.rowMulF D r iv j)).set t ((FFld.rowAt (M.set t (FFld.rowMulF D r iv j)) t).set j v)=M.set t (FFld.rowMulF D r iv (j+1))):=⟨by
             rw[FFld.rowAt_put (by rw[HML.out];exact htl),List.set_set]
             show _=M.set t ((FFld.rowMulF D r iv j).set j (FFld.pmul D.p D.k D.m ((FFld.rowMulF D r iv j)[j]?.getD 0) D.k iv))
             rw[hur,hv]⟩
            have hg1l:=(hma.out.low t htl);rw[HG1.out] at hg1l;have hgB:=hma.out.gB
            have HFR:Kept (∀ W,Below wr.heap.size wr W->W.frozen? ⟨g1,j,none⟩=false):=⟨fun W hW=>by
             have:=((hma.out.below hW).row t htl).free j
             rwa [HG1.out] at this⟩
            clear hu hur huq hv;go_wp2;refine wp_region_held_drew (S:=fun w' =>(w'.cell? ⟨w.heap.size,0,none⟩=some (.int .i64 D.q)/\w'.cell? ⟨w.heap.size,1,none⟩=some (.int .i64 D.p)/\w'.cell? ⟨w.heap.size,2,none⟩=some (.int .i64 D.k)/\w'.cell? ⟨w.heap.size,3,none⟩=some (.int .i64 D.m))/\w'.cell? ⟨G,t,none⟩=some (.slice (some ⟨g1,0,none⟩) wd k1)) (by kernel_rfl) ⟨⟨i0,i1,i2,i3⟩,i4⟩ (fun hHeld=> ?_);refine wpAnyH_take (i:=0) (v:= ?_) rfl (by kernel_rfl) (by kernel_rfl) (by kernel_rfl) (fun _ _ _ h=>h) (Or.inl ⟨by rfl,?_⟩) (by assumption) ?_;rotate_left
            ·(intro w hSw;(try dsimp only at hSw);go_simp;(try with_reducible rfl))
            try simp only[Act.put,sA]
            refine wpAnyH_take (i:=1) (v:= ?_) rfl (by kernel_rfl) (by kernel_rfl) (by kernel_rfl) (fun _ _ _ h=>h) (Or.inl ⟨by rfl,?_⟩) (by assumption) ?_;rotate_left
            ·(intro w hSw;(try dsimp only at hSw);go_simp;(try with_reducible rfl))
            try simp only[Act.put,sA]
            refine wpAnyH_take (i:=2) (v:= ?_) rfl (by kernel_rfl) (by kernel_rfl) (by kernel_rfl) (fun _ _ _ h=>h) (Or.inl ⟨by rfl,?_⟩) (by assumption) ?_;rotate_left
            ·(intro w hSw;(try dsimp only at hSw);go_simp;(try with_reducible rfl))
            try simp only[Act.put,sA]
            refine wpAnyH_take (i:=3) (v:= ?_) rfl (by kernel_rfl) (by kernel_rfl) (by kernel_rfl) (fun _ _ _ h=>h) (Or.inl ⟨by rfl,?_⟩) (by assumption) ?_;rotate_left
            ·(intro w hSw;(try dsimp only at hSw);go_simp;(try with_reducible rfl))
            try simp only[Act.put,sA]
            refine wpAnyH_take (i:=4) (v:= ?_) rfl (by kernel_rfl) (by kernel_rfl) (by kernel_rfl) (fun _ _ _ h=>h) (Or.inl ⟨by rfl,?_⟩) (by assumption) ?_;rotate_left
            ·(intro w hSw;(try dsimp only at hSw);go_simp;(try with_reducible rfl))
            try simp only[Act.put,sA]
            refine wpAnyH_take (i:=5) (v:= ?_) rfl (by kernel_rfl) (by kernel_rfl) (by kernel_rfl) (fun _ _ _ h=>h) (Or.inl ⟨by rfl,?_⟩) (by assumption) ?_;rotate_left
            ·(intro w hSw;(try dsimp only at hSw);go_simp;(try with_reducible rfl))
            try simp only[Act.put,sA]
            refine wpAnyH_take (i:=6) (v:= ?_) rfl (by kernel_rfl) (by kernel_rfl) (by kernel_rfl) (fun _ _ _ h=>h) (Or.inl ⟨by rfl,?_⟩) (by assumption) ?_;rotate_left
            ·(intro w hSw;(try dsimp only at hSw);go_simp;(try with_reducible rfl))
            try simp only[Act.put,sA]
            refine wpAnyH_take (i:=7) (v:= ?_) rfl (by kernel_rfl) (by kernel_rfl) (by kernel_rfl) (fun _ _ _ h=>h) (Or.inl ⟨by rfl,?_⟩) (by assumption) ?_;rotate_left
            ·(intro w hSw;(try dsimp only at hSw);go_simp;(try with_reducible rfl))
            try simp only[Act.put,sA]
            refine wpAnyH_take (i:=8) (v:= ?_) rfl (by kernel_rfl) (by kernel_rfl) (by kernel_rfl) (fun _ _ _ h=>h) (Or.inl ⟨by rfl,?_⟩) (by assumption) ?_;rotate_left
            ·(intro w hSw;(try dsimp only at hSw);go_simp;(try with_reducible rfl))
            try simp only[Act.put,sA]
            refine wpAnyH_take (i:=9) (v:= ?_) rfl (by kernel_rfl) (by kernel_rfl) (by kernel_rfl) (fun _ _ _ h=>h) (Or.inl ⟨by rfl,?_⟩) (by assumption) ?_;rotate_left
            ·(intro w hSw;(try dsimp only at hSw);go_simp;(try with_reducible rfl))
            try simp only[Act.put,sA]
            refine wpAnyH_take (i:=10) (v:= ?_) rfl (by kernel_rfl) (by kernel_rfl) (by kernel_rfl) (fun _ _ _ h=>h) (Or.inl ⟨by rfl,?_⟩) (by assumption) ?_;rotate_left
            ·(intro w hSw;(try dsimp only at hSw);go_simp;(try with_reducible rfl))
            try simp only[Act.put,sA]
            refine wpAnyH_take (i:=11) (v:= ?_) rfl (by kernel_rfl) (by kernel_rfl) (by kernel_rfl) (fun _ _ _ h=>h) (Or.inl ⟨by rfl,?_⟩) (by assumption) ?_;rotate_left
            ·(intro w hSw;(try dsimp only at hSw);go_simp;(try with_reducible rfl))
            try simp only[Act.put,sA]
            refine wpAnyH_take (i:=13) (v:= ?_) rfl (by kernel_rfl) (by kernel_rfl) (by kernel_rfl) (fun _ _ _ h=>h) (Or.inl ⟨by rfl,?_⟩) (by assumption) ?_;rotate_left
            ·(intro w hSw;(try dsimp only at hSw);go_simp;(try with_reducible rfl))
            try simp only[Act.put,sA]
            refine wpAnyH_ready (rs:= [12]) (by kernel_rfl) (by simp) ?_;refine(AllReadyH.cons rfl (fun K hK=> ?_) AllReadyH.nil)
            go_simp
            refine hK.out _ _ ⟨⟨i0,i1,i2,i3⟩,i4⟩ (fun hHeld=> ?_);clear hK K
            try simp only[Act.put,sA]
            refine wpAnyH_ready (rs:= [14]) (by kernel_rfl) (by simp) ?_;refine(AllReadyH.cons rfl (fun K hK=> ?_) AllReadyH.nil)
            go_simp
            refine(hM.out _).mono ?_;rintro e w2 ⟨hb2,rfl⟩;have HR2:Kept (Below wr.heap.size wr w2):=⟨(Below.refl _ _).drew.trans hb2⟩;have j0:=belowCell HR2.out i0;have j1:=belowCell HR2.out i1;have j2:=belowCell HR2.out i2;have j3:=belowCell HR2.out i3;have j4:=belowCell HR2.out i4;have HM3:=Km (hma.out.below HR2.out);have HX3:=Km (hbx.out.below HR2.out);have z3:=HFR.out _ HR2.out;have t2:=belowCell HR2.out t1;have hgs:w2.grownBy (w2.setCell ⟨g1,j,none⟩ (.int .i64 v)) (some g1):=grow_set _ _ _ _;have m0:=hgs.cell j0 (by simp;omega);have m1:=hgs.cell j1 (by simp;omega);have m2:=hgs.cell j2 (by simp;omega);have m3:=hgs.cell j3 (by simp;omega);have m4:=hgs.cell j4 (by simpa using(fun e=>hg1l.2 e.symm));have HX4:=Km (HX3.out.grown hgs (fun k hk=>by cases hk;simp;omega));clear hb2;refine hK.out _ _ ⟨⟨j0,j1,j2,j3⟩,j4⟩ (fun hHeld=> ?_);clear hK K
            try simp only[Act.put,sA]
            refine wpAnyH_take (i:=15) (v:= ?_) rfl (by kernel_rfl) (by kernel_rfl) (by kernel_rfl) (fun _ _ _ h=>h) (Or.inl ⟨by rfl,?_⟩) (by assumption) ?_;rotate_left
            ·(intro w hSw;(try dsimp only at hSw);go_simp;(try with_reducible rfl))
            try simp only[Act.put,sA]
            refine wpAnyH_ready (rs:= [16]) (by kernel_rfl) (by simp) ?_;refine(AllReadyH.cons rfl (fun K hK=> ?_) AllReadyH.nil)
            go_simp
            refine hK.out _ _ ⟨⟨m0,m1,m2,m3⟩,m4⟩ (fun hHeld=> ?_);clear hK K
            try simp only[Act.put,sA]
            refine wpAnyH_done (by kernel_rfl) ?_ _;go_wp2;go_roundw
            case rel=>exact⟨j+1,by omega,by go_num,⟨by have:=HM3.out.put htl j v;rw[HG1.out,HNX.out] at this;exact this⟩,HX4⟩
            case measure=>simp[intOf]<;>omega
           ·obtain rfl:j=wd:=by omega
            have HM2:Kept (Mat (w.heap.size+1) wr G i j H1 C1 (FFld.mulAt D M t iv)):=⟨by
             have e:FFld.rowMulF D r iv j=FFld.rowMul D r iv:=by rw[<- HRL.out];exact FFld.rowMulF_all D r iv
             have e2:=hma.out;rw[e,<- HR.out] at e2
             exact e2⟩
            have HW2:Kept (FFld.Wfm D j (FFld.mulAt D M t iv)):=⟨HMW.out.mul hk t iv⟩;obtain⟨M2,hM2⟩:∃ X,FFld.mulAt D M t iv=X:=⟨_,rfl⟩;rw[hM2] at HM2 HSA HW2;clear hM2 hma HMW HML HR HRL HRQ hj hjl;go_wp2
            go_loopw [14] (fun iv' wr=> ∃ a:Nat,a<=i/\iv' = .int .i64 a/\Kept (Mat (w.heap.size+1) wr G i j H1 C1 (FFld.subsF D t c (M2,st) a).1)/\Kept (Bxs w [rbox D.q D.p D.k D.m] wr)) (fun iv' _=>i-(intOf iv').toNat)
            case atStart=>exact⟨0,Nat.zero_le _,rfl,HM2,hbx⟩
            case round=>
             clear HM2 hbx d0;obtain⟨a,ha,rfl,hma,hbx⟩:=hrel
             by_cases hal:a<i
             ·by_cases hat' :a=t
              ·subst hat';have HNX:=Km (FFld.subsF_top (D:=D) (c:=c) (s:=(M2,st)) (i:=a) rfl);have eaa:((a:Int)==(a:Int))=true:=by simp
               go_wp2;go_roundw
               case rel=>exact⟨a+1,by omega,by go_num,⟨by rw[HNX.out];exact hma.out⟩,hbx⟩
               case measure=>simp[intOf]<;>omega
              ·have eat:((a:Int)==(t:Int))=false:=by rw[beq_eq_false_iff_ne];omega
               have HNX:=Km (FFld.subsF_off (D:=D) (c:=c) (s:=(M2,st)) hat');obtain⟨A2,hA2⟩:∃ X,(FFld.subsF D t c (M2,st) a).1=X:=⟨_,rfl⟩;have HW3:Kept (FFld.Wfm D j A2):=⟨by rw[<- hA2];exact(FFld.subsF_wf (m:=0) hk t c (s:=(M2,[])) HW2.out (fun r hr=>by simp at hr) a).1 |> (fun h=>by rw[<- FFld.subsF_fst D t c M2 st [] a] at h;exact h)⟩;rw[hA2] at hma HNX;have HL2:=Km hma.out.len;have d0:=hma.out.cell hal;have d1:=hma.out.el hal hcl;obtain⟨g2,hg2⟩:∃ x,H1 a=x:=⟨_,rfl⟩;obtain⟨k2,hk2⟩:∃ x,C1 a=x:=⟨_,rfl⟩;rw[hg2] at d0 d1;rw[hk2] at d0;obtain⟨x,hx⟩:∃ x,FFld.cellAt A2 a c=x:=⟨_,rfl⟩;rw[hx] at d1 HNX;have hxq:x<D.p ^ D.k:=by rw[<- hx];exact HW3.out.cell hk a c
               by_cases hx0:x=0
               ·subst hx0;have ez:(((0:Nat):Int)==0)=true:=rfl;have HSN:Kept (FFld.subAt D A2 a t 0=A2):=⟨FFld.subAt_none hk HW3.out (by rw[HL2.out];exact hal) (by rw[HL2.out];exact htl)⟩;clear hx hA2 hg2 hk2;go_wp2;go_roundw
                case rel=>exact⟨a+1,by omega,by go_num,⟨by rw[HNX.out,HSN.out];exact hma.out⟩,hbx⟩
                case measure=>simp[intOf]<;>omega
               ·have ex:((x:Int)==0)=false:=by rw[beq_eq_false_iff_ne];omega
                obtain⟨ra,hra⟩:∃ l,FFld.rowAt A2 a=l:=⟨_,rfl⟩;obtain⟨rt,hrt⟩:∃ l,FFld.rowAt A2 t=l:=⟨_,rfl⟩;have HRA:=Km hra;have HRT:=Km hrt;have HLA:Kept (ra.length=j):=⟨by rw[<- hra];exact hma.out.wid a hal⟩;have HLT:Kept (rt.length=j):=⟨by rw[<- hrt];exact hma.out.wid t htl⟩;have HQA:Kept (∀ y∈ra,y<D.p ^ D.k):=⟨by rw[<- hra];exact FFld.rowAt_lt HW3.out a⟩;have HQT:Kept (∀ y∈rt,y<D.p ^ D.k):=⟨by rw[<- hrt];exact FFld.rowAt_lt HW3.out t⟩;have HSB1:Kept (FFld.subAt D A2 a t x=A2.set a (FFld.addmF D ra 0 rt (FFld.negF D x) j)):=⟨by unfold FFld.subAt FFld.addm;rw[hra,hrt,HLT.out]⟩
                have HM4:Kept (Mat (w.heap.size+1) wr G i j H1 C1 (A2.set a (FFld.addmF D ra 0 rt (FFld.negF D x) 0))):=⟨by
                 have e:A2.set a (FFld.addmF D ra 0 rt (FFld.negF D x) 0)=A2:=by rw[show FFld.addmF D ra 0 rt (FFld.negF D x) 0=ra from rfl,<- hra];exact FFld.rowAt_set_self (by rw[HL2.out];exact hal)
                 rw[e]
                 exact hma.out⟩
                have HG2:=Km hg2;have HK2:=Km hk2
                have hne:g1≠g2:=by
                 rw[<- HG1.out,<- hg2];exact fun e=>hat' (hma.out.dis t a htl hal e).symm
                clear hx hA2 hg2 hk2 hra hrt hma hx0;go_wp2
                go_loopw [16] (fun jv wr=> ∃ b:Nat,b<=j/\jv= .int .i64 b/\Kept (Mat (w.heap.size+1) wr G i j H1 C1 (A2.set a (FFld.addmF D ra 0 rt (FFld.negF D x) b)))/\Kept (Bxs w [rbox D.q D.p D.k D.m] wr)) (fun jv _=>j-(intOf jv).toNat)
                case atStart=>exact⟨0,Nat.zero_le _,rfl,HM4,hbx⟩
                case round=>
                 clear HM4 hbx d0 d1;obtain⟨b,hb,rfl,hma,hbx⟩:=hrel;have d0:=hma.out.cell hal;rw[HG2.out,HK2.out] at d0
                 by_cases hbl:b<j
                 ·obtain⟨i0,i1,i2,i3⟩:=four_cells hbx.out.b0;have i4:=d0;have i5:=hma.out.cell htl;rw[HG1.out,HK1.out] at i5;have i6:=hma.out.el htl hbl;rw[HG1.out] at i6;have t1:=hma.out.el hal hbl;rw[HG2.out] at t1;obtain⟨y,hy⟩:∃ y,FFld.cellAt (A2.set a (FFld.addmF D ra 0 rt (FFld.negF D x) b)) t b=y:=⟨_,rfl⟩;obtain⟨u,hu⟩:∃ u,FFld.cellAt (A2.set a (FFld.addmF D ra 0 rt (FFld.negF D x) b)) a b=u:=⟨_,rfl⟩;have hur:(FFld.addmF D ra 0 rt (FFld.negF D x) b)[b]?.getD 0=u:=by rw[<- hu];unfold FFld.cellAt;rw[FFld.rowAt_put (by rw[HL2.out];exact hal)]
                  have hyr:rt[b]?.getD 0=y:=by rw[<- hy,<- HRT.out];unfold FFld.cellAt;rw[FFld.rowAt_put_ne hat']
                  have huq:u<D.p ^ D.k:=by rw[<- hur];exact FFld.getD_lt (Nat.pow_pos hk.p0) (FFld.addmF_lt hk 0 rt _ b HQA.out) _
                  have hyq:y<D.p ^ D.k:=by rw[<- hyr];exact FFld.getD_lt (Nat.pow_pos hk.p0) HQT.out b
                  rw[hu] at t1;rw[hy] at i6;obtain⟨z,hz⟩:∃ z,FFld.pmul D.p D.k D.m x D.k y=z:=⟨_,rfl⟩;have hzq:z<D.p ^ D.k:=by rw[<- hz];exact FFld.pmul_lt hk _ _ _
                  obtain⟨v,hv⟩:∃ v,FFld.padd D.p D.k u (FFld.pscl D.p D.k (D.p-1) z)=v:=⟨_,rfl⟩;have hM:=Km (fun W=>HM.out W x y hxq hyq);rw[hz] at hM;have hA:=Km (fun W=>HSB.out W u z huq hzq);rw[hv] at hA
                  have HNX2:Kept ((A2.set a (FFld.addmF D ra 0 rt (FFld.negF D x) b)).set a ((FFld.rowAt (A2.set a (FFld.addmF D ra 0 rt (FFld.negF D x) b)) a).set b v)=A2.set a (FFld.addmF D ra 0 rt (FFld.negF D x) (b+1))):=⟨by
                   rw[FFld.rowAt_put (by rw[HL2.out];exact hal),List.set_set];simp only[FFld.addmF]
                   rw[Nat.zero_add,hur,hyr,<- FFld.take_off hk hxq hyq,hz,hv]⟩
                  have hg2l:=(hma.out.low a hal);rw[HG2.out] at hg2l;have hgB:=hma.out.gB
                  have HFR:Kept (∀ W,Below wr.heap.size wr W->W.frozen? ⟨g2,b,none⟩=false):=⟨fun W hW=>by
                   have:=((hma.out.below hW).row a hal).free b
                   rwa [HG2.out] at this⟩
                  clear hu hur huq hv hy hyr hyq hz hzq;go_wp2;refine wp_region_held_drew (S:=fun w' =>(w'.cell? ⟨w.heap.size,0,none⟩=some (.int .i64 D.q)/\w'.cell? ⟨w.heap.size,1,none⟩=some (.int .i64 D.p)/\w'.cell? ⟨w.heap.size,2,none⟩=some (.int .i64 D.k)/\w'.cell? ⟨w.heap.size,3,none⟩=some (.int .i64 D.m))/\w'.cell? ⟨G,a,none⟩=some (.slice (some ⟨g2,0,none⟩) j k2)/\w'.cell? ⟨G,t,none⟩=some (.slice (some ⟨g1,0,none⟩) j k1)/\w'.cell? ⟨g1,b,none⟩=some (.int .i64 y)) (by kernel_rfl) ⟨⟨i0,i1,i2,i3⟩,i4,i5,i6⟩ (fun hHeld=> ?_);refine wpAnyH_take (i:=0) (v:= ?_) rfl (by kernel_rfl) (by kernel_rfl) (by kernel_rfl) (fun _ _ _ h=>h) (Or.inl ⟨by rfl,?_⟩) (by assumption) ?_;rotate_left
                  ·(intro w hSw;(try dsimp only at hSw);go_simp;(try with_reducible rfl))
                  try simp only[Act.put,sA]
                  refine wpAnyH_take (i:=1) (v:= ?_) rfl (by kernel_rfl) (by kernel_rfl) (by kernel_rfl) (fun _ _ _ h=>h) (Or.inl ⟨by rfl,?_⟩) (by assumption) ?_;rotate_left
                  ·(intro w hSw;(try dsimp only at hSw);go_simp;(try with_reducible rfl))
                  try simp only[Act.put,sA]
                  refine wpAnyH_take (i:=2) (v:= ?_) rfl (by kernel_rfl) (by kernel_rfl) (by kernel_rfl) (fun _ _ _ h=>h) (Or.inl ⟨by rfl,?_⟩) (by assumption) ?_;rotate_left
                  ·(intro w hSw;(try dsimp only at hSw);go_simp;(try with_reducible rfl))
                  try simp only[Act.put,sA]
                  refine wpAnyH_take (i:=3) (v:= ?_) rfl (by kernel_rfl) (by kernel_rfl) (by kernel_rfl) (fun _ _ _ h=>h) (Or.inl ⟨by rfl,?_⟩) (by assumption) ?_;rotate_left
                  ·(intro w hSw;(try dsimp only at hSw);go_simp;(try with_reducible rfl))
                  try simp only[Act.put,sA]
                  refine wpAnyH_take (i:=4) (v:= ?_) rfl (by kernel_rfl) (by kernel_rfl) (by kernel_rfl) (fun _ _ _ h=>h) (Or.inl ⟨by rfl,?_⟩) (by assumption) ?_;rotate_left
                  ·(intro w hSw;(try dsimp only at hSw);go_simp;(try with_reducible rfl))
                  try simp only[Act.put,sA]
                  refine wpAnyH_take (i:=5) (v:= ?_) rfl (by kernel_rfl) (by kernel_rfl) (by kernel_rfl) (fun _ _ _ h=>h) (Or.inl ⟨by rfl,?_⟩) (by assumption) ?_;rotate_left
                  ·(intro w hSw;(try dsimp only at hSw);go_simp;(try with_reducible rfl))
                  try simp only[Act.put,sA]
                  refine wpAnyH_take (i:=6) (v:= ?_) rfl (by kernel_rfl) (by kernel_rfl) (by kernel_rfl) (fun _ _ _ h=>h) (Or.inl ⟨by rfl,?_⟩) (by assumption) ?_;rotate_left
                  ·(intro w hSw;(try dsimp only at hSw);go_simp;(try with_reducible rfl))
                  try simp only[Act.put,sA]
                  refine wpAnyH_take (i:=7) (v:= ?_) rfl (by kernel_rfl) (by kernel_rfl) (by kernel_rfl) (fun _ _ _ h=>h) (Or.inl ⟨by rfl,?_⟩) (by assumption) ?_;rotate_left
                  ·(intro w hSw;(try dsimp only at hSw);go_simp;(try with_reducible rfl))
                  try simp only[Act.put,sA]
                  refine wpAnyH_take (i:=8) (v:= ?_) rfl (by kernel_rfl) (by kernel_rfl) (by kernel_rfl) (fun _ _ _ h=>h) (Or.inl ⟨by rfl,?_⟩) (by assumption) ?_;rotate_left
                  ·(intro w hSw;(try dsimp only at hSw);go_simp;(try with_reducible rfl))
                  try simp only[Act.put,sA]
                  refine wpAnyH_take (i:=9) (v:= ?_) rfl (by kernel_rfl) (by kernel_rfl) (by kernel_rfl) (fun _ _ _ h=>h) (Or.inl ⟨by rfl,?_⟩) (by assumption) ?_;rotate_left
                  ·(intro w hSw;(try dsimp only at hSw);go_simp;(try with_reducible rfl))
                  try simp only[Act.put,sA]
                  refine wpAnyH_take (i:=10) (v:= ?_) rfl (by kernel_rfl) (by kernel_rfl) (by kernel_rfl) (fun _ _ _ h=>h) (Or.inl ⟨by rfl,?_⟩) (by assumption) ?_;rotate_left
                  ·(intro w hSw;(try dsimp only at hSw);go_simp;(try with_reducible rfl))
                  try simp only[Act.put,sA]
                  refine wpAnyH_take (i:=11) (v:= ?_) rfl (by kernel_rfl) (by kernel_rfl) (by kernel_rfl) (fun _ _ _ h=>h) (Or.inl ⟨by rfl,?_⟩) (by assumption) ?_;rotate_left
                  ·(intro w hSw;(try dsimp only at hSw);go_simp;(try with_reducible rfl))
                  try simp only[Act.put,sA]
                  refine wpAnyH_take (i:=13) (v:= ?_) rfl (by kernel_rfl) (by kernel_rfl) (by kernel_rfl) (fun _ _ _ h=>h) (Or.inl ⟨by rfl,?_⟩) (by assumption) ?_;rotate_left
                  ·(intro w hSw;(try dsimp only at hSw);go_simp;(try with_reducible rfl))
                  try simp only[Act.put,sA]
                  refine wpAnyH_take (i:=14) (v:= ?_) rfl (by kernel_rfl) (by kernel_rfl) (by kernel_rfl) (fun _ _ _ h=>h) (Or.inl ⟨by rfl,?_⟩) (by assumption) ?_;rotate_left
                  ·(intro w hSw;(try dsimp only at hSw);go_simp;(try with_reducible rfl))
                  try simp only[Act.put,sA]
                  refine wpAnyH_take (i:=15) (v:= ?_) rfl (by kernel_rfl) (by kernel_rfl) (by kernel_rfl) (fun _ _ _ h=>h) (Or.inl ⟨by rfl,?_⟩) (by assumption) ?_;rotate_left
                  ·(intro w hSw;(try dsimp only at hSw);go_simp;(try with_reducible rfl))
                  try simp only[Act.put,sA]
                  refine wpAnyH_take (i:=16) (v:= ?_) rfl (by kernel_rfl) (by kernel_rfl) (by kernel_rfl) (fun _ _ _ h=>h) (Or.inl ⟨by rfl,?_⟩) (by assumption) ?_;rotate_left
                  ·(intro w hSw;(try dsimp only at hSw);go_simp;(try with_reducible rfl))
                  try simp only[Act.put,sA]
                  refine wpAnyH_take (i:=17) (v:= ?_) rfl (by kernel_rfl) (by kernel_rfl) (by kernel_rfl) (fun _ _ _ h=>h) (Or.inl ⟨by rfl,?_⟩) (by assumption) ?_;rotate_left
                  ·(intro w hSw;(try dsimp only at hSw);go_simp;(try with_reducible rfl))
                  try simp only[Act.put,sA]
                  refine wpAnyH_take (i:=18) (v:= ?_) rfl (by kernel_rfl) (by kernel_rfl) (by kernel_rfl) (fun _ _ _ h=>h) (Or.inl ⟨by rfl,?_⟩) (by assumption) ?_;rotate_left
                  ·(intro w hSw;(try dsimp only at hSw);go_simp;(try with_reducible rfl))
                  try simp only[Act.put,sA]
                  refine wpAnyH_take (i:=19) (v:= ?_) rfl (by kernel_rfl) (by kernel_rfl) (by kernel_rfl) (fun _ _ _ h=>h) (Or.inl ⟨by rfl,?_⟩) (by assumption) ?_;rotate_left
                  ·(intro w hSw;(try dsimp only at hSw);go_simp;(try with_reducible rfl))
                  try simp only[Act.put,sA]
                  refine wpAnyH_take (i:=20) (v:= ?_) rfl (by kernel_rfl) (by kernel_rfl) (by kernel_rfl) (fun _ _ _ h=>h) (Or.inl ⟨by rfl,?_⟩) (by assumption) ?_;rotate_left
                  ·(intro w hSw;(try dsimp only at hSw);go_simp;(try with_reducible rfl))
                  try simp only[Act.put,sA]
                  refine wpAnyH_take (i:=21) (v:= ?_) rfl (by kernel_rfl) (by kernel_rfl) (by kernel_rfl) (fun _ _ _ h=>h) (Or.inl ⟨by rfl,?_⟩) (by assumption) ?_;rotate_left
                  ·(intro w hSw;(try dsimp only at hSw);go_simp;(try with_reducible rfl))
                  try simp only[Act.put,sA]
                  refine wpAnyH_ready (rs:= [12,22]) (by kernel_rfl) (by simp) ?_;refine AllReadyH.cons rfl (fun K hK=> ?_) (AllReadyH.cons rfl (fun K hK=> ?_) AllReadyH.nil)
                  ·go_simp
                   refine hK.out _ _ ⟨⟨i0,i1,i2,i3⟩,i4,i5,i6⟩ (fun hHeld=> ?_);clear hK K
                   try simp only[Act.put,sA]
                   refine wpAnyH_ready (rs:= [22]) (by kernel_rfl) (by simp) ?_;refine(AllReadyH.cons rfl (fun K hK=> ?_) AllReadyH.nil)
                   go_simp
                   refine(hM.out _).mono ?_;rintro e w2 ⟨hb2,rfl⟩;have HR2:Kept (Below wr.heap.size wr w2):=⟨(Below.refl _ _).drew.trans hb2⟩;have j0:=belowCell HR2.out i0;have j1:=belowCell HR2.out i1;have j2:=belowCell HR2.out i2;have j3:=belowCell HR2.out i3;have j4:=belowCell HR2.out i4;have j5:=belowCell HR2.out i5;have j6:=belowCell HR2.out i6;have t2:=belowCell HR2.out t1;clear hb2;refine hK.out _ _ ⟨⟨j0,j1,j2,j3⟩,j4,j5,j6⟩ (fun hHeld=> ?_);clear hK K
                   try simp only[Act.put,sA]
                   refine wpAnyH_ready (rs:= [23]) (by kernel_rfl) (by simp) ?_;refine(AllReadyH.cons rfl (fun K hK=> ?_) AllReadyH.nil)
                   go_simp
                   refine(hA.out _).mono ?_;rintro e w3 ⟨hb3,rfl⟩;have HR3:=Km (bstep HR2.out hb3);have k0:=belowCell hb3 j0;have k1:=belowCell hb3 j1;have k2:=belowCell hb3 j2;have k3:=belowCell hb3 j3;have k4:=belowCell hb3 j4;have k5:=belowCell hb3 j5;have k6:=belowCell hb3 j6;have HM3:=Km (hma.out.below HR3.out);have z3:=HFR.out _ HR3.out;have t3:=belowCell hb3 t2;have HX3:=Km (hbx.out.below HR3.out);have hgs:w3.grownBy (w3.setCell ⟨g2,b,none⟩ (.int .i64 v)) (some g2):=grow_set _ _ _ _;have m0:=hgs.cell k0 (by simp;omega);have m1:=hgs.cell k1 (by simp;omega);have m2:=hgs.cell k2 (by simp;omega);have m3:=hgs.cell k3 (by simp;omega);have m4:=hgs.cell k4 (by simpa using(fun e=>hg2l.2 e.symm));have m5:=hgs.cell k5 (by simpa using(fun e=>hg2l.2 e.symm));have m6:=hgs.cell k6 (by simpa using hne);have HX4:=Km (HX3.out.grown hgs (fun k hk=>by cases hk;simp;omega));clear hb3;refine hK.out _ _ ⟨⟨k0,k1,k2,k3⟩,k4,k5,k6⟩ (fun hHeld=> ?_);clear hK K
                   try simp only[Act.put,sA]
                   refine wpAnyH_take (i:=24) (v:= ?_) rfl (by kernel_rfl) (by kernel_rfl) (by kernel_rfl) (fun _ _ _ h=>h) (Or.inl ⟨by rfl,?_⟩) (by assumption) ?_;rotate_left
                   ·(intro w hSw;(try dsimp only at hSw);go_simp;(try with_reducible rfl))
                   try simp only[Act.put,sA]
                   refine wpAnyH_ready (rs:= [25]) (by kernel_rfl) (by simp) ?_;refine(AllReadyH.cons rfl (fun K hK=> ?_) AllReadyH.nil)
                   go_simp
                   refine hK.out _ _ ⟨⟨m0,m1,m2,m3⟩,m4,m5,m6⟩ (fun hHeld=> ?_);clear hK K
                   try simp only[Act.put,sA]
                   refine wpAnyH_done (by kernel_rfl) ?_ _;go_wp2;go_roundw
                   case rel=>exact⟨b+1,by omega,by go_num,⟨by have:=HM3.out.put hal b v;rw[HG2.out,HNX2.out] at this;exact this⟩,HX4⟩
                   case measure=>simp[intOf]<;>omega
                  ·go_simp
                   refine(hM.out _).mono ?_;rintro e w2 ⟨hb2,rfl⟩;have HR2:Kept (Below wr.heap.size wr w2):=⟨(Below.refl _ _).drew.trans hb2⟩;have j0:=belowCell HR2.out i0;have j1:=belowCell HR2.out i1;have j2:=belowCell HR2.out i2;have j3:=belowCell HR2.out i3;have j4:=belowCell HR2.out i4;have j5:=belowCell HR2.out i5;have j6:=belowCell HR2.out i6;have t2:=belowCell HR2.out t1;clear hb2;refine hK.out _ _ ⟨⟨j0,j1,j2,j3⟩,j4,j5,j6⟩ (fun hHeld=> ?_);clear hK K
                   try simp only[Act.put,sA]
                   refine wpAnyH_ready (rs:= [12]) (by kernel_rfl) (by simp) ?_;refine(AllReadyH.cons rfl (fun K hK=> ?_) AllReadyH.nil)
                   go_simp
                   refine hK.out _ _ ⟨⟨j0,j1,j2,j3⟩,j4,j5,j6⟩ (fun hHeld=> ?_);clear hK K
                   try simp only[Act.put,sA]
                   refine wpAnyH_ready (rs:= [23]) (by kernel_rfl) (by simp) ?_;refine(AllReadyH.cons rfl (fun K hK=> ?_) AllReadyH.nil)
                   go_simp
                   refine(hA.out _).mono ?_;rintro e w3 ⟨hb3,rfl⟩;have HR3:=Km (bstep HR2.out hb3);have k0:=belowCell hb3 j0;have k1:=belowCell hb3 j1;have k2:=belowCell hb3 j2;have k3:=belowCell hb3 j3;have k4:=belowCell hb3 j4;have k5:=belowCell hb3 j5;have k6:=belowCell hb3 j6;have HM3:=Km (hma.out.below HR3.out);have z3:=HFR.out _ HR3.out;have t3:=belowCell hb3 t2;have HX3:=Km (hbx.out.below HR3.out);have hgs:w3.grownBy (w3.setCell ⟨g2,b,none⟩ (.int .i64 v)) (some g2):=grow_set _ _ _ _;have m0:=hgs.cell k0 (by simp;omega);have m1:=hgs.cell k1 (by simp;omega);have m2:=hgs.cell k2 (by simp;omega);have m3:=hgs.cell k3 (by simp;omega);have m4:=hgs.cell k4 (by simpa using(fun e=>hg2l.2 e.symm));have m5:=hgs.cell k5 (by simpa using(fun e=>hg2l.2 e.symm));have m6:=hgs.cell k6 (by simpa using hne);have HX4:=Km (HX3.out.grown hgs (fun k hk=>by cases hk;simp;omega));clear hb3;refine hK.out _ _ ⟨⟨k0,k1,k2,k3⟩,k4,k5,k6⟩ (fun hHeld=> ?_);clear hK K
                   try simp only[Act.put,sA]
                   refine wpAnyH_take (i:=24) (v:= ?_) rfl (by kernel_rfl) (by kernel_rfl) (by kernel_rfl) (fun _ _ _ h=>h) (Or.inl ⟨by rfl,?_⟩) (by assumption) ?_;rotate_left
                   ·(intro w hSw;(try dsimp only at hSw);go_simp;(try with_reducible rfl))
                   try simp only[Act.put,sA]
                   refine wpAnyH_ready (rs:= [25]) (by kernel_rfl) (by simp) ?_;refine(AllReadyH.cons rfl (fun K hK=> ?_) AllReadyH.nil)
                   go_simp
                   refine hK.out _ _ ⟨⟨m0,m1,m2,m3⟩,m4,m5,m6⟩ (fun hHeld=> ?_);clear hK K
                   try simp only[Act.put,sA]
                   refine wpAnyH_done (by kernel_rfl) ?_ _;go_wp2;go_roundw
                   case rel=>exact⟨b+1,by omega,by go_num,⟨by have:=HM3.out.put hal b v;rw[HG2.out,HNX2.out] at this;exact this⟩,HX4⟩
                   case measure=>simp[intOf]<;>omega
                 ·obtain rfl:b=j:=by omega
                  go_wp2;go_roundw
                  case rel=>exact⟨a+1,by omega,by go_num,⟨by rw[HNX.out,HSB1.out];exact hma.out⟩,hbx⟩
                  case measure=>simp[intOf]<;>omega
             ·obtain rfl:a=i:=by omega
              go_wp2;go_roundw
              case rel=>exact⟨c+1,t+1,H1,C1,by omega,by omega,by go_num,by go_num,HSC,⟨by rw[HSA.out];exact hma.out⟩,hbx⟩
              case measure=>simp[intOf]<;>omega
        ·obtain rfl:p=i:=by omega
         have HPN:Kept (FFld.elimF D hk s0 (c+1)=FFld.elimF D hk s0 c):=⟨FFld.stepF_none hk c (p:=p) (by rw[htc.out,HA.out,HAL.out,hpv.out,Nat.sub_self];rfl) (by rw[HA.out,HAL.out])⟩;have eii:((p:Int)==(p:Int))=true:=by simp
         go_wp2;go_roundw
         case rel=>exact⟨c+1,t,H,C,by omega,by omega,rfl,by go_num,⟨by rw[HPN.out];exact htc.out⟩,⟨by rw[HPN.out,HA.out];exact hma.out⟩,hbx⟩
         case measure=>simp[intOf]<;>omega
      ·obtain rfl:t=i:=by omega
       have HF:Kept (FFld.elimF D hk s0 wd=FFld.elimF D hk s0 c):=⟨by
        have:=FFld.elimF_full hk s0 c (by rw[htc.out,HA.out,HAL.out]) (wd-c)
        rwa [show c+(wd-c)=wd by omega] at this⟩
       have HSL:=Km (hma.out.sls (Nat.le_refl _));go_wp2
       go_ret
       refine⟨hbx.out.1,some ⟨G,0,none⟩,gc,?_,?_,HGM.out,?_⟩
       ·(rw[HF.out,htc.out];first|done|rfl)
       ·rw[HF.out,htc.out];exact hgc
       ·rw[HF.out,htc.out,HA.out];exact HSL.out
     ·obtain rfl:c=wd:=by omega
      have HSL:=Km (hma.out.sls hti);have htg:t<=gc:=Nat.le_trans hti hgc;go_wp2
      go_ret
      refine⟨hbx.out.1,some ⟨G,0,none⟩,gc,?_,?_,HGM.out,?_⟩
      ·(rw[htc.out];first|done|rfl)
      ·rw[htc.out];exact htg
      ·rw[htc.out,HA.out];exact HSL.out
end Go.Proofs.YtdnheaafcbihbaaGreat
