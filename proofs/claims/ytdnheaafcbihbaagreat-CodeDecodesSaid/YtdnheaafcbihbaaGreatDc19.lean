/-
  Texts of the proof, merged by program: Rdv Scl Cmp1 Eva Thp.
-/
import Derived.Test.YtdnheaafcbihbaaGreatDc18
set_option linter.unusedSectionVars false
set_option linter.unusedSimpArgs false
set_option linter.unusedVariables false
set_option maxHeartbeats 16000000
namespace Go.Proofs.YtdnheaafcbihbaaGreat
section
open Go Go.RowKit Go.Deep
open FFld (ints)
def RdRet (D:FFld.FD)(ql:List Nat)(inv:Nat)(pl:List Nat)(w:World)(e:Ending)(w' :World):Prop:=Below w.heap.size w w' /\ ∃ (vq vr:Value),e= .returned (.tuple #[vq,vr])/\Sl .i64 w' vq (ints (FFld.quoF D ql inv pl))/\Sl .i64 w' vr (ints (FFld.rstF D ql inv pl))
set_option maxRecDepth 20000 in
theorem rpdivide_any {D:FFld.FD}(hD:D.Ok)(vp vq:Value)(pl ql:List Nat)(w:World)(hp:Sl .i64 w vp (ints pl))(hq:Sl .i64 w vq (ints ql))(hpq:∀ a∈pl,a<D.p ^ D.k)(hqq:∀ a∈ql,a<D.p ^ D.k)
 (hq1:1<=ql.length) (hql:ql[ql.length-1]?.getD 0≠0) (hpl:pl.length<=100000) (hqll:ql.length<=100000):
 Calls Tryz.prog 105 #[rfv D.q D.p D.k D.m,vp,vq] w (RdRet D ql (FFld.ppow hD.pre.pk (ql[ql.length-1]?.getD 0) (D.q-2)) pl w):=by
 obtain⟨ap,cp,hvp,hcp,hmp⟩:=hp.form;obtain⟨aq,cq,hvq,hcq,hmq⟩:=hq.form;subst hvp hvq;rw[FFld.ints_len] at hcp hcq;have HX0:Kept (Bxs w [rbox D.q D.p D.k D.m] (w.alloc (rbox D.q D.p D.k D.m))):=⟨(Bxs.start w).alloc (by simp) _⟩;obtain⟨np,hnp⟩:∃ np,pl.length=np:=⟨_,rfl⟩;obtain⟨nq,hnq⟩:∃ nq,ql.length=nq:=⟨_,rfl⟩;have HNP:=Km hnp;have HNQ:=Km hnq;obtain⟨top,htop⟩:∃ x,ql[ql.length-1]?.getD 0=x:=⟨_,rfl⟩;rw[htop] at hql ⊢;have HTOP:=Km htop;have htq:top<D.p ^ D.k:=by rw[<- htop];exact FFld.getD_lt (Nat.pow_pos hD.pre.pk.p0) hqq _
 obtain⟨inv,hinv⟩:∃ x,FFld.ppow hD.pre.pk top (D.q-2)=x:=⟨_,rfl⟩;have HINV:=Km hinv;have hivq:inv<D.p ^ D.k:=by rw[<- hinv];exact FFld.ppow_lt _ _ _
 have hq6:D.p ^ D.k<=65536:=hD.pre.small;have HM:=Km (fun W x y (hx:x<D.p ^ D.k) (hy:y<D.p ^ D.k)=>rmul_any D.q D.p D.k D.m x y W hD.pre.pk.p2 hD.pre.pk.k1 hx hy hq6 (md_ok hD));have HA:=Km (fun W x y (hx:x<D.p ^ D.k) (hy:y<D.p ^ D.k)=>rsub_any D.q D.p D.k D.m x y W hD.pre.pk hx hy hq6);have HI:=Km (fun W=>rinv_any D.q D.p D.k D.m top W hD.pre.pk htq rfl hq6 (md_ok hD));rw[hinv] at HI;have HIQ:=Km hivq;have HQL:=Km hql;have HPS:=Km (hp.below HX0.out.1);have HQS:=Km hq;have HPQ:=Km hpq;have HQQ:=Km hqq;rw[FFld.ints_len,hnp] at HPS;rw[FFld.ints_len,hnq] at HQS;rw[hnp] at hcp hpl;rw[hnq] at hcq hqll hq1;rw[hinv,FFld.ints_len,FFld.ints_len,hnp,hnq];have H1:=Km (show(([]:List Int).length+(ints pl).length)*8<=140737488355328 by rw[FFld.ints_len,hnp];simp;omega);have H2:=Km (show([]:List Int).length+(ints pl).length<=maxLen by rw[FFld.ints_len,hnp];unfold maxLen;simp;omega);have hivd:inv<=65536:=by omega
 have hs0:(w.alloc (rbox D.q D.p D.k D.m)).heap.size=w.heap.size+1:=by simp
 clear hp hq hpq hqq hnp hnq htop hinv hq6 htq hivq hql
 go_enter Tryz.func105,Tryz.ntmps105
 go_wp2_with (at_builtin;refine wpList_append_sl _ rfl _ _ 22 rfl 3 .i64 8 Tryz.underlying22 info_i64 (w.alloc (rbox D.q D.p D.k D.m)).heap.size (.slice none 0 0) [] (by rfl) (Mine.nil _ _ _ _) (Nat.le_refl _) _ _ (by rfl) HPS.out H1.out H2.out ?_)
 intro v3 w3 hm3 hg3
 try rw[List.nil_append] at hm3
 have hb3:Below (w.alloc (rbox D.q D.p D.k D.m)).heap.size (w.alloc (rbox D.q D.p D.k D.m)) w3:=(Below.refl _ _).grown hg3 (Nat.le_refl _) (by simp[Value.ownBlock]);obtain⟨a3,c3,hv3,hc3,hm3'⟩:=hm3.sl.form;subst hv3;rw[FFld.ints_len,HNP.out] at hm3 hc3 ⊢;have HB3:=Km hb3;have HX3:=Km (HX0.out.below hb3);have HM3:=Km hm3;clear hb3 hm3 hg3 H1 H2 HX0
 by_cases hlt:np<nq
 ·go_wp2
  go_ret2
  refine⟨HX3.out.1,_,_,rfl,?_,?_⟩
  ·have e:FFld.quoF D ql inv pl= []:=by unfold FFld.quoF;rw[if_pos (by rw[HNP.out,HNQ.out];exact hlt)]
   rw[e];exact Sl.nil _ _
  ·have e:FFld.rstF D ql inv pl=pl:=by unfold FFld.rstF;rw[if_pos (by rw[HNP.out,HNQ.out];exact hlt)]
   rw[e];exact HM3.out.sl
 ·obtain⟨g,cap',ev,hgB,hgl,_,_,_,_,_⟩:=HM3.out.at (i:=0) (by rw[FFld.ints_len,HNP.out];omega);rw[FFld.ints_len,HNP.out] at ev;simp only[Value.slice.injEq,true_and] at ev;obtain⟨rfl,rfl⟩:=ev;have HW3:=Km HM3.out.wv;obtain⟨n,hn⟩:∃ n,np+1-nq=n:=⟨_,rfl⟩;have hnn:n+nq=np+1:=by omega
  have hn1:1<=n:=by omega
  have hn6:n<=200000:=by omega
  have en:(np:Int)-nq+1=n:=by omega
  have enq:IntKind.i64.wrap ((nq:Int)-1)=(nq:Int)-1:=wi (by omega) (by omega);have en0:(1:Int)<=nq:=by omega
  have enb:(nq:Int)-1<nq:=by omega
  obtain⟨bq,oq,haq,hnq0,hbq,iq⟩:=(HQS.out.qc HX3.out.1 (g:=g) (by omega)) (nq-1) (by rw[HNQ.out];omega);subst haq;have htt:ql[nq-1]?.getD 0=top:=by rw[<- HTOP.out,HNQ.out]
  rw[htt] at iq;obtain⟨i0,i1,i2,i3⟩:=four_cells HX3.out.b0;have i4:=iq;have hhg:w.heap.size<g:=by omega
  clear hn hnq0 HM3 htt hgl;go_wp2
  go_region_held3 (fun w' =>w'.cell? ⟨w.heap.size,0,none⟩=some (.int .i64 D.q)/\w'.cell? ⟨w.heap.size,1,none⟩=some (.int .i64 D.p)/\w'.cell? ⟨w.heap.size,2,none⟩=some (.int .i64 D.k)/\w'.cell? ⟨w.heap.size,3,none⟩=some (.int .i64 D.m)/\w'.cell? ⟨bq,oq+(nq-1),none⟩=some (.int .i64 top))
   (first|exact⟨j0,j1,j2,j3,j4⟩|exact⟨i0,i1,i2,i3,i4⟩|go_keep)
   ((first
     |(go_at_call 119;(with_reducible refine(HI.out _).mono ?_);rintro e v1 ⟨hb1,rfl⟩;have hy1:=Km (bstep (show Below w3.heap.size w3 _ from(by first|exact Below.refl _ _|exact(Below.refl _ _).drew)) hb1);have j0:=belowCell hy1.out i0;have j1:=belowCell hy1.out i1;have j2:=belowCell hy1.out i2;have j3:=belowCell hy1.out i3;have j4:=belowCell hy1.out i4;clear hb1)))
  have HX5:=Km (HX3.out.below hy1.out);have HW5:=Km (HW3.out.below hy1.out);have hgl5:=HW5.out.lt;clear HX3 HW3 i0 i1 i2 i3 i4 iq
  go_wp2_with (at_make;refine wpList_make_zeros _ rfl _ _ 22 rfl 3 .i64 Tryz.underlying22 info_i64 _ _ n rfl rfl (by omega) (by omega) (by omega) ?_)
  intro w6 hrow hbel;rw[FFld.ints_rep] at hrow;have HX6:=Km (HX5.out.below (by simpa using hbel));have HW6:=Km (HW5.out.below (by simpa using hbel));have HO6:Kept (Wv w6 v1.heap.size (FFld.outF D ql inv n pl 0)):=⟨by rw[FFld.outF_zero];exact hrow.wv⟩;obtain⟨g2,hg2⟩:∃ g2,v1.heap.size=g2:=⟨_,rfl⟩;rw[hg2] at HO6 hgl5;have hgg:g2≠g:=by omega
  have hhg2:w.heap.size<g2:=by omega
  clear hrow hbel HX5 HW5;go_wp2
  try rw[hg2]
  clear hg2 hgl5 HB3
  go_loopw [8] (fun rv wr=> ∃ (t l:Nat),t<=n/\l+t<=np/\rv= .slice (some ⟨g,0,none⟩) l c3/\(t=0->l=np)/\Kept (∀ j,l<=j->(FFld.divF D ql inv n pl t)[j]?.getD 0=0)/\Kept (t=0\/l=0\/(FFld.divF D ql inv n pl t)[l-1]?.getD 0≠0)/\Kept (Wv wr g (FFld.divF D ql inv n pl t))/\Kept (Wv wr g2 (FFld.outF D ql inv n pl t))/\Kept (Bxs w [rbox D.q D.p D.k D.m] wr)) (fun rv _=>sliceLen rv)
  case atStart=>exact⟨0,np,Nat.zero_le _,by omega,rfl,fun _=>rfl,⟨fun j hj=>by show pl[j]?.getD 0=0;rw[List.getElem?_eq_none (by rw[HNP.out];exact hj)];rfl⟩,⟨.inl rfl⟩,HW6,HO6,HX6⟩
  case round=>
   obtain⟨t,l,htn,hlt2,rfl,ht0,hz,htz,hwv0,hov0,hbx0⟩:=hrel;have hln:l<=np:=by omega
   by_cases hle:nq<=l
   ·obtain⟨a,ha⟩:∃ a,l-nq=a:=⟨_,rfl⟩;have hal:a+nq=l:=by omega
    obtain⟨s,hs⟩:∃ s,n-1-a=s:=⟨_,rfl⟩;have has:n-1-s=a:=by omega
    have hts:t<=s:=by omega
    have hsn:s<n:=by omega
    have hsk:=FFld.div_skip hD (ql:=ql) (pl:=pl) (inv:=inv) (n:=n) HQQ.out HPQ.out HIQ.out (by rw[HNP.out,HNQ.out];exact hnn) (by rw[HNQ.out];exact hq1) (t:=t) (l:=l) hz.out (s-t) (by omega) (fun u h1 h2=>by rw[HNQ.out];omega);rw[show t+(s-t)=s by omega] at hsk;obtain⟨hX,hQ0⟩:=hsk;obtain⟨X,hXX⟩:∃ X,FFld.divF D ql inv n pl s=X:=⟨_,rfl⟩;have HXL:Kept (X.length=np):=⟨by rw[<- hXX,FFld.divF_len,HNP.out]⟩;have HXQ:Kept (∀ a∈X,a<D.p ^ D.k):=⟨by rw[<- hXX];exact FFld.divF_lt hD.pre.pk _ _ _ _ HPQ.out⟩;obtain⟨tq,htq⟩:∃ x,FFld.divQ D ql inv n pl s=x:=⟨_,rfl⟩;obtain⟨xt,hxt⟩:∃ x,X[l-1]?.getD 0=x:=⟨_,rfl⟩
    have htq2:FFld.pmul D.p D.k D.m xt D.k inv=tq:=by
     rw[<- htq,<- hxt,<- hXX];unfold FFld.divQ;rw[has,HNQ.out,show a+(nq-1)=l-1 by omega]
    have HON:=Km (FFld.outF_next (D:=D) (ql:=ql) (inv:=inv) (pl:=pl) hts hsn has hQ0);rw[htq] at HON
    have HNX:Kept (FFld.divF D ql inv n pl (s+1)=FFld.addmF D X a ql (FFld.negF D tq) nq):=⟨by
     show FFld.addm D (FFld.divF D ql inv n pl s) (n-1-s) ql (FFld.negF D (FFld.divQ D ql inv n pl s))=_
     rw[htq,hXX,has];unfold FFld.addm
     rw[HNQ.out]⟩
    have HTP:Kept (∀ j,l-1<=j->(FFld.divF D ql inv n pl (s+1))[j]?.getD 0=0):=⟨by
     have:=FFld.div_top hD (ql:=ql) (pl:=pl) (inv:=inv) (n:=n) HQQ.out HPQ.out (by rw[HNP.out,HNQ.out];exact hnn) (by rw[HNQ.out];exact hq1) (by rw[HTOP.out];exact HQL.out) (by rw[HTOP.out];exact HINV.out.symm) hsn (fun j hj=>by
      rw[hX];rw[has,HNQ.out] at hj
      exact hz.out j (by omega))
     rw[has,HNQ.out,show a+(nq-1)=l-1 by omega] at this
     exact this⟩
    have hwv1:=hwv0;rw[<- hX,hXX] at hwv1;have hxq:xt<D.p ^ D.k:=by rw[<- hxt];exact FFld.getD_lt (Nat.pow_pos hD.pre.pk.p0) HXQ.out _
    have htqq:tq<D.p ^ D.k:=by rw[<- htq2];exact FFld.pmul_lt hD.pre.pk _ _ _
    have HTQ:=Km htqq;have c4:=hwv1.out.cell (i:=l-1) (by rw[HXL.out];omega);rw[hxt] at c4;have hM:=Km (fun W=>HM.out W xt inv hxq HIQ.out);rw[htq2] at hM;obtain⟨i0,i1,i2,i3⟩:=four_cells hbx0.out.b0;have i4:=c4;have el1:IntKind.i64.wrap ((l:Int)-1)=(l:Int)-1:=wi (by omega) (by omega);have el0:(1:Int)<=l:=by omega
    have elb:(l:Int)-1<l:=by omega
    have eal:(l:Int)-nq=a:=by omega
    have htq6:tq<=65536:=by have:D.p ^ D.k<=65536:=hD.pre.small;omega
    clear hX hXX hQ0 htq hxt htq2 hxq htqq c4 hwv0 ha hs htz hz;go_wp2
    go_region_held3 (fun w' =>w'.cell? ⟨w.heap.size,0,none⟩=some (.int .i64 D.q)/\w'.cell? ⟨w.heap.size,1,none⟩=some (.int .i64 D.p)/\w'.cell? ⟨w.heap.size,2,none⟩=some (.int .i64 D.k)/\w'.cell? ⟨w.heap.size,3,none⟩=some (.int .i64 D.m)/\w'.cell? ⟨g,l-1,none⟩=some (.int .i64 xt))
     (first|exact⟨j0,j1,j2,j3,j4⟩|exact⟨i0,i1,i2,i3,i4⟩|go_keep)
     ((first
       |(go_at_call 103;(with_reducible refine(hM.out _).mono ?_);rintro e vb1 ⟨hbb1,rfl⟩;have hyb1:=Km (bstep (show Below wr.heap.size wr _ from(by first|exact Below.refl _ _|exact(Below.refl _ _).drew)) hbb1);have j0:=belowCell hyb1.out i0;have j1:=belowCell hyb1.out i1;have j2:=belowCell hyb1.out i2;have j3:=belowCell hyb1.out i3;have j4:=belowCell hyb1.out i4;clear hbb1)))
    have HX7:=Km (hbx0.out.below hyb1.out);have HW7:=Km (hwv1.out.below hyb1.out);have HO7:=Km (hov0.out.below hyb1.out);have f0:=HO7.out.free a;have f1:=HO7.out.cell (i:=a) (by rw[FFld.outF_len];omega);have hgs:=grow_set vb1 g2 a (.int .i64 tq);have HX8:=Km (HX7.out.grown hgs (fun k hk=>by cases hk;simp;omega));have HW8:=Km (HW7.out.other hgs (fun h=>hgg h.symm));have HO8:Kept (Wv (vb1.setCell ⟨g2,a,none⟩ (.int .i64 tq)) g2 (FFld.outF D ql inv n pl (s+1))):=⟨by have:=HO7.out.set (i:=a) tq;rw[HON.out] at this;exact this⟩;have han:a<n:=by omega
    clear hgs HX7 HW7 HO7 i0 i1 i2 i3 i4 hbx0 hwv1 hov0 hM;go_wp2
    go_loopw [13] (fun jv wr=> ∃ j:Nat,j<=nq/\jv= .int .i64 j/\Kept (Wv wr g (FFld.addmF D X a ql (FFld.negF D tq) j))/\Kept (Wv wr g2 (FFld.outF D ql inv n pl (s+1)))/\Kept (Bxs w [rbox D.q D.p D.k D.m] wr)) (fun jv _=>nq-(intOf jv).toNat)
    case atStart=>exact⟨0,Nat.zero_le _,rfl,HW8,HO8,HX8⟩
    case round=>
     clear HX8 HW8 HO8;obtain⟨j,hj,rfl,hwv,hov,hbx⟩:=hrel
     by_cases hlt3:j<nq
     ·obtain⟨bq2,oq2,haq,hnq,hbq2,iq⟩:=(HQS.out.qc hbx.out.1 (Nat.le_of_lt hhg)) j (by rw[HNQ.out];exact hlt3);simp only[Option.some.injEq,Addr.mk.injEq,and_true] at haq;obtain⟨rfl,rfl⟩:=haq
      ·obtain⟨y,hy⟩:∃ y,ql[j]?.getD 0=y:=⟨_,rfl⟩;rw[hy] at iq;obtain⟨i0,i1,i2,i3⟩:=four_cells hbx.out.b0;have hyq:y<D.p ^ D.k:=by rw[<- hy];exact FFld.getD_lt (Nat.pow_pos hD.pre.pk.p0) HQQ.out j
       have hlen2:(FFld.addmF D X a ql (FFld.negF D tq) j).length=np:=by rw[FFld.addmF_len];exact HXL.out
       have hij:a+j<l:=by omega
       have hijn:a+j<np:=by omega
       have t1:=hwv.out.cell (i:=a+j) (by omega);obtain⟨u,hu⟩:∃ u,(FFld.addmF D X a ql (FFld.negF D tq) j)[a+j]?.getD 0=u:=⟨_,rfl⟩;have huq:u<D.p ^ D.k:=by rw[<- hu];exact FFld.getD_lt (Nat.pow_pos hD.pre.pk.p0) (FFld.addmF_lt hD.pre.pk a ql _ j HXQ.out) _
       rw[hu] at t1;obtain⟨z,hz⟩:∃ z,FFld.pmul D.p D.k D.m tq D.k y=z:=⟨_,rfl⟩;have hzq:z<D.p ^ D.k:=by rw[<- hz];exact FFld.pmul_lt hD.pre.pk _ _ _
       obtain⟨v,hv⟩:∃ v,FFld.padd D.p D.k u (FFld.pscl D.p D.k (D.p-1) z)=v:=⟨_,rfl⟩;have HV:Kept ((FFld.addmF D X a ql (FFld.negF D tq) j).set (a+j) v=FFld.addmF D X a ql (FFld.negF D tq) (j+1)):=⟨by simp only[FFld.addmF];rw[hu,hy,<- FFld.take_off hD.pre.pk HTQ.out hyq,hz,hv]⟩;have hM:=Km (fun W=>HM.out W tq y HTQ.out hyq);rw[hz] at hM;have hA:=Km (fun W=>HA.out W u z huq hzq);rw[hv] at hA;have hi0:(a:Int)+j=((a+j:Nat):Int):=by omega
       have ewi:IntKind.i64.wrap ((a:Int)+j)=(a:Int)+j:=wi (by omega) (by omega);have hij1:(a:Int)+j<(l:Int):=by omega
       have hij2:(0:Int)<=(a:Int)+j:=by omega
       have hij3:((a:Int)+j).toNat=a+j:=by omega
       have hhg3:=hhg;clear hu hy hz hv huq hzq hyq hlen2 hi0 el1 el0 elb eal;go_wp2;refine wp_region_held_drew (S:=fun w' =>w'.cell? ⟨w.heap.size,0,none⟩=some (.int .i64 D.q)/\w'.cell? ⟨w.heap.size,1,none⟩=some (.int .i64 D.p)/\w'.cell? ⟨w.heap.size,2,none⟩=some (.int .i64 D.k)/\w'.cell? ⟨w.heap.size,3,none⟩=some (.int .i64 D.m)/\w'.cell? ⟨bq,oq+j,none⟩=some (.int .i64 y)) (by kernel_rfl) ⟨i0,i1,i2,i3,iq⟩ (fun hHeld=> ?_);refine wpAnyH_take (i:=0) (v:= ?_) rfl (by kernel_rfl) (by kernel_rfl) (by kernel_rfl) (fun _ _ _ h=>h) (Or.inl ⟨by rfl,?_⟩) (by assumption) ?_;rotate_left
       ·(intro w hSw;(try dsimp only at hSw);go_simp;(try with_reducible rfl))
       try simp only[Act.put,sA]
       refine wpAnyH_take (i:=1) (v:= ?_) rfl (by kernel_rfl) (by kernel_rfl) (by kernel_rfl) (fun _ _ _ h=>h) (Or.inl ⟨by rfl,?_⟩) (by assumption) ?_;rotate_left
       ·(intro w hSw;(try dsimp only at hSw);go_simp;(try with_reducible rfl))
       try simp only[Act.put,sA]
       refine wpAnyH_take (i:=2) (v:= ?_) rfl (by kernel_rfl) (by kernel_rfl) (by kernel_rfl) (fun _ _ _ h=>h) (Or.inl ⟨by rfl,?_⟩) (by assumption) ?_;rotate_left
       ·(intro w hSw;(try dsimp only at hSw);go_simp;(try with_reducible rfl))
       try simp only[Act.put,sA]
       refine wpAnyH_take (i:=3) (v:= ?_) rfl (by kernel_rfl) (by kernel_rfl) (by kernel_rfl) (fun _ _ _ h=>h) (Or.inl ⟨by rfl,?_⟩) (by assumption) ?_;rotate_left
       ·(intro w hSw;(try dsimp only at hSw);go_simp;(try with_reducible rfl))
       try simp only[Act.put,sA]
       refine wpAnyH_take (i:=4) (v:= ?_) rfl (by kernel_rfl) (by kernel_rfl) (by kernel_rfl) (fun _ _ _ h=>h) (Or.inl ⟨by rfl,?_⟩) (by assumption) ?_;rotate_left
       ·(intro w hSw;(try dsimp only at hSw);go_simp;(try with_reducible rfl))
       try simp only[Act.put,sA]
       refine wpAnyH_take (i:=5) (v:= ?_) rfl (by kernel_rfl) (by kernel_rfl) (by kernel_rfl) (fun _ _ _ h=>h) (Or.inl ⟨by rfl,?_⟩) (by assumption) ?_;rotate_left
       ·(intro w hSw;(try dsimp only at hSw);go_simp;(try with_reducible rfl))
       try simp only[Act.put,sA]
       refine wpAnyH_take (i:=6) (v:= ?_) rfl (by kernel_rfl) (by kernel_rfl) (by kernel_rfl) (fun _ _ _ h=>h) (Or.inl ⟨by rfl,?_⟩) (by assumption) ?_;rotate_left
       ·(intro w hSw;(try dsimp only at hSw);go_simp;(try with_reducible rfl))
       try simp only[Act.put,sA]
       refine wpAnyH_take (i:=7) (v:= ?_) rfl (by kernel_rfl) (by kernel_rfl) (by kernel_rfl) (fun _ _ _ h=>h) (Or.inl ⟨by rfl,?_⟩) (by assumption) ?_;rotate_left
       ·(intro w hSw;(try dsimp only at hSw);go_simp;(try with_reducible rfl))
       try simp only[Act.put,sA]
       refine wpAnyH_take (i:=8) (v:= ?_) rfl (by kernel_rfl) (by kernel_rfl) (by kernel_rfl) (fun _ _ _ h=>h) (Or.inl ⟨by rfl,?_⟩) (by assumption) ?_;rotate_left
       ·(intro w hSw;(try dsimp only at hSw);go_simp;(try with_reducible rfl))
       try simp only[Act.put,sA]
       refine wpAnyH_take (i:=9) (v:= ?_) rfl (by kernel_rfl) (by kernel_rfl) (by kernel_rfl) (fun _ _ _ h=>h) (Or.inl ⟨by rfl,?_⟩) (by assumption) ?_;rotate_left
       ·(intro w hSw;(try dsimp only at hSw);go_simp;(try with_reducible rfl))
       try simp only[Act.put,sA]
       refine wpAnyH_take (i:=11) (v:= ?_) rfl (by kernel_rfl) (by kernel_rfl) (by kernel_rfl) (fun _ _ _ h=>h) (Or.inl ⟨by rfl,?_⟩) (by assumption) ?_;rotate_left
       ·(intro w hSw;(try dsimp only at hSw);go_simp;(try with_reducible rfl))
       try simp only[Act.put,sA]
       refine wpAnyH_take (i:=12) (v:= ?_) rfl (by kernel_rfl) (by kernel_rfl) (by kernel_rfl) (fun _ _ _ h=>h) (Or.inl ⟨by rfl,?_⟩) (by assumption) ?_;rotate_left
       ·(intro w hSw;(try dsimp only at hSw);go_simp;(try with_reducible rfl))
       try simp only[Act.put,sA]
       refine wpAnyH_take (i:=13) (v:= ?_) rfl (by kernel_rfl) (by kernel_rfl) (by kernel_rfl) (fun _ _ _ h=>h) (Or.inl ⟨by rfl,?_⟩) (by assumption) ?_;rotate_left
       ·(intro w hSw;(try dsimp only at hSw);go_simp;(try with_reducible rfl))
       try simp only[Act.put,sA]
       refine wpAnyH_take (i:=14) (v:= ?_) rfl (by kernel_rfl) (by kernel_rfl) (by kernel_rfl) (fun _ _ _ h=>h) (Or.inl ⟨by rfl,?_⟩) (by assumption) ?_;rotate_left
       ·(intro w hSw;(try dsimp only at hSw);go_simp;(try with_reducible rfl))
       try simp only[Act.put,sA]
       refine wpAnyH_take (i:=15) (v:= ?_) rfl (by kernel_rfl) (by kernel_rfl) (by kernel_rfl) (fun _ _ _ h=>h) (Or.inl ⟨by rfl,?_⟩) (by assumption) ?_;rotate_left
       ·(intro w hSw;(try dsimp only at hSw);go_simp;(try with_reducible rfl))
       try simp only[Act.put,sA]
       refine wpAnyH_take (i:=16) (v:= ?_) rfl (by kernel_rfl) (by kernel_rfl) (by kernel_rfl) (fun _ _ _ h=>h) (Or.inl ⟨by rfl,?_⟩) (by assumption) ?_;rotate_left
       ·(intro w hSw;(try dsimp only at hSw);go_simp;(try with_reducible rfl))
       try simp only[Act.put,sA]
       refine wpAnyH_ready (rs:= [10,17]) (by kernel_rfl) (by simp) ?_;refine AllReadyH.cons rfl (fun K hK=> ?_) (AllReadyH.cons rfl (fun K hK=> ?_) AllReadyH.nil)
       ·go_simp
        refine hK.out _ _ ⟨i0,i1,i2,i3,iq⟩ (fun hHeld=> ?_);clear hK K
        try simp only[Act.put,sA]
        refine wpAnyH_ready (rs:= [17]) (by kernel_rfl) (by simp) ?_;refine(AllReadyH.cons rfl (fun K hK=> ?_) AllReadyH.nil)
        go_simp
        refine(hM.out _).mono ?_;rintro e w2 ⟨hb2,rfl⟩;have HR2:Kept (Below wr.heap.size wr w2):=⟨(Below.refl _ _).drew.trans hb2⟩;have j0:=belowCell HR2.out i0;have j1:=belowCell HR2.out i1;have j2:=belowCell HR2.out i2;have j3:=belowCell HR2.out i3;have jq:=belowCell HR2.out iq;have t2:=belowCell HR2.out t1;clear hb2;refine hK.out _ _ ⟨j0,j1,j2,j3,jq⟩ (fun hHeld=> ?_);clear hK K
        try simp only[Act.put,sA]
        refine wpAnyH_ready (rs:= [18]) (by kernel_rfl) (by simp) ?_;refine(AllReadyH.cons rfl (fun K hK=> ?_) AllReadyH.nil)
        go_simp
        refine(hA.out _).mono ?_;rintro e w3 ⟨hb3,rfl⟩;have HR3:=Km (bstep HR2.out hb3);have k0:=belowCell hb3 j0;have k1:=belowCell hb3 j1;have k2:=belowCell hb3 j2;have k3:=belowCell hb3 j3;have kq:=belowCell hb3 jq;have t3:=belowCell hb3 t2;have HW3:=Km (hwv.out.below HR3.out);have HO3:=Km (hov.out.below HR3.out);have z3:=HW3.out.free (a+j);have HX3:=Km (hbx.out.below HR3.out);have hgs:w3.grownBy (w3.setCell ⟨g,a+j,none⟩ (.int .i64 v)) (some g):=growSet (growRefl _ _) _ _;have m0:=hgs.cell k0 (by simp;omega);have m1:=hgs.cell k1 (by simp;omega);have m2:=hgs.cell k2 (by simp;omega);have m3:=hgs.cell k3 (by simp;omega);have mq:=hgs.cell kq (by simpa using hnq);have HX4:=Km (HX3.out.grown hgs (fun k hk=>by cases hk;simp;omega));have HO4:=Km (HO3.out.other hgs hgg);clear hb3;refine hK.out _ _ ⟨k0,k1,k2,k3,kq⟩ (fun hHeld=> ?_);clear hK K
        try simp only[Act.put,sA]
        refine wpAnyH_take (i:=19) (v:= ?_) rfl (by kernel_rfl) (by kernel_rfl) (by kernel_rfl) (fun _ _ _ h=>h) (Or.inl ⟨by rfl,?_⟩) (by assumption) ?_;rotate_left
        ·(intro w hSw;(try dsimp only at hSw);go_simp;(try with_reducible rfl))
        try simp only[Act.put,sA]
        refine wpAnyH_ready (rs:= [20]) (by kernel_rfl) (by simp) ?_;refine(AllReadyH.cons rfl (fun K hK=> ?_) AllReadyH.nil)
        go_simp
        refine hK.out _ _ ⟨m0,m1,m2,m3,mq⟩ (fun hHeld=> ?_);clear hK K
        try simp only[Act.put,sA]
        refine wpAnyH_done (by kernel_rfl) ?_ _;go_wp2;go_roundw
        case rel=>exact⟨j+1,by omega,by go_num,⟨by have:=HW3.out.set (i:=a+j) v;rw[HV.out] at this;exact this⟩,HO4,HX4⟩
        case measure=>simp[intOf]<;>omega
       ·go_simp
        refine(hM.out _).mono ?_;rintro e w2 ⟨hb2,rfl⟩;have HR2:Kept (Below wr.heap.size wr w2):=⟨(Below.refl _ _).drew.trans hb2⟩;have j0:=belowCell HR2.out i0;have j1:=belowCell HR2.out i1;have j2:=belowCell HR2.out i2;have j3:=belowCell HR2.out i3;have jq:=belowCell HR2.out iq;have t2:=belowCell HR2.out t1;clear hb2;refine hK.out _ _ ⟨j0,j1,j2,j3,jq⟩ (fun hHeld=> ?_);clear hK K
        try simp only[Act.put,sA]
        refine wpAnyH_ready (rs:= [10]) (by kernel_rfl) (by simp) ?_;refine(AllReadyH.cons rfl (fun K hK=> ?_) AllReadyH.nil)
        go_simp
        refine hK.out _ _ ⟨j0,j1,j2,j3,jq⟩ (fun hHeld=> ?_);clear hK K
        try simp only[Act.put,sA]
        refine wpAnyH_ready (rs:= [18]) (by kernel_rfl) (by simp) ?_;refine(AllReadyH.cons rfl (fun K hK=> ?_) AllReadyH.nil)
        go_simp
        refine(hA.out _).mono ?_;rintro e w3 ⟨hb3,rfl⟩;have HR3:=Km (bstep HR2.out hb3);have k0:=belowCell hb3 j0;have k1:=belowCell hb3 j1;have k2:=belowCell hb3 j2;have k3:=belowCell hb3 j3;have kq:=belowCell hb3 jq;have t3:=belowCell hb3 t2;have HW3:=Km (hwv.out.below HR3.out);have HO3:=Km (hov.out.below HR3.out);have z3:=HW3.out.free (a+j);have HX3:=Km (hbx.out.below HR3.out);have hgs:w3.grownBy (w3.setCell ⟨g,a+j,none⟩ (.int .i64 v)) (some g):=growSet (growRefl _ _) _ _;have m0:=hgs.cell k0 (by simp;omega);have m1:=hgs.cell k1 (by simp;omega);have m2:=hgs.cell k2 (by simp;omega);have m3:=hgs.cell k3 (by simp;omega);have mq:=hgs.cell kq (by simpa using hnq);have HX4:=Km (HX3.out.grown hgs (fun k hk=>by cases hk;simp;omega));have HO4:=Km (HO3.out.other hgs hgg);clear hb3;refine hK.out _ _ ⟨k0,k1,k2,k3,kq⟩ (fun hHeld=> ?_);clear hK K
        try simp only[Act.put,sA]
        refine wpAnyH_take (i:=19) (v:= ?_) rfl (by kernel_rfl) (by kernel_rfl) (by kernel_rfl) (fun _ _ _ h=>h) (Or.inl ⟨by rfl,?_⟩) (by assumption) ?_;rotate_left
        ·(intro w hSw;(try dsimp only at hSw);go_simp;(try with_reducible rfl))
        try simp only[Act.put,sA]
        refine wpAnyH_ready (rs:= [20]) (by kernel_rfl) (by simp) ?_;refine(AllReadyH.cons rfl (fun K hK=> ?_) AllReadyH.nil)
        go_simp
        refine hK.out _ _ ⟨m0,m1,m2,m3,mq⟩ (fun hHeld=> ?_);clear hK K
        try simp only[Act.put,sA]
        refine wpAnyH_done (by kernel_rfl) ?_ _;go_wp2;go_roundw
        case rel=>exact⟨j+1,by omega,by go_num,⟨by have:=HW3.out.set (i:=a+j) v;rw[HV.out] at this;exact this⟩,HO4,HX4⟩
        case measure=>simp[intOf]<;>omega
     ·obtain rfl:j=nq:=by omega
      clear hlt3 hj;obtain⟨Y,hY⟩:∃ Y,FFld.divF D ql inv n pl (s+1)=Y:=⟨_,rfl⟩;rw[<- HNX.out,hY] at hwv;rw[hY] at HTP;have HYL:Y.length=np:=by rw[<- hY,FFld.divF_len,HNP.out]
      have hpre:=FFld.trm_pre (X:=Y) (l:=l) (by omega) (by omega) HTP.out;have hst:=((hwv.out.take l).sl (n:=l) (c:=c3) (by rw[List.length_take,HYL];omega) (by omega) (by omega));have hll:(Y.take l).length=l:=by rw[List.length_take,HYL];omega
      have HTR:=Km (fun W (hW:Sl .i64 W (.slice (some ⟨g,0,none⟩) l c3) (ints (Y.take l)))=>rtrim_any (Y.take l) (some ⟨g,0,none⟩) c3 W (by rw[hll];exact hW) (by rw[hll];omega));rw[hll] at HTR;have HST:=Km hst;obtain⟨l',hl'⟩:∃ x,(FFld.trm (Y.take l)).length=x:=⟨_,rfl⟩;rw[hl'] at hpre HTR;obtain⟨p1,p2,p3⟩:=hpre;rw[<- hY] at p2 p3;have HP2:=Km p2;have HP3:=Km p3;rw[<- hY] at hwv;clear hY HYL hst hll hl' p2 p3 HTP;go_wp2_with fail;refine(HTR.out _ HST.out).mono ?_;rintro e w9 ⟨rfl,rfl⟩;go_wp2;go_roundw
      case rel=>exact⟨s+1,l',by omega,by omega,rfl,fun h=>by omega,HP2,⟨.inr HP3.out⟩,hwv,hov,hbx⟩
      case measure=>simp[sliceLen]<;>omega
   ·have ht1:t≠0:=fun h=>by have:=ht0 h;omega
    have hsk:=FFld.div_skip hD (ql:=ql) (pl:=pl) (inv:=inv) (n:=n) HQQ.out HPQ.out HIQ.out (by rw[HNP.out,HNQ.out];exact hnn) (by rw[HNQ.out];exact hq1) (t:=t) (l:=l) hz.out (n-t) (by omega) (fun u h1 h2=>by rw[HNQ.out];omega);rw[show t+(n-t)=n by omega] at hsk;obtain⟨hX,hQ0⟩:=hsk;have hO:=FFld.outF_done (D:=D) (ql:=ql) (inv:=inv) (n:=n) (pl:=pl) (t:=t) (by rw[HNP.out,HNQ.out];exact hnn) (by rw[HNQ.out];exact hq1) hn1 hQ0
    have hR:=FFld.rstF_done (D:=D) (ql:=ql) (inv:=inv) (n:=n) (pl:=pl) (l:=l) (by rw[HNP.out,HNQ.out];exact hnn) (by rw[HNQ.out];exact hq1) hn1 (by rw[HNP.out];exact hln) (by rw[hX];exact hz.out) (by
     rw[hX]
     rcases htz.out with h|h
     ·exact absurd h ht1
     ·exact h)
    rw[hX] at hR
    have HSR:Kept (Sl .i64 wr (.slice (some ⟨g,0,none⟩) l c3) (ints (FFld.rstF D ql inv pl))):=⟨by
     rw[<- hR]
     exact(hwv0.out.take l).sl (n:=l) (c:=c3) (by rw[List.length_take,FFld.divF_len,HNP.out];omega) (by omega) (by omega)⟩
    have HSO:Kept (Sl .i64 wr (.slice (some ⟨g2,0,none⟩) n n) (ints (FFld.quoF D ql inv pl))):=⟨by
     rw[<- hO]
     exact hov0.out.sl (n:=n) (c:=n) (FFld.outF_len _ _ _ _ _ _).symm (Nat.le_refl _) (by unfold maxLen;omega)⟩
    clear hX hQ0 hO hR hz htz hwv0 hov0;go_wp2
    go_ret2
    exact⟨hbx0.out.1,_,_,rfl,HSO.out,HSR.out⟩
end
section
namespace FFld
def invT (D:FD)(h:PK D.p D.k D.m)(l:List Nat):Nat:=ppow h (l[l.length-1]?.getD 0) (D.q-2)
theorem div_zeros {D:FD}(hD:D.Ok){ql pl:List Nat}{n:Nat}(hq:∀ a∈ql,a<D.p ^ D.k)(hp:∀ a∈pl,a<D.p ^ D.k)(hn:n+ql.length=pl.length+1)(h1:1<=ql.length)(h0:ql[ql.length-1]?.getD 0≠0):
 ∀ t,t<=n-> ∀ j,n-t+(ql.length-1)<=j->(divF D ql (invT D hD.pre.pk ql) n pl t)[j]?.getD 0=0
 | 0,_,j,hj=>by
   show pl[j]?.getD 0=0
   rw[List.getElem?_eq_none (by omega)];rfl
 |t+1,ht,j,hj=>div_top hD hq hp hn h1 h0 rfl (t:=t) (by omega) (fun j' hj' =>div_zeros hD hq hp hn h1 h0 t (by omega) j' (by omega)) j (by omega)
theorem rst_short {D:FD}(hD:D.Ok){ql pl:List Nat}(hq:∀ a∈ql,a<D.p ^ D.k)(hp:∀ a∈pl,a<D.p ^ D.k)(h1:1<=ql.length)(h0:ql[ql.length-1]?.getD 0≠0):(rstF D ql (invT D hD.pre.pk ql) pl).length+1<=ql.length:=by
 unfold rstF
 split
 ·omega
 ·rename_i hlt
  have hz:=div_zeros hD hq hp (n:=pl.length+1-ql.length) (by omega) h1 h0 (pl.length+1-ql.length) (Nat.le_refl _);rw[trm_len,divF_len];generalize divF D ql (invT D hD.pre.pk ql) (pl.length+1-ql.length) pl (pl.length+1-ql.length)=X at*
  apply Classical.byContradiction
  intro hc
  rcases trmN_top X pl.length with h|h
  ·omega
  ·exact h (hz _ (by omega))
def cmnS (D:FD)(h:PK D.p D.k D.m)(pl ql:List Nat):Nat->List Nat × List Nat
 |0=>(pl,ql)
 |i+1=>((cmnS D h pl ql i).2,rstF D (cmnS D h pl ql i).2 (invT D h (cmnS D h pl ql i).2) (cmnS D h pl ql i).1)
structure CmOk (D:FD)(N:Nat)(s:List Nat × List Nat):Prop where
 p1:∀ a∈s.1,a<D.p ^ D.k
 p2:∀ a∈s.2,a<D.p ^ D.k
 t1:Tz s.1
 t2:Tz s.2
 l1:s.1.length<=N
 l2:s.2.length<=N
theorem Tz.top {l:List Nat}(h:Tz l)(h0:l.length≠0):l[l.length-1]?.getD 0≠0:=h.resolve_left h0
def monF (D:FD)(h:PK D.p D.k D.m)(l:List Nat):List Nat:=if l.length=0 then [] else rowMul D l (invT D h l)
def CmnIs (D:FD)(h:PK D.p D.k D.m)(pl ql out:List Nat):Prop:= ∃ i,(∀ j,j<i->(cmnS D h pl ql j).2.length≠0)/\(cmnS D h pl ql i).2.length=0/\out=monF D h (cmnS D h pl ql i).1
end FFld
end
section
namespace FFld
namespace Dom
variable {α : Type} (F : Dom α)
theorem eval_snoc (c x:α):∀ (l:List α),F.eval (l++ [c]) x=F.add (F.eval l x) (F.mul c (F.pow x l.length))
 | []=>by
   simp only[List.nil_append,eval,List.length_nil,pow_zero,F.mul_zero,F.add_zero,F.zero_add,F.mul_one]
 | a::l=>by
   simp only[List.cons_append,eval,List.length_cons];rw[eval_snoc c x l,F.mul_add,<- F.add_assoc,pow_succ,<- F.mul_assoc c,F.mul_comm x (F.mul c _)]
theorem eval_range (f:Nat->α)(x:α):∀ (n:Nat),F.eval ((List.range n).map f) x=F.sm (fun i=>F.mul (f i) (F.pow x i)) n
 |0=>rfl
 | n+1=>by
   rw[List.range_succ,List.map_append,List.map_cons,List.map_nil,eval_snoc,eval_range f x n,List.length_map,List.length_range];rfl
theorem syn_zero (r:α):∀ (l:List α),F.eval l r=F.zero->(∀ c∈F.syn l r,c=F.zero)-> ∀ c∈l,c=F.zero
 | [],_,_,c,hc=>absurd hc List.not_mem_nil
 | [a],h,_,c,hc=>by
   rw[List.mem_singleton.1 hc];simp only[eval,F.mul_zero,F.add_zero] at h;exact h
 | a::b::t,h,hs,c,hc=>by
   have h1:F.eval (b::t) r=F.zero:=hs _ (by simp only[syn];exact List.mem_cons_self);have h2:=syn_zero r (b::t) h1 fun d hd=>hs d (by simp only[syn];exact List.mem_cons_of_mem _ hd)
   rcases List.mem_cons.1 hc with rfl|hc
   ·have e:F.eval (c::b::t) r=F.add c (F.mul r (F.eval (b::t) r)):=rfl;rw[e,h1,F.mul_zero,F.add_zero] at h;exact h
   ·exact h2 c hc
theorem roots_zero (R:List α)(hR:R.Nodup):∀ (l:List α),l.length<=R.length->(∀ r∈R,F.eval l r=F.zero)-> ∀ c∈l,c=F.zero:=by
 induction R with
 |nil=>intro l h _ c hc;rw[List.eq_nil_of_length_eq_zero (Nat.le_zero.1 h)] at hc;exact absurd hc List.not_mem_nil
 | cons r R ih=>
   intro l h hr;obtain⟨hn,hR'⟩:=List.nodup_cons.1 hR;have h0:=hr r List.mem_cons_self;refine F.syn_zero r l h0 (ih hR' _ (by rw[syn_len];simp only[List.length_cons] at h;omega) fun q hq=> ?_);have hq0:=hr q (List.mem_cons_of_mem _ hq);have e:=F.eval_syn l r q;rw[h0,hq0,F.zero_add,F.zero_add] at e
   have e2:F.mul (F.add q (F.neg r)) (F.eval (F.syn l r) q)=F.zero:=by
    rw[F.add_mul,<- e,F.mul_comm (F.neg r),F.mul_neg,F.mul_comm _ r,F.add_neg]
   rcases F.nzd _ _ e2 with e3|e3
   ·exact absurd (F.eq_of_sub e3 ▸ hq) hn
   ·exact e3
end Dom
section
variable {D : FD} (hD : D.Ok)
def evE (l:List Nat)(x:El (D.p ^ D.k)):El (D.p ^ D.k):=(FD.dom hD.nzd).eval (l.map (toE hD.pre.pk)) x
def cfE (l:List Nat)(i:Nat):El (D.p ^ D.k):=toE hD.pre.pk (l[i]?.getD 0)
theorem map_cf (l:List Nat):l.map (toE hD.pre.pk)=(List.range l.length).map (cfE hD l):=by
 apply List.ext_getElem?
 intro i;rw[List.getElem?_map,List.getElem?_map]
 by_cases h:i<l.length
 ·rw[List.getElem?_range h,List.getElem?_eq_getElem h];unfold cfE;simp[List.getElem?_eq_getElem h]
 ·rw[List.getElem?_eq_none (by omega),List.getElem?_eq_none (by simp;omega)];rfl
theorem evE_len (l:List Nat)(x:El (D.p ^ D.k)):evE hD l x=(FD.dom hD.nzd).sm (fun i=>(FD.dom hD.nzd).mul (cfE hD l i) ((FD.dom hD.nzd).pow x i)) l.length:=by
 unfold evE;rw[map_cf,Dom.eval_range]
theorem sm_more {α:Type}(F:Dom α)(f:Nat->α)(n:Nat)(hz:∀ i,n<=i->f i=F.zero):∀ d,F.sm f (n+d)=F.sm f n
 |0=>rfl
 | d+1=>by
   show F.add (F.sm f (n+d)) (f (n+d))=_
   rw[sm_more F f n hz d,hz _ (by omega),F.add_zero]
theorem cfE_big {l:List Nat}{i:Nat}(h:l.length<=i):cfE hD l i=(FD.dom hD.nzd).zero:=by
 unfold cfE;rw[List.getElem?_eq_none h];exact toE_zero hD
theorem evE_sum (l:List Nat)(x:El (D.p ^ D.k)){n:Nat}(hn:l.length<=n):evE hD l x=(FD.dom hD.nzd).sm (fun i=>(FD.dom hD.nzd).mul (cfE hD l i) ((FD.dom hD.nzd).pow x i)) n:=by
 obtain⟨d,rfl⟩:∃ d,n=l.length+d:=⟨n-l.length,by omega⟩;rw[evE_len,sm_more _ _ _ fun i hi=>by rw[cfE_big hD hi,Dom.zero_mul]]
theorem evE_congr {l m:List Nat}(h:∀ i:Nat,l[i]?.getD 0=m[i]?.getD 0)(x:El (D.p ^ D.k)):evE hD l x=evE hD m x:=by
 rw[evE_sum hD l x (n:=max l.length m.length) (by omega),evE_sum hD m x (n:=max l.length m.length) (by omega)];exact Dom.sm_congr _ _ fun i _=>by unfold cfE;rw[h i]
theorem tz_ext {l m:List Nat}(hl:Tz l)(hm:Tz m)(h:∀ i:Nat,l[i]?.getD 0=m[i]?.getD 0):l=m:=by
 have key:∀ {a b:List Nat},Tz a->(∀ i:Nat,a[i]?.getD 0=b[i]?.getD 0)->a.length<=b.length:=fun {a b} ha hab=>by
  rcases ha with h0|h0
  ·omega
  ·apply Classical.byContradiction
   intro hc
   apply h0
   rw[hab,List.getElem?_eq_none (by omega)];rfl
 have e:l.length=m.length:=Nat.le_antisymm (key hl h) (key hm fun i=>(h i).symm);exact ext_getD e fun i _=>h i
theorem interp {l m:List Nat}{n:Nat}(hlq:∀ a∈l,a<D.p ^ D.k)(hmq:∀ a∈m,a<D.p ^ D.k)(hl:Tz l)(hm:Tz m)(ln:l.length<=n)(mn:m.length<=n)(R:List (El (D.p ^ D.k)))(hR:R.Nodup)(hn:R.length=n)(h:∀ r∈R,evE hD l r=evE hD m r):l=m:=by
 have hz:=Dom.roots_zero (FD.dom hD.nzd) R hR ((List.range n).map fun i=>(FD.dom hD.nzd).add (cfE hD l i) ((FD.dom hD.nzd).neg (cfE hD m i))) (by simp[hn]) fun r hr=>by
  rw[Dom.eval_range]
  have e1:(FD.dom hD.nzd).sm (fun i=>(FD.dom hD.nzd).mul ((FD.dom hD.nzd).add (cfE hD l i) ((FD.dom hD.nzd).neg (cfE hD m i))) ((FD.dom hD.nzd).pow r i)) n=(FD.dom hD.nzd).add (evE hD l r) (evE hD m r |> fun v=>(FD.dom hD.nzd).mul ((FD.dom hD.nzd).neg (FD.dom hD.nzd).one) v):=by
   rw[evE_sum hD l r ln,evE_sum hD m r mn];dsimp only;rw[<- Dom.sm_mul,<- Dom.sm_add];exact Dom.sm_congr _ _ fun i _=>by rw[Dom.add_mul,Dom.neg_mul,Dom.neg_mul,Dom.one_mul]
  rw[e1,h r hr];dsimp only;rw[Dom.neg_mul,Dom.one_mul,Dom.add_neg]
 refine tz_ext hl hm fun i=> ?_
 by_cases hi:i<n
 ·have h1:=hz _ (List.mem_map.2 ⟨i,List.mem_range.2 hi,rfl⟩);have h2:=Dom.eq_of_sub _ h1;unfold cfE at h2;have hk:=hD.pre.pk;have h3:=congrArg Subtype.val h2;rw[toE_val hk (getD_lt (Nat.pow_pos hk.p0) hlq i),toE_val hk (getD_lt (Nat.pow_pos hk.p0) hmq i)] at h3;exact h3
 ·rw[List.getElem?_eq_none (by omega),List.getElem?_eq_none (by omega)]
theorem evE_horn (pl:List Nat)(hp:∀ a∈pl,a<D.p ^ D.k){x:Nat}(hx:x<D.p ^ D.k):∀ i,i<=pl.length->toE hD.pre.pk (hornF D pl x i)=evE hD (pl.drop (pl.length-i)) (toE hD.pre.pk x)
 | 0,_=>by
   rw[Nat.sub_zero,List.drop_length];exact toE_zero hD
 | i+1,hi=>by
   have hk:=hD.pre.pk
   have e:pl.drop (pl.length-(i+1))=pl[pl.length-1-i]?.getD 0::pl.drop (pl.length-i):=by
    rw[show pl.length-(i+1)=pl.length-1-i by omega,List.drop_eq_getElem_cons (by omega),List.getElem?_eq_getElem (by omega),show pl.length-1-i+1=pl.length-i by omega];rfl
   rw[e];simp only[hornF];rw[toE_add hD (pmul_lt hk _ _ _) (getD_lt (Nat.pow_pos hk.p0) hp _),toE_mul hD (hornF_lt hk _ _ _) hx,evE_horn pl hp hx i (by omega)]
   show _=(FD.dom hD.nzd).add (toE hk (pl[pl.length-1-i]?.getD 0)) ((FD.dom hD.nzd).mul (toE hk x) (evE hD (pl.drop (pl.length-i)) (toE hk x)))
   rw[Dom.add_comm,Dom.mul_comm]
theorem horn_ev {pl:List Nat}(hp:∀ a∈pl,a<D.p ^ D.k){x:Nat}(hx:x<D.p ^ D.k):toE hD.pre.pk (hornF D pl x pl.length)=evE hD pl (toE hD.pre.pk x):=by
 rw[evE_horn hD pl hp hx _ (Nat.le_refl _),Nat.sub_self,List.drop_zero]
theorem evE_trm (l:List Nat)(x:El (D.p ^ D.k)):evE hD (trm l) x=evE hD l x:=by
 refine evE_congr hD (fun i=> ?_) x;unfold trm
 by_cases h:i<trmN l l.length
 ·exact take_getD h
 ·by_cases h2:i<l.length
  ·rw[List.getElem?_eq_none (by rw[List.length_take];omega),trmN_zero l l.length i (by omega) h2];rfl
  ·rw[List.getElem?_eq_none (by rw[List.length_take];omega),List.getElem?_eq_none (by omega)]
theorem evE_set (l:List Nat)(hl:∀ a∈l,a<D.p ^ D.k){j d:Nat}(hj:j<l.length)(hd:d<D.p ^ D.k)(x:El (D.p ^ D.k)):evE hD (l.set j (padd D.p D.k (l[j]?.getD 0) d)) x=(FD.dom hD.nzd).add (evE hD l x) ((FD.dom hD.nzd).mul (toE hD.pre.pk d) ((FD.dom hD.nzd).pow x j)):=by
 have hk:=hD.pre.pk;rw[evE_sum hD (l.set j _) x (n:=l.length) (by rw[List.length_set];exact Nat.le_refl _),evE_len]
 have e:(FD.dom hD.nzd).mul (toE hk d) ((FD.dom hD.nzd).pow x j)=(FD.dom hD.nzd).sm (fun i=>if i=j then(FD.dom hD.nzd).mul (toE hk d) ((FD.dom hD.nzd).pow x i) else(FD.dom hD.nzd).zero) l.length:=by
  rw[Dom.sm_one _ (j:=j) _ hj fun i _ hne=>if_neg hne,if_pos rfl]
 rw[e,<- Dom.sm_add]
 exact Dom.sm_congr _ _ fun i hi=>by
  unfold cfE;rw[set_get]
  by_cases h:i=j
  ·subst h;rw[if_pos ⟨rfl,hj⟩,if_pos rfl,toE_add hD (getD_lt (Nat.pow_pos hk.p0) hl i) hd,Dom.add_mul]
  ·rw[if_neg (fun q=>h q.1.symm),if_neg h,Dom.add_zero]
theorem evE_take (l:List Nat){j:Nat}(hj:j<l.length)(x:El (D.p ^ D.k)):evE hD (l.take (j+1)) x=(FD.dom hD.nzd).add (evE hD (l.take j) x) ((FD.dom hD.nzd).mul (cfE hD l j) ((FD.dom hD.nzd).pow x j)):=by
 have e:l.take (j+1)=l.take j++ [l[j]?.getD 0]:=by
  rw[List.take_add_one,List.getElem?_eq_getElem hj];rfl
 unfold evE;rw[e,List.map_append,List.map_cons,List.map_nil,Dom.eval_snoc,List.length_map,List.length_take,Nat.min_eq_left (by omega)];rfl
theorem evE_addm (xs:List Nat)(s:Nat)(q:List Nat){c:Nat}(hx:∀ a∈xs,a<D.p ^ D.k)(hq:∀ a∈q,a<D.p ^ D.k)(hc:c<D.p ^ D.k)(hs:s+q.length<=xs.length)(x:El (D.p ^ D.k)):
 evE hD (addm D xs s q c) x=(FD.dom hD.nzd).add (evE hD xs x) ((FD.dom hD.nzd).mul (toE hD.pre.pk c) ((FD.dom hD.nzd).mul ((FD.dom hD.nzd).pow x s) (evE hD q x))):=by
 have hk:=hD.pre.pk
 have key:∀ j,j<=q.length->evE hD (addmF D xs s q c j) x=(FD.dom hD.nzd).add (evE hD xs x) ((FD.dom hD.nzd).mul (toE hk c) ((FD.dom hD.nzd).mul ((FD.dom hD.nzd).pow x s) (evE hD (q.take j) x))):=fun j=>by
  induction j with
  | zero=>
    intro _;have e0:evE hD (q.take 0) x=(FD.dom hD.nzd).zero:=rfl;rw[e0,Dom.mul_zero,Dom.mul_zero,Dom.add_zero];rfl
  | succ j ih=>
    intro hj;have hqj:q[j]?.getD 0<D.p ^ D.k:=getD_lt (Nat.pow_pos hk.p0) hq j;simp only[addmF];rw[evE_set hD _ (addmF_lt hk s q c j hx) (by rw[addmF_len];omega) (pmul_lt hk _ _ _),ih (by omega),evE_take hD q (by omega),toE_mul hD hqj hc,Dom.add_assoc]
    congr 1
    rw[Dom.mul_add,Dom.mul_add]
    congr 1
    unfold cfE;rw[Dom.pow_add];generalize toE hk (q[j]?.getD 0)=a;generalize toE hk c=b;generalize(FD.dom hD.nzd).pow x s=u;generalize(FD.dom hD.nzd).pow x j=v;rw[Dom.mul_comm _ a b,Dom.mul_assoc,<- Dom.mul_assoc _ a u v,Dom.mul_comm _ a u,Dom.mul_assoc]
 have:=key q.length (Nat.le_refl _);rw[List.take_of_length_le (Nat.le_refl _)] at this;exact this
theorem evE_zeros (n:Nat)(x:El (D.p ^ D.k)):evE hD (List.replicate n 0) x=(FD.dom hD.nzd).zero:=by
 rw[evE_len]
 exact Dom.sm_zero _ _ fun i hi=>by
  unfold cfE;rw[List.length_replicate] at hi;rw[List.getElem?_replicate_of_lt hi]
  show(FD.dom hD.nzd).mul (toE hD.pre.pk 0) _=_
  rw[toE_zero hD,Dom.zero_mul]
theorem evE_mulL {pl ql:List Nat}(hp:∀ a∈pl,a<D.p ^ D.k)(hq:∀ a∈ql,a<D.p ^ D.k)(x:El (D.p ^ D.k)):evE hD (mulL D pl ql) x=(FD.dom hD.nzd).mul (evE hD pl x) (evE hD ql x):=by
 have hk:=hD.pre.pk;unfold mulL
 split
 ·rename_i h
  rcases h with h|h
  ·rw[List.eq_nil_of_length_eq_zero h];exact(Dom.zero_mul _ _).symm
  ·rw[List.eq_nil_of_length_eq_zero h];exact(Dom.mul_zero _ _).symm
 ·rename_i h
  have key:∀ i,i<=pl.length->evE hD (mulF D pl ql i) x=(FD.dom hD.nzd).mul (evE hD (pl.take i) x) (evE hD ql x):=fun i=>by
   induction i with
   | zero=>
     intro _
     show evE hD (List.replicate _ 0) x=_
     rw[evE_zeros];exact(Dom.zero_mul _ _).symm
   | succ i ih=>
     intro hi;have hpi:pl[i]?.getD 0<D.p ^ D.k:=getD_lt (Nat.pow_pos hk.p0) hp i
     show evE hD (addm D (mulF D pl ql i) i ql (pl[i]?.getD 0)) x=_
     rw[evE_addm hD _ _ _ (mulF_lt hk _ _ _) hq hpi (by rw[mulF_len];omega),ih (by omega),evE_take hD pl (by omega),Dom.add_mul]
     congr 1
     unfold cfE;rw[Dom.mul_assoc]
  have:=key pl.length (Nat.le_refl _);rw[List.take_of_length_le (Nat.le_refl _)] at this;exact this
theorem evE_lin {a:Nat}(ha:a<D.p ^ D.k)(x:El (D.p ^ D.k)):evE hD [pscl D.p D.k (D.p-1) a,1] x=(FD.dom hD.nzd).add x ((FD.dom hD.nzd).neg (toE hD.pre.pk a)):=by
 show(FD.dom hD.nzd).add (toE hD.pre.pk (pscl D.p D.k (D.p-1) a)) ((FD.dom hD.nzd).mul x ((FD.dom hD.nzd).add (toE hD.pre.pk 1) ((FD.dom hD.nzd).mul x (FD.dom hD.nzd).zero)))=_
 rw[toE_neg hD ha,toE_one hD,Dom.mul_zero,Dom.add_zero,Dom.mul_one,Dom.add_comm]
end
end FFld
end
section
namespace FFld
def thV (D:FD)(xs:List Nat):Nat->List Nat
 |0=> [1]
 |i+1=>mulL D (thV D xs i) [pscl D.p D.k (D.p-1) (xs[i]?.getD 0),1]
def thA (D:FD)(xs:List Nat)(i:Nat):Nat:=hornF D (thV D xs i) (xs[i]?.getD 0) (thV D xs i).length
def misF (D:FD)(R:List Nat)(x y:Nat):Nat:=padd D.p D.k y (pscl D.p D.k (D.p-1) (hornF D R x R.length))
def thR (D:FD)(h:PK D.p D.k D.m)(xs ys:List Nat)(n:Nat):Nat->List Nat
 |0=>List.replicate n 0
 |i+1=>addm D (thR D h xs ys n i) 0 (thV D xs i) (pmul D.p D.k D.m (misF D (thR D h xs ys n i) (xs[i]?.getD 0) (ys[i]?.getD 0)) D.k (ppow h (thA D xs i) (D.q-2)))
theorem thV_len (D:FD)(xs:List Nat):∀ i,(thV D xs i).length=i+1
 |0=>rfl
 | i+1=>by
   simp only[thV];unfold mulL;rw[if_neg (by rw[thV_len D xs i];simp),mulF_len,thV_len D xs i];simp
theorem thV_lt {D:FD}(h:PK D.p D.k D.m)(xs:List Nat)(i:Nat):∀ a∈thV D xs i,a<D.p ^ D.k:=by
 cases i with
 |zero=>intro a ha;rw[List.mem_singleton.1 ha];exact h.one_lt
 |succ i=>exact mulL_lt h _ _
theorem thR_len (D:FD)(h:PK D.p D.k D.m)(xs ys:List Nat)(n:Nat):∀ i,(thR D h xs ys n i).length=n
 |0=>by simp[thR]
 | i+1=>by
   simp only[thR];rw[addm_len,thR_len D h xs ys n i]
theorem thR_lt {D:FD}(h:PK D.p D.k D.m)(xs ys:List Nat)(n:Nat):∀ i,∀ a∈thR D h xs ys n i,a<D.p ^ D.k
 |0=>fun a ha=>by rw[List.eq_of_mem_replicate ha];exact Nat.pow_pos h.p0
 | i+1=>by
   simp only[thR];exact addmF_lt h _ _ _ _ (thR_lt h xs ys n i)
theorem misF_lt {D:FD}(h:PK D.p D.k D.m)(R:List Nat)(x y:Nat):misF D R x y<D.p ^ D.k:=padd_lt h _ _
theorem lin_lt {D:FD}(h:PK D.p D.k D.m)(a:Nat):∀ c∈ [pscl D.p D.k (D.p-1) a,1],c<D.p ^ D.k:=fun c hc=>by
 rcases List.mem_cons.1 hc with rfl|hc
 ·exact pscl_lt h _ _
 ·rw[List.mem_singleton.1 hc];exact h.one_lt
section
variable {D : FD} (hD : D.Ok) {xs ys : List Nat} (hx : ∀ a ∈ xs, a < D.p ^ D.k) (hy : ∀ a ∈ ys, a < D.p ^ D.k)
def plE {D:FD}(hD:D.Ok)(xs:List Nat)(i:Nat):El (D.p ^ D.k):=toE hD.pre.pk (xs[i]?.getD 0)
theorem toE_inj {D:FD}(h:PK D.p D.k D.m){a b:Nat}(ha:a<D.p ^ D.k)(hb:b<D.p ^ D.k)(e:toE h a=toE h b):a=b:=by
 have:=congrArg Subtype.val e;rw[toE_val h ha,toE_val h hb] at this;exact this
include hD hx
theorem at_lt (i:Nat):xs[i]?.getD 0<D.p ^ D.k:=getD_lt (Nat.pow_pos hD.pre.pk.p0) hx i
theorem thV_ev (i:Nat)(x:El (D.p ^ D.k)):evE hD (thV D xs (i+1)) x=(FD.dom hD.nzd).mul (evE hD (thV D xs i) x) ((FD.dom hD.nzd).add x ((FD.dom hD.nzd).neg (plE hD xs i))):=by
 simp only[thV];rw[evE_mulL hD (thV_lt hD.pre.pk xs i) (lin_lt hD.pre.pk _),evE_lin hD (at_lt hD hx i)];rfl
theorem thV_zero:∀ (i j:Nat),j<i->evE hD (thV D xs i) (plE hD xs j)=(FD.dom hD.nzd).zero
 |0,_,h=>by omega
 | i+1,j,h=>by
   rw[thV_ev hD hx]
   by_cases e:j=i
   ·subst e;rw[Dom.add_neg,Dom.mul_zero]
   ·rw[thV_zero i j (by omega),Dom.zero_mul]
theorem thV_one (x:El (D.p ^ D.k)):evE hD (thV D xs 0) x=(FD.dom hD.nzd).one:=by
 show(FD.dom hD.nzd).add (toE hD.pre.pk 1) ((FD.dom hD.nzd).mul x (FD.dom hD.nzd).zero)=_
 rw[Dom.mul_zero,Dom.add_zero,toE_one hD]
theorem thV_ne (x:El (D.p ^ D.k)):∀ (i:Nat),(∀ j,j<i->x≠plE hD xs j)->evE hD (thV D xs i) x≠(FD.dom hD.nzd).zero
 | 0,_=>by
   rw[thV_one hD hx];exact(FD.dom hD.nzd).one_ne
 | i+1,h=>by
   rw[thV_ev hD hx];exact Dom.mul_ne _ (thV_ne x i fun j hj=>h j (by omega)) fun e=>h i (by omega) (Dom.eq_of_sub _ e)
theorem thA_ev (i:Nat):toE hD.pre.pk (thA D xs i)=evE hD (thV D xs i) (plE hD xs i):=horn_ev hD (thV_lt hD.pre.pk xs i) (at_lt hD hx i)
theorem thA_lt (i:Nat):thA D xs i<D.p ^ D.k:=hornF_lt hD.pre.pk _ _ _
theorem thA_dup {i:Nat}(h:thA D xs i=0):∃ j,j<i/\xs[i]?.getD 0=xs[j]?.getD 0:=by
 apply Classical.byContradiction
 intro hc;refine thV_ne hD hx (plE hD xs i) i (fun j hj e=>hc ⟨j,hj,toE_inj hD.pre.pk (at_lt hD hx i) (at_lt hD hx j) e⟩) ?_;rw[<- thA_ev hD hx,h,toE_zero hD]
include hy
theorem thR_ev {n:Nat} :∀ (i:Nat),i<=n->(∀ a,a<i->thA D xs a≠0)-> ∀ j,j<i->evE hD (thR D hD.pre.pk xs ys n i) (plE hD xs j)=plE hD ys j
 |0,_,_,j,hj=>by omega
 | i +1,hi,hA,j,hj=>by
   have hk:=hD.pre.pk;have hc:pmul D.p D.k D.m (misF D (thR D hk xs ys n i) (xs[i]?.getD 0) (ys[i]?.getD 0)) D.k (ppow hk (thA D xs i) (D.q-2))<D.p ^ D.k:=pmul_lt hk _ _ _;simp only[thR];rw[evE_addm hD _ _ _ (thR_lt hk xs ys n i) (thV_lt hk xs i) hc (by rw[thV_len,thR_len];omega),Dom.pow_zero,Dom.one_mul]
   by_cases e:j=i
   ·subst e;have hAi:=hA j (by omega);rw[<- thA_ev hD hx,<- toE_mul hD hc (thA_lt hD hx j)]
    have e1:pmul D.p D.k D.m (pmul D.p D.k D.m (misF D (thR D hk xs ys n j) (xs[j]?.getD 0) (ys[j]?.getD 0)) D.k (ppow hk (thA D xs j) (D.q-2))) D.k (thA D xs j)=misF D (thR D hk xs ys n j) (xs[j]?.getD 0) (ys[j]?.getD 0):=by
     rw[mul_swap hk (misF_lt hk _ _ _) (thA_lt hD hx j) (ppow_lt hk _ _),hD.div_mul (misF_lt hk _ _ _) (thA_lt hD hx j) hAi]
    rw[e1];unfold misF;rw[toE_add hD (at_lt hD hy j) (pscl_lt hk _ _),toE_neg hD (hornF_lt hk _ _ _),horn_ev hD (thR_lt hk xs ys n j) (at_lt hD hx j)]
    show(FD.dom hD.nzd).add (evE hD (thR D hk xs ys n j) (plE hD xs j)) ((FD.dom hD.nzd).add (plE hD ys j) ((FD.dom hD.nzd).neg (evE hD (thR D hk xs ys n j) (plE hD xs j))))=_
    generalize evE hD (thR D hk xs ys n j) (plE hD xs j)=u;rw[Dom.add_comm _ (plE hD ys j),<- Dom.add_assoc,Dom.add_neg,Dom.zero_add]
   ·rw[thV_zero hD hx i j (by omega),Dom.mul_zero,Dom.add_zero];exact thR_ev i (by omega) (fun a ha=>hA a (by omega)) j (by omega)
end
end FFld
end
end Go.Proofs.YtdnheaafcbihbaaGreat
