/-
  Texts of the proof, merged by program: Moe Fic Rel Raw.
-/
import Derived.Test.YtdnheaafcbihbaaGreatDc14
set_option linter.unusedSimpArgs false
set_option linter.unusedVariables false
set_option maxHeartbeats 16000000
namespace Go.Proofs.YtdnheaafcbihbaaGreat
section
open Go Go.RowKit
open FFld (ints)
set_option maxRecDepth 20000 in
theorem moebius_any (n:Nat)(w:World)(hn1:1<=n)(hn:n<=40):
 Calls Tryz.prog 213 #[.int .i64 n] w (RB w (.int .i64 (FFld.muT n))):=by
 go_enter Tryz.func213,Tryz.ntmps213
 go_wp2_with fail;refine(factors_any n _ hn1 (by omega)).mono ?_;rintro e w1 ⟨hb1,v1,l,rfl,hm1,hf1⟩;obtain⟨a1,c1,rfl,hc1,hx1⟩:=hm1.sl.form;rw[FFld.ints_len] at hc1 hm1 ⊢;obtain⟨L,hL⟩:∃ L,l.length=L:=⟨_,rfl⟩;have HSL:Kept (Sl .i64 w1 (.slice a1 l.length c1) (ints l)):=⟨hm1.sl⟩;have HB1:=Km hb1;have HLL:=Km hL;have HZ:=Km (fun f hf hz=>FFld.mu_zero (n:=n) (f:=f) hf1 hn1 hf hz);have HS:=Km (fun h=>FFld.mu_sign (n:=n) hf1 hn1 h);have HP:=Km (fun f hf=>(hf1.mem f).1 hf);have hl3:L<=300:=by have:=hf1.len;omega
 rw[hL] at hc1 ⊢;clear hb1 hm1 hf1 hL hx1;go_wp2
 go_loopw [3,9] (fun sv iv wr=> ∃ (i:Nat) (s:Int),i<=L/\iv= .int .i64 i/\sv= .int .i64 s/\(s=1\/s= -1)/\Kept (s=if i%2=0 then 1 else -1)/\Kept (∀ j,j<i->n%((l[j]?.getD 0)*(l[j]?.getD 0))≠0)/\w1=wr) (fun _ iv _=>L-(intOf iv).toNat)
 case atStart=>exact⟨0,1,Nat.zero_le _,rfl,rfl, .inl rfl,⟨rfl⟩,⟨fun j h=>absurd h (Nat.not_lt_zero _)⟩,rfl⟩
 case round=>
  obtain⟨i,s,hiL,rfl,rfl,hs1,hse,hpre,rfl⟩:=hrel
  by_cases hlt:i<L
  ·obtain⟨bp,op,rfl,hbp,hcell⟩:=HSL.out.news_at i (by rw[FFld.ints_len,HLL.out];exact hlt)
   have hmem:l[i]?.getD 0∈l:=by
    rw[List.getElem?_eq_getElem (by rw[HLL.out];exact hlt)];exact List.getElem_mem _
   obtain⟨f,hf⟩:∃ f,l[i]?.getD 0=f:=⟨_,rfl⟩;rw[FFld.ints_get,hf] at hcell;rw[hf] at hmem;have hf2:2<=f:=(HP.out f hmem).1.1;have hf40:f<=40:=by have:=Nat.le_of_dvd (by omega) (HP.out f hmem).2;omega
   obtain⟨ff,hff⟩:∃ x,f*f=x:=⟨_,rfl⟩;have hff4:4<=ff:=by rw[<- hff];exact Nat.mul_le_mul hf2 hf2
   have hff6:ff<=1600:=by rw[<- hff];exact Nat.mul_le_mul hf40 hf40
   obtain⟨r,hr⟩:∃ x,n%ff=x:=⟨_,rfl⟩;have eff:(f:Int)*f=ff:=by rw[<- hff];push_cast;rfl
   have ern:(n:Int)%(ff:Int)=r:=by rw[<- hr];rfl
   have ert:(n:Int).tmod (ff:Int)=r:=by rw[Int.tmod_eq_emod_of_nonneg (by omega)];exact ern
   have hz1: ¬ ((ff:Int)=0):=by omega
   have hz2: ¬ (ff=0):=by omega
   have hz3:((ff:Int)==0)=false:=by rw[beq_eq_false_iff_ne];omega
   by_cases h0:r=0
   ·have HM:Kept (FFld.muT n=0):=⟨HZ.out f hmem (by rw[hff,hr,h0])⟩;have er0:((r:Int)==0)=true:=by rw[h0];rfl
    clear hf hff hr h0 hmem;go_wp2
    go_ret
    exact⟨HB1.out,by rw[HM.out];rfl⟩
   ·have er0:((r:Int)==0)=false:=by rw[beq_eq_false_iff_ne];omega
    have HPR:Kept (∀ j,j<i+1->n%((l[j]?.getD 0)*(l[j]?.getD 0))≠0):=⟨fun j hj=>by
     by_cases e:j=i
     ·subst e;rw[hf,hff,hr];exact h0
     ·exact hpre.out j (by omega)⟩
    clear hf hff hr h0 hmem
    rcases hs1 with rfl|rfl
    ·have HSE:Kept ((-1:Int)=if (i+1)%2=0 then 1 else -1):=⟨by
      have:=hse.out
      by_cases h:i%2=0
      ·rw[if_neg (by omega)]
      ·rw[if_neg h] at this;omega⟩
     go_wp2;go_roundw
     case rel=>exact⟨i+1, -1,by omega,by go_num,rfl, .inr rfl,HSE,HPR,by first|rfl|trivial⟩
     case measure=>simp[intOf]<;>omega
    ·have HSE:Kept ((1:Int)=if (i+1)%2=0 then 1 else -1):=⟨by
      have:=hse.out
      by_cases h:i%2=0
      ·rw[if_pos h] at this;omega
      ·rw[if_pos (by omega)]⟩
     go_wp2;go_roundw
     case rel=>exact⟨i+1,1,by omega,by go_num,rfl, .inl rfl,HSE,HPR,by first|rfl|trivial⟩
     case measure=>simp[intOf]<;>omega
  ·obtain rfl:i=L:=by omega
   have HM:Kept (FFld.muT n=s):=⟨by
    rw[HS.out (fun f hf hz=>by
     obtain⟨j,hj,e⟩:=List.mem_iff_getElem.1 hf;refine hpre.out j (by rw[<- HLL.out];exact hj) ?_;rw[List.getElem?_eq_getElem hj,e]
     exact hz),HLL.out]
    exact hse.out.symm⟩
   go_wp2
   go_ret
   exact⟨HB1.out,by rw[HM.out];rfl⟩
end
section
open Go Go.RowKit
theorem Cz.congr {w:World}{g N:Nat}{F G:Nat->Int}(h:Cz w g N F)(e:∀ d,d<N->F d=G d):Cz w g N G:=by
 obtain⟨cur,h1,h2,h3⟩:=h;exact⟨cur,h1,h2,fun d hd=>by rw[<- e d hd];exact h3 d hd⟩
def cfF (n d:Nat):Int:=if d=0 then 0 else if n%d=0 then FFld.muT (n/d) else 0
theorem cfF_in {n:Nat}(hn:n<=40)(d:Nat): -1<=cfF n d/\cfF n d<=1:=by
 unfold cfF
 split
 ·omega
 ·split
  ·exact FFld.mu_in _ (by have:=Nat.div_le_self n d;omega)
  ·omega
theorem hzF_cfz (n q:Nat):∀ i,i<=n+1->FFld.hzF (cfF n) (n+1) q i=FFld.hz (FFld.cfz n) q i
 |0,_=>rfl
 | i+1,hi=>by
   show FFld.hzF (cfF n) (n+1) q i*q+cfF n (n+1-1-i)=FFld.hz (FFld.cfz n) q i*q+(FFld.cfz n)[(FFld.cfz n).length-1-i]?.getD 0
   rw[hzF_cfz n q i (by omega),FFld.cfz_len,FFld.cfz_get (by omega)];rfl
theorem hzF_irrs {n q:Nat}(h1:1<=n)(hn:n<=40):FFld.hzF (cfF n) (n+1) q (n+1)=n*FFld.irrs q n:=by
 rw[hzF_cfz n q _ (Nat.le_refl _),FFld.irrs_mul h1 hn,<- FFld.hz_all,FFld.cfz_len]
def FicRet (order degree:Int)(w:World)(e:Ending)(w' :World):Prop:=Below w.heap.size w w' /\
 ((¬ FFld.Fit order/\e= .returned (.tuple #[.agg #[.bool false, .slice none 0 0], .int .i64 20]))\/
  (FFld.Fit order/\(degree<1\/40<degree)/\e= .returned (.tuple #[.agg #[.bool false, .slice none 0 0], .int .i64 1]))\/
  (FFld.Fit order/\ ∃ q n:Nat,order=q/\q<=65536/\degree=n/\1<=n/\n<=40/\ ∃ s ao k c,e= .returned (.tuple #[.agg #[.bool s, .slice ao k c], .int .i64 0])/\IntV 700 w' (.agg #[.bool s, .slice ao k c]) (FFld.irrs q n)))
theorem below_grow2 {g:Nat}{w W W8:World}(hb:Below w.heap.size w W)(hg:W.grownBy W8 (some g))(hB:w.heap.size<=g):Below w.heap.size w W8:=
 belowGrow hg hb hB
theorem div_out {L n:Nat}{I:Int}{w w' :World}{e:Ending}(hn:n≠0)(hL:L<=700)(h:IdRet L w ((n:Int)*I) n e w'):Below w.heap.size w w' /\ ∃ s o k c s2 o2 k2 c2,e= .returned (.tuple #[.agg #[.bool s, .slice o k c], .agg #[.bool s2, .slice o2 k2 c2], .int .i64 0])/\IntV 700 w' (.agg #[.bool s, .slice o k c]) I:=by
 obtain⟨hb,q,r,rfl,hq,hr⟩:=h;rw[Int.mul_ediv_cancel_left _ (by omega)] at hq;obtain⟨s,sv,rfl,h1,hn1⟩:=hq.mono hL;obtain⟨o,k,c,rfl⟩:=hn1.form;obtain⟨s2,sv2,rfl,h2,hn2⟩:=hr;obtain⟨o2,k2,c2,rfl⟩:=hn2.form;exact⟨hb,s,o,k,c,s2,o2,k2,c2,rfl,_,_,rfl,h1,hn1⟩
theorem info_int:(Tryz.prog.info? 98).map (fun i=>(i.zero,i.size,i.bytes))=some (some (.agg #[.bool false, .slice none 0 0]),2,32):=by kernel_rfl
theorem make_ints (n:Nat)(hn:n<=41):∀ W,(Instr.makeSlice 74 (.int .i64 ((n:Int)+1)) (.int .i64 ((n:Int)+1))).run Tryz.prog W= .ok (.slice (some ⟨W.heap.size,0,none⟩) (n+1) (n+1)) (W.alloc (.cells (madeCells #[.bool false, .slice none 0 0] ((n+1)*2)) 98)):=fun W=>by
 obtain⟨i,hi,hzz⟩:=Option.map_eq_some_iff.1 info_int;simp only[Prod.mk.injEq] at hzz;obtain⟨hz,hs,hb⟩:=hzz;have:=run_make (P:=Tryz.prog) (w:=W) 74 98 i (.agg #[.bool false, .slice none 0 0]) Tryz.underlying74 hi hz .i64 .i64 ((n:Int)+1) ((n:Int)+1) (by omega) (by omega) (by rw[hb];omega) (by omega);rw[hs] at this;have e:((n:Int)+1).toNat=n+1:=by omega
 rw[e] at this;exact this
set_option maxRecDepth 20000 in
theorem firrs_any (order degree:Int)(w:World)(o0: -9223372036854775808<=order)(o1:order<=9223372036854775807)(d0: -9223372036854775808<=degree)(d1:degree<=9223372036854775807):
 Calls Tryz.prog 159 #[.int .i64 order, .int .i64 degree] w (FicRet order degree w):=by
 have HX0:Kept (Bxs w [.cells #[.bool false, .slice none 0 0] 98] (w.alloc (.cells #[.bool false, .slice none 0 0] 98))):=⟨(Bxs.start w).alloc (by simp) _⟩;have HPP:=Km (fun W=>primePower_any order W o0 o1)
 go_enter Tryz.func159,Tryz.ntmps159
 go_wp2_with fail;refine(HPP.out _).mono ?_;rintro e w1 ⟨hb1,⟨p,kk,hp,hk1,hpk,hp6,rfl⟩|⟨hno,rfl⟩⟩
 ·have hfit:FFld.Fit order:=by rw[hpk];exact FFld.fit_pow hp hk1 hp6
  have HFT:=Km hfit;obtain⟨q,hq⟩:∃ q,p ^ kk=q:=⟨_,rfl⟩;rw[hq] at hpk hp6;have HX1:=Km (HX0.out.below hb1);obtain⟨c0,c1,f0,f1⟩:=two_cells HX1.out.b0;have hl1:w.heap.size<w1.heap.size:=(Array.getElem?_eq_some_iff.1 HX1.out.b0).1;clear hb1 hfit hp hk1 hq HPP
  by_cases hin:1<=degree/\degree<=40
  ·obtain ⟨n,rfl⟩:∃ n:Nat,degree=n:=⟨degree.toNat,by omega⟩;subst hpk;have hn1:1<=n:=by omega
   have hn:n<=40:=by omega
   have g1:decide ((n:Int)<1)=false:=by rw[decide_eq_false_iff_not];omega
   have g2:decide ((40:Int)<n)=false:=by rw[decide_eq_false_iff_not];omega
   have hmk:=make_ints n (by omega);have HMO:=Km (fun m (h1:1<=m) (h2:m<=40) W=>moebius_any m W h1 h2);have HOF:=Km (fun(z:Int) (h1: -65536<=z) (h2:z<=65536) W=>of_any z W (by omega) (by omega));have hal:Below w1.heap.size w1 (w1.alloc (.cells (madeCells #[.bool false, .slice none 0 0] ((n+1)*2)) 98)):=(Below.refl _ _).alloc (Nat.le_refl _) _;have HX2:=Km (HX1.out.below hal)
   have HCZ:Kept (Cz (w1.alloc (.cells (madeCells #[.bool false, .slice none 0 0] ((n+1)*2)) 98)) w1.heap.size (n+1) (fun d=>if d<1 then cfF n d else 0)):=⟨(Cz.start (heap_alloc_new w1 _)).congr (fun d hd=>by
    by_cases e:d<1
    ·rw[if_pos e,show d=0 by omega];rfl
    ·rw[if_neg e])⟩
   obtain⟨W3,hW3⟩:∃ W,w1.alloc (.cells (madeCells #[.bool false, .slice none 0 0] ((n+1)*2)) 98)=W:=⟨_,rfl⟩;rw[hW3] at HX2 HCZ;clear hal hin d0 d1 o0 o1;go_wp2
   try rw[hW3]
   obtain⟨g,hg⟩:∃ g,w1.heap.size=g:=⟨_,rfl⟩;rw[hg] at HCZ hl1 ⊢;clear hg hW3 hmk c0 c1 f0 f1
   go_loopw [10] (fun iv wr=> ∃ (i:Nat),1<=i/\i<=n+1/\iv= .int .i64 i/\Kept (Bxs w [.cells #[.bool false, .slice none 0 0] 98] wr)/\Kept (Cz wr g (n+1) (fun d=>if d<i then cfF n d else 0))) (fun iv _=>n+1-(intOf iv).toNat)
   case atStart=>exact⟨1,Nat.le_refl _,by omega,rfl,HX2,HCZ⟩
   case round=>
    obtain⟨i,hi1,hin,rfl,hbx,hcz⟩:=hrel
    by_cases hlt:i<=n
    ·obtain⟨r,hr⟩:∃ r,n%i=r:=⟨_,rfl⟩;have er1:(n:Int)%(i:Int)=r:=by rw[<- hr];rfl
     have er2:(n:Int).tmod (i:Int)=r:=by rw[Int.tmod_eq_emod_of_nonneg (by omega)];exact er1
     have hz1: ¬ ((i:Int)=0):=by omega
     have hz2: ¬ (i=0):=by omega
     have hz3:((i:Int)==0)=false:=by rw[beq_eq_false_iff_ne];omega
     have hle:decide ((i:Int)<=n)=true:=by rw[decide_eq_true_eq];omega
     by_cases h0:r=0
     ·have e0:((r:Int)==0)=true:=by rw[h0];rfl
      obtain⟨m,hm⟩:∃ m,n/i=m:=⟨_,rfl⟩;have em1:(n:Int)/(i:Int)=m:=by rw[<- hm];rfl
      have em2:(n:Int).tdiv (i:Int)=m:=by rw[Int.tdiv_eq_ediv_of_nonneg (by omega)];exact em1
      have hm1:1<=m:=by rw[<- hm];exact(Nat.one_le_div_iff (by omega)).2 hlt
      have hm4:m<=40:=by rw[<- hm];exact Nat.le_trans (Nat.div_le_self _ _) hn
      have HV:Kept (cfF n i=FFld.muT m):=⟨by unfold cfF;rw[if_neg hz2,if_pos (by omega),hm]⟩;have hmu:=FFld.mu_in m (by omega);obtain⟨mu,hmm⟩:∃ x,FFld.muT m=x:=⟨_,rfl⟩;have HM:=Km (HMO.out m hm1 hm4);rw[hmm] at hmu HV HM;clear hm hr h0 hmm;go_wp2_with fail;refine(HM.out _).mono ?_;rintro e w4 ⟨hb4,rfl⟩;have HBX4:=Km (hbx.out.below hb4);have HCZ4:=Km (hcz.out.below hb4);clear hb4;go_wp2_with fail;refine(HOF.out mu (by omega) (by omega) _).mono ?_;rintro e w5 ⟨hb5,v5,rfl,s5,sv5,rfl,hs5,hn5⟩;obtain⟨o5,k5,c5,rfl⟩:=hn5.form;have HBX5:=Km (HBX4.out.below hb5);have HCZ5:=Km (HCZ4.out.below hb5);have HI5:Kept (IntV 1 w5 (.agg #[.bool s5, .slice o5 k5 c5]) mu):=⟨⟨_,_,rfl,hs5,hn5⟩⟩;obtain⟨sx,ox,kx,cx,y0,y1,_⟩:=HCZ5.out.at (d:=i) (by omega);have z0:=HCZ5.out.free (i*2);have z1:=HCZ5.out.free (i*2+1);have hgl:=HCZ5.out.lt
      have HN:=Km ((HCZ5.out.set (i:=i) (by omega) HI5.out).congr (G:=fun d=>if d<i+1 then cfF n d else 0) (fun d hd=>by
       show(if d=i then mu else if d<i then cfF n d else 0)=if d<i+1 then cfF n d else 0
       by_cases e1:d=i
       ·rw[if_pos e1,if_pos (by omega),e1,HV.out]
       ·rw[if_neg e1]
        by_cases e2:d<i
        ·rw[if_pos e2,if_pos (by omega)]
        ·rw[if_neg e2,if_neg (by omega)]))
      have HBN:Kept (Bxs w [.cells #[.bool false, .slice none 0 0] 98] ((w5.setCell ⟨g,i*2,none⟩ (.bool s5)).setCell ⟨g,i*2+1,none⟩ (.slice o5 k5 c5))):=⟨by
       refine⟨(HBX5.out.1.setCell (p:=⟨g,i*2,none⟩) (by simp only[];omega) _).setCell (p:=⟨g,i*2+1,none⟩) (by simp only[];omega) _,by simpa using HBX5.out.2.1,fun j o hj=> ?_⟩;have:=HBX5.out.2.2 j o hj;have hj0:j=0:=by rcases j with _|j<;>simp at hj ⊢
       subst hj0;rw[heap_setCell_other _ _ _ _ (by simp;omega),heap_setCell_other _ _ _ _ (by simp;omega)]
       exact this⟩
      have hl2:(i:Int)<((n:Int)+1):=by omega
      clear hb5 hs5 hn5;go_wp2;go_roundw
      case rel=>exact⟨i+1,by omega,by omega,by go_num,HBN,HN⟩
      case measure=>simp[intOf]<;>omega
     ·have e0:((r:Int)==0)=false:=by rw[beq_eq_false_iff_ne];omega
      have HN:=Km (hcz.out.congr (G:=fun d=>if d<i+1 then cfF n d else 0) (fun d hd=>by
       by_cases e1:d=i
       ·rw[if_neg (by omega),if_pos (by omega),e1];unfold cfF;rw[if_neg hz2,if_neg (by omega)]
       ·by_cases e2:d<i
        ·rw[if_pos e2,if_pos (by omega)]
        ·rw[if_neg e2,if_neg (by omega)]))
      clear hr h0;go_wp2;go_roundw
      case rel=>exact⟨i+1,by omega,by omega,by go_num,hbx,HN⟩
      case measure=>simp[intOf]<;>omega
    ·obtain rfl:i=n+1:=by omega
     have hle:decide (((n+1:Nat):Int)<=n)=false:=by rw[decide_eq_false_iff_not];omega
     have hle2:decide ((n:Int)+1<=n)=false:=by rw[decide_eq_false_iff_not];omega
     have HCF:=Km (hcz.out.congr (G:=cfF n) (fun d hd=>by rw[if_pos (by omega)]));have HIR:=Km (hzF_irrs (q:=q) hn1 hn);have HBX:=hbx;clear hcz hbx;go_wp2_with fail;refine(HOF.out (q:Int) (by omega) (by omega) _).mono ?_;rintro e w4 ⟨hb4,v4,rfl,hI4⟩;have HBX4:=Km (HBX.out.below hb4);have HCF4:=Km (HCF.out.below hb4);have HI4:=Km hI4;clear hb4 hI4;go_wp2_with fail;refine(value_any HCF4.out (cfF_in hn) (by omega) HI4.out hp6).mono ?_;rintro e w5 ⟨hb5,v5,rfl,s5,sv5,rfl,hs5,hn5⟩;obtain⟨o5,k5,c5,rfl⟩:=hn5.form;rw[HIR.out] at hs5 hn5;have HBX5:=Km (HBX4.out.below hb5);have HI5:Kept (IntV 625 w5 (.agg #[.bool s5, .slice o5 k5 c5]) (n*FFld.irrs q n)):=⟨⟨_,_,rfl,hs5,hn5⟩⟩;clear hb5 hs5 hn5;have HT_0:Kept (IntV 625 ((w5.alloc (.cells #[.bool s5, .slice o5 k5 c5] 98)).drew) (.agg #[.bool s5, .slice o5 k5 c5]) (n*FFld.irrs q n)):=⟨HI5.out.below (((Below.refl _ _).alloc (Nat.le_refl _) _).drew)⟩;have HB_0:Kept (Bxs w [.cells #[.bool false, .slice none 0 0] 98] ((w5.alloc (.cells #[.bool s5, .slice o5 k5 c5] 98)).drew)):=⟨HBX5.out.below (((Below.refl _ _).alloc (Nat.le_refl _) _).drew)⟩;obtain⟨u0_0,u1_0,_⟩:=two_cells (heap_alloc_new w5 (.cells #[.bool s5, .slice o5 k5 c5] 98));have HON:=Km (HOF.out (n:Int) (by omega) (by omega));have HEQ:Kept (n≠0):=⟨by omega⟩;have hw5:w.heap.size<w5.heap.size:=(Array.getElem?_eq_some_iff.1 HBX5.out.b0).1;clear HIR HMO HOF;go_wp2_with fail;have u0:=u0_0;have u1:=u1_0;have HT:=HT_0;have HB:=HB_0;clear u0_0 u1_0 HT_0 HB_0;refine wp_region_held_drew (S:=fun w' =>w'.cell? ⟨w5.heap.size,0,none⟩=some (.bool s5)/\w'.cell? ⟨w5.heap.size,1,none⟩=some (.slice o5 k5 c5)) (by kernel_rfl) ⟨u0,u1⟩ (fun hHeld=> ?_);obtain⟨x,hx0⟩:∃ X,(w5.alloc (.cells #[.bool s5, .slice o5 k5 c5] 98)).drew=X:=⟨_,rfl⟩;rw[hx0] at HT HB hHeld ⊢;replace u0:x.cell? ⟨w5.heap.size,0,none⟩=some (.bool s5):=by rw[<- hx0];exact u0
     replace u1:x.cell? ⟨w5.heap.size,1,none⟩=some (.slice o5 k5 c5):=by rw[<- hx0];exact u1
     clear hx0;refine wpAnyH_take (i:=0) (v:= ?_) rfl (by kernel_rfl) (by kernel_rfl) (by kernel_rfl) (fun _ _ _ h=>h) (Or.inl ⟨by rfl,?_⟩) (by assumption) ?_;rotate_left
     ·(intro w hSw;(try dsimp only at hSw);go_simp;(try with_reducible rfl))
     try simp only[Act.put,sA]
     refine wpAnyH_take (i:=1) (v:= ?_) rfl (by kernel_rfl) (by kernel_rfl) (by kernel_rfl) (fun _ _ _ h=>h) (Or.inl ⟨by rfl,?_⟩) (by assumption) ?_;rotate_left
     ·(intro w hSw;(try dsimp only at hSw);go_simp;(try with_reducible rfl))
     try simp only[Act.put,sA]
     iterate 4
      all_goals first
       |((fail_if_success have _:=HA);(fail_if_success have _:=HQ);(fail_if_success have _:=H12);(fail_if_success have _:=H13);refine wpAnyH_ready (rs:= [2,8,9]) (by kernel_rfl) (by simp) ?_;refine(AllReadyH.cons rfl (fun K hK=>(fun(m2:True)=> ?_) trivial) (AllReadyH.cons rfl (fun K hK=>(fun(m8:True)=> ?_) trivial) (AllReadyH.cons rfl (fun K hK=>(fun(m9:True)=> ?_) trivial) AllReadyH.nil))))
       |((fail_if_success have _:=HA);(fail_if_success have _:=HQ);(fail_if_success have _:=H12);have _:=H13;refine wpAnyH_ready (rs:= [2,8]) (by kernel_rfl) (by simp) ?_;refine(AllReadyH.cons rfl (fun K hK=>(fun(m2:True)=> ?_) trivial) (AllReadyH.cons rfl (fun K hK=>(fun(m8:True)=> ?_) trivial) AllReadyH.nil)))
       |((fail_if_success have _:=HA);(fail_if_success have _:=HQ);have _:=H12;(fail_if_success have _:=H13);refine wpAnyH_ready (rs:= [2,9]) (by kernel_rfl) (by simp) ?_;refine(AllReadyH.cons rfl (fun K hK=>(fun(m2:True)=> ?_) trivial) (AllReadyH.cons rfl (fun K hK=>(fun(m9:True)=> ?_) trivial) AllReadyH.nil)))
       |((fail_if_success have _:=HA);(fail_if_success have _:=HQ);have _:=H12;have _:=H13;refine wpAnyH_ready (rs:= [2]) (by kernel_rfl) (by simp) ?_;refine(AllReadyH.cons rfl (fun K hK=>(fun(m2:True)=> ?_) trivial) AllReadyH.nil))
       |(have _:=HA;(fail_if_success have _:=HQ);(fail_if_success have _:=H12);(fail_if_success have _:=H13);refine wpAnyH_ready (rs:= [3,8,9]) (by kernel_rfl) (by simp) ?_;refine(AllReadyH.cons rfl (fun K hK=>(fun(m3:True)=> ?_) trivial) (AllReadyH.cons rfl (fun K hK=>(fun(m8:True)=> ?_) trivial) (AllReadyH.cons rfl (fun K hK=>(fun(m9:True)=> ?_) trivial) AllReadyH.nil))))
       |(have _:=HA;(fail_if_success have _:=HQ);(fail_if_success have _:=H12);have _:=H13;refine wpAnyH_ready (rs:= [3,8]) (by kernel_rfl) (by simp) ?_;refine(AllReadyH.cons rfl (fun K hK=>(fun(m3:True)=> ?_) trivial) (AllReadyH.cons rfl (fun K hK=>(fun(m8:True)=> ?_) trivial) AllReadyH.nil)))
       |(have _:=HA;(fail_if_success have _:=HQ);have _:=H12;(fail_if_success have _:=H13);refine wpAnyH_ready (rs:= [3,9]) (by kernel_rfl) (by simp) ?_;refine(AllReadyH.cons rfl (fun K hK=>(fun(m3:True)=> ?_) trivial) (AllReadyH.cons rfl (fun K hK=>(fun(m9:True)=> ?_) trivial) AllReadyH.nil)))
       |(have _:=HA;(fail_if_success have _:=HQ);have _:=H12;have _:=H13;refine wpAnyH_ready (rs:= [3]) (by kernel_rfl) (by simp) ?_;refine(AllReadyH.cons rfl (fun K hK=>(fun(m3:True)=> ?_) trivial) AllReadyH.nil))
       |(have _:=HA;have _:=HQ;(fail_if_success have _:=H12);(fail_if_success have _:=H13);refine wpAnyH_ready (rs:= [8,9]) (by kernel_rfl) (by simp) ?_;refine(AllReadyH.cons rfl (fun K hK=>(fun(m8:True)=> ?_) trivial) (AllReadyH.cons rfl (fun K hK=>(fun(m9:True)=> ?_) trivial) AllReadyH.nil)))
       |(have _:=HA;have _:=HQ;(fail_if_success have _:=H12);have _:=H13;refine wpAnyH_ready (rs:= [8]) (by kernel_rfl) (by simp) ?_;refine(AllReadyH.cons rfl (fun K hK=>(fun(m8:True)=> ?_) trivial) AllReadyH.nil))
       |(have _:=HA;have _:=HQ;have _:=H12;(fail_if_success have _:=H13);refine wpAnyH_ready (rs:= [9]) (by kernel_rfl) (by simp) ?_;refine(AllReadyH.cons rfl (fun K hK=>(fun(m9:True)=> ?_) trivial) AllReadyH.nil))
      all_goals first
       | (clear m2
          go_simp
          refine(HON.out x).mono ?_;rintro e y ⟨hr,va,rfl,sA,svA,rfl,hsA,hnA⟩;obtain⟨oA,kA,cA,rfl⟩:=hnA.form;have HAn:Kept (IntV 1 y (.agg #[.bool sA, .slice oA kA cA]) n):=⟨⟨_,_,rfl,hsA,hnA⟩⟩;have u0:=belowCell hr u0;have u1:=belowCell hr u1;have HT:=Km (HT.out.below hr);have HB:=Km (HB.out.below hr)
          try have HA:=Km (HA.out.below hr)
          try have HQ:=Km (HQ.out.below hr)
          try have H12:=Km ((hr.block _ (Array.getElem?_eq_some_iff.1 H12.out).1).trans H12.out)
          try have H13:=Km ((hr.block _ (Array.getElem?_eq_some_iff.1 H13.out).1).trans H13.out)
          have HA:=HAn;clear hr hsA hnA;obtain⟨x,rfl⟩:∃ X,X=y:=⟨_,rfl⟩;refine hK.out _ _ ⟨u0,u1⟩ (fun hHeld=> ?_);clear hK K
          try simp only[Act.put,sA])
       | (clear m3
          go_simp
          refine(idiv_any HT.out HA.out (by omega) (by omega) (by omega)).mono ?_;intro e y hq;obtain⟨hr,sQ,oQ,kQ,cQ,s2',o2',k2',c2',rfl,hQ⟩:=div_out HEQ.out (by omega) hq;have u0:=belowCell hr u0;have u1:=belowCell hr u1;have HT:=Km (HT.out.below hr);have HB:=Km (HB.out.below hr)
          try have HA:=Km (HA.out.below hr)
          try have HQ:=Km (HQ.out.below hr)
          try have H12:=Km ((hr.block _ (Array.getElem?_eq_some_iff.1 H12.out).1).trans H12.out)
          try have H13:=Km ((hr.block _ (Array.getElem?_eq_some_iff.1 H13.out).1).trans H13.out)
          have HQ:=Km hQ;clear hr hq hQ;obtain⟨x,rfl⟩:∃ X,X=y:=⟨_,rfl⟩;refine hK.out _ _ ⟨u0,u1⟩ (fun hHeld=> ?_);clear hK K
          try simp only[Act.put,sA]
          refine wpAnyH_take (i:=4) (v:= ?_) rfl (by kernel_rfl) (by kernel_rfl) (by kernel_rfl) (fun _ _ _ h=>h) (Or.inl ⟨by rfl,?_⟩) (by assumption) ?_;rotate_left
          ·(intro w hSw;(try dsimp only at hSw);go_simp;(try with_reducible rfl))
          try simp only[Act.put,sA]
          refine wpAnyH_take (i:=5) (v:= ?_) rfl (by kernel_rfl) (by kernel_rfl) (by kernel_rfl) (fun _ _ _ h=>h) (Or.inl ⟨by rfl,?_⟩) (by assumption) ?_;rotate_left
          ·(intro w hSw;(try dsimp only at hSw);go_simp;(try with_reducible rfl))
          try simp only[Act.put,sA]
          refine wpAnyH_take (i:=6) (v:= ?_) rfl (by kernel_rfl) (by kernel_rfl) (by kernel_rfl) (fun _ _ _ h=>h) (Or.inl ⟨by rfl,?_⟩) (by assumption) ?_;rotate_left
          ·(intro w hSw;(try dsimp only at hSw);go_simp;(try with_reducible rfl))
          try simp only[Act.put,sA]
          refine wpAnyH_take (i:=7) (v:= ?_) rfl (by kernel_rfl) (by kernel_rfl) (by kernel_rfl) (fun _ _ _ h=>h) (Or.inl ⟨by rfl,?_⟩) (by assumption) ?_;rotate_left
          ·(intro w hSw;(try dsimp only at hSw);go_simp;(try with_reducible rfl))
          try simp only[Act.put,sA])
       | (clear m8
          go_simp
          have hlt12:w5.heap.size<x.heap.size:=World.block_lt_of_cell? _ _ u0
          try have hne:g13<x.heap.size:=(Array.getElem?_eq_some_iff.1 H13.out).1
          have hr:Below x.heap.size x (x.alloc (.cells #[.bool false, .slice none 0 0] 98)):=(Below.refl _ _).alloc (Nat.le_refl _) _;have hnew:=heap_alloc_new x (.cells #[.bool false, .slice none 0 0] 98);obtain⟨y,hx⟩:∃ X,x.alloc (.cells #[.bool false, .slice none 0 0] 98)=X:=⟨_,rfl⟩;rw[hx] at hr hnew ⊢;clear hx;have u0:=belowCell hr u0;have u1:=belowCell hr u1;have HT:=Km (HT.out.below hr);have HB:=Km (HB.out.below hr)
          try have HA:=Km (HA.out.below hr)
          try have HQ:=Km (HQ.out.below hr)
          try have H12:=Km ((hr.block _ (Array.getElem?_eq_some_iff.1 H12.out).1).trans H12.out)
          try have H13:=Km ((hr.block _ (Array.getElem?_eq_some_iff.1 H13.out).1).trans H13.out)
          have H12:=Km hnew;obtain⟨g12,hg12⟩:∃ G,x.heap.size=G:=⟨_,rfl⟩;rw[hg12] at H12 hlt12 ⊢
          try rw[hg12] at hne
          clear hr hnew hg12;obtain⟨x,rfl⟩:∃ X,X=y:=⟨_,rfl⟩;refine hK.out _ _ ⟨u0,u1⟩ (fun hHeld=> ?_);clear hK K
          try simp only[Act.put,sA])
       | (clear m9
          go_simp
          have hlt13:w5.heap.size<x.heap.size:=World.block_lt_of_cell? _ _ u0
          try have hne:g12<x.heap.size:=(Array.getElem?_eq_some_iff.1 H12.out).1
          have hr:Below x.heap.size x (x.alloc (.cells #[.bool false, .slice none 0 0] 98)):=(Below.refl _ _).alloc (Nat.le_refl _) _;have hnew:=heap_alloc_new x (.cells #[.bool false, .slice none 0 0] 98);obtain⟨y,hx⟩:∃ X,x.alloc (.cells #[.bool false, .slice none 0 0] 98)=X:=⟨_,rfl⟩;rw[hx] at hr hnew ⊢;clear hx;have u0:=belowCell hr u0;have u1:=belowCell hr u1;have HT:=Km (HT.out.below hr);have HB:=Km (HB.out.below hr)
          try have HA:=Km (HA.out.below hr)
          try have HQ:=Km (HQ.out.below hr)
          try have H12:=Km ((hr.block _ (Array.getElem?_eq_some_iff.1 H12.out).1).trans H12.out)
          try have H13:=Km ((hr.block _ (Array.getElem?_eq_some_iff.1 H13.out).1).trans H13.out)
          have H13:=Km hnew;obtain⟨g13,hg13⟩:∃ G,x.heap.size=G:=⟨_,rfl⟩;rw[hg13] at H13 hlt13 ⊢
          try rw[hg13] at hne
          clear hr hnew hg13;obtain⟨x,rfl⟩:∃ X,X=y:=⟨_,rfl⟩;refine hK.out _ _ ⟨u0,u1⟩ (fun hHeld=> ?_);clear hK K
          try simp only[Act.put,sA])
     all_goals(
      obtain⟨m0,m1,m2,m3⟩:=two_cells H12.out;have hl12:g12<x.heap.size:=(Array.getElem?_eq_some_iff.1 H12.out).1;refine wpAnyH_ready (rs:= [10]) (by kernel_rfl) (by simp) ?_;refine(AllReadyH.cons rfl (fun K hK=> ?_) AllReadyH.nil)
      go_simp
      have hset:=two_set H12.out (.bool sQ) (.slice oQ kQ cQ);have hgr:x.grownBy ((x.setCell ⟨g12,0,none⟩ (.bool sQ)).setCell ⟨g12,1,none⟩ (.slice oQ kQ cQ)) (some g12):=growSet (growSet (growRefl _ _) _ _) _ _;have v0:=hgr.cell (a:=⟨w5.heap.size,0,none⟩) u0 (by simp;omega);have v1:=hgr.cell (a:=⟨w5.heap.size,1,none⟩) u1 (by simp;omega);have h13:=(hgr.block g13 (Array.getElem?_eq_some_iff.1 H13.out).1 (by simp;omega)).trans H13.out;have HQY:=HQ.out.keep H12.out (fun i m e=>by rcases i with _|_|i<;>simp at e) hgr;have h4:=(hgr.block w.heap.size (by have:=HB.out.2.1;simp at this;omega) (by simp;omega)).trans HB.out.b0;have hby:Below w.heap.size w ((x.setCell ⟨g12,0,none⟩ (.bool sQ)).setCell ⟨g12,1,none⟩ (.slice oQ kQ cQ)):=below_grow2 HB.out.1 hgr (by omega);obtain⟨y,hy⟩:∃ Y,((x.setCell ⟨g12,0,none⟩ (.bool sQ)).setCell ⟨g12,1,none⟩ (.slice oQ kQ cQ))=Y:=⟨_,rfl⟩;rw[hy] at hset v0 v1 h13 HQY h4 hby ⊢;have HS12:=Km hset;have H13Y:=Km h13;have HQY2:=Km HQY;have H4Y:=Km h4
      have HBY:=Km hby
      clear hset h13 HQY h4 hby hgr hy m0 m1 m2 m3;refine hK.out _ _ ⟨v0,v1⟩ (fun hHeld=> ?_);clear hK K
      try simp only[Act.put,sA]
      obtain⟨m0,m1,m2,m3⟩:=two_cells H13Y.out;have hl13:g13<y.heap.size:=(Array.getElem?_eq_some_iff.1 H13Y.out).1;refine wpAnyH_ready (rs:= [11]) (by kernel_rfl) (by simp) ?_;refine(AllReadyH.cons rfl (fun K hK=> ?_) AllReadyH.nil)
      go_simp
      have hgr:y.grownBy ((y.setCell ⟨g13,0,none⟩ (.bool s2')).setCell ⟨g13,1,none⟩ (.slice o2' k2' c2')) (some g13):=growSet (growSet (growRefl _ _) _ _) _ _;have v2:=hgr.cell (a:=⟨w5.heap.size,0,none⟩) v0 (by simp;omega);have v3:=hgr.cell (a:=⟨w5.heap.size,1,none⟩) v1 (by simp;omega);have h12:=(hgr.block g12 (Array.getElem?_eq_some_iff.1 HS12.out).1 (by simp;omega)).trans HS12.out;have HQZ:=HQY2.out.keep H13Y.out (fun i m e=>by rcases i with _|_|i<;>simp at e) hgr;have h4:=(hgr.block w.heap.size (by omega) (by simp;omega)).trans H4Y.out;have hbz:Below w.heap.size w ((y.setCell ⟨g13,0,none⟩ (.bool s2')).setCell ⟨g13,1,none⟩ (.slice o2' k2' c2')):=below_grow2 HBY.out hgr (by omega);obtain⟨z,hz⟩:∃ Y,((y.setCell ⟨g13,0,none⟩ (.bool s2')).setCell ⟨g13,1,none⟩ (.slice o2' k2' c2'))=Y:=⟨_,rfl⟩;rw[hz] at v2 v3 h12 HQZ h4 hbz ⊢;obtain⟨n0,n1,_⟩:=two_cells h12;obtain⟨r0,r1,r2,r3⟩:=two_cells h4;have hlz:w.heap.size<z.heap.size:=(Array.getElem?_eq_some_iff.1 h4).1;have HQZ2:=Km HQZ;have H4Z:=Km h4;have HBZ:=Km hbz;clear h12 HQZ h4 hbz hgr hz m0 m1 m2 m3 v0 v1;refine hK.out _ _ ⟨v2,v3⟩ (fun hHeld=> ?_);clear hK K
      try simp only[Act.put,sA]
      refine wpAnyH_take (i:=12) (v:= ?_) rfl (by kernel_rfl) (by kernel_rfl) (by kernel_rfl) (fun _ _ _ h=>h) (Or.inl ⟨by rfl,?_⟩) (by assumption) ?_;rotate_left
      ·(intro w hSw;(try dsimp only at hSw);go_simp;(try with_reducible rfl))
      try simp only[Act.put,sA]
      refine wpAnyH_done (by kernel_rfl) ?_ _;have hgr:z.grownBy ((z.setCell ⟨w.heap.size,0,none⟩ (.bool sQ)).setCell ⟨w.heap.size,1,none⟩ (.slice oQ kQ cQ)) (some w.heap.size):=growSet (growSet (growRefl _ _) _ _) _ _;have HQF:=Km (HQZ2.out.keep H4Z.out (fun i m e=>by rcases i with _|_|i<;>simp at e) hgr);obtain⟨hB,q0,q1⟩:=two_end H4Z.out HBZ.out (Nat.le_refl _) (.bool sQ) (.slice oQ kQ cQ);have HBF:=Km hB;clear hB hgr;go_wp2;exact bodyPost_ret (v:= .tuple #[.agg #[.bool sQ, .slice oQ kQ cQ], .int .i64 0]) (by simp[results,Tryz.results159,go_sem,q0,q1]) rfl ⟨HBF.out, .inr (.inr ⟨HFT.out,q,n,rfl,hp6,rfl,hn1,hn,sQ,oQ,kQ,cQ,rfl,HQF.out⟩)⟩
     )
  ·have hd:degree<1\/40<degree:=by omega
   have HD:=Km hd;obtain⟨hB,q0,q1⟩:=two_end HX1.out.b0 HX1.out.1 (Nat.le_refl _) (.bool false) (.slice none 0 0);have HB:=Km hB;clear hB
   by_cases hlo:degree<1
   ·have g1:decide (degree<1)=true:=by rw[decide_eq_true_eq];exact hlo
    clear hd hin;go_wp2;exact bodyPost_ret (v:= .tuple #[.agg #[.bool false, .slice none 0 0], .int .i64 1]) (by simp[results,Tryz.results159,go_sem,q0,q1]) rfl ⟨HB.out, .inr (.inl ⟨HFT.out,HD.out,rfl⟩)⟩
   ·have g1:decide (degree<1)=false:=by rw[decide_eq_false_iff_not];exact hlo
    have g2:decide ((40:Int)<degree)=true:=by rw[decide_eq_true_eq];omega
    clear hd hin;go_wp2;exact bodyPost_ret (v:= .tuple #[.agg #[.bool false, .slice none 0 0], .int .i64 1]) (by simp[results,Tryz.results159,go_sem,q0,q1]) rfl ⟨HB.out, .inr (.inl ⟨HFT.out,HD.out,rfl⟩)⟩
 ·have HNO:=Km hno;have HX1:=Km (HX0.out.below hb1);obtain⟨c0,c1,f0,f1⟩:=two_cells HX1.out.b0;have hl1:w.heap.size<w1.heap.size:=(Array.getElem?_eq_some_iff.1 HX1.out.b0).1;obtain⟨hB,q0,q1⟩:=two_end HX1.out.b0 HX1.out.1 (Nat.le_refl _) (.bool false) (.slice none 0 0);have HB:=Km hB;clear hb1 hno HPP hB;go_wp2;exact bodyPost_ret (v:= .tuple #[.agg #[.bool false, .slice none 0 0], .int .i64 20]) (by simp[results,Tryz.results159,go_sem,q0,q1]) rfl ⟨HB.out, .inl ⟨HNO.out,rfl⟩⟩
end
section
open Go Go.RowKit Go.Deep
open FFld (ints)
set_option maxRecDepth 20000 in
theorem relement_any (q p k m:Nat)(a:Int)(w:World):
 Calls Tryz.prog 100 #[rfv q p k m, .int .i64 a] w (RB w (.bool (decide (0<=a/\a<q)))):=by
 have HX0:Kept (Bxs w [rbox q p k m] (w.alloc (rbox q p k m))):=⟨(Bxs.start w).alloc (by simp) _⟩;obtain⟨c0,c1,c2,c3⟩:=four_cells HX0.out.b0
 by_cases h0:0<=a
 ·have hd:decide (a≥0)=true:=by simp[h0]
  rw[show decide (0<=a/\a<(q:Int))=decide (a<(q:Int)) by simp[h0]]
  go_enter Tryz.func100,Tryz.ntmps100
  go_wp2
  go_ret
  exact⟨HX0.out.1,rfl⟩
 ·have hd:decide (a≥0)=false:=by simp;omega
  rw[show decide (0<=a/\a<(q:Int))=false by simp[h0]]
  go_enter Tryz.func100,Tryz.ntmps100
  go_wp2
  go_ret
  exact⟨HX0.out.1,rfl⟩
theorem elsB_next {D:FFld.FD}{xs:List Int}{i:Nat}(h:elsB D (xs.take i)=true)(hi:i<xs.length):elsB D (xs.take (i+1))=decide (0<=xs[i]?.getD 0/\xs[i]?.getD 0<(D.q:Int)):=by
 unfold elsB at h ⊢;rw[List.take_add_one,List.all_append,h,List.getElem?_eq_getElem hi];simp
theorem elsB_false {D:FFld.FD}{xs:List Int}{i:Nat}(h:elsB D (xs.take i)=false):elsB D xs=false:=by
 unfold elsB at h ⊢;rw[<- List.take_append_drop i xs,List.all_append,h];rfl
set_option maxRecDepth 20000 in
theorem relements_any (D:FFld.FD)(v:Value)(xs:List Int)(w:World)(h:Sl .i64 w v xs):
 Calls Tryz.prog 32 #[rfv D.q D.p D.k D.m,v] w (RB w (.bool (elsB D xs))):=by
 obtain⟨ao,cap,rfl,hcap,hmax,hc⟩:=h;have HX0:Kept (Bxs w [rbox D.q D.p D.k D.m] (w.alloc (rbox D.q D.p D.k D.m))):=⟨(Bxs.start w).alloc (by simp) _⟩;obtain⟨n,hN⟩:∃ n,xs.length=n:=⟨_,rfl⟩;have HC:=Km hc;rw[hN] at hcap ⊢;have HN:=Km hN;unfold maxLen at hmax;clear hc hN
 go_enter Tryz.func32,Tryz.ntmps32
 go_wp2
 go_loopw [5] (fun iv wr=> ∃ (i:Nat),i<=n/\iv= .int .i64 i/\Kept (elsB D (xs.take i)=true)/\Kept (Bxs w [rbox D.q D.p D.k D.m] wr)) (fun iv _=>n-(intOf iv).toNat)
 case atStart=>exact⟨0,Nat.zero_le _,rfl,⟨rfl⟩,HX0⟩
 case round=>
  obtain⟨i,hin,rfl,hat,hbx⟩:=hrel
  by_cases hlt:i<n
  ·obtain⟨g,o,rfl,hg,hcell⟩:=HC.out i (by rw[HN.out];exact hlt);have HT:=Km (elsB_next hat.out (by rw[HN.out];exact hlt));obtain⟨a,ha⟩:∃ a,xs[i]?.getD 0=a:=⟨_,rfl⟩;rw[ha] at hcell HT;have icell:=(hbx.out.1.cell (p:=⟨g,o+i,none⟩) hg).trans hcell;obtain⟨i0,i1,i2,i3⟩:=four_cells hbx.out.b0;have hI:=Km (fun W (hW:Below wr.heap.size wr W)=>relement_any D.q D.p D.k D.m a W);obtain⟨t,ht⟩:∃ t,decide (0<=a/\a<(D.q:Int))=t:=⟨_,rfl⟩;rw[ht] at hI HT;clear ha ht hcell HC
   cases t with
   | true=>
     go_wp2
     go_region_held3 (fun w' =>w'.cell? ⟨w.heap.size,0,none⟩=some (.int .i64 D.q)/\w'.cell? ⟨w.heap.size,1,none⟩=some (.int .i64 D.p)/\w'.cell? ⟨w.heap.size,2,none⟩=some (.int .i64 D.k)/\w'.cell? ⟨w.heap.size,3,none⟩=some (.int .i64 D.m)/\w'.cell? ⟨g,o+i,none⟩=some (.int .i64 a))
      (first|exact⟨j0,j1,j2,j3,jc⟩|exact⟨i0,i1,i2,i3,icell⟩|go_keep)
      ((first
        |((with_reducible refine(hI.out _ ?_).mono ?_);(exact(by first|exact Below.refl _ _|exact(Below.refl _ _).drew));rintro e w3 ⟨hb3,rfl⟩;have HB3:=Km (bstep (show Below wr.heap.size wr _ from(by first|exact Below.refl _ _|exact(Below.refl _ _).drew)) hb3);have j0:=belowCell HB3.out i0;have j1:=belowCell HB3.out i1;have j2:=belowCell HB3.out i2;have j3:=belowCell HB3.out i3;have jc:=belowCell HB3.out icell;clear hb3)))
     have HX3:=Km (hbx.out.below HB3.out);go_wp2;go_roundw
     case rel=>exact⟨i+1,by omega,by go_num,HT,HX3⟩
     case measure=>simp[intOf]<;>omega
   | false=>
     have HE:=Km (elsB_false HT.out);go_wp2
     go_region_held3 (fun w' =>w'.cell? ⟨w.heap.size,0,none⟩=some (.int .i64 D.q)/\w'.cell? ⟨w.heap.size,1,none⟩=some (.int .i64 D.p)/\w'.cell? ⟨w.heap.size,2,none⟩=some (.int .i64 D.k)/\w'.cell? ⟨w.heap.size,3,none⟩=some (.int .i64 D.m)/\w'.cell? ⟨g,o+i,none⟩=some (.int .i64 a))
      (first|exact⟨j0,j1,j2,j3,jc⟩|exact⟨i0,i1,i2,i3,icell⟩|go_keep)
      ((first
        |((with_reducible refine(hI.out _ ?_).mono ?_);(exact(by first|exact Below.refl _ _|exact(Below.refl _ _).drew));rintro e w3 ⟨hb3,rfl⟩;have HB3:=Km (bstep (show Below wr.heap.size wr _ from(by first|exact Below.refl _ _|exact(Below.refl _ _).drew)) hb3);have j0:=belowCell HB3.out i0;have j1:=belowCell HB3.out i1;have j2:=belowCell HB3.out i2;have j3:=belowCell HB3.out i3;have jc:=belowCell HB3.out icell;clear hb3)))
     have HX3:=Km (hbx.out.below HB3.out);go_wp2
     go_ret
     exact⟨HX3.out.1,by rw[HE.out];rfl⟩
  ·obtain rfl:i=n:=by omega
   have HE:Kept (elsB D xs=true):=⟨by have:=hat.out;rw[<- HN.out,List.take_length] at this;exact this⟩;go_wp2
   go_ret
   exact⟨hbx.out.1,by rw[HE.out];rfl⟩
theorem run_append_sl {P:Program}(w:World)(t ty E:TypeId)(K:IntKind)(bytes:Nat)(ht:P.underlying t=some (.slice E))
 (hinfo:(P.info? E).map (fun i=>(i.zero,i.size,i.bytes))=some (some (.int K 0),1,bytes)) (B:Nat) (v:Value) (xs:List Int) (hM:Mine E K B w v xs) (hB:B<=w.heap.size)
 (u:Value) (ys:List Int) (hu:Sl K w u ys) (hb:(xs.length+ys.length)*bytes<=140737488355328) (hm:xs.length+ys.length<=maxLen):
 ∃ v' w',(Builtin.append_ #[t,t] ty #[v,u]).run P w= .ok v' w' /\Mine E K B w' v' (xs++ys)/\w.grownBy w' v.ownBlock:=by
 obtain⟨ao,cap,rfl,hcap,hmax,hx⟩:=hu
 cases ao with
 | some a=>
   obtain⟨v',w',h1,h2,h3,_⟩:=run_append_mine (P:=P) w t ty E K bytes ht hinfo B v xs hM hB a cap ys (fun j q hj=>by
    have hjl:j<ys.length:=by
     apply Classical.byContradiction
     intro hc;simp[hc] at hj
    obtain⟨b,o,e,_,hcell⟩:=hx j hjl;obtain rfl:=Option.some.inj e
    have e:(⟨b,o,none⟩:Addr).add j=⟨b,o+j,none⟩:=by
     unfold Addr.add
     split<;>simp_all
    rw[e,hcell];simp[hjl] at hj ⊢
    exact hj) hb hm
   exact⟨v',w',h1,h2,h3⟩
 | none=>
   have he:ys= []:=by
    cases ys with
    |nil=>rfl
    | cons y t=>
      obtain⟨b,o,e,_⟩:=hx 0 (by simp)
      cases e
   subst he;obtain⟨i,hi,hz,hs,hby⟩:=info_parts hinfo;obtain⟨ao,c,rfl,hc,_⟩:=hM.sl;refine⟨_,w,run_append_nothing w t t ty E i ht hi ao xs.length c hc (.slice none 0 cap) (Src.ofNil w ht cap),?_,⟨rfl,rfl,rfl,Nat.le_refl _,fun _ _ _=>rfl⟩⟩;rw[List.append_nil];exact hM
theorem wpList_append_sl {P:Program}(w:World){ops:Array Oper}{rest:List Oper}{o:Oper}{a:Act}{Q:Exit->Act->World->Prop}(hgd:o.guard=none)(s x:Operand)(t:TypeId)
 (ho:o.op= .call {callee:= .builtin .append,args:= #[s,x],argTypes:= #[t,t]}) (E:TypeId) (K:IntKind) (bytes:Nat) (ht:P.underlying t=some (.slice E))
 (hinfo:(P.info? E).map (fun i=>(i.zero,i.size,i.bytes))=some (some (.int K 0),1,bytes)) (B:Nat) (v:Value) (xs:List Int) (hs:a.eval s=v) (hM:Mine E K B w v xs) (hB:B<=w.heap.size)
 (u:Value) (ys:List Int) (hx:a.eval x=u) (hu:Sl K w u ys)
 (hb:(xs.length+ys.length)*bytes<=140737488355328) (hm:xs.length+ys.length<=maxLen)
 (h:∀ v' w',Mine E K B w' v' (xs++ys)->w.grownBy w' v.ownBlock->wpList P ops Q rest (a.put o.dst v') w'):wpList P ops Q (o::rest) a w:=by
 refine wpList_plain hgd fun K' hK=> ?_
 obtain⟨v',w',hrun,r1,r2⟩:=run_append_sl (P:=P) w t o.type E K bytes ht hinfo B v xs hM hB u ys hu hb hm;unfold Oper.wp;simp[execOp,ho,resolve,invoke,builtin,hs,hx,hrun,Result.andThen];exact hK _ _ (h v' w' r1 r2)
theorem wp_append_mine {P:Program}(w:World){o:Oper}{a:Act}{K' :Act->World->Prop}{Q:Exit->Act->World->Prop}(s x:Operand)(t:TypeId)
 (ho:o.op= .call {callee:= .builtin .append,args:= #[s,x],argTypes:= #[t,t]}) (E:TypeId) (K:IntKind) (bytes:Nat) (ht:P.underlying t=some (.slice E))
 (hinfo:(P.info? E).map (fun i=>(i.zero,i.size,i.bytes))=some (some (.int K 0),1,bytes)) (B:Nat) (v:Value) (xs:List Int) (hs:a.eval s=v) (hM:Mine E K B w v xs) (hB:B<=w.heap.size)
 (ad:Addr) (m c:Nat) (news:List Int) (hx:a.eval x= .slice (some ad) m c) (hl:news.length=m) (hnews:∀ j u,(news.map (Value.int K))[j]? =some u->w.cell? (ad.add j)=some u)
 (hb:(xs.length+news.length)*bytes<=140737488355328) (hm:xs.length+news.length<=maxLen)
 (h:∀ v' w',Mine E K B w' v' (xs++news)->w.grownBy w' v.ownBlock->(v'.ownBlock=v.ownBlock\/Frm w.heap.size v')->K' (a.put o.dst v') w'):o.wp P a w K' Q:=by
 subst hl;obtain⟨v',w',hrun,r1,r2,r3⟩:=run_append_mine (P:=P) w t o.type E K bytes ht hinfo B v xs hM hB ad c news hnews hb hm;unfold Oper.wp execOp;simp only[ho,resolve,invoke,builtin,Sem.run_bind,Sem.run_pure,Result.andThen_ok,List.map_toArray,List.map_cons,List.map_nil,hs,hx,hrun];exact h v' w' r1 r2 r3
theorem step_append_mine {P:Program}(w:World){ops:Array Oper}{o:Oper}{a:Act}{K' :Act->World->Prop}{Q:Exit->Act->World->Prop}{E' :Prop}(hgd:o.guard=none)(s x:Operand)(t:TypeId)
 (ho:o.op= .call {callee:= .builtin .append,args:= #[s,x],argTypes:= #[t,t]}) (E:TypeId) (K:IntKind) (bytes:Nat) (ht:P.underlying t=some (.slice E))
 (hinfo:(P.info? E).map (fun i=>(i.zero,i.size,i.bytes))=some (some (.int K 0),1,bytes)) (B:Nat) (v:Value) (xs:List Int) (hs:a.eval s=v) (hM:Mine E K B w v xs) (hB:B<=w.heap.size)
 (ad:Addr) (m c:Nat) (news:List Int) (hx:a.eval x= .slice (some ad) m c) (hl:news.length=m) (hnews:∀ j u,(news.map (Value.int K))[j]? =some u->w.cell? (ad.add j)=some u)
 (hb:(xs.length+news.length)*bytes<=140737488355328) (hm:xs.length+news.length<=maxLen)
 (h:∀ v' w',Mine E K B w' v' (xs++news)->w.grownBy w' v.ownBlock->(v'.ownBlock=v.ownBlock\/Frm w.heap.size v')->K' (a.put o.dst v') w'):
 if Region.wanted o (yielded ops a.tmps)=true then Oper.wp P o a w K' Q else E' :=by
 have hw:Region.wanted o (yielded ops a.tmps)=true:=by simp[Region.wanted,hgd]
 rw[if_pos hw];exact wp_append_mine w s x t ho E K bytes ht hinfo B v xs hs hM hB ad m c news hx hl hnews hb hm h
def RetM (w:World)(xs:List Int)(e:Ending)(w' :World):Prop:=Below w.heap.size w w' /\ ∃ v',e= .returned v' /\Mine 3 .i64 w.heap.size w' v' xs
def redN (D:FFld.FD)(a:Int):Nat:=(a%(D.q:Int)).toNat
end
end Go.Proofs.YtdnheaafcbihbaaGreat
