/-
  Texts of the proof, merged by program: TProd TDif TKn TDv TDv2 TDv3 TDw.
-/
import Derived.Test.YtdnheaafcbihbaaGreatDc9
import Derived.Laws.Bits64b
import Derived.Laws.MathBits
import Derived.Lib.ItoaNum
set_option linter.unusedSimpArgs false
set_option linter.unusedVariables false
set_option maxHeartbeats 16000000
namespace Go.Proofs.YtdnheaafcbihbaaGreat
open Go Go.RowKit
theorem addMultiple_at (g cap o n:Nat)(P M S us:List Int)(va:Value)(f:Int)(w0 w:World)(ha:Sl .u64 w0 va us)(hb0:Below w0.heap.size w0 w)(hg:w0.heap.size<=g)
 (hr:Row 165 .u64 w g (P++M++S)) (ho:Hid (P.length=o)) (hn:Hid (us.length=n)) (hM:M.length=us.length) (hwM:Dg.Wf BW M) (hwa:Dg.Wf BW us) (hf:0<=f) (hf1:f<18446744073709551616):
 Calls Tryz.prog 242 #[.slice (some ⟨g,o,none⟩) n cap,va, .int .u64 f] w (AmRet w g P M S us f):=by
 rw[<- ho.out,<- hn.out];exact taddMultiple_any g cap P M S us va f w0 w ha hb0 hg hr hM hwM hwa hf hf1
def PrAt (xs ys T:List Int)(k:Nat):Prop:=T.length=xs.length+ys.length/\Dg.Wf BW T/\Dg.val BW T=Dg.val BW xs*Dg.val BW (ys.take k)/\ ∀ i,xs.length+k<=i->T[i]?.getD 0=0
theorem PrAt.start (xs ys:List Int):PrAt xs ys (List.replicate (xs.length+ys.length) 0) 0:=
 ⟨by simp,Dg.Wf.zeros (by decide) _,by simp[Dg.val,Dg.val_zeros],fun i _=>by simp[List.getElem?_replicate];split<;>rfl⟩
theorem PrAt.next {xs ys T M' :List Int}{k:Nat}{c y:Int}(h:PrAt xs ys T k)(hk:k<ys.length)(hy:y=ys[k]?.getD 0)
 (hl:M'.length=((T.drop k).take xs.length).length) (hw:Dg.Wf BW M') (c0:0<=c) (c1:c<18446744073709551616)
 (hv:Dg.val BW M' +c*BW ^ xs.length=Dg.val BW ((T.drop k).take xs.length)+y*Dg.val BW xs):
 PrAt xs ys ((T.take k++M' ++T.drop (k+xs.length)).set (k+xs.length) c) (k+1):=by
 obtain⟨tl,tw,tv,tz⟩:=h;have hz:∀ i:Nat,(T.drop (k+xs.length))[i]?.getD 0=0:=fun i=>by rw[List.getElem?_drop];exact tz _ (by omega)
 have el:((T.drop k).take xs.length).length=xs.length:=by simp;omega
 rw[el] at hl;have ek:(T.take k).length=k:=by simp;omega
 have ed:(T.drop (k+xs.length)).length=ys.length-k:=by simp;omega
 have es:(T.take k++M' ++T.drop (k+xs.length)).set (k+xs.length) c=T.take k++M' ++(T.drop (k+xs.length)).set 0 c:=by
  rw[List.set_append_right _ _ (by simp;omega)]
  congr 2
  simp;omega
 rw[es];refine⟨by simp;omega,((tw.take k).append hw).append ((tw.drop _).set 0 c0 c1),?_,fun i hi=> ?_⟩
 ·rw[Dg.val_append,Dg.val_append,Dg.val_set_zeros hz (by omega)]
  have et:Dg.val BW T=Dg.val BW (T.take k)+BW ^ k*(Dg.val BW ((T.drop k).take xs.length)):=by
   conv=>lhs;rw[<- Dg.three T k xs.length]
   rw[Dg.val_append,Dg.val_append,Dg.val_of_zeros hz,ek];simp
  rw[Dg.val_take_succD,<- hy,Int.mul_add,<- tv,et];have e2:(T.take k++M').length=k+xs.length:=by simp;omega
  rw[e2,ek,Int.pow_add];have e3:BW ^ k*(Dg.val BW M' +c*BW ^ xs.length)=BW ^ k*(Dg.val BW ((T.drop k).take xs.length)+y*Dg.val BW xs):=by rw[hv]
  generalize BW ^ k=p at*;generalize BW ^ xs.length=q at*;simp only[Int.mul_add,Int.mul_comm,Int.mul_left_comm,Int.mul_assoc] at*;omega
 ·have hz' :=hz (i-(k+xs.length));rw[List.getElem?_append_right (by simp;omega),List.getElem?_set_ne (by simp;omega)];have e2:(T.take k++M').length=k+xs.length:=by simp;omega
  rw[e2];exact hz'
theorem PrAt.done {xs ys T:List Int}(h:PrAt xs ys T ys.length):Dg.Wf BW T/\Dg.val BW T=Dg.val BW xs*Dg.val BW ys:=
 ⟨h.2.1,by rw[h.2.2.1,List.take_of_length_le (Nat.le_refl _)]⟩
theorem product_any (va vb:Value)(xs ys:List Int)(w:World)(ha:Sl .u64 w va xs)(hb:Sl .u64 w vb ys)(hwa:Dg.Wf BW xs)(hwb:Dg.Wf BW ys)
 (hlx:xs.length<=1099511627776) (hly:ys.length<=1099511627776):
 Calls Tryz.prog 199 #[va,vb] w (RetNum (xs.length+ys.length) w (Dg.val BW xs*Dg.val BW ys)):=by
 have ha' :=ha;obtain⟨ao,cap,rfl,hcap,hmax,hc⟩:=ha;obtain⟨bo,bcap,rfl,hbcap,hbmax,hbc⟩:=hb;unfold maxLen at hmax hbmax
 go_enter Tryz.func199,Tryz.ntmps199
 go_wp2_with (at_make;refine wpList_make_zeros _ rfl _ _ 96 rfl 165 .u64 Tryz.underlying96 info_u64 _ _ (xs.length+ys.length) rfl rfl (by omega) (by omega) (by omega) ?_)
 intro w1 hrow hbel;go_wp2
 go_loopw [16] (fun i wr=> ∃ (k:Nat) (T:List Int),k<=ys.length/\i= .int .i64 k/\Hid (PrAt xs ys T k)/\Row 165 .u64 wr w.heap.size T/\Below w.heap.size w wr) (fun i _=>ys.length-(intOf i).toNat)
 case atStart=>exact⟨0,_,Nat.zero_le _,rfl,PrAt.start xs ys,hrow,hbel⟩
 case round=>
  obtain⟨k,T,hk,rfl,hat,hr,hbl⟩:=hrel;clear hrow hbel
  by_cases hlt:k<ys.length
  ·obtain⟨b,o,rfl,hbs,hcell⟩:=hbc k hlt;obtain⟨y,hy⟩:∃ y,y=ys[k]?.getD 0:=⟨_,rfl⟩;have hyb:=wfD hwb k;rw[<- hy] at hcell hyb;have HY:=Lib.hid hy;have hcl:=(hbl.cell (p:=⟨b,o+k,none⟩) hbs).trans hcell;clear hy hcell;have htl:=Lib.hid hat.out.1;have hr3:Row 165 .u64 wr w.heap.size (T.take k++(T.drop k).take xs.length++T.drop (k+xs.length)):=by rw[Dg.three];exact hr
   have ek:Hid ((T.take k).length=k):=by have:=htl.out;show _=_;simp;omega
   have el:Hid (((T.drop k).take xs.length).length=xs.length):=by have:=htl.out;show _=_;simp;omega
   go_wp2_with fail;refine(addMultiple_at w.heap.size _ k xs.length (T.take k) ((T.drop k).take xs.length) (T.drop (k+xs.length)) xs _ y w _ ha' hbl (Nat.le_refl _) hr3 ek rfl el.out ((hat.out.2.1.drop _).take _) hwa hyb.1 hyb.2).mono ?_;rintro e w' ⟨c,M',rfl,hr4,hgr,hml,hmw,c0,c1,hmv⟩;have hbl4:=tbelowGrow hgr hbl (Nat.le_refl _);have HMV:=Lib.hid hmv;have HML:=Lib.hid hml
   have hlen:(T.take k++M' ++T.drop (k+xs.length)).length=xs.length+ys.length:=by
    have:=HML.out;have:=htl.out;have:=ek.out;have:=el.out;simp only[List.length_append,List.length_drop];omega
   have hcz:=hr4.cell (i:=k+xs.length) (by omega);have hfz:=hr4.free (k+xs.length);clear hmv hml hlen hr3;go_wp2;go_roundw
   case rel=>exact⟨k+1,_,by omega,by go_num,hat.out.next hlt HY.out HML.out hmw c0 c1 HMV.out,hr4.set _ _,hbl4.setCell (Nat.le_refl _) _⟩
   case measure=>simp[intOf]<;>omega
  ·obtain rfl:k=ys.length:=by omega
   obtain⟨hdw,hdv⟩:=hat.out.done;have hlen:T.length=xs.length+ys.length:=hat.out.1;have hSl:=hr.slAll (n:=xs.length+ys.length) (cap:=xs.length+ys.length) hlen.symm (Nat.le_refl _) (by unfold maxLen;omega);have HL:=Lib.hid hlen;have HV:=Lib.hid hdv;clear hlen hdv hat
   go_wp2_with (go_at_call 196;refine(cut_num hSl hdw).mono ?_;rintro e w' ⟨v',rfl,rfl,hn,hob⟩;have HOB:=Lib.hid hob;clear hob)
   go_ret
   rw[HV.out,HL.out] at hn;exact⟨hbl,_,rfl,hn,(Frm.mk (Nat.le_refl _)).of HOB.out⟩
def DfAt (xs ys zs:List Int)(k:Nat)(c:Int):Prop:=zs.length=xs.length/\Dg.Wf BW zs/\0<=c/\c<=1/\
 Dg.val BW (zs.take k)-c*BW ^ k=Dg.val BW (xs.take k)-Dg.val BW (ys.take k)
theorem DfAt.start (xs ys:List Int):DfAt xs ys (List.replicate xs.length 0) 0 0:=
 ⟨by simp,Dg.Wf.zeros (by decide) _,by decide,by decide,by simp[Dg.val]⟩
theorem DfAt.next {xs ys zs:List Int}{k:Nat}{c x y s d:Int}(h:DfAt xs ys zs k c)(hk:k<xs.length)(hx:x=xs[k]?.getD 0)(hy:y=ys[k]?.getD 0)
 (s0:0<=s) (s1:s<BW) (d0:0<=d) (d1:d<=1) (he:x-y-c=s-BW*d):DfAt xs ys (zs.set k s) (k+1) d:=by
 obtain⟨hl,hw,c0,c1,hv⟩:=h;refine⟨by simpa using hl,hw.set k s0 s1,d0,d1,?_⟩;rw[Dg.take_set_succ zs k s (by omega),Dg.val_append,Dg.val_one,Dg.val_take_succD,Dg.val_take_succD,<- hx,<- hy,Int.pow_succ];have:(zs.take k).length=k:=by simp;omega
 rw[this];exact Dg.step_dif hv he
theorem DfAt.done {xs ys zs:List Int}{c:Int}(h:DfAt xs ys zs xs.length c)(hy:ys.length<=xs.length)(hle:Dg.val BW ys<=Dg.val BW xs):
 Dg.Wf BW zs/\Dg.val BW zs=Dg.val BW xs-Dg.val BW ys:=by
 obtain⟨hl,hw,c0,c1,hv⟩:=h;refine⟨hw,?_⟩;rw[List.take_of_length_le (by omega),List.take_of_length_le (Nat.le_refl _),List.take_of_length_le hy] at hv;have hlt:=Dg.val_lt (show(0:Int)<BW by decide) hw;rw[hl] at hlt
 have:c=0:=by
  rcases(show c=0\/c=1 by omega) with h|h
  ·exact h
  ·subst h;omega
 subst this;omega
theorem tdifference_any (va vb:Value)(xs ys:List Int)(w:World)(ha:Sl .u64 w va xs)(hb:Sl .u64 w vb ys)(hwa:Dg.Wf BW xs)(hwb:Dg.Wf BW ys)
 (hle:ys.length<=xs.length) (hv:Dg.val BW ys<=Dg.val BW xs) (hmx:xs.length<=17000000000000):
 Calls Tryz.prog 195 #[va,vb] w (RetNum xs.length w (Dg.val BW xs-Dg.val BW ys)):=by
 have hb' :=hb;obtain⟨ao,cap,rfl,hcap,hmax,hc⟩:=ha;obtain⟨bo,bcap,rfl,hbcap,hbmax,hbc⟩:=hb;unfold maxLen at hmax hbmax;have HLE:=Lib.hid hv;clear hv
 go_enter Tryz.func195,Tryz.ntmps195
 go_wp2_with (at_make;refine wpList_make_zeros _ rfl _ _ 96 rfl 165 .u64 Tryz.underlying96 info_u64 _ _ xs.length rfl rfl (by omega) (by omega) (by omega) ?_)
 intro w1 hrow hbel;go_wp2
 go_loopw [6,14] (fun c i wr=> ∃ (k:Nat) (cv:Int) (zs:List Int),k<=xs.length/\i= .int .i64 k/\c= .int .u64 cv/\Hid (DfAt xs ys zs k cv)/\Row 165 .u64 wr w.heap.size zs/\Below w.heap.size w wr) (fun _ i _=>xs.length-(intOf i).toNat)
 case atStart=>exact⟨0,0,_,Nat.zero_le _,rfl,rfl,DfAt.start xs ys,hrow,hbel⟩
 case round=>
  obtain⟨k,cv,zs,hk,rfl,rfl,hat,hr,hbl⟩:=hrel;have hzl:zs.length=xs.length:=hat.out.1;have hz0:0<=cv:=hat.out.2.2.1;have hz1:cv<=1:=hat.out.2.2.2.1;clear hrow hbel
  by_cases hlt' :k<xs.length
  ·obtain⟨b,o,rfl,hbs,hcell⟩:=hc k hlt';obtain⟨x,hx⟩:∃ x,x=xs[k]?.getD 0:=⟨_,rfl⟩;obtain⟨y,hy⟩:∃ y,y=ys[k]?.getD 0:=⟨_,rfl⟩;have hxb:=wfD hwa k;have hyb:=wfD hwb k;rw[<- hx] at hcell hxb;rw[<- hy] at hyb;have HX:=Lib.hid hx;have HY:=Lib.hid hy;clear hx hy;have hcl:=(hbl.cell (p:=⟨b,o+k,none⟩) hbs).trans hcell;have hsl:=hb'.below hbl;have hcz:=hr.cell (i:=k) (by omega);have hfz:=hr.free k;obtain⟨s,d,hsub,hs0,hs1,hd0,hd1,hsd⟩:=sub64 x y cv hxb.1 hxb.2 hyb.1 hyb.2 hz0 hz1;have HSD:=Lib.hid hsd;have HZ:=Lib.hid hzl;clear hsd hcell hzl
   go_wp2_with (go_at_call 239;refine(wordAt_any hsl k y HY).mono ?_;rintro e w' ⟨rfl,rfl⟩)
   go_roundw
   case rel=>exact⟨k+1,d,zs.set k s,by omega,by go_num,rfl,hat.out.next hlt' HX.out HY.out hs0 hs1 hd0 hd1 HSD.out,hr.set k s,hbl.setCell (Nat.le_refl _) _⟩
   case measure=>simp[intOf]<;>omega
  ·obtain rfl:k=xs.length:=by omega
   obtain⟨hdw,hdv⟩:=hat.out.done hle HLE.out;have hSl:=hr.slAll (n:=xs.length) (cap:=xs.length) hzl.symm (Nat.le_refl _) (by unfold maxLen;omega);have HL:=Lib.hid hzl;have HV:=Lib.hid hdv;clear hzl hdv hat
   go_wp2_with (go_at_call 196;refine(cut_num hSl hdw).mono ?_;rintro e w' ⟨v',rfl,rfl,hn,hob⟩;have HOB:=Lib.hid hob;clear hob)
   go_ret
   rw[HV.out,HL.out] at hn;exact⟨hbl,_,rfl,hn,(Frm.mk (Nat.le_refl _)).of HOB.out⟩
theorem sum_num {La Lb:Nat}{va vb:Value}{m n:Int}{w:World}(ha:Num La w va m)(hb:Num Lb w vb n)(h1:La<=17000000000000)(h2:Lb<=17000000000000):
 Calls Tryz.prog 194 #[va,vb] w (RetNum (max La Lb+1) w (m+n)):=by
 obtain⟨xs,a1,a2,a3,rfl,a5⟩:=ha;obtain⟨ys,b1,b2,b3,rfl,b5⟩:=hb
 by_cases h:ys.length<=xs.length
 ·exact(sum_core false va vb xs ys w a1 b1 a2 b2 h (by simp) (by omega)).mono fun e w' ⟨hb,v',he,hn,ho⟩=>⟨hb,v',he,hn.mono (by omega),ho⟩
 ·exact(sum_core true vb va ys xs w b1 a1 b2 a2 (by omega) (by omega) (by omega)).mono fun e w' ⟨hb,v',he,hn,ho⟩=>⟨hb,v',he,by rw[Int.add_comm];exact hn.mono (by omega),ho⟩
theorem difference_num {La Lb:Nat}{va vb:Value}{m n:Int}{w:World}(ha:Num La w va m)(hb:Num Lb w vb n)(h1:La<=17000000000000)(hle:n<=m):
 Calls Tryz.prog 195 #[va,vb] w (RetNum La w (m-n)):=by
 obtain⟨xs,a1,a2,a3,rfl,a5⟩:=ha;obtain⟨ys,b1,b2,b3,rfl,b5⟩:=hb
 have hl:ys.length<=xs.length:=by
  apply Classical.byContradiction
  intro hc;have:=Dg.val_lt_of_len (show(1:Int)<BW by decide) a2 b2 b3 (by omega);omega
 exact(tdifference_any va vb xs ys w a1 b1 a2 b2 hl hle (by omega)).mono fun e w' ⟨hb,v',he,hn,ho⟩=>⟨hb,v',he,hn.mono (by omega),ho⟩
theorem product_num {La Lb:Nat}{va vb:Value}{m n:Int}{w:World}(ha:Num La w va m)(hb:Num Lb w vb n)(h1:La<=1099511627776)(h2:Lb<=1099511627776):
 Calls Tryz.prog 199 #[va,vb] w (RetNum (La+Lb) w (m*n)):=by
 obtain⟨xs,a1,a2,a3,rfl,a5⟩:=ha;obtain⟨ys,b1,b2,b3,rfl,b5⟩:=hb;exact(product_any va vb xs ys w a1 b1 a2 b2 (by omega) (by omega)).mono fun e w' ⟨hb,v',he,hn,ho⟩=>⟨hb,v',he,hn.mono (by omega),ho⟩
end Go.Proofs.YtdnheaafcbihbaaGreat
namespace Go.Proofs.YtdnheaafcbihbaaGreat.Dg
structure KN (U u Y d1 d0 q r:Int):Prop where
 eq:q*d1+r=U
 q0:0<=q
 q1:q<=4294967297
 r0:0<=r
 r1:r<4294967296
 hi:U*4294967296+u<(q+1)*Y
structure KD (U u Y d1 d0:Int):Prop where
 yd:Y=d1*4294967296+d0
 a0:0<=d0
 a1:d0<4294967296
 b0:2147483648<=d1
 b1:d1<4294967296
 u0:0<=u
 u1:u<4294967296
 U0:0<=U
 U1:U<Y
structure KF (U u Y q:Int):Prop where
 q0:0<=q
 q1:q<4294967296
 lo:q*Y<=U*4294967296+u
 hi:U*4294967296+u<q*Y+Y
theorem KN.start {U u Y d1 d0:Int}(D:KD U u Y d1 d0):KN U u Y d1 d0 (U/d1) (U-U/d1*d1):=by
 have h1:=Int.mul_ediv_add_emod U d1;have h2:=Int.emod_nonneg U (show d1≠0 by have:=D.b0;omega);have h3:=Int.emod_lt_of_pos U (show 0<d1 by have:=D.b0;omega);have h4:=Int.ediv_nonneg D.U0 (show 0<=d1 by have:=D.b0;omega);rw[Int.mul_comm] at h1;generalize U/d1=q at*;obtain⟨yd,a0,a1,b0,b1,u0,u1,U0,U1⟩:=D;subst yd;refine⟨by omega,h4,?_,by omega,by omega,?_⟩
 ·apply Classical.byContradiction
  intro hc;have:=Int.mul_le_mul_of_nonneg_right (show 4294967298<=q by omega) (show 0<=d1 by omega);omega
 ·have e:(q+1)*(d1*4294967296+d0)=(q*d1+d1)*4294967296+(q*d0+d0):=by
   simp only[Int.add_mul,Int.mul_add,Int.mul_assoc,Int.one_mul];try omega
  have:=Int.mul_nonneg h4 a0;omega
theorem KN.step {U u Y d1 d0 q r:Int}(D:KD U u Y d1 d0)(K:KN U u Y d1 d0 q r)(hd:4294967296<=q\/(q<4294967296/\4294967296*r+u<q*d0)):
 1<=q/\(q-1)*d1+(r+d1)=U/\U*4294967296+u<(q-1+1)*Y:=by
 obtain⟨yd,a0,a1,b0,b1,u0,u1,U0,U1⟩:=D;obtain⟨eq,q0,q1,r0,r1,hi⟩:=K;have e:q*Y=q*d1*4294967296+q*d0:=by rw[yd,Int.mul_add,Int.mul_assoc]
 refine⟨?_,by rw[Int.sub_mul];omega,?_⟩
 ·apply Classical.byContradiction
  intro hc;obtain rfl:q=0:=by omega
  rcases hd with h|⟨h,h'⟩<;>omega
 ·rw[show q-1+1=q by omega]
  rcases hd with h|⟨h,h'⟩
  ·have:=Int.mul_le_mul_of_nonneg_right h (show 0<=Y by omega);omega
  ·omega
theorem KN.less {U u Y d1 d0 q r:Int}(D:KD U u Y d1 d0)(K:KN U u Y d1 d0 q r)(hd:4294967296<=q\/(q<4294967296/\4294967296*r+u<q*d0))(hr:r+d1<4294967296):
 KN U u Y d1 d0 (q-1) (r+d1):=
 let ⟨h1,h2,h3⟩:=K.step D hd
 ⟨h2,by omega,by have:=K.q1;omega,by have:=K.r0;have:=D.b0;omega,hr,h3⟩
theorem KN.over {U u Y d1 d0 q r:Int}(D:KD U u Y d1 d0)(K:KN U u Y d1 d0 q r)(hd:4294967296<=q\/(q<4294967296/\4294967296*r+u<q*d0))(hr:4294967296<=r+d1):
 KF U u Y (q-1):=by
 obtain⟨h1,h2,h3⟩:=K.step D hd;obtain⟨yd,a0,a1,b0,b1,u0,u1,U0,U1⟩:=D;generalize q-1=p at*;generalize r+d1=t at*;have hp0:0<=p:=by have:=K.q0;apply Classical.byContradiction;intro hc;have:=Int.mul_le_mul_of_nonneg_right (show p+1<=0 by omega) (show 0<=Y by omega);omega
 have hp1:p<4294967296:=by
  apply Classical.byContradiction
  intro hc;have:=Int.mul_le_mul_of_nonneg_right (show 4294967296<=p by omega) (show 0<=d1 by omega);omega
 have e:p*Y=p*d1*4294967296+p*d0:=by rw[yd,Int.mul_add,Int.mul_assoc]
 have hb:p*d0<=4294967295*4294967295:=Int.mul_le_mul (by omega) (by omega) a0 (by omega);exact⟨hp0,hp1,by omega,by rw[Int.add_mul] at h3;omega⟩
theorem KN.stop {U u Y d1 d0 q r:Int}(D:KD U u Y d1 d0)(K:KN U u Y d1 d0 q r)(h1:q<4294967296)(h2:q*d0<=4294967296*r+u):KF U u Y q:=by
 obtain⟨yd,a0,a1,b0,b1,u0,u1,U0,U1⟩:=D;obtain⟨eq,q0,q1,r0,r1,hi⟩:=K;have e:q*Y=q*d1*4294967296+q*d0:=by rw[yd,Int.mul_add,Int.mul_assoc]
 exact⟨q0,h1,by omega,by rw[Int.add_mul] at hi;omega⟩
theorem knuth_done {hi lo y p U u1 u0 Y q1 q0:Int}(hp:0<p)(hY:y*p=Y)(hU:(hi*18446744073709551616+lo)*p=U*18446744073709551616+(u1*4294967296+u0))
 (F1:KF U u1 Y q1) (F2:KF (U*4294967296+u1-q1*Y) u0 Y q0):
 ((U*4294967296+u1-q1*Y)*4294967296+u0-q0*Y)/p=hi*18446744073709551616+lo-(q1*4294967296+q0)*y/\
   0<=hi*18446744073709551616+lo-(q1*4294967296+q0)*y/\hi*18446744073709551616+lo-(q1*4294967296+q0)*y<y:=by
 have e:(U*4294967296+u1-q1*Y)*4294967296+u0-q0*Y=(hi*18446744073709551616+lo-(q1*4294967296+q0)*y)*p:=by
  have e2:(hi*18446744073709551616+lo-(q1*4294967296+q0)*y)*p=(hi*18446744073709551616+lo)*p-(q1*4294967296+q0)*(y*p):=by rw[Int.sub_mul,Int.mul_assoc _ y p]
  rw[e2,hU,hY,Int.add_mul,Int.mul_right_comm];omega
 obtain⟨_,_,l1,g1⟩:=F1;obtain⟨_,_,l2,g2⟩:=F2;generalize hi*18446744073709551616+lo-(q1*4294967296+q0)*y=R at*;have h0:0<=R*p:=by omega
 have h1:R*p<y*p:=by rw[hY];omega
 refine⟨by rw[e];exact Int.mul_ediv_cancel _ (by omega),?_,?_⟩
 ·apply Classical.byContradiction
  intro hc;have:=Int.mul_le_mul_of_nonneg_right (show R<= -1 by omega) (show 0<=p by omega);omega
 ·exact Int.lt_of_mul_lt_mul_right h1 (by omega)
end Go.Proofs.YtdnheaafcbihbaaGreat.Dg
namespace Go.Proofs.YtdnheaafcbihbaaGreat
open Go Go.RowKit
theorem lz64 (y:Int)(w:World)(h0:0<y)(h1:y<18446744073709551616):Calls Tryz.prog 234 #[.int .u64 y] w fun e w' => ∃ s:Nat,e= .returned (.int .i64 s)/\w=w' /\s<=63/\9223372036854775808<=y*2 ^ s/\y*2 ^ s<18446744073709551616:=by
 obtain⟨n,rfl⟩:=Int.eq_ofNat_of_zero_le (show 0<=y by omega);have hb:=Lib.bitLenAux_bounds 64 n (by show n<18446744073709551616;omega) (by omega);have hle:Lib.bitLen n<=64:=Lib.bitLen_le n 64 (by omega) (by show n<18446744073709551616;omega);refine(Go.Proofs.Tryz.bits_LeadingZeros64 n w (by omega) (by omega)).mono fun e w' ⟨he,hw⟩=> ?_
 have hb' :1<=Lib.bitLen n/\2 ^ (Lib.bitLen n-1)<=n/\n<2 ^ Lib.bitLen n:=hb;obtain⟨k1,k2,k3⟩:=hb';simp only[Int.toNat_natCast] at he;generalize Lib.bitLen n=m at*
 have e1:n*2 ^ (64-m)<18446744073709551616:=by
  have h:=Nat.mul_lt_mul_of_pos_right k3 (Nat.pow_pos (n:=64-m) (show 0<2 by omega));rw[<- Nat.pow_add,show m+(64-m)=64 by omega] at h;exact h
 have e2:9223372036854775808<=n*2 ^ (64-m):=by
  have h:=Nat.mul_le_mul_right (2 ^ (64-m)) k2;rw[<- Nat.pow_add,show m-1+(64-m)=63 by omega] at h;exact h
 have e3:((n*2 ^ (64-m):Nat):Int)=(n:Int)*2 ^ (64-m):=by simp
 exact⟨64-m,by rw[he];congr 2;omega,hw.symm,by omega,by rw[<- e3];omega,by rw[<- e3];omega⟩
theorem or_add (a b:Int)(s:Nat)(ha:0<=a)(hb:0<=b)(hb1:b<2 ^ s)(hab:a*2 ^ s+b<18446744073709551616):bits .or .u64 (a*2 ^ s) b=a*2 ^ s+b:=by
 obtain⟨a,rfl⟩:=Int.eq_ofNat_of_zero_le ha;obtain⟨b,rfl⟩:=Int.eq_ofNat_of_zero_le hb;have e3:((a*2 ^ s:Nat):Int)=(a:Int)*2 ^ s:=by simp
 have hb2:b<2 ^ s:=by
  have:((2 ^ s:Nat):Int)=2 ^ s:=by simp
  omega
 rw[<- e3,bits_or_u64_nat _ _ (by omega) (by omega),<- Nat.shiftLeft_eq,<- Nat.shiftLeft_add_eq_or_of_lt hb2,Nat.shiftLeft_eq];omega
theorem shl_two (hi lo:Int)(s:Nat)(hs:s<=63)(h0:0<=hi)(h1:hi*2 ^ s+2 ^ s<=18446744073709551616)(l0:0<=lo)(l1:lo<18446744073709551616):
 ∃ U L:Int,bits .or .u64 (IntKind.u64.wrap (hi*2 ^ s)) (lo/2 ^ (64-s))=U/\IntKind.u64.wrap (lo*2 ^ s)=L/\U=hi*2 ^ s+lo/2 ^ (64-s)/\0<=L/\L<18446744073709551616/\
   (hi*18446744073709551616+lo)*2 ^ s=U*18446744073709551616+L/\0<=lo/2 ^ (64-s)/\lo/2 ^ (64-s)<2 ^ s:=by
 have hp:(0:Int)<2 ^ s:=Int.pow_pos (by omega);have hq:(0:Int)<2 ^ (64-s):=Int.pow_pos (by omega)
 have hpq:(2:Int) ^ (64-s)*2 ^ s=18446744073709551616:=by
  rw[<- Int.pow_add,show 64-s+s=64 by omega];rfl
 have hd0:=Int.ediv_nonneg l0 (Int.le_of_lt hq);have hm:=Int.mul_ediv_add_emod lo (2 ^ (64-s));have hm0:=Int.emod_nonneg lo (Int.ne_of_gt hq);have hm1:=Int.emod_lt_of_pos lo hq;generalize lo/2 ^ (64-s)=d at*;generalize lo%2 ^ (64-s)=r at*;generalize hP:(2:Int) ^ s=p at*;generalize(2:Int) ^ (64-s)=q at*;have hhp:0<=hi*p:=Int.mul_nonneg h0 (by omega)
 have hd1:d<p:=by
  apply Int.lt_of_mul_lt_mul_left (a:=q) ?_ (by omega)
  omega
 have erp:r*p<18446744073709551616:=by
  rw[<- hpq];exact Int.mul_lt_mul_of_pos_right hm1 hp
 have erp0:0<=r*p:=Int.mul_nonneg hm0 (by omega)
 have elo:lo*p=d*18446744073709551616+r*p:=by
  rw[<- hm,Int.add_mul,Int.mul_right_comm,hpq,Int.mul_comm]
 refine⟨_,_,rfl,rfl,?_,?_,?_,?_,hd0,hd1⟩
 ·have ew:IntKind.u64.wrap (hi*p)=hi*p:=by rw[IntKind.wrap_u64];omega
  rw[ew,<- hP];exact or_add hi d s h0 hd0 (by rw[hP];exact hd1) (by rw[hP];omega)
 ·rw[IntKind.wrap_u64];omega
 ·rw[IntKind.wrap_u64];omega
 ·have ew:IntKind.u64.wrap (hi*p)=hi*p:=by rw[IntKind.wrap_u64];omega
  have eo:bits .or .u64 (hi*p) d=hi*p+d:=by
   rw[<- hP];exact or_add hi d s h0 hd0 (by rw[hP];exact hd1) (by rw[hP];omega)
  rw[ew,eo,IntKind.wrap_u64,Int.add_mul,elo];have e5:hi*18446744073709551616*p=hi*p*18446744073709551616:=Int.mul_right_comm _ _ _;omega
def DvRet (hi lo y:Int)(w:World)(e:Ending)(w' :World):Prop:= ∃ q r:Int,e= .returned (.tuple #[.int .u64 q, .int .u64 r])/\Below w.heap.size w w' /\
 hi*18446744073709551616+lo=q*y+r/\0<=r/\r<y/\0<=q/\q<18446744073709551616
theorem unwrap3 {U u Y q:Int}(F:Dg.KF U u Y q)(hY:Y<18446744073709551616):IntKind.u64.wrap (IntKind.u64.wrap (IntKind.u64.wrap (U*4294967296)+u)-IntKind.u64.wrap (q*Y))=U*4294967296+u-q*Y:=by
 obtain⟨_,_,h1,h2⟩:=F;simp only[IntKind.wrap_u64];omega
theorem next_kd {U u u' Y q d1 d0:Int}(F:Dg.KF U u Y q)(D:Dg.KD U u Y d1 d0)(h0:0<=u')(h1:u' <4294967296):Dg.KD (U*4294967296+u-q*Y) u' Y d1 d0:=by
 obtain⟨_,_,f1,f2⟩:=F;exact⟨D.yd,D.a0,D.a1,D.b0,D.b1,h0,h1,by omega,by omega⟩
theorem div64_big (hi lo y:Int)(w:World)(hh:0<hi)(hy:hi<y)(hy1:y<18446744073709551616)(hl:0<=lo)(hl1:lo<18446744073709551616):
 Calls Tryz.prog 254 #[.int .u64 hi, .int .u64 lo, .int .u64 y] w (DvRet hi lo y w):=by
 have t1:(y==0)=false:=by simp;omega
 have t2:(hi==0)=false:=by simp;omega
 go_enter Tryz.func254,Tryz.ntmps254
 go_wp2_with fail;refine(lz64 y _ (by omega) hy1).mono ?_;rintro e w' ⟨s,rfl,rfl,hs,hy2,hy3⟩;have hp:(0:Int)<2 ^ s:=Int.pow_pos (by omega)
 have hhy:hi*2 ^ s+2 ^ s<=y*2 ^ s:=by
  have:=Int.mul_le_mul_of_nonneg_right (show hi+1<=y by omega) (Int.le_of_lt hp);rw[Int.add_mul] at this;omega
 obtain⟨U,L,eU,eL,hU,hL0,hL1,hUL,hd0,hd1⟩:=shl_two hi lo s hs (by omega) (by omega) hl hl1;have hU0:0<=U:=by have:=Int.mul_nonneg (show 0<=hi by omega) (Int.le_of_lt hp);omega
 have hU1:U<y*2 ^ s:=by omega
 have HPP:=Lib.hid hp;have HULX:=Lib.hid hUL;clear hhy hU hUL hd0 hd1 hp;obtain⟨Y,eY⟩:∃ Y,y*2 ^ s=Y:=⟨_,rfl⟩;rw[eY] at hy2 hy3 hU1;obtain⟨d1,e1⟩:∃ d1,Y/4294967296=d1:=⟨_,rfl⟩;obtain⟨d0,e0⟩:∃ d0,bits .and .u64 Y 4294967295=d0:=⟨_,rfl⟩;obtain⟨u1,f1⟩:∃ u1,L/4294967296=u1:=⟨_,rfl⟩;obtain⟨u0,f0⟩:∃ u0,bits .and .u64 L 4294967295=u0:=⟨_,rfl⟩;have e0' :=e0;have f0' :=f0;rw[and_low32 Y (by omega) (by omega)] at e0';rw[and_low32 L (by omega) (by omega)] at f0';have D:Dg.KD U u1 Y d1 d0:=⟨by omega,by omega,by omega,by omega,by omega,by omega,by omega,hU0,hU1⟩;have hd1a:2147483648<=d1:=D.b0;have hd1b:d1<4294967296:=D.b1;have hd0a:0<=d0:=D.a0;have hd0b:d0<4294967296:=D.a1;have hu1a:0<=u1:=D.u0;have hu1b:u1<4294967296:=D.u1;have HD:=Lib.hid D;have HE0:=Lib.hid e0';have HF0:=Lib.hid f0';clear e0' f0';have K0:=Dg.KN.start D;have hqa:0<=U/d1*d1:=Int.mul_nonneg (Int.ediv_nonneg hU0 (by omega)) (by omega);have hqb:U/d1*d1<=U:=Int.ediv_mul_le U (by omega);have hqc:=K0.q1;have hqd:=K0.q0;clear D;obtain⟨ri,eri⟩:∃ ri,U-U/d1*d1=ri:=⟨_,rfl⟩;rw[eri] at K0;have HK0:=Lib.hid K0;clear K0;go_wp2
 go_loop [15,16] (fun a b=> ∃ q r,a= .int .u64 q/\b= .int .u64 r/\Hid (Dg.KN U u1 Y d1 d0 q r)) (fun a _=>(intOf a).toNat)
 case atStart=>exact⟨_,_,rfl,rfl,HK0.out⟩
 case round=>
  obtain⟨q,r,rfl,rfl,K⟩:=hrel;have b1:=K.out.q0;have b2:=K.out.q1;have b3:=K.out.r0;have b4:=K.out.r1;have b5:0<=q*d0:=Int.mul_nonneg b1 hd0a
  by_cases hA:4294967296<=q
  ·by_cases hr:r+d1<4294967296
   ·have K1:=Lib.hid (Dg.KN.less HD.out K.out (Or.inl hA) hr);go_wp2
    go_round
    case rel=>exact⟨_,_,rfl,rfl,K1.out⟩
    case measure=>simp[intOf];omega
   ·have F:=Dg.KN.over HD.out K.out (Or.inl hA) (by omega);obtain⟨q1,eq1⟩:∃ q1,q-1=q1:=⟨_,rfl⟩;rw[eq1] at F;have HF:=Lib.hid F;have hq1a:=F.q0;have hq1b:=F.q1;clear F;obtain⟨U2,hU2⟩:∃ U2,U2=U*4294967296+u1-q1*Y:=⟨_,rfl⟩;have eU2:IntKind.u64.wrap (IntKind.u64.wrap (IntKind.u64.wrap (U*4294967296)+u1)-IntKind.u64.wrap (q1*Y))=U2:=by rw[hU2];exact unwrap3 HF.out hy3
    have D2:Dg.KD U2 u0 Y d1 d0:=by rw[hU2];exact next_kd HF.out HD.out (by have:=HF0.out;omega) (by have:=HF0.out;omega)
    have HU2:=Lib.hid hU2;clear hU2;have hU20:=D2.U0;have hU21:=D2.U1;have hu0a:=D2.u0;have hu0b:=D2.u1;have HD2:=Lib.hid D2;have K02:=Dg.KN.start D2;have hqa2:0<=U2/d1*d1:=Int.mul_nonneg (Int.ediv_nonneg hU20 (by omega)) (by omega);have hqb2:U2/d1*d1<=U2:=Int.ediv_mul_le U2 (by omega);have hqc2:=K02.q1;have hqd2:=K02.q0;clear D2;obtain⟨r2,er2⟩:∃ r2,U2-U2/d1*d1=r2:=⟨_,rfl⟩;rw[er2] at K02;have HK02:=Lib.hid K02;clear K02;go_wp2
    go_loop [18,16] (fun a b=> ∃ q r,a= .int .u64 q/\b= .int .u64 r/\Hid (Dg.KN U2 u0 Y d1 d0 q r)) (fun a _=>(intOf a).toNat)
    case atStart=>exact⟨_,_,rfl,rfl,HK02.out⟩
    case round=>
     clear K b1 b2 b3 b4 b5;obtain⟨q,r,rfl,rfl,K⟩:=hrel;have b1:=K.out.q0;have b2:=K.out.q1;have b3:=K.out.r0;have b4:=K.out.r1;have b5:0<=q*d0:=Int.mul_nonneg b1 hd0a
     by_cases hA:4294967296<=q
     ·by_cases hr:r+d1<4294967296
      ·have K1:=Lib.hid (Dg.KN.less HD2.out K.out (Or.inl hA) hr);go_wp2
       go_round
       case rel=>exact⟨_,_,rfl,rfl,K1.out⟩
       case measure=>simp[intOf];omega
      ·have F2:=Dg.KN.over HD2.out K.out (Or.inl hA) (by omega);obtain⟨p1,ep1⟩:∃ q1,q-1=q1:=⟨_,rfl⟩;rw[ep1] at F2;have HF2:=Lib.hid (show Dg.KF U2 u0 Y p1 from F2);have hp1a:=F2.q0;have hp1b:=F2.q1;clear F2;obtain⟨R2,hR2⟩:∃ R2,R2=U2*4294967296+u0-p1*Y:=⟨_,rfl⟩;have eR2:IntKind.u64.wrap (IntKind.u64.wrap (IntKind.u64.wrap (U2*4294967296)+u0)-IntKind.u64.wrap (p1*Y))=R2:=by rw[hR2];exact unwrap3 HF2.out hy3
       have HR2:=Lib.hid hR2;clear hR2;have hR20:0<=R2:=by have:=HF2.out.lo;have:=HR2.out;omega
       go_wp2
       go_ret2
       have hfin:=Dg.knuth_done HPP.out eY (hi:=hi) (lo:=lo) (U:=U) (u1:=u1) (u0:=u0) (by have:=HULX.out;have:=HF0.out;omega) HF.out (by have:=HF2.out;rw[HU2.out] at this;exact this);rw[<- HU2.out,<- HR2.out] at hfin;refine⟨_,R2/2 ^ s,rfl,Below.refl _ _,?_,?_,?_,?_,?_⟩
       ·rw[hfin.1];omega
       ·rw[hfin.1];exact hfin.2.1
       ·rw[hfin.1];exact hfin.2.2
       ·omega
       ·omega
     ·have b6:q*d0<=4294967295*4294967295:=Int.mul_le_mul (by omega) (by omega) hd0a (by omega)
      by_cases hB:4294967296*r+u0<q*d0
      ·by_cases hr:r+d1<4294967296
       ·have K1:=Lib.hid (Dg.KN.less HD2.out K.out (Or.inr ⟨by omega,hB⟩) hr);have hq1:1<=q:=(Dg.KN.step HD2.out K.out (Or.inr ⟨by omega,hB⟩)).1;go_wp2
        go_round
        case rel=>exact⟨_,_,rfl,rfl,K1.out⟩
        case measure=>simp[intOf];omega
       ·have F2:=Dg.KN.over HD2.out K.out (Or.inr ⟨by omega,hB⟩) (by omega);have hq1:1<=q:=(Dg.KN.step HD2.out K.out (Or.inr ⟨by omega,hB⟩)).1;obtain⟨p1,ep1⟩:∃ q1,q-1=q1:=⟨_,rfl⟩;rw[ep1] at F2;have HF2:=Lib.hid (show Dg.KF U2 u0 Y p1 from F2);have hp1a:=F2.q0;have hp1b:=F2.q1;clear F2;obtain⟨R2,hR2⟩:∃ R2,R2=U2*4294967296+u0-p1*Y:=⟨_,rfl⟩;have eR2:IntKind.u64.wrap (IntKind.u64.wrap (IntKind.u64.wrap (U2*4294967296)+u0)-IntKind.u64.wrap (p1*Y))=R2:=by rw[hR2];exact unwrap3 HF2.out hy3
        have HR2:=Lib.hid hR2;clear hR2;have hR20:0<=R2:=by have:=HF2.out.lo;have:=HR2.out;omega
        go_wp2
        go_ret2
        have hfin:=Dg.knuth_done HPP.out eY (hi:=hi) (lo:=lo) (U:=U) (u1:=u1) (u0:=u0) (by have:=HULX.out;have:=HF0.out;omega) HF.out (by have:=HF2.out;rw[HU2.out] at this;exact this);rw[<- HU2.out,<- HR2.out] at hfin;refine⟨_,R2/2 ^ s,rfl,Below.refl _ _,?_,?_,?_,?_,?_⟩
        ·rw[hfin.1];omega
        ·rw[hfin.1];exact hfin.2.1
        ·rw[hfin.1];exact hfin.2.2
        ·omega
        ·omega
      ·have F2:=Dg.KN.stop HD2.out K.out (by omega) (by omega);obtain⟨p1,rfl⟩:∃ q1,q1=q:=⟨_,rfl⟩;have HF2:=Lib.hid (show Dg.KF U2 u0 Y p1 from F2);have hp1a:=F2.q0;have hp1b:=F2.q1;clear F2;obtain⟨R2,hR2⟩:∃ R2,R2=U2*4294967296+u0-p1*Y:=⟨_,rfl⟩;have eR2:IntKind.u64.wrap (IntKind.u64.wrap (IntKind.u64.wrap (U2*4294967296)+u0)-IntKind.u64.wrap (p1*Y))=R2:=by rw[hR2];exact unwrap3 HF2.out hy3
       have HR2:=Lib.hid hR2;clear hR2;have hR20:0<=R2:=by have:=HF2.out.lo;have:=HR2.out;omega
       go_wp2
       go_ret2
       have hfin:=Dg.knuth_done HPP.out eY (hi:=hi) (lo:=lo) (U:=U) (u1:=u1) (u0:=u0) (by have:=HULX.out;have:=HF0.out;omega) HF.out (by have:=HF2.out;rw[HU2.out] at this;exact this);rw[<- HU2.out,<- HR2.out] at hfin;refine⟨_,R2/2 ^ s,rfl,Below.refl _ _,?_,?_,?_,?_,?_⟩
       ·rw[hfin.1];omega
       ·rw[hfin.1];exact hfin.2.1
       ·rw[hfin.1];exact hfin.2.2
       ·omega
       ·omega
  ·have b6:q*d0<=4294967295*4294967295:=Int.mul_le_mul (by omega) (by omega) hd0a (by omega)
   by_cases hB:4294967296*r+u1<q*d0
   ·by_cases hr:r+d1<4294967296
    ·have K1:=Lib.hid (Dg.KN.less HD.out K.out (Or.inr ⟨by omega,hB⟩) hr);have hq1:1<=q:=(Dg.KN.step HD.out K.out (Or.inr ⟨by omega,hB⟩)).1;go_wp2
     go_round
     case rel=>exact⟨_,_,rfl,rfl,K1.out⟩
     case measure=>simp[intOf];omega
    ·have F:=Dg.KN.over HD.out K.out (Or.inr ⟨by omega,hB⟩) (by omega);have hq1:1<=q:=(Dg.KN.step HD.out K.out (Or.inr ⟨by omega,hB⟩)).1;obtain⟨q1,eq1⟩:∃ q1,q-1=q1:=⟨_,rfl⟩;rw[eq1] at F;have HF:=Lib.hid F;have hq1a:=F.q0;have hq1b:=F.q1;clear F;obtain⟨U2,hU2⟩:∃ U2,U2=U*4294967296+u1-q1*Y:=⟨_,rfl⟩;have eU2:IntKind.u64.wrap (IntKind.u64.wrap (IntKind.u64.wrap (U*4294967296)+u1)-IntKind.u64.wrap (q1*Y))=U2:=by rw[hU2];exact unwrap3 HF.out hy3
     have D2:Dg.KD U2 u0 Y d1 d0:=by rw[hU2];exact next_kd HF.out HD.out (by have:=HF0.out;omega) (by have:=HF0.out;omega)
     have HU2:=Lib.hid hU2;clear hU2;have hU20:=D2.U0;have hU21:=D2.U1;have hu0a:=D2.u0;have hu0b:=D2.u1;have HD2:=Lib.hid D2;have K02:=Dg.KN.start D2;have hqa2:0<=U2/d1*d1:=Int.mul_nonneg (Int.ediv_nonneg hU20 (by omega)) (by omega);have hqb2:U2/d1*d1<=U2:=Int.ediv_mul_le U2 (by omega);have hqc2:=K02.q1;have hqd2:=K02.q0;clear D2;obtain⟨r2,er2⟩:∃ r2,U2-U2/d1*d1=r2:=⟨_,rfl⟩;rw[er2] at K02;have HK02:=Lib.hid K02;clear K02;go_wp2
     go_loop [18,16] (fun a b=> ∃ q r,a= .int .u64 q/\b= .int .u64 r/\Hid (Dg.KN U2 u0 Y d1 d0 q r)) (fun a _=>(intOf a).toNat)
     case atStart=>exact⟨_,_,rfl,rfl,HK02.out⟩
     case round=>
      clear K b1 b2 b3 b4 b5;obtain⟨q,r,rfl,rfl,K⟩:=hrel;have b1:=K.out.q0;have b2:=K.out.q1;have b3:=K.out.r0;have b4:=K.out.r1;have b5:0<=q*d0:=Int.mul_nonneg b1 hd0a
      by_cases hA:4294967296<=q
      ·by_cases hr:r+d1<4294967296
       ·have K1:=Lib.hid (Dg.KN.less HD2.out K.out (Or.inl hA) hr);go_wp2
        go_round
        case rel=>exact⟨_,_,rfl,rfl,K1.out⟩
        case measure=>simp[intOf];omega
       ·have F2:=Dg.KN.over HD2.out K.out (Or.inl hA) (by omega);obtain⟨p1,ep1⟩:∃ q1,q-1=q1:=⟨_,rfl⟩;rw[ep1] at F2;have HF2:=Lib.hid (show Dg.KF U2 u0 Y p1 from F2);have hp1a:=F2.q0;have hp1b:=F2.q1;clear F2;obtain⟨R2,hR2⟩:∃ R2,R2=U2*4294967296+u0-p1*Y:=⟨_,rfl⟩;have eR2:IntKind.u64.wrap (IntKind.u64.wrap (IntKind.u64.wrap (U2*4294967296)+u0)-IntKind.u64.wrap (p1*Y))=R2:=by rw[hR2];exact unwrap3 HF2.out hy3
        have HR2:=Lib.hid hR2;clear hR2;have hR20:0<=R2:=by have:=HF2.out.lo;have:=HR2.out;omega
        go_wp2
        go_ret2
        have hfin:=Dg.knuth_done HPP.out eY (hi:=hi) (lo:=lo) (U:=U) (u1:=u1) (u0:=u0) (by have:=HULX.out;have:=HF0.out;omega) HF.out (by have:=HF2.out;rw[HU2.out] at this;exact this);rw[<- HU2.out,<- HR2.out] at hfin;refine⟨_,R2/2 ^ s,rfl,Below.refl _ _,?_,?_,?_,?_,?_⟩
        ·rw[hfin.1];omega
        ·rw[hfin.1];exact hfin.2.1
        ·rw[hfin.1];exact hfin.2.2
        ·omega
        ·omega
      ·have b6:q*d0<=4294967295*4294967295:=Int.mul_le_mul (by omega) (by omega) hd0a (by omega)
       by_cases hB:4294967296*r+u0<q*d0
       ·by_cases hr:r+d1<4294967296
        ·have K1:=Lib.hid (Dg.KN.less HD2.out K.out (Or.inr ⟨by omega,hB⟩) hr);have hq1:1<=q:=(Dg.KN.step HD2.out K.out (Or.inr ⟨by omega,hB⟩)).1;go_wp2
         go_round
         case rel=>exact⟨_,_,rfl,rfl,K1.out⟩
         case measure=>simp[intOf];omega
        ·have F2:=Dg.KN.over HD2.out K.out (Or.inr ⟨by omega,hB⟩) (by omega);have hq1:1<=q:=(Dg.KN.step HD2.out K.out (Or.inr ⟨by omega,hB⟩)).1;obtain⟨p1,ep1⟩:∃ q1,q-1=q1:=⟨_,rfl⟩;rw[ep1] at F2;have HF2:=Lib.hid (show Dg.KF U2 u0 Y p1 from F2);have hp1a:=F2.q0;have hp1b:=F2.q1;clear F2;obtain⟨R2,hR2⟩:∃ R2,R2=U2*4294967296+u0-p1*Y:=⟨_,rfl⟩;have eR2:IntKind.u64.wrap (IntKind.u64.wrap (IntKind.u64.wrap (U2*4294967296)+u0)-IntKind.u64.wrap (p1*Y))=R2:=by rw[hR2];exact unwrap3 HF2.out hy3
         have HR2:=Lib.hid hR2;clear hR2;have hR20:0<=R2:=by have:=HF2.out.lo;have:=HR2.out;omega
         go_wp2
         go_ret2
         have hfin:=Dg.knuth_done HPP.out eY (hi:=hi) (lo:=lo) (U:=U) (u1:=u1) (u0:=u0) (by have:=HULX.out;have:=HF0.out;omega) HF.out (by have:=HF2.out;rw[HU2.out] at this;exact this);rw[<- HU2.out,<- HR2.out] at hfin;refine⟨_,R2/2 ^ s,rfl,Below.refl _ _,?_,?_,?_,?_,?_⟩
         ·rw[hfin.1];omega
         ·rw[hfin.1];exact hfin.2.1
         ·rw[hfin.1];exact hfin.2.2
         ·omega
         ·omega
       ·have F2:=Dg.KN.stop HD2.out K.out (by omega) (by omega);obtain⟨p1,rfl⟩:∃ q1,q1=q:=⟨_,rfl⟩;have HF2:=Lib.hid (show Dg.KF U2 u0 Y p1 from F2);have hp1a:=F2.q0;have hp1b:=F2.q1;clear F2;obtain⟨R2,hR2⟩:∃ R2,R2=U2*4294967296+u0-p1*Y:=⟨_,rfl⟩;have eR2:IntKind.u64.wrap (IntKind.u64.wrap (IntKind.u64.wrap (U2*4294967296)+u0)-IntKind.u64.wrap (p1*Y))=R2:=by rw[hR2];exact unwrap3 HF2.out hy3
        have HR2:=Lib.hid hR2;clear hR2;have hR20:0<=R2:=by have:=HF2.out.lo;have:=HR2.out;omega
        go_wp2
        go_ret2
        have hfin:=Dg.knuth_done HPP.out eY (hi:=hi) (lo:=lo) (U:=U) (u1:=u1) (u0:=u0) (by have:=HULX.out;have:=HF0.out;omega) HF.out (by have:=HF2.out;rw[HU2.out] at this;exact this);rw[<- HU2.out,<- HR2.out] at hfin;refine⟨_,R2/2 ^ s,rfl,Below.refl _ _,?_,?_,?_,?_,?_⟩
        ·rw[hfin.1];omega
        ·rw[hfin.1];exact hfin.2.1
        ·rw[hfin.1];exact hfin.2.2
        ·omega
        ·omega
   ·have F:=Dg.KN.stop HD.out K.out (by omega) (by omega);obtain⟨q1,rfl⟩:∃ q1,q1=q:=⟨_,rfl⟩;have HF:=Lib.hid F;have hq1a:=F.q0;have hq1b:=F.q1;clear F;obtain⟨U2,hU2⟩:∃ U2,U2=U*4294967296+u1-q1*Y:=⟨_,rfl⟩;have eU2:IntKind.u64.wrap (IntKind.u64.wrap (IntKind.u64.wrap (U*4294967296)+u1)-IntKind.u64.wrap (q1*Y))=U2:=by rw[hU2];exact unwrap3 HF.out hy3
    have D2:Dg.KD U2 u0 Y d1 d0:=by rw[hU2];exact next_kd HF.out HD.out (by have:=HF0.out;omega) (by have:=HF0.out;omega)
    have HU2:=Lib.hid hU2;clear hU2;have hU20:=D2.U0;have hU21:=D2.U1;have hu0a:=D2.u0;have hu0b:=D2.u1;have HD2:=Lib.hid D2;have K02:=Dg.KN.start D2;have hqa2:0<=U2/d1*d1:=Int.mul_nonneg (Int.ediv_nonneg hU20 (by omega)) (by omega);have hqb2:U2/d1*d1<=U2:=Int.ediv_mul_le U2 (by omega);have hqc2:=K02.q1;have hqd2:=K02.q0;clear D2;obtain⟨r2,er2⟩:∃ r2,U2-U2/d1*d1=r2:=⟨_,rfl⟩;rw[er2] at K02;have HK02:=Lib.hid K02;clear K02;go_wp2
    go_loop [18,16] (fun a b=> ∃ q r,a= .int .u64 q/\b= .int .u64 r/\Hid (Dg.KN U2 u0 Y d1 d0 q r)) (fun a _=>(intOf a).toNat)
    case atStart=>exact⟨_,_,rfl,rfl,HK02.out⟩
    case round=>
     clear K b1 b2 b3 b4 b5;obtain⟨q,r,rfl,rfl,K⟩:=hrel;have b1:=K.out.q0;have b2:=K.out.q1;have b3:=K.out.r0;have b4:=K.out.r1;have b5:0<=q*d0:=Int.mul_nonneg b1 hd0a
     by_cases hA:4294967296<=q
     ·by_cases hr:r+d1<4294967296
      ·have K1:=Lib.hid (Dg.KN.less HD2.out K.out (Or.inl hA) hr);go_wp2
       go_round
       case rel=>exact⟨_,_,rfl,rfl,K1.out⟩
       case measure=>simp[intOf];omega
      ·have F2:=Dg.KN.over HD2.out K.out (Or.inl hA) (by omega);obtain⟨p1,ep1⟩:∃ q1,q-1=q1:=⟨_,rfl⟩;rw[ep1] at F2;have HF2:=Lib.hid (show Dg.KF U2 u0 Y p1 from F2);have hp1a:=F2.q0;have hp1b:=F2.q1;clear F2;obtain⟨R2,hR2⟩:∃ R2,R2=U2*4294967296+u0-p1*Y:=⟨_,rfl⟩;have eR2:IntKind.u64.wrap (IntKind.u64.wrap (IntKind.u64.wrap (U2*4294967296)+u0)-IntKind.u64.wrap (p1*Y))=R2:=by rw[hR2];exact unwrap3 HF2.out hy3
       have HR2:=Lib.hid hR2;clear hR2;have hR20:0<=R2:=by have:=HF2.out.lo;have:=HR2.out;omega
       go_wp2
       go_ret2
       have hfin:=Dg.knuth_done HPP.out eY (hi:=hi) (lo:=lo) (U:=U) (u1:=u1) (u0:=u0) (by have:=HULX.out;have:=HF0.out;omega) HF.out (by have:=HF2.out;rw[HU2.out] at this;exact this);rw[<- HU2.out,<- HR2.out] at hfin;refine⟨_,R2/2 ^ s,rfl,Below.refl _ _,?_,?_,?_,?_,?_⟩
       ·rw[hfin.1];omega
       ·rw[hfin.1];exact hfin.2.1
       ·rw[hfin.1];exact hfin.2.2
       ·omega
       ·omega
     ·have b6:q*d0<=4294967295*4294967295:=Int.mul_le_mul (by omega) (by omega) hd0a (by omega)
      by_cases hB:4294967296*r+u0<q*d0
      ·by_cases hr:r+d1<4294967296
       ·have K1:=Lib.hid (Dg.KN.less HD2.out K.out (Or.inr ⟨by omega,hB⟩) hr);have hq1:1<=q:=(Dg.KN.step HD2.out K.out (Or.inr ⟨by omega,hB⟩)).1;go_wp2
        go_round
        case rel=>exact⟨_,_,rfl,rfl,K1.out⟩
        case measure=>simp[intOf];omega
       ·have F2:=Dg.KN.over HD2.out K.out (Or.inr ⟨by omega,hB⟩) (by omega);have hq1:1<=q:=(Dg.KN.step HD2.out K.out (Or.inr ⟨by omega,hB⟩)).1;obtain⟨p1,ep1⟩:∃ q1,q-1=q1:=⟨_,rfl⟩;rw[ep1] at F2;have HF2:=Lib.hid (show Dg.KF U2 u0 Y p1 from F2);have hp1a:=F2.q0;have hp1b:=F2.q1;clear F2;obtain⟨R2,hR2⟩:∃ R2,R2=U2*4294967296+u0-p1*Y:=⟨_,rfl⟩;have eR2:IntKind.u64.wrap (IntKind.u64.wrap (IntKind.u64.wrap (U2*4294967296)+u0)-IntKind.u64.wrap (p1*Y))=R2:=by rw[hR2];exact unwrap3 HF2.out hy3
        have HR2:=Lib.hid hR2;clear hR2;have hR20:0<=R2:=by have:=HF2.out.lo;have:=HR2.out;omega
        go_wp2
        go_ret2
        have hfin:=Dg.knuth_done HPP.out eY (hi:=hi) (lo:=lo) (U:=U) (u1:=u1) (u0:=u0) (by have:=HULX.out;have:=HF0.out;omega) HF.out (by have:=HF2.out;rw[HU2.out] at this;exact this);rw[<- HU2.out,<- HR2.out] at hfin;refine⟨_,R2/2 ^ s,rfl,Below.refl _ _,?_,?_,?_,?_,?_⟩
        ·rw[hfin.1];omega
        ·rw[hfin.1];exact hfin.2.1
        ·rw[hfin.1];exact hfin.2.2
        ·omega
        ·omega
      ·have F2:=Dg.KN.stop HD2.out K.out (by omega) (by omega);obtain⟨p1,rfl⟩:∃ q1,q1=q:=⟨_,rfl⟩;have HF2:=Lib.hid (show Dg.KF U2 u0 Y p1 from F2);have hp1a:=F2.q0;have hp1b:=F2.q1;clear F2;obtain⟨R2,hR2⟩:∃ R2,R2=U2*4294967296+u0-p1*Y:=⟨_,rfl⟩;have eR2:IntKind.u64.wrap (IntKind.u64.wrap (IntKind.u64.wrap (U2*4294967296)+u0)-IntKind.u64.wrap (p1*Y))=R2:=by rw[hR2];exact unwrap3 HF2.out hy3
       have HR2:=Lib.hid hR2;clear hR2;have hR20:0<=R2:=by have:=HF2.out.lo;have:=HR2.out;omega
       go_wp2
       go_ret2
       have hfin:=Dg.knuth_done HPP.out eY (hi:=hi) (lo:=lo) (U:=U) (u1:=u1) (u0:=u0) (by have:=HULX.out;have:=HF0.out;omega) HF.out (by have:=HF2.out;rw[HU2.out] at this;exact this);rw[<- HU2.out,<- HR2.out] at hfin;refine⟨_,R2/2 ^ s,rfl,Below.refl _ _,?_,?_,?_,?_,?_⟩
       ·rw[hfin.1];omega
       ·rw[hfin.1];exact hfin.2.1
       ·rw[hfin.1];exact hfin.2.2
       ·omega
       ·omega
theorem belowN (w:World)(n:Nat):Below w.heap.size w (w.drewN n):=⟨rfl,rfl,rfl,Nat.le_refl _,fun _ _=>rfl⟩
theorem div64_any (hi lo y:Int)(w:World)(hh:0<=hi)(hy:hi<y)(hy1:y<18446744073709551616)(hl:0<=lo)(hl1:lo<18446744073709551616):
 Calls Tryz.prog 254 #[.int .u64 hi, .int .u64 lo, .int .u64 y] w (DvRet hi lo y w):=by
 by_cases h0:0<hi
 ·exact div64_big hi lo y w h0 hy hy1 hl hl1
 ·obtain rfl:hi=0:=by omega
  have t1:(y==0)=false:=by simp;omega
  have hd0:=Int.ediv_nonneg hl (show 0<=y by omega);have hd1:=Int.mul_ediv_add_emod lo y;have hd2:=Int.emod_nonneg lo (show y≠0 by omega);have hd3:=Int.emod_lt_of_pos lo (show 0<y by omega);have hd4:=Int.ediv_le_self y hl;have HD:=Lib.hid hd1;clear hd1
  go_enter Tryz.func254,Tryz.ntmps254
  go_wp2
  go_quiet (fail)
  go_wp2
  go_ret2
  exact⟨lo/y,lo%y,rfl,belowN _ _,by have:=HD.out;rw[Int.mul_comm] at this;omega,hd2,hd3,hd0,by omega⟩
def DwRet (L:Nat)(w:World)(m y:Int)(e:Ending)(w' :World):Prop:= ∃ v' r,e= .returned (.tuple #[v', .int .u64 r])/\Below w.heap.size w w' /\Num L w' v' (m/y)/\r=m%y/\Frm w.heap.size v'
def DwAt (xs T:List Int)(k:Nat)(r y:Int):Prop:=T.length=xs.length/\Dg.Wf BW T/\0<=r/\r<y/\Dg.val BW (T.drop k)*y+r=Dg.val BW (xs.drop k)
theorem DwAt.start (xs:List Int){y:Int}(hy:0<y):DwAt xs (List.replicate xs.length 0) xs.length 0 y:=
 ⟨by simp,Dg.Wf.zeros (by decide) _,by omega,hy,by simp[Dg.val]⟩
theorem DwAt.next {xs T:List Int}{k:Nat}{r y x q r' :Int}(h:DwAt xs T (k+1) r y)(hk:k<xs.length)(hx:x=xs[k]?.getD 0)
 (he:r*18446744073709551616+x=q*y+r') (r0:0<=r') (r1:r' <y) (q0:0<=q) (q1:q<18446744073709551616):DwAt xs (T.set k q) k r' y:=by
 obtain⟨hl,hw,_,_,hv⟩:=h;refine⟨by simpa using hl,hw.set k q0 q1,r0,r1,?_⟩
 have e1:(T.set k q).drop k=q::T.drop (k+1):=by
  rw[List.drop_eq_getElem_cons (by simp;omega)];simp[List.drop_set]
 have e2:xs.drop k=x::xs.drop (k+1):=by
  rw[List.drop_eq_getElem_cons hk,hx];simp[hk]
 rw[e1,e2,Dg.val_cons,Dg.val_cons,<- hv];generalize Dg.val BW (T.drop (k+1))=t;unfold BW;rw[Int.add_mul,Int.mul_add,Int.mul_assoc];omega
theorem DwAt.done {xs T:List Int}{r y:Int}(h:DwAt xs T 0 r y):Dg.Wf BW T/\Dg.val BW T=Dg.val BW xs/y/\r=Dg.val BW xs%y:=by
 obtain⟨hl,hw,r0,r1,hv⟩:=h;simp only[List.drop_zero] at hv;refine⟨hw,?_,?_⟩
 ·rw[<- hv,Int.add_comm,Int.add_mul_ediv_right _ _ (by omega),Int.ediv_eq_zero_of_lt r0 r1];omega
 ·rw[<- hv,Int.add_comm,Int.add_mul_emod_self_right,Int.emod_eq_of_lt r0 r1]
theorem divideByWord_any (va:Value)(xs:List Int)(y:Int)(w:World)(ha:Sl .u64 w va xs)(hwa:Dg.Wf BW xs)(hy:0<y)(hy1:y<18446744073709551616)(hmx:xs.length<=17000000000000):
 Calls Tryz.prog 227 #[va, .int .u64 y] w (DwRet xs.length w (Dg.val BW xs) y):=by
 obtain⟨ao,cap,rfl,hcap,hmax,hc⟩:=ha;unfold maxLen at hmax
 go_enter Tryz.func227,Tryz.ntmps227
 go_wp2_with (at_make;refine wpList_make_zeros _ rfl _ _ 96 rfl 165 .u64 Tryz.underlying96 info_u64 _ _ xs.length rfl rfl (by omega) (by omega) (by omega) ?_)
 intro w1 hrow hbel;go_wp2
 go_loopw [5,6] (fun c i wr=> ∃ (k:Nat) (j r:Int) (T:List Int),k<=xs.length/\Hid (j+1=k)/\i= .int .i64 j/\c= .int .u64 r/\Hid (DwAt xs T k r y)/\Row 165 .u64 wr w.heap.size T/\Below w.heap.size w wr) (fun _ i _=>(intOf i+1).toNat)
 case atStart=>exact⟨xs.length,_,0,_,Nat.le_refl _,by show _-(1:Int)+1=_;omega,rfl,rfl,DwAt.start xs hy,hrow,hbel⟩
 case round=>
  obtain⟨k,j,r,T,hk,hj,rfl,rfl,hat,hr,hbl⟩:=hrel;clear hrow hbel;have hr0:0<=r:=hat.out.2.2.1;have hr1:r<y:=hat.out.2.2.2.1;have HTL:=Lib.hid hat.out.1
  by_cases h0:0<k
  ·obtain⟨k,rfl⟩:∃ j,k=j+1:=⟨k-1,by omega⟩;obtain rfl:j=(k:Int):=by have:=hj.out;omega
   clear hj;obtain⟨b,o,rfl,hbs,hcell⟩:=hc k (by omega);obtain⟨x,hx⟩:∃ x,x=xs[k]?.getD 0:=⟨_,rfl⟩;have hxb:=wfD hwa k;rw[<- hx] at hcell hxb;have HX:=Lib.hid hx;have hcl:=(hbl.cell (p:=⟨b,o+k,none⟩) hbs).trans hcell;have hcz:=hr.cell (i:=k) (by have:=HTL.out;omega);have hfz:=hr.free k;have hki:k<xs.length:=by omega
   clear hx hcell hc;go_wp2_with fail;refine(div64_any r x y _ hr0 hr1 hy1 hxb.1 hxb.2).mono ?_;rintro e w2 ⟨q,r',rfl,hb2,hv,k0,k1,q0,q1⟩;have hr2:=hr.below hb2;have hbl2:=hbl.trans (hb2.mono hbl.size);have hcz2:=hr2.cell (i:=k) (by have:=HTL.out;omega);have hfz2:=hr2.free k;have HV:=Lib.hid hv;clear hv hcz hfz;go_wp2;go_roundw
   case rel=>exact⟨k,(k:Int)-1,r',T.set k q,by omega,by show _-(1:Int)+1=_;omega,by first|rfl|go_num,rfl,hat.out.next hki HX.out HV.out k0 k1 q0 q1,hr2.set k q,hbl2.setCell (Nat.le_refl _) _⟩
   case measure=>simp[intOf]<;>omega
  ·obtain rfl:k=0:=by omega
   obtain rfl:j= -1:=by have:=hj.out;omega
   obtain⟨hdw,hdv,hdr⟩:=hat.out.done;have hSl:=hr.slAll (n:=xs.length) (cap:=xs.length) HTL.out.symm (Nat.le_refl _) (by unfold maxLen;omega);have HV:=Lib.hid hdv;have HR:=Lib.hid hdr;clear hdv hdr hj hat
   go_wp2_with (go_at_call 196;refine(cut_num hSl hdw).mono ?_;rintro e w' ⟨v',rfl,rfl,hn,hob⟩;have HOB:=Lib.hid hob;clear hob)
   go_ret2
   rw[HV.out,HTL.out] at hn;exact⟨_,_,rfl,hbl,hn,HR.out,(Frm.mk (Nat.le_refl _)).of HOB.out⟩
theorem divideByWord_num {L:Nat}{va:Value}{m y:Int}{w:World}(ha:Num L w va m)(hy:0<y)(hy1:y<18446744073709551616)(hL:L<=17000000000000):
 Calls Tryz.prog 227 #[va, .int .u64 y] w (DwRet L w m y):=by
 obtain⟨xs,a1,a2,a3,rfl,a5⟩:=ha;exact(divideByWord_any va xs y w a1 a2 hy hy1 (by omega)).mono fun e w' ⟨v',r,h1,h2,h3,h4⟩=>⟨v',r,h1,h2,h3.mono a5,h4⟩
end Go.Proofs.YtdnheaafcbihbaaGreat
