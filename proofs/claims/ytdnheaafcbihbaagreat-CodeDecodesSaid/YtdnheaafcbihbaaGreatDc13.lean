/-
  Texts of the proof, merged by program: TShr2 TDiv TDivn TDivm TDivl TMap TLeh TGcw TLead TFore TTake TGcd TIdiv.
-/
import Derived.Test.YtdnheaafcbihbaaGreatDc12
import Derived.Laws.CopyOwn
import Derived.RegionTactic
import Derived.Deep.QuietTactic
import Derived.BigQuiet
import Derived.Deep.DeepFit
import Derived.Deep.RegionHeld3
import Derived.Deep.LoopGhost
set_option linter.unusedSimpArgs false
set_option linter.unusedVariables false
set_option maxHeartbeats 16000000
namespace Go.Proofs.YtdnheaafcbihbaaGreat
open Go Go.RowKit
set_option maxRecDepth 20000 in
theorem shiftRight_at (v:Value)(xs:List Int)(c:Int)(W s:Nat)(w:World)(hv:Sl .u64 w v xs)(hw:Dg.Wf BW xs)(hc0:0<=c)(hc1:c<=9223372036854775807)
 (hq:c.tdiv 64=W) (hr:c.tmod 64=s) (hs:s<=63) (hmx:xs.length<=17000000000000):
 Calls Tryz.prog 237 #[v, .int .i64 c] w (RetNum xs.length w (Dg.val BW xs/(BW ^ W*2 ^ s))):=by
 have hv' :=hv;obtain⟨ao,cap,rfl,hcap,hmax,hc⟩:=hv;unfold maxLen at hmax;have hWb:(W:Int)<=9223372036854775807:=by rw[<- hq,Int.tdiv_eq_ediv_of_nonneg hc0];omega
 by_cases hge:xs.length<=W
 ·have hz:Dg.val BW xs/(BW ^ W*2 ^ s)=0:=by
   have b0:=Dg.val_nonneg (B:=BW) (by decide) hw;have b1:=Dg.val_lt (B:=BW) (by decide) hw;have h1:BW ^ xs.length<=BW ^ W:=Dg.pow_mono (by decide) hge;have h2:BW ^ W*1<=BW ^ W*2 ^ s:=Int.mul_le_mul_of_nonneg_left (Dg.pow_pos (by omega) s) (Int.le_of_lt (Dg.pow_pos (by decide) W));exact Int.ediv_eq_zero_of_lt b0 (by omega)
  rw[hz];clear hz
  go_enter Tryz.func237,Tryz.ntmps237
  go_wp2
  go_ret
  exact⟨Below.refl _ _,_,rfl,⟨[],Sl.nil _ _,Dg.Wf.nil _,Dg.Nz.nil,rfl,Nat.zero_le _⟩,Frm.nil _⟩
 ·obtain⟨n,hn⟩:∃ n,xs.length=W+n:=⟨xs.length-W,by omega⟩;rw[<- shr_val hw W s (by omega)];have hyl:Hid ((xs.drop W).length=n):=by show _=_;simp;omega
  have hyw:=hw.drop W;obtain⟨ys,hys⟩:∃ ys,ys=xs.drop W:=⟨_,rfl⟩;have HYS:=Lib.hid hys;rw[<- hys] at hyl hyw ⊢;clear hys;have HN:=Lib.hid hn
  go_enter Tryz.func237,Tryz.ntmps237
  go_wp2_with (at_make;refine wpList_make_zeros _ rfl _ _ 96 rfl 165 .u64 Tryz.underlying96 info_u64 _ _ n rfl rfl (by omega) (by omega) (by omega) ?_)
  intro w1 hrow hbel;go_wp2
  go_loopw [24] (fun i wr=> ∃ (k:Nat) (T:List Int),k<=n/\i= .int .i64 k/\Hid (ShrAt ys T s k)/\Row 165 .u64 wr w.heap.size T/\Below w.heap.size w wr) (fun i _=>n-(intOf i).toNat)
  case atStart=>exact⟨0,_,Nat.zero_le _,rfl,by have:=ShrAt.start ys s;rw[hyl.out] at this;exact this,hrow,hbel⟩
  case round=>
   obtain⟨k,T,hk,rfl,hat,hr2,hbl⟩:=hrel;clear hrow hbel
   by_cases hlt:k<n
   ·obtain⟨b,o,rfl,hbs,hcell⟩:=hc (k+W) (by omega);obtain⟨x,hx⟩:∃ x,x=xs[k+W]?.getD 0:=⟨_,rfl⟩;obtain⟨y,hy⟩:∃ y,y=xs[k+W+1]?.getD 0:=⟨_,rfl⟩;have hxb:=wfD hw (k+W);have hyb:=wfD hw (k+W+1);rw[<- hx] at hcell hxb;rw[<- hy] at hyb;have hcl:=(hbl.cell (p:=⟨b,o+(k+W),none⟩) hbs).trans hcell;have htl:T.length=n:=by rw[hat.out.len];exact hyl.out
    have hcz:=hr2.cell (i:=k) (by omega);rw[hat.out.zero k (Nat.le_refl _)] at hcz;have hfz:=hr2.free k;have hsl:Hid (Sl .u64 wr (.slice (some ⟨b,o,none⟩) (W+n) cap) xs):=by show Sl _ _ _ _;rw[<- HN.out];exact hv'.below hbl
    obtain⟨r,er,r0,r1,he⟩:=shr_one x y s hs hxb.1 hxb.2 hyb.1 hyb.2;have HX:Hid (x=ys[k]?.getD 0):=by show _=_;rw[hx,HYS.out,List.getElem?_drop,Nat.add_comm]
    have HY:Hid (y=ys[k+1]?.getD 0):=by show _=_;rw[hy,HYS.out,List.getElem?_drop,show W+(k+1)=k+W+1 by omega]
    have HYY:=Lib.hid hy;have HE:=Lib.hid he;have HTL:=Lib.hid htl;clear hx hy he hcell htl
    have hWA:Hid (∀ w' :World,Sl .u64 w' (.slice (some ⟨b,o,none⟩) (W+n) cap) xs->Calls Tryz.prog 239 #[.slice (some ⟨b,o,none⟩) (W+n) cap, .int .i64 ((k:Int)+W+1)] w' fun e w'' =>e= .returned (.int .u64 y)/\w' =w''):=by
     intro w' hs';have:=wordAt_any hs' (k+W+1) y HYY
     simpa using this
    have j0:(0:Int)<=(k:Int)+W:=by omega
    have j1:(k:Int)+W<(W:Int)+n:=by omega
    have j2:IntKind.i64.wrap ((k:Int)+W)=(k:Int)+W:=by rw[IntKind.wrap_i64];omega
    have j3:((k:Int)+W).toNat=k+W:=by omega
    have j4:(0:Int)<=(k:Int):=by omega
    have j5:(k:Int)<(n:Int):=by omega
    have j6:IntKind.i64.wrap ((k:Int)+W+1)=(k:Int)+W+1:=by rw[IntKind.wrap_i64];omega
    have j7:IntKind.i64.wrap (64-(s:Int))=64-(s:Int):=by rw[IntKind.wrap_i64];omega
    have j8:(0:Int)<=64-(s:Int):=by omega
    have j9:(64-(s:Int)).toNat=64-s:=by omega
    have hkeep:Hid (∀ v:Value,(wr.setCell ⟨w.heap.size,k,none⟩ v).drew.cell? ⟨b,o+(k+W),none⟩=some (.int .u64 x)):=fun v=>((((Below.refl w.heap.size wr).setCell (p:=⟨w.heap.size,k,none⟩) (Nat.le_refl _) v).drew).cell (p:=⟨b,o+(k+W),none⟩) hbs).trans hcl
    have hcl0:=hcl;have hcz0:=hcz;have hfz0:=hfz;go_wp2_with fail
    go_region_held3 (fun w' =>w'.cell? ⟨b,o+(k+W),none⟩=some (.int .u64 x)) (first|exact hcl0|exact hkeep.out _|go_keep)
     ((go_at_call 239;refine(hWA.out _ (by exact hsl.out)).mono ?_;rintro e w2 ⟨rfl,rfl⟩))
    go_wp2;go_roundw
    case rel=>exact⟨k+1,_,by omega,by go_num,hat.out.next (by rw[hyl.out];exact hlt) HX.out HY.out r0 r1 HE.out,(hr2.drew).set _ r,hbl.drew.setCell (Nat.le_refl _) _⟩
    case measure=>simp[intOf]<;>omega
   ·obtain rfl:k=n:=by omega
    have hSl:=hr2.slAll (n:=k) (cap:=k) (by rw[hat.out.len];exact hyl.out.symm) (Nat.le_refl _) (by unfold maxLen;omega);have hdw:=hat.out.wf;have hd:=hat.out;rw[<- hyl.out] at hd;have HV:=Lib.hid (hd.done hyw);have HL:Hid (T.length=k):=hat.out.len.trans hyl.out;clear hd hat
    go_wp2_with (go_at_call 196;refine(cut_num hSl hdw).mono ?_;rintro e w' ⟨v',rfl,rfl,hn',hob⟩;have HOB:=Lib.hid hob;clear hob)
    go_ret
    rw[HV.out,HL.out] at hn';exact⟨hbl,_,rfl,hn'.mono (by omega),(Frm.mk (Nat.le_refl _)).of HOB.out⟩
structure DvAt (V D:Int)(T Q:List Int)(k:Nat):Prop where
 wt:Dg.Wf BW T
 wq:Dg.Wf BW Q
 eq:V=Dg.val BW T+D*(BW ^ k*Dg.val BW (Q.drop k))
 lt:Dg.val BW T<D*BW ^ k
theorem DvAt.window {V D:Int}{P M S Q:List Int}{k m:Nat}(h:DvAt V D (P++M++S) Q (k+1))(hP:P.length=k)(hM:M.length=m+3)(hD:D<=BW ^ (m+2))(hw:Dg.Wf BW P)(hwM:Dg.Wf BW M)(hwS:Dg.Wf BW S):
 Dg.val BW S=0/\Dg.val BW (P++M++S)=Dg.val BW P+BW ^ k*Dg.val BW M/\Dg.val BW M<18446744073709551616*D:=by
 have hlt:=h.lt;have hp:0<BW ^ k:=Dg.pow_pos (by decide) k;have p0:=Dg.val_nonneg (B:=BW) (by decide) hw;have m0:=Dg.val_nonneg (B:=BW) (by decide) hwM;have s0:=Dg.val_nonneg (B:=BW) (by decide) hwS;rw[Dg.val_append,Dg.val_append,List.length_append,hP,hM] at hlt ⊢
 have hz:Dg.val BW S=0:=by
  have h1:D*BW ^ (k+1)<=BW ^ (m+2)*BW ^ (k+1):=Int.mul_le_mul_of_nonneg_right hD (Int.le_of_lt (Dg.pow_pos (by decide) _));rw[<- Int.pow_add,show m+2+(k+1)=k+(m+3) by omega] at h1;have h2:0<=BW ^ k*Dg.val BW M:=Int.mul_nonneg (Int.le_of_lt hp) m0;have h3:BW ^ (k+(m+3))*Dg.val BW S<BW ^ (k+(m+3))*1:=by omega
  have:=Int.lt_of_mul_lt_mul_left h3 (Int.le_of_lt (Dg.pow_pos (by decide) _));omega
 refine⟨hz,by rw[hz,Int.mul_zero,Int.add_zero],?_⟩;rw[hz,Int.mul_zero,Int.add_zero,Int.pow_succ] at hlt
 apply Int.lt_of_mul_lt_mul_left (a:=BW ^ k) ?_ (Int.le_of_lt hp)
 have e1:BW ^ k*(18446744073709551616*D)=D*(BW ^ k*BW):=by unfold BW;simp only[Int.mul_comm,Int.mul_left_comm,Int.mul_assoc]
 omega
theorem DvAt.next {V D q:Int}{P M M' S Q:List Int}{k m:Nat}(h:DvAt V D (P++M++S) Q (k+1))(hP:P.length=k)(hM:M.length=m+3)(hM' :M'.length=m+3)(hD:D<=BW ^ (m+2))
 (hw:Dg.Wf BW P) (hwM:Dg.Wf BW M) (hwM' :Dg.Wf BW M') (hwS:Dg.Wf BW S) (hk:k<Q.length) (q0:0<=q) (q1:q<18446744073709551616) (he:Dg.val BW M=q*D+Dg.val BW M') (hl:Dg.val BW M' <D):
 DvAt V D (P++M' ++S) (Q.set k q) k:=by
 obtain⟨hz,e1,_⟩:=h.window hP hM hD hw hwM hwS;have hp:0<BW ^ k:=Dg.pow_pos (by decide) k;have p1:=Dg.val_lt (B:=BW) (by decide) hw;rw[hP] at p1
 have e2:Dg.val BW (P++M' ++S)=Dg.val BW P+BW ^ k*Dg.val BW M' :=by
  rw[Dg.val_append,Dg.val_append,hz,Int.mul_zero,Int.add_zero,hP]
 have hwT:Dg.Wf BW (P++M' ++S):=fun x hx=>by
  rcases List.mem_append.1 hx with hx|hx
  ·rcases List.mem_append.1 hx with hx|hx
   ·exact hw x hx
   ·exact hwM' x hx
  ·exact hwS x hx
 refine⟨hwT,h.wq.set k q0 q1,?_,?_⟩
 ·have h1:=h.eq
  have e3:(Q.set k q).drop k=q::Q.drop (k+1):=by
   rw[List.drop_eq_getElem_cons (by simpa using hk)];simp[List.drop_set]
  rw[e3,e2,h1,e1,he,Int.pow_succ];simp only[Dg.val];generalize BW ^ k=p;generalize Dg.val BW (Q.drop (k+1))=x;generalize BW=B;simp only[Int.mul_add,Int.add_mul,Int.mul_comm,Int.mul_left_comm,Int.mul_assoc];omega
 ·rw[e2];have h2:BW ^ k*(Dg.val BW M' +1)<=BW ^ k*D:=Int.mul_le_mul_of_nonneg_left (by omega) (Int.le_of_lt hp);rw[Int.mul_add,Int.mul_one] at h2;rw[Int.mul_comm D];omega
theorem DvAt.start {V D:Int}{T:List Int}{k:Nat}(hT:Dg.Wf BW T)(hV:Dg.val BW T=V)(hlt:V<D*BW ^ k):DvAt V D T (List.replicate k 0) k:=
 ⟨hT,Dg.Wf.zeros (by decide) _,by rw[List.drop_of_length_le (by simp),hV];simp[Dg.val],by rw[hV];exact hlt⟩
theorem DvAt.done {a b:Int}{T Q:List Int}{s:Nat}(h:DvAt (a*2 ^ s) (b*2 ^ s) T Q 0)(hb:0<b):Dg.val BW Q=a/b/\Dg.val BW T/2 ^ s=a%b:=by
 have hp:(0:Int)<2 ^ s:=Dg.pow_pos (by omega) s;have t0:=Dg.val_nonneg (B:=BW) (by decide) h.wt;have he:=h.eq;have hl:=h.lt;rw[Int.pow_zero,Int.one_mul,List.drop_zero] at he;rw[Int.pow_zero,Int.mul_one] at hl;generalize Dg.val BW T=t at*;generalize Dg.val BW Q=q at*;generalize(2:Int) ^ s=p at*
 have hm:t=(a-b*q)*p:=by
  rw[Int.sub_mul,he,Int.mul_right_comm b q p];omega
 have hr0:0<=a-b*q:=by
  by_cases h0:0<=a-b*q
  ·exact h0
  ·have h1:(a-b*q)*p<0:=Int.mul_neg_of_neg_of_pos (by omega) hp;omega
 have hr1:a-b*q<b:=by
  rw[hm] at hl;exact Int.lt_of_mul_lt_mul_right hl (Int.le_of_lt hp)
 have hq:a/b=q:=by
  rw[show a=(a-b*q)+b*q by omega,Int.add_mul_ediv_left _ _ (by omega),Int.ediv_eq_zero_of_lt hr0 hr1,Int.zero_add]
 refine⟨hq.symm,?_⟩;rw[hm,Int.mul_ediv_cancel _ (by omega),Int.emod_def,hq]
theorem dv_fits {a b:Int}{s la m nq:Nat}(ha:a<BW ^ la)(ha0:0<=a)(hs:s<=63)(hD:9223372036854775808*BW ^ (m+1)<=b*2 ^ s)(hq:la=m+1+nq):a*2 ^ s<b*2 ^ s*BW ^ nq:=by
 have h63:(2:Int) ^ s<=9223372036854775808:=by
  have h3:(2:Nat) ^ s<=2 ^ 63:=Nat.pow_le_pow_right (by omega) hs;have e2:(((2:Nat) ^ s:Nat):Int)=(2:Int) ^ s:=by simp
  omega
 have hp:(0:Int)<2 ^ s:=Dg.pow_pos (by omega) s;have h1:a*2 ^ s<BW ^ la*2 ^ s:=Int.mul_lt_mul_of_pos_right ha hp;have h2:BW ^ la*2 ^ s<=BW ^ la*9223372036854775808:=Int.mul_le_mul_of_nonneg_left h63 (Int.le_of_lt (Dg.pow_pos (by decide) _));have h3:9223372036854775808*BW ^ (m+1)*BW ^ nq<=b*2 ^ s*BW ^ nq:=Int.mul_le_mul_of_nonneg_right hD (Int.le_of_lt (Dg.pow_pos (by decide) _));rw[Int.mul_assoc,<- Int.pow_add,<- hq,Int.mul_comm] at h3;omega
def DivRet (La Lb:Nat)(w:World)(m n:Int)(e:Ending)(w' :World):Prop:=Below w.heap.size w w' /\ ∃ q r,e= .returned (.tuple #[q,r])/\Num La w' q (m/n)/\Num Lb w' r (m%n)/\Frm w.heap.size q/\Frm w.heap.size r
theorem Num.fit {L L' :Nat}{w:World}{v:Value}{n:Int}(h:Num L w v n)(hn:n<18446744073709551616 ^ L'):Num L' w v n:=by
 obtain⟨xs,a1,a2,a3,rfl,a5⟩:=h;exact⟨xs,a1,a2,a3,rfl,Dg.len_le_of_val_lt (B:=BW) (by decide) a2 a3 hn⟩
theorem Num.zero (L:Nat)(w:World):Num L w (.slice none 0 0) 0:=⟨[],Sl.nil _ _,Dg.Wf.nil _,Dg.Nz.nil,rfl,Nat.zero_le _⟩
theorem divide_less {La Lb:Nat}{va vb:Value}{m n:Int}{w:World}(ha:Num La w va m)(hb:Num Lb w vb n)(hlt:m<n)(hL:La<=17000000000000):
 Calls Tryz.prog 193 #[va,vb] w (DivRet La Lb w m n):=by
 have HE:Hid (m/n=0/\m%n=m):=⟨Int.ediv_eq_zero_of_lt ha.lt.1 hlt,Int.emod_eq_of_lt ha.lt.1 hlt⟩;have HN:Hid (m<18446744073709551616 ^ Lb):=Int.lt_trans hlt hb.lt.2;have hcmp:=compare_num ha hb;rw[Dg.sg_lt hlt] at hcmp;have HC:=Lib.hid hcmp;have HA:=Lib.hid ha;clear hcmp ha hb hlt
 go_enter Tryz.func193,Tryz.ntmps193
 go_wp2_with fail;refine HC.out.mono ?_;rintro e w1 ⟨hb1,rfl⟩;have HB1:=Lib.hid hb1;clear hb1;go_wp2_with fail;refine(tcopied_any (HA.out.below HB1.out) hL).mono ?_;rintro e w2 ⟨hb2,v2,rfl,hn2,hf2⟩;have HB2:=Lib.hid (HB1.out.trans (hb2.mono HB1.out.size));have HF:=Lib.hid (hf2.mono HB1.out.size);have HN2:=Lib.hid hn2;clear hb2 hf2 hn2;go_wp2
 go_ret2
 exact⟨HB2.out,_,_,rfl,by rw[HE.out.1];exact Num.zero _ _,by rw[HE.out.2];exact HN2.out.fit HN.out,Frm.nil _,HF.out⟩
theorem divide_one {La:Nat}{va vb:Value}{m y:Int}{w:World}(ha:Num La w va m)(hb:Sl .u64 w vb [y])(hy0:0<y)(hy1:y<18446744073709551616)(hge:y<=m)(hL:La<=17000000000000):
 Calls Tryz.prog 193 #[va,vb] w (DivRet La 1 w m y):=by
 obtain⟨c,hc0,hc⟩:∃ c:Int,0<=c/\Dg.sg m y=c:=by
  refine⟨_,?_,rfl⟩
  rcases Int.lt_or_eq_of_le hge with h|h
  ·rw[Dg.sg_gt h];omega
  ·rw[h,Dg.sg_eq];omega
 have hnb:Num 1 w vb y:=⟨[y],hb,Dg.Wf.one (by omega) hy1,fun h=>by simp;omega,Dg.val_one _ _,Nat.le_refl _⟩;have hcmp:=compare_num ha hnb;rw[hc] at hcmp;have HC:=Lib.hid hcmp;have HA:=Lib.hid ha;obtain⟨bo,bcap,rfl,hbc,hbm,hbx⟩:=hb;obtain⟨b,o,rfl,hbs,hcell⟩:=hbx 0 (by simp);simp only[List.length_cons,List.length_nil,Nat.zero_add,List.getElem?_cons_zero,Option.getD_some,Nat.add_zero] at HC hcell ⊢;have HCL:=Lib.hid hcell;clear hcmp ha hnb hc hbx hcell
 go_enter Tryz.func193,Tryz.ntmps193
 go_wp2_with fail;refine HC.out.mono ?_;rintro e w1 ⟨hb1,rfl⟩;have HB1:=Lib.hid hb1;have hcl:=(hb1.cell (p:=⟨b,o,none⟩) hbs).trans HCL.out;clear hb1;go_wp2_with fail;refine(divideByWord_num (HA.out.below HB1.out) hy0 hy1 hL).mono ?_;rintro e w2 ⟨q,r,rfl,hb2,hn2,hr2,hf2⟩;have HB2:=Lib.hid (HB1.out.trans (hb2.mono HB1.out.size));have HF:=Lib.hid (hf2.mono HB1.out.size);have HN2:=Lib.hid hn2;have HR:=Lib.hid hr2;have hr0:0<=r:=by rw[hr2];exact Int.emod_nonneg _ (by omega)
 have hr1:r<y:=by rw[hr2];exact Int.emod_lt_of_pos _ hy0
 clear hb2 hf2 hn2 hr2;go_wp2_with fail;refine(oneWord_any r _ hr0 (by omega)).mono ?_;rintro e w3 ⟨hb3,v3,rfl,hn3,hf3⟩;have HB3:=Lib.hid (HB2.out.trans (hb3.mono HB2.out.size));have HF3:=Lib.hid (hf3.mono HB2.out.size);have HN3:=Lib.hid hn3;have HN4:=Lib.hid (HN2.out.below hb3);clear hb3 hf3 hn3;go_wp2
 go_ret2
 exact⟨HB3.out,_,_,rfl,HN4.out,by rw[<- HR.out];exact HN3.out,HF.out,HF3.out⟩
theorem top_split {ys:List Int}{m:Nat}(hw:Dg.Wf BW ys)(hy:ys.length=m+1):ys[m]?.getD 0*BW ^ m<=Dg.val BW ys/\Dg.val BW ys<(ys[m]?.getD 0+1)*BW ^ m:=by
 have e:=Dg.val_take_succD BW ys m;rw[List.take_of_length_le (by omega)] at e;have h1:=Dg.val_lt (show(0:Int)<BW by decide) (hw.take m);have h2:=Dg.val_nonneg (show(0:Int)<BW by decide) (hw.take m);rw[List.length_take,Nat.min_eq_left (by omega)] at h1;rw[e,Int.add_mul,Int.mul_comm _ (BW ^ m)];omega
theorem norm_val {ys:List Int}{m s:Nat}{y:Int}(hw:Dg.Wf BW ys)(hy:ys.length=m+2)(e:y=ys[m+1]?.getD 0)(hs:s<=63)(h1:9223372036854775808<=y*2 ^ s)(h2:y*2 ^ s<18446744073709551616):
 9223372036854775808*BW ^ (m+1)<=Dg.val BW ys*2 ^ s/\Dg.val BW ys*2 ^ s<BW ^ (m+2):=by
 obtain⟨t1,t2⟩:=top_split hw hy;rw[<- e] at t1 t2;have hp:(0:Int)<2 ^ s:=Dg.pow_pos (by omega) s;have hB:(0:Int)<BW ^ (m+1):=Dg.pow_pos (by decide) _;have e64:(2:Int) ^ (64-s)*2 ^ s=18446744073709551616:=by rw[<- Int.pow_add,show 64-s+s=64 by omega];rfl
 have hyl:y+1<=2 ^ (64-s):=by
  apply Classical.byContradiction
  intro hc;have:=Int.mul_le_mul_of_nonneg_right (show(2:Int) ^ (64-s)<=y by omega) (Int.le_of_lt hp);omega
 have h3:(y+1)*2 ^ s<=18446744073709551616:=by rw[<- e64];exact Int.mul_le_mul_of_nonneg_right hyl (Int.le_of_lt hp)
 have k1:=Int.mul_le_mul_of_nonneg_right t1 (Int.le_of_lt hp);have k2:=Int.mul_lt_mul_of_pos_right t2 hp;have k3:=Int.mul_le_mul_of_nonneg_right h1 (Int.le_of_lt hB);have k4:=Int.mul_le_mul_of_nonneg_right h3 (Int.le_of_lt hB);have c1:y*BW ^ (m+1)*2 ^ s=y*2 ^ s*BW ^ (m+1):=Int.mul_right_comm _ _ _;have c2:(y+1)*BW ^ (m+1)*2 ^ s=(y+1)*2 ^ s*BW ^ (m+1):=Int.mul_right_comm _ _ _;have c3:BW ^ (m+2)=18446744073709551616*BW ^ (m+1):=by rw[Int.pow_succ,Int.mul_comm]
 omega
theorem norm_len {us:List Int}{m:Nat}(hw:Dg.Wf BW us)(hn:Dg.Nz us)(h1:9223372036854775808*BW ^ (m+1)<=Dg.val BW us)(h2:Dg.val BW us<BW ^ (m+2)):us.length=m+2/\9223372036854775808<=us[m+1]?.getD 0:=by
 have hB:(0:Int)<BW ^ (m+1):=Dg.pow_pos (by decide) _;have l1:=Dg.len_le_of_val_lt (B:=BW) (by decide) hw hn h2
 have l2:m+2<=us.length:=by
  apply Classical.byContradiction
  intro hc;have a1:=Dg.val_lt (B:=BW) (by decide) hw;have a2:BW ^ us.length<=BW ^ (m+1):=Dg.pow_mono (by decide) (by omega);omega
 have l:us.length=m+2:=by omega
 refine⟨l,?_⟩;have t2:=(top_split hw l).2
 apply Classical.byContradiction
 intro hc;have:=Int.mul_le_mul_of_nonneg_right (show us[m+1]?.getD 0+1<=9223372036854775808 by omega) (Int.le_of_lt hB);omega
theorem splice_zeros (zs:List Int)(n:Nat)(h:zs.length<=n):splice (List.replicate n (Value.int .u64 0)) 0 (zs.map (Value.int .u64))=(zs++List.replicate (n-zs.length) 0).map (Value.int .u64):=by
 simp[splice]
theorem size_u64:(Tryz.prog.info? 165).map (·.size)=some 1:=by kernel_rfl
theorem Sl.parts {K:IntKind}{w:World}{v:Value}{xs:List Int}(h:Sl K w v xs):∃ ao cap,v= .slice ao xs.length cap/\(0<(xs.map (Value.int K)).length-> ∃ ad,ao=some ad/\ ∀ j u,(xs.map (Value.int K))[j]? =some u->w.cell? (ad.add j)=some u):=by
 have h' :=h;obtain⟨ao,cap,rfl,hc,hm,hx⟩:=h;refine⟨ao,cap,rfl,fun hl=> ?_⟩;obtain⟨b,o,rfl,_,_⟩:=hx 0 (by simpa using hl);exact⟨_,rfl,h'.newsT⟩
set_option maxRecDepth 20000 in
theorem divide_long {va vb:Value}{xs ys:List Int}{w:World}(ha:Sl .u64 w va xs)(hb:Sl .u64 w vb ys)(hwa:Dg.Wf BW xs)(hwb:Dg.Wf BW ys)(hna:Dg.Nz xs)(hnb:Dg.Nz ys)
 (m nq:Nat) (hy:ys.length=m+2) (hq:xs.length=m+1+nq) (hge:Dg.val BW ys<=Dg.val BW xs) (hmx:xs.length<=16000000000000):
 Calls Tryz.prog 193 #[va,vb] w (DivRet xs.length ys.length w (Dg.val BW xs) (Dg.val BW ys)):=by
 obtain⟨c,hc0,hc⟩:∃ c:Int,0<=c/\Dg.sg (Dg.val BW xs) (Dg.val BW ys)=c:=by
  refine⟨_,?_,rfl⟩
  rcases Int.lt_or_eq_of_le hge with h|h
  ·rw[Dg.sg_gt h];omega
  ·rw[h,Dg.sg_eq];omega
 have hcmp:=compare_any ha hb hwa hwb hna hnb;rw[hc] at hcmp;have HA:=Lib.hid ha;have HB:=Lib.hid hb;obtain⟨ao,acap,rfl,hacap,hamax,hax⟩:=ha;obtain⟨bo,bcap,rfl,hbcap,hbmax,hbx⟩:=hb;obtain⟨b,o,rfl,hbs,hcell⟩:=hbx (m+1) (by omega);obtain⟨y,hyy⟩:∃ y,y=ys[m+1]?.getD 0:=⟨_,rfl⟩;have hyb:=wfD hwb (m+1);have hvp:0<Dg.val BW ys:=Dg.val_pos (by decide) hwb hnb (fun e=>by rw[e] at hy;simp at hy)
 have hyp:0<y:=by
  have hne:ys≠ []:=fun e=>by rw[e] at hy;simp at hy
  have hz:=hnb hne;rw[List.getLast_eq_getElem] at hz;have h4:m+1<ys.length:=by omega
  have e5:y=ys[ys.length-1]:=by rw[hyy];simp[h4];congr 1;omega
  omega
 rw[<- hyy] at hcell hyb
 have hnq:1<=nq:=by
  apply Classical.byContradiction
  intro hcon;have:=Dg.val_lt_of_len (show 1<BW by decide) hwa hwb hnb (by omega);omega
 rw[hy] at hcmp HB ⊢;rw[hq] at hcmp HA ⊢ hmx;have HC:=Lib.hid hcmp;have HY:=Lib.hid hyy;have HYL:=Lib.hid hy;have HXL:=Lib.hid hq;have HVP:=Lib.hid hvp;have HCL:=Lib.hid hcell;have hlz:=Lib.hid (lz64 y);have hq0:((0:Int)).tdiv 64=0:=rfl;clear hc hcmp hax hbx hyy hy hq hge hna hnb hamax hbmax hacap hbcap hvp hcell hq0
 go_enter Tryz.func193,Tryz.ntmps193
 go_wp2_with fail;refine HC.out.mono ?_;rintro e w1 ⟨hb1,rfl⟩;have HB1:=Lib.hid hb1;have hcl:=(hb1.cell (p:=⟨b,o+(m+1),none⟩) hbs).trans HCL.out;clear hb1;go_wp2_with fail;refine(lz64 y _ hyp hyb.2).mono ?_;rintro e w2 ⟨s,rfl,rfl,hs,hy1,hy2⟩;have HV:=Lib.hid (norm_val hwb HYL.out HY.out hs hy1 hy2);clear hy1 hy2 hlz;have HT1:Hid ((s:Int).tdiv 64=((0:Nat):Int)):=by show _=_;rw[Int.tdiv_eq_ediv_of_nonneg (by omega)];omega
 have HT2:Hid ((s:Int).tmod 64=s):=by show _=_;rw[Int.tmod_eq_emod_of_nonneg (by omega)];omega
 go_wp2_with fail;refine(shiftLeft_at _ ys s 0 s _ (HB.out.below HB1.out) hwb (by omega) (by omega) HT1.out HT2.out hs (by omega) (by have:=HYL.out;omega)).mono ?_;rintro e w2 ⟨hb2,vd,rfl,hnd,hfd⟩;obtain⟨us,hus,hwu,hnu,hvu,hlu⟩:=hnd;rw[Int.pow_zero,Int.mul_one] at hvu;have hnl:=norm_len hwu hnu (by rw[hvu];exact HV.out.1) (by rw[hvu];exact HV.out.2);have HU:=Lib.hid hus;have HVU:=Lib.hid hvu;have HNL:=Lib.hid hnl;have HB2:=Lib.hid (HB1.out.trans (hb2.mono HB1.out.size));clear hb2 hfd hnu hvu hlu hnl;obtain⟨do_,dk,dcap,hvd⟩:∃ a k c,vd= .slice a k c:=by obtain⟨a,c,e,_⟩:=hus;exact⟨a,_,c,e⟩
 subst hvd;clear hus
 go_wp2_with (at_make;refine wpList_make_zeros _ rfl _ _ 96 rfl 165 .u64 Tryz.underlying96 info_u64 _ _ (m+1+nq+1) rfl rfl (by omega) (by omega) (by omega) ?_)
 intro w3 hrow3 hbel3;have HB3:=Lib.hid (HB2.out.trans (hbel3.mono HB2.out.size));have HR3:=Lib.hid hrow3;have HS3:=Lib.hid hbel3;clear hrow3 hbel3;go_wp2_with fail;refine(shiftLeft_at _ xs s 0 s _ (HA.out.below HB3.out) hwa (by omega) (by omega) HT1.out HT2.out hs (by omega) (by have:=HXL.out;omega)).mono ?_;rintro e w4 ⟨hb4,vz,rfl,hnz,hfz⟩;obtain⟨zs,hzs,hwz,hnz,hvz,hlz⟩:=hnz;rw[Int.pow_zero,Int.mul_one] at hvz;rw[HXL.out] at hlz;obtain⟨zo,zcap,rfl,hpos⟩:=hzs.parts;have hr4:=HR3.out.below hb4;have HPOS:=Lib.hid hpos;have HVZ:=Lib.hid hvz;have HLZ:Hid (zs.length<=m+1+nq+1):=hlz;have HB4:=Lib.hid (HB3.out.trans (hb4.mono HB3.out.size));have HS4:=Lib.hid (HS3.out.trans (hb4.mono HS3.out.size));obtain⟨cs,hcs⟩:∃ cs,cs=zs.map (Value.int .u64):=⟨_,rfl⟩;rw[<- hcs] at HPOS;have HCS:=Lib.hid hcs;have hcl4:cs.length=zs.length:=by rw[hcs];simp
 have HCL4:=Lib.hid hcl4
 have HONE:Hid (∀ v∈cs,v.oneCell' =true):=by
  intro v hv;rw[HCS.out] at hv;obtain⟨a,_,rfl⟩:=List.mem_map.1 hv;rfl
 clear hb4 hzs hnz hvz hlz hfz hpos hcs hcl4
 go_wp2_with (refine wpList_copy_splice (o:=⟨some 50,_,_,_,_,_⟩) rfl (.tmp 46) (.tmp 49) 96 96 rfl 165 Tryz.underlying96 size_u64 _ _ (m+1+nq+1) _ zs.length _ rfl rfl w2.heap.size 0 ((List.replicate (m+1+nq+1) (0:Int)).map (Value.int .u64)) 165 hr4 cs (by show _=min _ _;rw[HCL4.out];exact(Nat.min_eq_left HLZ.out).symm) (fun h=>⟨rfl,HPOS.out (by simpa using h)⟩) (by rw[HCL4.out];simpa using HLZ.out) HONE.out w2.heap.size w2 HS4.out (Nat.le_refl _) ?_)
 intro w5 hrow5 hbel5;obtain⟨T0,hT0⟩:∃ T0,T0=zs++List.replicate (m+1+nq+1-zs.length) 0:=⟨_,rfl⟩
 have HR5:Hid (Row 165 .u64 w5 w2.heap.size T0):=by
  show _=_
  rw[hrow5.out,HCS.out,splice_zeros zs _ HLZ.out,hT0]
 have HT0:Hid (T0.length=m+1+nq+1/\Dg.Wf BW T0/\Dg.val BW T0=Dg.val BW xs*2 ^ s):=by
  have:=HLZ.out;rw[hT0];exact⟨by simp;omega,hwz.append (Dg.Wf.zeros (by decide) _),by rw[Dg.val_snoc_zeros];exact HVZ.out⟩
 have HS5:=Lib.hid hbel5;have HB5:=Lib.hid (HB2.out.trans (hbel5.mono HB2.out.size));clear hrow5 hbel5 hT0 hr4
 go_wp2_with (at_make;refine wpList_make_zeros _ rfl _ _ 96 rfl 165 .u64 Tryz.underlying96 info_u64 _ _ nq rfl rfl (by omega) (by omega) (by omega) ?_)
 intro w6 hrow6 hbel6;have hg5:=HR5.out.lt;have HR6:=Lib.hid (HR5.out.below hbel6);have HS6:=Lib.hid (HS5.out.trans (hbel6.mono (Nat.le_of_lt (by simpa using hg5))));have HQ6:=Lib.hid hrow6;have HB6:=Lib.hid (HB5.out.trans (hbel6.mono HB5.out.size));clear hrow6 hbel6;go_wp2;have hgb:w2.heap.size<w5.heap.size:=hg5
 have HAT0:Hid (DvAt (Dg.val BW xs*2 ^ s) (Dg.val BW ys*2 ^ s) T0 (List.replicate nq 0) nq):=
  DvAt.start HT0.out.2.1 HT0.out.2.2 (dv_fits (la:=m+1+nq) (by have:=Dg.val_lt (show(0:Int)<BW by decide) hwa;rw[HXL.out] at this;exact this) (Dg.val_nonneg (by decide) hwa) hs HV.out.1 rfl)
 go_loopw [11] (fun i wr=> ∃ (k:Nat) (j:Int) (T Q:List Int),k<=nq/\Hid (j+1=k)/\i= .int .i64 j/\Hid (DvAt (Dg.val BW xs*2 ^ s) (Dg.val BW ys*2 ^ s) T Q k)/\Hid (T.length=m+1+nq+1)/\Hid (Q.length=nq)/\Hid (Row 165 .u64 wr w2.heap.size T)/\Hid (Row 165 .u64 wr w5.heap.size Q)/\Hid (Below w2.heap.size w2 wr)) (fun i _=>(intOf i+1).toNat)
 case atStart=>exact⟨nq,_,T0,_,Nat.le_refl _,by show _-(1:Int)+1=_;omega,rfl,HAT0.out,HT0.out.1,by show(List.replicate nq (0:Int)).length=nq;simp,HR6.out,HQ6.out,HS6.out⟩
 case round=>
  obtain⟨k,j,T,Q,hk,hj,rfl,hat,htl,hql,hrt,hrq,hbl⟩:=hrel
  by_cases h0:0<k
  ·obtain⟨k,rfl⟩:∃ j,k=j+1:=⟨k-1,by omega⟩;obtain rfl:j=(k:Int):=by have:=hj.out;omega
   clear hj;obtain⟨P,hP⟩:∃ P,P=T.take k:=⟨_,rfl⟩;obtain⟨M,hM⟩:∃ M,M=(T.drop k).take (m+3):=⟨_,rfl⟩;obtain⟨S,hS⟩:∃ S,S=T.drop (k+(m+3)):=⟨_,rfl⟩;have hT:T=P++M++S:=by rw[hP,hM,hS];exact(Dg.three T k (m+3)).symm
   have hPl:P.length=k:=by rw[hP];simp[htl.out];omega
   have hMl:M.length=m+3:=by rw[hM];simp[htl.out];omega
   have hwt:=hat.out.wt;have hwP:Dg.Wf BW P:=by rw[hP];exact hwt.take _
   have hwM:Dg.Wf BW M:=by rw[hM];exact(hwt.drop _).take _
   have hwS:Dg.Wf BW S:=by rw[hS];exact hwt.drop _
   rw[hT] at hat hrt htl;have HD:Hid (Dg.val BW ys*2 ^ s<=BW ^ (m+2)):=Int.le_of_lt HV.out.2;have HWN:=Lib.hid (hat.out.window hPl hMl HD.out hwP hwM hwS);have htm:=takeMultiple_any w2.heap.size (m+1+nq+1-k) m P M S us _ w2 wr HU.out hbl.out (Nat.le_refl _) hrt.out HNL.out.1 hMl hwM hwu HNL.out.2 (by rw[HVU.out];exact HWN.out.2.2) (by omega);rw[hPl,show m+3=k+(m+2)+1-k by omega] at htm;have HTM:=Lib.hid htm;have HPL:=Lib.hid hPl;have HML:=Lib.hid hMl;clear hP hM hS hT hPl hMl hwt htm;have j1:IntKind.i64.wrap ((k:Int)+((m:Int)+2))=(k:Int)+((m:Int)+2):=by rw[IntKind.wrap_i64];omega
   have j2:IntKind.i64.wrap ((k:Int)+((m:Int)+2)+1)=(k:Int)+((m:Int)+2)+1:=by rw[IntKind.wrap_i64];omega
   go_wp2_with fail
   ((with_reducible refine HTM.out.mono ?_))
   rintro e w7 ⟨q,M',rfl,hr7,hg7,hl7,hw7,q0,q1,he7,hlt7⟩;have HQ7:Hid (Row 165 .u64 w7 w5.heap.size Q):=hrq.out.keep (hg7.block _ hrq.out.lt (by simp;omega));have hcz:=HQ7.out.cell (i:=k) (by rw[hql.out];omega);have hfz:=HQ7.out.free k;have hs7:=hg7.size;have hB7:=Lib.hid ((hbl.out.grown hg7 hbl.out.size (fun j hj=>by simp at hj;omega)));rw[HVU.out] at he7 hlt7;have HN7:=Lib.hid (hat.out.next HPL.out HML.out (hl7.trans HML.out) HD.out hwP hwM hw7 hwS (by rw[hql.out];omega) q0 q1 he7 hlt7);have HR7:=Lib.hid hr7;have HTL7:Hid ((P++M' ++S).length=m+1+nq+1):=by have:=htl.out;simp only[List.length_append] at this ⊢;show _=_;omega
   clear hr7 hg7 hl7 he7 hlt7;go_wp2;go_roundw
   case rel=>exact⟨k,(k:Int)-1,P++M' ++S,Q.set k q,by omega,by show _-(1:Int)+1=_;omega,by first|rfl|go_num,HN7.out,HTL7.out,by show(Q.set k q).length=nq;rw[List.length_set];exact hql.out,HR7.out.setOther _ (by simp;omega),HQ7.out.set k q,hB7.out.setCell (by simp;omega) _⟩
   case measure=>simp[intOf]<;>omega
  ·obtain rfl:k=0:=by omega
   obtain rfl:j= -1:=by have:=hj.out;omega
   have HDN:=Lib.hid (hat.out.done HVP.out);have hSq:=hrq.out.slAll (n:=nq) (cap:=nq) hql.out.symm (Nat.le_refl _) (by unfold maxLen;omega);have hSt:=hrt.out.slAll (n:=m+1+nq+1) (cap:=m+1+nq+1) htl.out.symm (Nat.le_refl _) (by unfold maxLen;omega);have hwq:=hat.out.wq;have hwt:=hat.out.wt;have HSQ:=Lib.hid hSq;have HST:=Lib.hid hSt;clear hSq hSt hj;go_wp2_with fail;refine(cut_num HSQ.out hwq).mono ?_;rintro e w7 ⟨v7,rfl,rfl,hn7,hob7⟩;have HN7:=Lib.hid hn7;have HO7:=Lib.hid hob7;clear hn7 hob7;go_wp2_with fail;refine(cut_num HST.out hwt).mono ?_;rintro e w8 ⟨v8,rfl,rfl,hn8,hob8⟩;obtain⟨ts,hts,hwts,_,hvts,hlts⟩:=hn8;have HVT:=Lib.hid hvts;have HLT:=Lib.hid hlts;have HTS:=Lib.hid hts;clear hob8 hvts hlts hts;go_wp2_with fail;refine(shiftRight_at v8 ts s 0 s _ HTS.out hwts (by omega) (by omega) HT1.out HT2.out hs (by have:=HLT.out;have:=htl.out;omega)).mono ?_;rintro e w9 ⟨hb9,v9,rfl,hn9,hf9⟩;have HN9:=Lib.hid hn9;have HF9:=Lib.hid hf9;have HB9:=Lib.hid hb9;clear hb9 hn9 hf9;go_wp2
   go_ret2
   have eR:Dg.val BW ts/(BW ^ 0*2 ^ s)=Dg.val BW xs%Dg.val BW ys:=by
    rw[HVT.out,Int.pow_zero,Int.one_mul];exact HDN.out.2
   have hw2:=hbl.out.size;refine⟨HB2.out.trans (((hbl.out).trans (HB9.out.mono hw2)).mono HB2.out.size),_,_,rfl,?_,?_,?_,?_⟩
   ·have h1:=HN7.out.below HB9.out;rw[HDN.out.1,hql.out] at h1;exact h1.mono (by omega)
   ·have h1:=HN9.out;rw[eR] at h1;refine h1.fit ?_;have h2:=Int.emod_lt_of_pos (Dg.val BW xs) HVP.out;have h3:=Dg.val_lt (show(0:Int)<BW by decide) hwb;rw[HYL.out] at h3;exact Int.lt_trans h2 h3
   ·exact((Frm.mk (Nat.le_refl _)).of HO7.out).mono HB5.out.size
   ·exact HF9.out.mono (Nat.le_trans HB2.out.size hw2)
end Go.Proofs.YtdnheaafcbihbaaGreat
namespace Go.Proofs.YtdnheaafcbihbaaGreat
open Go Go.RowKit
theorem divide_num {La Lb:Nat}{va vb:Value}{m n:Int}{w:World}(ha:Num La w va m)(hb:Num Lb w vb n)(hn:0<n)(hL:La<=16000000000000):
 Calls Tryz.prog 193 #[va,vb] w (DivRet La Lb w m n):=by
 by_cases hlt:m<n
 ·exact divide_less ha hb hlt (by omega)
 ·obtain⟨ys,b1,b2,b3,hby,b5⟩:=hb;have hnb:n<18446744073709551616 ^ Lb:=by rw[<- hby];exact Int.lt_of_lt_of_le (Dg.val_lt (show(0:Int)<BW by decide) b2) (Dg.pow_mono (show(0:Int)<BW by decide) b5)
  rcases ys with _|⟨y,_|⟨y2,yt⟩⟩
  ·simp[Dg.val] at hby;omega
  ·rw[Dg.val_one] at hby
   subst hby
   have h2:=b2 y (by simp);exact(divide_one ha b1 hn h2.2 (by omega) (by omega)).mono fun e w' ⟨h1,q,r,h2,h3,h4,h5⟩=>⟨h1,q,r,h2,h3,h4.mono b5,h5⟩
  ·obtain⟨xs,a1,a2,a3,hax,a5⟩:=ha
   have hlen:(y2::yt).length+1<=xs.length:=by
    apply Classical.byContradiction
    intro hc;have:=Dg.val_lt_of_len (show 1<BW by decide) a2 b2 b3 (by simp only[List.length_cons] at hc ⊢;omega);omega
   simp only[List.length_cons] at hlen;have:=divide_long a1 b1 a2 b2 a3 b3 yt.length (xs.length-(yt.length+1)) (by simp) (by omega) (by omega) (by omega);rw[hax,hby] at this;exact this.mono fun e w' ⟨h1,q,r,h2,h3,h4,h5⟩=>⟨h1,q,r,h2,h3.mono a5,h4.mono b5,h5⟩
end Go.Proofs.YtdnheaafcbihbaaGreat
namespace Go.Proofs.YtdnheaafcbihbaaGreat
open Go Go.RowKit
structure MaAt (xs ys T:List Int)(n:Nat)(x y:Int)(k:Nat)(cA cB bo:Int):Prop where
 len:T.length=n
 wf:Dg.Wf BW T
 a0:0<=cA
 a1:cA<18446744073709551616
 b0:0<=cB
 b1:cB<18446744073709551616
 o0:0<=bo
 o1:bo<=1
 eq:Dg.val BW (T.take k)+BW ^ k*(cA-cB-bo)=Dg.val BW (xs.take k)*x-Dg.val BW (ys.take k)*y
end Go.Proofs.YtdnheaafcbihbaaGreat
namespace Go.Proofs.YtdnheaafcbihbaaGreat.Leh
structure At (A B:Int)(neg:Bool)(f s a1 b1 na nb:Int):Prop where
 f0:0<=s
 fs:s<=f
 ea:nb*f+b1*s=A
 eb:na*f+a1*s=B
 det:a1*nb-b1*na=if neg then -1 else 1
 a0:0<=a1
 b0:0<=b1
 n0:0<=na
 m0:1<=nb
 le:na<=nb
 ge:b1<=nb
 or:a1<=b1\/(neg=false/\a1=1/\b1=0/\na=0/\nb=1)
structure Good (A B:Int)(neg:Bool)(a0 b0 a1 b1 p f:Int):Prop where
 ea:b1*p+b0*f=A
 eb:a1*p+a0*f=B
 det:a0*b1-b0*a1=if neg then 1 else -1
 h0:0<=a0
 h1:1<=b0
 h2:0<=a1
 h3:1<=b1
 l0:a0<=b0
 l1:a1<=b1
 c0:b1<=f
 c1:b0+b1<=p-f
def newA (neg:Bool)(a0 b0 a b:Int):Int:=if neg then a*a0-b*b0 else b*b0-a*a0
def newB (neg:Bool)(a1 b1 a b:Int):Int:=if neg then b*b1-a*a1 else a*a1-b*b1
end Go.Proofs.YtdnheaafcbihbaaGreat.Leh
namespace Go.Proofs.YtdnheaafcbihbaaGreat
open Go Go.RowKit
def LwRet (w:World)(a b:Int)(e:Ending)(w' :World):Prop:=Below w.heap.size w w' /\ ∃ A B H x y:Int,e= .returned (.tuple #[.int .u64 A, .int .u64 B])/\0<H/\a=A*H+x/\0<=x/\x<H/\b=B*H+y/\0<=y/\y<H/\0<=B/\B<=A/\A<18446744073709551616
abbrev stc (a0 b0 a1 b1:Int)(neg:Bool):Array Value:= #[.int .u64 a0, .int .u64 b0, .int .u64 a1, .int .u64 b1, .bool neg]
structure FsAt (A B:Int)(neg:Bool)(f s a0 b0 a1 b1 na nb:Int):Prop where
 at_:Leh.At A B neg f s a1 b1 na nb
 z0:0<=a0
 z1:a0<=B
 z2:0<=b0
 z3:b0<=A
 z4:a1<=B\/a1=1
 z5:b1<=A
 z6:na<=B
 z7:nb<=A\/nb=1
 good:b0=0\/ ∃ p,Leh.Good A B neg a0 b0 a1 b1 p f
def FsRet (w:World)(A B:Int)(e:Ending)(w' :World):Prop:=Below w.heap.size w w' /\ ∃ (a0 b0 a1 b1:Int) (neg:Bool),e= .returned (.agg (stc a0 b0 a1 b1 neg))/\
 0<=a0/\a0<18446744073709551616/\0<=b0/\b0<18446744073709551616/\0<=a1/\a1<18446744073709551616/\0<=b1/\b1<18446744073709551616/\(b0=0\/ ∃ p f,Leh.Good A B neg a0 b0 a1 b1 p f)
def TkRet (L:Nat)(w:World)(a b:Int)(e:Ending)(w' :World):Prop:=Below w.heap.size w w' /\ ∃ va vb,e= .returned (.tuple #[va,vb])/\Num L w' va a/\Num L w' vb b
def GcAt (L:Nat)(W0 wr:World)(G:Int)(s0 s1:Value)(a b:Int):Prop:=Num L wr s0 a/\Num L wr s1 b/\b<=a/\(Int.gcd a b:Int)=G/\Below W0.heap.size W0 wr
def IdRet (L:Nat)(w:World)(z y:Int)(e:Ending)(w' :World):Prop:=Below w.heap.size w w' /\ ∃ q r,e= .returned (.tuple #[q,r, .int .i64 0])/\IntV L w' q (z/y)/\IntV L w' r (z%y)
theorem div_pos {z y:Int}(hz:0<=z)(hy:y≠0):sgn (decide (z<0)!=decide (y<0)) (z.natAbs/y.natAbs:Int)=z/y/\(z.natAbs%y.natAbs:Int)=z%y:=by
 have e1:(z.natAbs:Int)=z:=by omega
 have e2:decide (z<0)=false:=by simp;omega
 rw[e1,e2]
 by_cases h:y<0
 ·have e3:(y.natAbs:Int)= -y:=by omega
  simp[h,sgn,e3]
 ·have e3:(y.natAbs:Int)=y:=by omega
  simp[h,sgn,e3]
theorem div_neg0 {z y:Int}(hz:z<0)(hy:y≠0)(hr:(z.natAbs%y.natAbs:Int)=0):sgn (decide (z<0)!=decide (y<0)) (z.natAbs/y.natAbs:Int)=z/y/\0=z%y:=by
 have e1:(z.natAbs:Int)= -z:=by omega
 have hd:=Int.mul_ediv_add_emod (z.natAbs:Int) y.natAbs;rw[hr,Int.add_zero] at hd;rw[e1] at hd ⊢;have e2:decide (z<0)=true:=by simpa using hz
 rw[e2];generalize hq: -z/(y.natAbs:Int)=q at*
 by_cases h:y<0
 ·have e3:(y.natAbs:Int)= -y:=by omega
  rw[e3] at hd;have hz2:z=y*q:=by rw[Int.neg_mul] at hd;omega
  have h3:decide (y<0)=true:=by simpa using h
  rw[h3];simp only[bne_self_eq_false,sgn,Bool.false_eq_true,if_false];rw[hz2,Int.mul_ediv_cancel_left _ hy,Int.mul_emod_right];exact⟨rfl,rfl⟩
 ·have e3:(y.natAbs:Int)=y:=by omega
  rw[e3] at hd;have hz2:z=y*(-q):=by rw[Int.mul_neg];omega
  have h3:decide (y<0)=false:=by simpa using h
  rw[h3];simp only[sgn,show(true !=false)=true from rfl,if_true];rw[hz2,Int.mul_ediv_cancel_left _ hy,Int.mul_emod_right];exact⟨rfl,rfl⟩
theorem div_neg1 {z y:Int}(hz:z<0)(hy:y≠0)(hr:(z.natAbs%y.natAbs:Int)≠0):sgn (decide (z<0)!=decide (y<0)) (z.natAbs/y.natAbs+1:Int)=z/y/\(y.natAbs:Int)-(z.natAbs%y.natAbs:Int)=z%y:=by
 have e1:(z.natAbs:Int)= -z:=by omega
 have hd:=Int.mul_ediv_add_emod (z.natAbs:Int) y.natAbs;have h0:=Int.emod_nonneg (z.natAbs:Int) (show(y.natAbs:Int)≠0 by omega);have h1:=Int.emod_lt_of_pos (z.natAbs:Int) (show 0<(y.natAbs:Int) by omega);generalize(z.natAbs:Int)%(y.natAbs:Int)=r at*;generalize(z.natAbs:Int)/(y.natAbs:Int)=q at*;rw[e1] at hd;have e2:decide (z<0)=true:=by simpa using hz
 rw[e2]
 by_cases h:y<0
 ·have e3:(y.natAbs:Int)= -y:=by omega
  rw[e3] at hd h1 ⊢;have hz2:z=(-y-r)+y*(q+1):=by rw[Int.neg_mul] at hd;rw[Int.mul_add];omega
  have h3:decide (y<0)=true:=by simpa using h
  rw[h3];simp only[bne_self_eq_false,sgn,Bool.false_eq_true,if_false];rw[hz2,Int.add_mul_ediv_left _ _ hy,Int.add_mul_emod_self_left]
  have k1:(-y-r)/y=0:=by
   rw[<- Int.neg_neg y,Int.ediv_neg,Int.neg_neg y,Int.ediv_eq_zero_of_lt (by omega) (by omega)];rfl
  have k2:(-y-r)%y= -y-r:=by
   rw[<- Int.emod_neg,Int.emod_eq_of_lt (by omega) (by omega)]
  rw[k1,k2];omega
 ·have e3:(y.natAbs:Int)=y:=by omega
  rw[e3] at hd h1 ⊢;have hz2:z=(y-r)+y*(-(q+1)):=by rw[Int.mul_neg,Int.mul_add];omega
  have h3:decide (y<0)=false:=by simpa using h
  rw[h3];simp only[sgn,show(true !=false)=true from rfl,if_true];rw[hz2,Int.add_mul_ediv_left _ _ hy,Int.add_mul_emod_self_left,Int.ediv_eq_zero_of_lt (by omega) (by omega),Int.emod_eq_of_lt (by omega) (by omega)];omega
theorem int_end2 {L L' :Nat}{z z' :Int}{w W:World}{g h:Nat}{s x s' x' :Bool}{ao bo ao' bo' :Option Addr}{k c k2 c2 k' c' k2' c2' :Nat}{T:TypeId}
 (hg:W.heap[g]? =some (.cells #[.bool x, .slice bo k2 c2] T (0,0))) (hh:W.heap[h]? =some (.cells #[.bool x', .slice bo' k2' c2'] T (0,0))) (hne:g≠h)
 (hb:Below w.heap.size w W) (hgw:w.heap.size<=g) (hhw:w.heap.size<=h) (hs:s=decide (z<0)) (hn:Num L W (.slice ao k c) z.natAbs) (hs' :s' =decide (z' <0)) (hn' :Num L' W (.slice ao' k' c') z'.natAbs) (W' :World)
 (hW:W' =(((W.setCell ⟨g,0,none⟩ (.bool s)).setCell ⟨g,1,none⟩ (.slice ao k c)).setCell ⟨h,0,none⟩ (.bool s')).setCell ⟨h,1,none⟩ (.slice ao' k' c')):
 Below w.heap.size w W' /\IntV L W' (.agg #[.bool s, .slice ao k c]) z/\IntV L' W' (.agg #[.bool s', .slice ao' k' c']) z' /\
  W'.cell? ⟨g,0,none⟩=some (.bool s)/\W'.cell? ⟨g,1,none⟩=some (.slice ao k c)/\W'.cell? ⟨h,0,none⟩=some (.bool s')/\W'.cell? ⟨h,1,none⟩=some (.slice ao' k' c'):=by
 subst hW;have q1:=ttwo_set hg (.bool s) (.slice ao k c)
 have hh1:((W.setCell ⟨g,0,none⟩ (.bool s)).setCell ⟨g,1,none⟩ (.slice ao k c)).heap[h]? =some (.cells #[.bool x', .slice bo' k2' c2'] T (0,0)):=by
  rw[heap_setCell_other _ _ _ _ (by simpa using hne.symm),heap_setCell_other _ _ _ _ (by simpa using hne.symm)];exact hh
 have q2:=ttwo_set hh1 (.bool s') (.slice ao' k' c')
 have q1' :((((W.setCell ⟨g,0,none⟩ (.bool s)).setCell ⟨g,1,none⟩ (.slice ao k c)).setCell ⟨h,0,none⟩ (.bool s')).setCell ⟨h,1,none⟩ (.slice ao' k' c')).heap[g]? =some (.cells #[.bool s, .slice ao k c] T (0,0)):=by
  rw[heap_setCell_other _ _ _ _ (by simpa using hne),heap_setCell_other _ _ _ _ (by simpa using hne)];exact q1
 obtain⟨a1,a2,_,_⟩:=ttwo_cells q1';obtain⟨b1,b2,_,_⟩:=ttwo_cells q2;exact⟨(((hb.setCell (p:=⟨g,0,none⟩) hgw _).setCell (p:=⟨g,1,none⟩) hgw _).setCell (p:=⟨h,0,none⟩) hhw _).setCell (p:=⟨h,1,none⟩) hhw _,⟨_,_,rfl,hs,(hn.box hg _ _).box hh1 _ _⟩,⟨_,_,rfl,hs',(hn'.box hg _ _).box hh1 _ _⟩,a1,a2,b1,b2⟩
end Go.Proofs.YtdnheaafcbihbaaGreat
