/-
  Texts of the proof, merged by program: Chk Hor Plq Rtd.
-/
import Derived.Test.YtdnheaafcbihbaaGreatDc17
set_option linter.unusedSimpArgs false
set_option linter.unusedVariables false
set_option maxHeartbeats 16000000
namespace Go.Proofs.YtdnheaafcbihbaaGreat
section
open Go Go.RowKit Go.Deep
open FFld (ints)
def zlast (xs:List Int):Bool:=decide (0<xs.length)&&decide (xs[xs.length-1]?.getD 0=0)
def cErr (D:FFld.FD)(xs:List Int):Nat:=if 200<xs.length then 2 else if elsB D xs=true/\zlast xs=false then 0 else 1
set_option maxRecDepth 20000 in
theorem fcheck_any {D:FFld.FD}{b:Nat}(v:Value)(xs:List Int)(w:World)(hf:FldB D w b)(h:Sl .i64 w v xs):
 Calls Tryz.prog 169 #[.pointer (some ⟨b,0,none⟩),v] w (fun e w' =>w=w' /\e= .returned (.int .i64 (cErr D xs:Nat))):=by
 have HA:=Km (areElements_any (D:=D) (b:=b) v xs w hf h);obtain⟨ao,cap,hv,hcap,hmax,hc⟩:=h;subst hv;obtain⟨n,hN⟩:∃ n,xs.length=n:=⟨_,rfl⟩;have HC:=Km hc;have hE:cErr D xs=if 200<n then 2 else if elsB D xs=true/\zlast xs=false then 0 else 1:=by unfold cErr;rw[hN]
 have hZ:zlast xs=(decide (0<n)&&decide (xs[n-1]?.getD 0=0)):=by unfold zlast;rw[hN]
 rw[hN] at hcap HA ⊢;have HN:=Km hN;unfold maxLen at hmax;clear hc hN
 by_cases h200:200<n
 ·rw[if_pos h200] at hE;have e1:decide ((n:Int)>200)=true:=by simp;omega
  rw[hE];clear hE hZ HA
  go_enter Tryz.func169,Tryz.ntmps169
  go_wp2
  go_ret
  exact⟨rfl,rfl⟩
 ·rw [if_neg h200] at hE;have e1:decide ((n:Int)>200)=false:=by simp;omega
  obtain⟨t,ht⟩:∃ t,elsB D xs=t:=⟨_,rfl⟩;rw[ht] at hE HA;clear ht
  cases t with
  | false=>
    rw[if_neg (by simp)] at hE;rw[hE];clear hE hZ
    go_enter Tryz.func169,Tryz.ntmps169
    go_wp2_with fail;refine HA.out.mono ?_;rintro e w2 ⟨rfl,rfl⟩;go_wp2
    go_ret
    exact⟨rfl,rfl⟩
  | true=>
    by_cases hn0:n=0
    ·subst hn0;have hz:zlast xs=false:=by rw[hZ];rfl
     rw[hz,if_pos (by simp)] at hE;have e2:decide (((0:Nat):Int)>0)=false:=rfl;rw[hE];clear hE hZ hz
     go_enter Tryz.func169,Tryz.ntmps169
     go_wp2_with fail;refine HA.out.mono ?_;rintro e w2 ⟨rfl,rfl⟩;go_wp2
     go_ret
     exact⟨rfl,rfl⟩
    ·obtain⟨b1,o1,rfl,hb1,hcell⟩:=HC.out (n-1) (by rw[HN.out];omega);obtain⟨m,rfl⟩:∃ m,n=m+1:=⟨n-1,by omega⟩;simp only[Nat.add_sub_cancel] at hcell hZ;obtain⟨x,hx⟩:∃ x,xs[m]?.getD 0=x:=⟨_,rfl⟩;rw[hx] at hcell hZ;have e2:decide (((m+1:Nat):Int)>0)=true:=by rw[decide_eq_true_eq];omega
     by_cases hx0:x=0
     ·have hz:zlast xs=true:=by rw[hZ,hx0];simp
      rw[hz,if_neg (by simp)] at hE;have e3:(x==0)=true:=by rw[hx0];rfl
      rw[hE];clear hE hZ hz hx
      go_enter Tryz.func169,Tryz.ntmps169
      go_wp2_with fail;refine HA.out.mono ?_;rintro e w2 ⟨rfl,rfl⟩;go_wp2
      go_ret
      exact⟨rfl,rfl⟩
     ·have hz:zlast xs=false:=by rw[hZ];simp[hx0]
      rw[hz,if_pos (by simp)] at hE;have e3:(x==0)=false:=by rw[beq_eq_false_iff_ne];exact hx0
      rw[hE];clear hE hZ hz hx hx0
      go_enter Tryz.func169,Tryz.ntmps169
      go_wp2_with fail;refine HA.out.mono ?_;rintro e w2 ⟨rfl,rfl⟩;go_wp2
      go_ret
      exact⟨rfl,rfl⟩
set_option maxRecDepth 20000 in
theorem rcheck_any (D:FFld.FD)(v:Value)(xs:List Int)(w:World)(h:Sl .i64 w v xs):
 Calls Tryz.prog 107 #[rfv D.q D.p D.k D.m,v] w (RB w (.int .i64 (cErr D xs:Nat))):=by
 have HA:=Km (fun W (hW:Below w.heap.size w W)=>relements_any D v xs W (h.below hW));have HX0:Kept (Bxs w [rbox D.q D.p D.k D.m] (w.alloc (rbox D.q D.p D.k D.m))):=⟨(Bxs.start w).alloc (by simp) _⟩;obtain⟨c0,c1,c2,c3⟩:=four_cells HX0.out.b0;obtain⟨ao,cap,hv,hcap,hmax,hc⟩:=h;subst hv;obtain⟨n,hN⟩:∃ n,xs.length=n:=⟨_,rfl⟩;have HC:=Km hc;have hE:cErr D xs=if 200<n then 2 else if elsB D xs=true/\zlast xs=false then 0 else 1:=by unfold cErr;rw[hN]
 have hZ:zlast xs=(decide (0<n)&&decide (xs[n-1]?.getD 0=0)):=by unfold zlast;rw[hN]
 rw[hN] at hcap HA ⊢;have HN:=Km hN;unfold maxLen at hmax;clear hc hN
 by_cases h200:200<n
 ·rw[if_pos h200] at hE;have e1:decide ((n:Int)>200)=true:=by simp;omega
  rw[hE];clear hE hZ HA
  go_enter Tryz.func107,Tryz.ntmps107
  go_wp2
  go_ret
  exact⟨HX0.out.1,rfl⟩
 ·rw [if_neg h200] at hE;have e1:decide ((n:Int)>200)=false:=by simp;omega
  obtain⟨t,ht⟩:∃ t,elsB D xs=t:=⟨_,rfl⟩;rw[ht] at hE HA;clear ht
  cases t with
  | false=>
    rw[if_neg (by simp)] at hE;rw[hE];clear hE hZ
    go_enter Tryz.func107,Tryz.ntmps107
    go_wp2_with fail;refine(HA.out _ HX0.out.1).mono ?_;rintro e w2 ⟨hb2,rfl⟩;have HX2:=Km (HX0.out.below hb2);clear hb2;go_wp2
    go_ret
    exact⟨HX2.out.1,rfl⟩
  | true=>
    by_cases hn0:n=0
    ·subst hn0;have hz:zlast xs=false:=by rw[hZ];rfl
     rw[hz,if_pos (by simp)] at hE;have e2:decide (((0:Nat):Int)>0)=false:=rfl;rw[hE];clear hE hZ hz
     go_enter Tryz.func107,Tryz.ntmps107
     go_wp2_with fail;refine(HA.out _ HX0.out.1).mono ?_;rintro e w2 ⟨hb2,rfl⟩;have HX2:=Km (HX0.out.below hb2);clear hb2;go_wp2
     go_ret
     exact⟨HX2.out.1,rfl⟩
    ·obtain⟨b1,o1,rfl,hb1,hcell⟩:=HC.out (n-1) (by rw[HN.out];omega);obtain⟨m,rfl⟩:∃ m,n=m+1:=⟨n-1,by omega⟩;simp only[Nat.add_sub_cancel] at hcell hZ;obtain⟨x,hx⟩:∃ x,xs[m]?.getD 0=x:=⟨_,rfl⟩;rw[hx] at hcell hZ;have e2:decide (((m+1:Nat):Int)>0)=true:=by rw[decide_eq_true_eq];omega
     by_cases hx0:x=0
     ·have hz:zlast xs=true:=by rw[hZ,hx0];simp
      rw[hz,if_neg (by simp)] at hE;have e3:(x==0)=true:=by rw[hx0];rfl
      rw[hE];clear hE hZ hz hx
      go_enter Tryz.func107,Tryz.ntmps107
      go_wp2_with fail;refine(HA.out _ HX0.out.1).mono ?_;rintro e w2 ⟨hb2,rfl⟩;have HX2:=Km (HX0.out.below hb2);clear hb2;have hcell2:=(HX2.out.1.cell (p:=⟨b1,o1+m,none⟩) hb1).trans hcell;go_wp2
      go_ret
      exact⟨HX2.out.1,rfl⟩
     ·have hz:zlast xs=false:=by rw[hZ];simp[hx0]
      rw[hz,if_pos (by simp)] at hE;have e3:(x==0)=false:=by rw[beq_eq_false_iff_ne];exact hx0
      rw[hE];clear hE hZ hz hx hx0
      go_enter Tryz.func107,Tryz.ntmps107
      go_wp2_with fail;refine(HA.out _ HX0.out.1).mono ?_;rintro e w2 ⟨hb2,rfl⟩;have HX2:=Km (HX0.out.below hb2);clear hb2;have hcell2:=(HX2.out.1.cell (p:=⟨b1,o1+m,none⟩) hb1).trans hcell;go_wp2
      go_ret
      exact⟨HX2.out.1,rfl⟩
end
section
open Go Go.RowKit Go.Deep
open FFld (ints)
namespace FFld
def hornF (D:FD)(pl:List Nat)(x:Nat):Nat->Nat
 |0=>0
 |i+1=>padd D.p D.k (pmul D.p D.k D.m (hornF D pl x i) D.k x) (pl[pl.length-1-i]?.getD 0)
theorem hornF_lt {D:FD}(h:PK D.p D.k D.m)(pl:List Nat)(x i:Nat):hornF D pl x i<D.p ^ D.k:=by
 cases i with
 |zero=>exact Nat.pow_pos h.p0
 |succ i=>exact padd_lt h _ _
end FFld
set_option maxRecDepth 20000 in
theorem rvalue_any {D:FFld.FD}(hD:D.Ok)(v:Value)(pl:List Nat)(x:Nat)(w:World)(hp:Sl .i64 w v (ints pl))(hpq:∀ a∈pl,a<D.p ^ D.k)(hx:x<D.p ^ D.k)(hpl:pl.length<=100000):
 Calls Tryz.prog 44 #[rfv D.q D.p D.k D.m,v, .int .i64 x] w (RB w (.int .i64 (FFld.hornF D pl x pl.length:Nat))):=by
 obtain⟨ap,cp,hvp,hcp,hmp⟩:=hp.form;subst hvp;have HX0:Kept (Bxs w [rbox D.q D.p D.k D.m] (w.alloc (rbox D.q D.p D.k D.m))):=⟨(Bxs.start w).alloc (by simp) _⟩;have HPS:=Km hp;have HPQ:=Km hpq;have hq6:D.p ^ D.k<=65536:=hD.pre.small;have HM:=Km (fun W a b (ha:a<D.p ^ D.k) (hb:b<D.p ^ D.k)=>rmul_any D.q D.p D.k D.m a b W hD.pre.pk.p2 hD.pre.pk.k1 ha hb hq6 (md_ok hD));have HA:=Km (fun W a b (ha:a<D.p ^ D.k) (hb:b<D.p ^ D.k)=>radd_any D.q D.p D.k D.m a b W hD.pre.pk.p2 hD.pre.pk.k1 ha hb hq6);obtain⟨n,hn⟩:∃ n,pl.length=n:=⟨_,rfl⟩;rw[FFld.ints_len,hn] at hcp HPS ⊢;rw[hn] at hpl;have HN:=Km hn;have HXQ:=Km hx;have hx6:x<=65536:=by omega
 clear hp hpq hn hq6 hx
 go_enter Tryz.func44,Tryz.ntmps44
 go_wp2
 go_loopw [7,8] (fun rv iv wr=> ∃ (i r:Nat),i<=n/\iv= .int .i64 ((n:Int)-1-i)/\rv= .int .i64 r/\Kept (FFld.hornF D pl x i=r)/\Kept (Bxs w [rbox D.q D.p D.k D.m] wr)) (fun _ iv _=>(intOf iv+1).toNat)
 case atStart=>exact⟨0,0,Nat.zero_le _,by go_num,rfl,⟨rfl⟩,HX0⟩
 case round=>
  obtain⟨i,r,hin,rfl,rfl,hr,hbx⟩:=hrel
  by_cases hlt:i<n
  ·obtain⟨j,hj⟩:∃ j,n-1-i=j:=⟨_,rfl⟩;have hj1:(n:Int)-1-i=j:=by omega
   rw[hj1];obtain⟨bp,op,rfl,hbp,hcell⟩:=(HPS.out.below hbx.out.1).news_at j (by rw[FFld.ints_len,HN.out];omega);obtain⟨c,hc⟩:∃ c,pl[j]?.getD 0=c:=⟨_,rfl⟩;rw[FFld.ints_get,hc] at hcell;have hcq:c<D.p ^ D.k:=by rw[<- hc];exact FFld.getD_lt (Nat.pow_pos hD.pre.pk.p0) HPQ.out j
   have hrq:r<D.p ^ D.k:=by rw[<- hr.out];exact FFld.hornF_lt hD.pre.pk pl x i
   obtain⟨z,hz⟩:∃ z,FFld.pmul D.p D.k D.m r D.k x=z:=⟨_,rfl⟩;have hzq:z<D.p ^ D.k:=by rw[<- hz];exact FFld.pmul_lt hD.pre.pk _ _ _
   obtain⟨s,hs⟩:∃ s,FFld.padd D.p D.k z c=s:=⟨_,rfl⟩;have HV:Kept (FFld.hornF D pl x (i+1)=s):=⟨by simp only[FFld.hornF];rw[hr.out,hz,HN.out,hj,hc,hs]⟩;have hM:=Km (fun W=>HM.out W r x hrq HXQ.out);rw[hz] at hM;have hA:=Km (fun W=>HA.out W z c hzq hcq);rw[hs] at hA;obtain⟨i0,i1,i2,i3⟩:=four_cells hbx.out.b0;have i4:wr.cell? ⟨bp,op+j,none⟩=some (.int .i64 c):=hcell;clear hz hs hzq hcq hrq hc hcell;have hjn:j<n:=by omega
   clear hj;go_wp2
   go_region_held3 (fun w' =>w'.cell? ⟨w.heap.size,0,none⟩=some (.int .i64 D.q)/\w'.cell? ⟨w.heap.size,1,none⟩=some (.int .i64 D.p)/\w'.cell? ⟨w.heap.size,2,none⟩=some (.int .i64 D.k)/\w'.cell? ⟨w.heap.size,3,none⟩=some (.int .i64 D.m)/\w'.cell? ⟨bp,op+j,none⟩=some (.int .i64 c))
    (first|exact⟨k0,k1,k2,k3,k4⟩|exact⟨j0,j1,j2,j3,j4⟩|exact⟨i0,i1,i2,i3,i4⟩|go_keep)
    ((first
      |(go_at_call 103;(with_reducible refine(hM.out _).mono ?_);rintro e v1 ⟨hb1,rfl⟩;have hy1:=Km (bstep (show Below wr.heap.size wr _ from(by first|exact Below.refl _ _|exact(Below.refl _ _).drew)) hb1);have j0:=belowCell hy1.out i0;have j1:=belowCell hy1.out i1;have j2:=belowCell hy1.out i2;have j3:=belowCell hy1.out i3;have j4:=belowCell hy1.out i4;clear hb1)
      |(go_at_call 108;(with_reducible refine(hA.out _).mono ?_);rintro e v2 ⟨hb2,rfl⟩;have hy2:=Km (bstep (show Below wr.heap.size wr _ from hy1.out) hb2);have k0:=belowCell hy2.out i0;have k1:=belowCell hy2.out i1;have k2:=belowCell hy2.out i2;have k3:=belowCell hy2.out i3;have k4:=belowCell hy2.out i4;clear hb2)))
   have HX9:=Km (hbx.out.below hy2.out);go_wp2;go_roundw
   case rel=>exact⟨i+1,s,by omega,by go_num,rfl,HV,HX9⟩
   case measure=>simp[intOf]<;>omega
  ·obtain rfl:i=n:=by omega
   have hj1:(i:Int)-1-i= -1:=by omega
   rw[hj1];go_wp2
   go_ret
   exact⟨hbx.out.1,by rw[hr.out];rfl⟩
theorem ArV.nilA {D:FFld.FD}{h:D.Ok}{w:World}{T:TypeId}{x:Value}(hv:ArV D h w (.iface T x)):∀ W,(nilAhead 378 T x "dauber/field.sum").run Tryz.prog W= .ok (some false) W:=by
 rcases hv with⟨_,e⟩|⟨_,gP,gL,q1,q,P,L,e,_⟩
 ·simp only[Value.iface.injEq] at e;obtain⟨rfl,rfl⟩:=e;intro W
  kernel_rfl
 ·simp only[Value.iface.injEq] at e;obtain⟨rfl,rfl⟩:=e;intro W
  kernel_rfl
theorem FldB.open2 {D:FFld.FD}{w:World}{b:Nat}(hf:FldB D w b):∃ (h:D.Ok) (T:TypeId) (x:Value) (fs fp fw:FuncId) (ms:Value),w.heap[b]? =some (.cells #[.iface T x, .int .i64 D.q, .int .i64 D.p, .int .i64 D.k, .int .i64 D.g,ms] 179 (0,0))/\ArOps D h w T x fs fp fw/\ ∀ W,(nilAhead 378 T x "dauber/field.sum").run Tryz.prog W= .ok (some false) W:=by
 obtain⟨h,ar,ms,ml,h1,h2,h3,h4⟩:=hf;obtain⟨T,x,fs,fp,fw,rfl,ho⟩:=h2.ops;exact⟨h,T,x,fs,fp,fw,ms,h1,ho,h2.nilA⟩
set_option maxRecDepth 20000 in
theorem gvalue_any {D:FFld.FD}{T:TypeId}{xv:Value}{fs fp fw:FuncId}(hD:D.Ok)(v:Value)(pl:List Nat)(x:Nat)(w0 w:World)(ho:ArOps D hD w0 T xv fs fp fw)(hna:∀ W,(nilAhead 378 T xv "dauber/field.sum").run Tryz.prog W= .ok (some false) W)(hw:Below w0.heap.size w0 w)(hp:Sl .i64 w v (ints pl))(hpq:∀ a∈pl,a<D.p ^ D.k)(hx:x<D.p ^ D.k)(hpl:pl.length<=100000):
 Calls Tryz.prog 149 #[.iface T xv,v, .int .i64 x] w (RB w (.int .i64 (FFld.hornF D pl x pl.length:Nat))):=by
 obtain⟨ap,cp,hvp,hcp,hmp⟩:=hp.form;subst hvp;have HPS:=Km hp;have HPQ:=Km hpq;have HPr:=Km ho.product;have HSu:=Km ho.sum;have hms:=ho.ms;have hcs:=ho.cs;have hmp' :=ho.mp;have hcp' :=ho.cp;obtain⟨n,hn⟩:∃ n,pl.length=n:=⟨_,rfl⟩;rw[FFld.ints_len,hn] at hcp HPS ⊢;rw[hn] at hpl;have HN:=Km hn;have HXQ:=Km hx;have HW:=Km hw;clear hp hpq hn hx ho hw
 go_enter Tryz.func149,Tryz.ntmps149
 go_wp2
 go_loopw [7,8] (fun rv iv wr=> ∃ (i r:Nat),i<=n/\iv= .int .i64 ((n:Int)-1-i)/\rv= .int .i64 r/\Kept (FFld.hornF D pl x i=r)/\Kept (Below w.heap.size w wr)) (fun _ iv _=>(intOf iv+1).toNat)
 case atStart=>exact⟨0,0,Nat.zero_le _,by go_num,rfl,⟨rfl⟩,⟨Below.refl _ _⟩⟩
 case round=>
  obtain⟨i,r,hin,rfl,rfl,hr,hbx⟩:=hrel
  by_cases hlt:i<n
  ·obtain⟨j,hj⟩:∃ j,n-1-i=j:=⟨_,rfl⟩;have hj1:(n:Int)-1-i=j:=by omega
   rw[hj1];obtain⟨bp,op,rfl,hbp,c0⟩:=(HPS.out.below hbx.out).news_at j (by rw[FFld.ints_len,HN.out];omega);obtain⟨c,hc⟩:∃ c,pl[j]?.getD 0=c:=⟨_,rfl⟩;rw[FFld.ints_get,hc] at c0;have hcq:c<D.p ^ D.k:=by rw[<- hc];exact FFld.getD_lt (Nat.pow_pos hD.pre.pk.p0) HPQ.out j
   have hrq:r<D.p ^ D.k:=by rw[<- hr.out];exact FFld.hornF_lt hD.pre.pk pl x i
   obtain⟨z,hz⟩:∃ z,FFld.pmul D.p D.k D.m r D.k x=z:=⟨_,rfl⟩;have hzq:z<D.p ^ D.k:=by rw[<- hz];exact FFld.pmul_lt hD.pre.pk _ _ _
   obtain⟨s,hs⟩:∃ s,FFld.padd D.p D.k z c=s:=⟨_,rfl⟩;have HV:Kept (FFld.hornF D pl x (i+1)=s):=⟨by simp only[FFld.hornF];rw[hr.out,hz,HN.out,hj,hc,hs]⟩;have hB0:=bstep HW.out hbx.out;have hM:=Km (fun W (hW:Below wr.heap.size wr W)=>HPr.out W (bstep hB0 hW) r x hrq HXQ.out);rw[hz] at hM;have hA:=Km (fun W (hW:Below wr.heap.size wr W)=>HSu.out W (bstep hB0 hW) z c hzq hcq);rw[hs] at hA;clear hz hs hzq hcq hrq hc hB0;have hjn:j<n:=by omega
   clear hj;go_wp2
   go_region_held3 (fun w' =>w'.cell? ⟨bp,op+j,none⟩=some (.int .i64 c))
    (first|exact c0|exact k0|exact l0|go_keep)
    ((first
      |((with_reducible refine(hM.out _ (by repeat (first|(with_reducible exact Below.refl _ _)|(with_reducible exact HB2.out)|(with_reducible exact HB3.out)|(with_reducible refine Below.drew ?_)))).mono ?_);rintro e w2 ⟨hb2,rfl⟩;have HB2:Kept (Below wr.heap.size wr w2):=⟨bstep (by repeat (first|(with_reducible exact Below.refl _ _)|(with_reducible exact HB2.out)|(with_reducible exact HB3.out)|(with_reducible refine Below.drew ?_))) hb2⟩;have k0:=belowCell HB2.out c0;clear hb2)
      |((with_reducible refine(hA.out _ (by repeat (first|(with_reducible exact Below.refl _ _)|(with_reducible exact HB2.out)|(with_reducible exact HB3.out)|(with_reducible refine Below.drew ?_)))).mono ?_);rintro e w3 ⟨hb3,rfl⟩;have HB3:Kept (Below wr.heap.size wr w3):=⟨bstep (by repeat (first|(with_reducible exact Below.refl _ _)|(with_reducible exact HB2.out)|(with_reducible exact HB3.out)|(with_reducible refine Below.drew ?_))) hb3⟩;have l0:=belowCell HB3.out c0;clear hb3)))
   all_goals(have HX9:=Km (bstep hbx.out HB3.out);go_wp2;go_roundw;(case rel=>exact⟨i+1,s,by omega,by go_num,rfl,HV,HX9⟩);(case measure=>simp[intOf]<;>omega))
  ·obtain rfl:i=n:=by omega
   have hj1:(i:Int)-1-i= -1:=by omega
   rw[hj1];go_wp2
   go_ret
   exact⟨hbx.out,by rw[hr.out];rfl⟩
set_option maxRecDepth 20000 in
theorem fvalue_any {D:FFld.FD}{b:Nat}(v:Value)(pl:List Nat)(y:Int)(x:Nat)(w:World)(hf:FldB D w b)(hp:Sl .i64 w v (ints pl))(hc:cErr D (ints pl)=0)(hpq:∀ a∈pl,a<D.p ^ D.k)(hy0: -9223372036854775808<=y)(hy1:y<=9223372036854775807)(hr:y%D.q=x)(hx:x<D.p ^ D.k)(hpl:pl.length<=100000):
 Calls Tryz.prog 161 #[.pointer (some ⟨b,0,none⟩),v, .int .i64 y] w (RB w (.tuple #[.int .i64 (FFld.hornF D pl x pl.length:Nat), .int .i64 0])):=by
 obtain⟨h,T,xv,fs,fp,fw,ms,hb,ho,hna⟩:=hf.open2;obtain⟨c0,_⟩:=six_cells hb;have hC:=Km (fcheck_any v (ints pl) w hf hp);rw[hc] at hC;obtain⟨ap,cp,hvp,hcp,hmp⟩:=hp.form;subst hvp;rw[FFld.ints_len] at hcp hp hC ⊢;have HP:=Km hp;have HR:=Km (fun W (hW:Below w.heap.size w W)=>reduced_any y W (hf.below hW) hy0 hy1);rw[hr] at HR;have HG:=Km (fun W (hW:Below w.heap.size w W)=>gvalue_any h (.slice ap pl.length cp) pl x w W ho hna hW (hp.below hW) hpq hx hpl);have hbl:b<w.heap.size:=hf.lt;clear hp hpq hx ho hb hc hr
 go_enter Tryz.func161,Tryz.ntmps161
 go_wp2_with fail;refine hC.out.mono ?_;rintro e w1 ⟨rfl,rfl⟩;go_wp2
 go_region_held3 (fun w' =>w'.cell? ⟨b,0,none⟩=some (.iface T xv))
  (first|exact c0|exact k0|exact l0|go_keep)
  ((first
    |(go_at_call 158;(with_reducible refine(HR.out _ (by repeat (first|(with_reducible exact Below.refl _ _)|(with_reducible exact HB2.out)|(with_reducible exact HB3.out)|(with_reducible refine Below.drew ?_)))).mono ?_);rintro e w2 ⟨rfl,rfl⟩;have k0:=c0)
    |(go_at_call 149;(with_reducible refine(HG.out _ (by repeat (first|(with_reducible exact Below.refl _ _)|(with_reducible exact HB2.out)|(with_reducible exact HB3.out)|(with_reducible refine Below.drew ?_)))).mono ?_);rintro e w3 ⟨hb3,rfl⟩;have HB3:Kept (Below w.heap.size w w3):=⟨bstep (by repeat (first|(with_reducible exact Below.refl _ _)|(with_reducible exact HB2.out)|(with_reducible exact HB3.out)|(with_reducible refine Below.drew ?_))) hb3⟩;have l0:=belowCell HB3.out c0;clear hb3)))
 go_wp2
 go_ret2
 exact⟨HB3.out,rfl⟩
end
section
namespace FFld
def outF (D:FD)(ql:List Nat)(inv n:Nat)(pl:List Nat)(t:Nat):List Nat:=(List.range n).map fun i=>if n-t<=i then divQ D ql inv n pl (n-1-i) else 0
theorem outF_len (D:FD)(ql:List Nat)(inv n:Nat)(pl:List Nat)(t:Nat):(outF D ql inv n pl t).length=n:=by simp[outF]
theorem range_get {n i:Nat}(f:Nat->Nat)(hi:i<n):((List.range n).map f)[i]?.getD 0=f i:=by
 rw[List.getElem?_map,List.getElem?_range hi];rfl
theorem outF_get (D:FD)(ql:List Nat)(inv:Nat){n i:Nat}(pl:List Nat)(t:Nat)(hi:i<n):(outF D ql inv n pl t)[i]?.getD 0=if n-t<=i then divQ D ql inv n pl (n-1-i) else 0:=range_get _ hi
theorem outF_zero (D:FD)(ql:List Nat)(inv n:Nat)(pl:List Nat):outF D ql inv n pl 0=List.replicate n 0:=by
 refine ext_getD (by rw[outF_len,List.length_replicate]) fun i hi=> ?_
 rw[outF_len] at hi;rw[outF_get _ _ _ _ _ hi,if_neg (by omega),List.getElem?_replicate_of_lt hi];rfl
theorem set_get (l:List Nat)(i j v:Nat):(l.set i v)[j]?.getD 0=if i=j/\j<l.length then v else l[j]?.getD 0:=by
 rw[List.getElem?_set]
 by_cases e:i=j
 ·subst e
  by_cases h:i<l.length
  ·rw[if_pos rfl,if_pos h,if_pos ⟨rfl,h⟩];rfl
  ·rw[if_pos rfl,if_neg h,if_neg (fun q=>h q.2),List.getElem?_eq_none (by omega)]
 ·rw[if_neg e,if_neg (fun q=>e q.1)]
theorem outF_next {D:FD}{ql:List Nat}{inv n:Nat}{pl:List Nat}{t s a:Nat}(hts:t<=s)(hs:s<n)(ha:n-1-s=a)(hz:∀ u,t<=u->u<s->divQ D ql inv n pl u=0):(outF D ql inv n pl t).set a (divQ D ql inv n pl s)=outF D ql inv n pl (s+1):=by
 refine ext_getD (by rw[List.length_set,outF_len,outF_len]) fun i hi=> ?_
 rw[List.length_set,outF_len] at hi;rw[set_get,outF_len,outF_get _ _ _ _ _ hi,outF_get _ _ _ _ _ hi]
 by_cases e:a=i
 ·subst e;rw[if_pos ⟨rfl,hi⟩,if_pos (by omega),show n-1-a=s by omega]
 ·rw[if_neg (fun q=>e q.1)]
  by_cases h1:n-(s+1)<=i
  ·rw[if_pos h1]
   by_cases h2:n-t<=i
   ·rw[if_pos h2]
   ·rw[if_neg h2];exact(hz _ (by omega) (by omega)).symm
  ·rw[if_neg h1,if_neg (by omega)]
theorem outF_done {D:FD}{ql:List Nat}{inv n:Nat}{pl:List Nat}{t:Nat}(hn:n+ql.length=pl.length+1)(hq:1<=ql.length)(h1:1<=n)(hz:∀ u,t<=u->u<n->divQ D ql inv n pl u=0):outF D ql inv n pl t=quoF D ql inv pl:=by
 have e:pl.length+1-ql.length=n:=by omega
 unfold quoF;rw[if_neg (by omega),e];refine ext_getD (by rw[outF_len];simp) fun i hi=> ?_
 rw[outF_len] at hi;rw[outF_get _ _ _ _ _ hi,range_get _ hi]
 split
 ·rfl
 ·exact(hz _ (by omega) (by omega)).symm
theorem rstF_done {D:FD}{ql:List Nat}{inv n:Nat}{pl:List Nat}{l:Nat}(hn:n+ql.length=pl.length+1)(hq:1<=ql.length)(h1:1<=n)(hl:l<=pl.length)(hz:∀ j,l<=j->(divF D ql inv n pl n)[j]?.getD 0=0)(ht:l=0\/(divF D ql inv n pl n)[l-1]?.getD 0≠0):(divF D ql inv n pl n).take l=rstF D ql inv pl:=by
 have e:pl.length+1-ql.length=n:=by omega
 unfold rstF;rw[if_neg (by omega),e,trm_is (by rw[divF_len];exact hl) hz ht]
theorem trm_pre {X:List Nat}{l:Nat}(h1:1<=l)(hl:l<=X.length)(hz:∀ j,l-1<=j->X[j]?.getD 0=0):(trm (X.take l)).length+1<=l/\(∀ j,(trm (X.take l)).length<=j->X[j]?.getD 0=0)/\((trm (X.take l)).length=0\/X[(trm (X.take l)).length-1]?.getD 0≠0):=by
 have el:(X.take l).length=l:=by rw[List.length_take];omega
 rw[trm_len,el];have ht:=trmN_top (X.take l) l;have hle:=trmN_le (X.take l) l;have hzz:=trmN_zero (X.take l) l;generalize trmN (X.take l) l=r at*
 have ht2:r=0\/X[r-1]?.getD 0≠0:=by
  rcases ht with h|h
  ·exact .inl h
  ·by_cases h0:r=0
   ·exact .inl h0
   ·rw[take_getD (by omega)] at h;exact .inr h
 refine⟨?_,fun j hj=> ?_,ht2⟩
 ·rcases ht2 with h|h
  ·omega
  ·apply Classical.byContradiction
   intro hc;exact h (hz _ (by omega))
 ·by_cases hjl:j<l
  ·have:=hzz j hj hjl;rw[take_getD hjl] at this;exact this
  ·exact hz j (by omega)
theorem deRet_eq {D:FD}{ql pl qs rs:List Nat}{inv:Nat}(hq1:1<=ql.length)(h:if pl.length<ql.length then qs= []/\rs=pl
 else qs.length=pl.length+1-ql.length/\(∀ t,t<qs.length->qs[qs.length-1-t]?.getD 0=divQ D ql inv qs.length pl t)/\
  ∃ n,n<=pl.length/\rs=(divF D ql inv qs.length pl qs.length).take n/\(∀ i,n<=i->(divF D ql inv qs.length pl qs.length)[i]?.getD 0=0)/\(n=0\/(divF D ql inv qs.length pl qs.length)[n-1]?.getD 0≠0)):qs=quoF D ql inv pl/\rs=rstF D ql inv pl:=by
 by_cases hlt:pl.length<ql.length
 ·rw[if_pos hlt] at h;unfold quoF rstF;rw[if_pos hlt,if_pos hlt];exact h
 ·rw[if_neg hlt] at h;obtain⟨h1,h2,n,h3,h4,h5,h6⟩:=h;constructor
  ·unfold quoF;rw[if_neg hlt,<- h1];refine ext_getD (by simp) fun i hi=> ?_
   rw[range_get _ hi];have:=h2 (qs.length-1-i) (by omega);rw[show qs.length-1-(qs.length-1-i)=i by omega] at this;exact this
  ·rw[h4];exact rstF_done (by omega) hq1 (by omega) h3 h5 h6
end FFld
end
section
open Go Go.RowKit Go.Deep
namespace FFld
def mulF (D:FD)(pl ql:List Nat):Nat->List Nat
 |0=>List.replicate (pl.length+ql.length-1) 0
 |i+1=>addm D (mulF D pl ql i) i ql (pl[i]?.getD 0)
def mulL (D:FD)(pl ql:List Nat):List Nat:=if pl.length=0\/ql.length=0 then [] else mulF D pl ql pl.length
theorem mulF_len (D:FD)(pl ql:List Nat)(i:Nat):(mulF D pl ql i).length=pl.length+ql.length-1:=by
 induction i with
 |zero=>simp[mulF]
 |succ i ih=>simp only[mulF];rw[addm_len,ih]
theorem mulF_lt {D:FD}(hk:PK D.p D.k D.m)(pl ql:List Nat)(i:Nat):∀ a∈mulF D pl ql i,a<D.p ^ D.k:=by
 induction i with
 | zero=>
   intro a ha;rw[(List.mem_replicate.1 ha).2];exact Nat.pow_pos hk.p0
 |succ i ih=>exact addmF_lt hk _ _ _ _ ih
theorem mulL_lt {D:FD}(hk:PK D.p D.k D.m)(pl ql:List Nat):∀ a∈mulL D pl ql,a<D.p ^ D.k:=by
 unfold mulL
 by_cases h:pl.length=0\/ql.length=0
 ·rw[if_pos h];intro a ha;cases ha
 ·rw[if_neg h];exact mulF_lt hk pl ql _
end FFld
open FFld (ints)
set_option maxRecDepth 20000 in
theorem multiply_any {D:FFld.FD}{b:Nat}(hD:D.Ok)(vp vq:Value)(pl ql:List Nat)(w:World)(hf:FldB D w b)(hp:Sl .i64 w vp (ints pl))(hq:Sl .i64 w vq (ints ql))(hpq:∀ a∈pl,a<D.p ^ D.k)(hqq:∀ a∈ql,a<D.p ^ D.k)(hpl:pl.length<=100000)(hqll:ql.length<=100000):
 Calls Tryz.prog 153 #[.pointer (some ⟨b,0,none⟩),vp,vq] w (fun e w' =>Below w.heap.size w w' /\ ∃ v,e= .returned v/\Sl .i64 w' v (ints (FFld.mulL D pl ql))):=by
 obtain⟨ap,cp,rfl,hcp,hmp⟩:=hp.form;obtain⟨aq,cq,rfl,hcq,hmq⟩:=hq.form;rw[FFld.ints_len] at hcp hcq;have HPS:=Km hp;have HQS:=Km hq;have HF:=Km hf;have HPQ:=Km hpq;have HQQ:=Km hqq;clear hp hq hf hpq hqq;rw[FFld.ints_len,FFld.ints_len] at*
 by_cases h0:pl.length=0\/ql.length=0
 ·have hL:FFld.mulL D pl ql= []:=by unfold FFld.mulL;rw[if_pos h0]
  have HS:Kept (Sl .i64 w (.slice none 0 0) (ints [])):=⟨(Mine.nil 3 .i64 0 w).sl⟩;rw[hL]
  by_cases h1:pl.length=0
  ·have e1:((pl.length:Int)==0)=true:=by rw[h1];rfl
   go_enter Tryz.func153,Tryz.ntmps153
   go_wp2
   go_ret
   exact⟨Below.refl _ _,_,rfl,HS.out⟩
  ·have h2:ql.length=0:=by omega
   have e1:((pl.length:Int)==0)=false:=by rw[beq_eq_false_iff_ne];omega
   have e2:((ql.length:Int)==0)=true:=by rw[h2];rfl
   go_enter Tryz.func153,Tryz.ntmps153
   go_wp2
   go_ret
   exact⟨Below.refl _ _,_,rfl,HS.out⟩
 ·have hL:FFld.mulL D pl ql=FFld.mulF D pl ql pl.length:=by unfold FFld.mulL;rw[if_neg h0]
  rw[hL];have e1:((pl.length:Int)==0)=false:=by rw[beq_eq_false_iff_ne];omega
  have e2:((ql.length:Int)==0)=false:=by rw[beq_eq_false_iff_ne];omega
  obtain⟨n,hn⟩:∃ n,pl.length+ql.length-1=n:=⟨_,rfl⟩;have en:(pl.length:Int)+ql.length-1=n:=by omega
  have HN:Kept (∀ i,(FFld.mulF D pl ql i).length=n):=⟨fun i=>by rw[FFld.mulF_len,hn]⟩;have hlen:pl.length+ql.length=n+1:=by omega
  have hn6:n<=200000:=by omega
  have HZ:Kept (FFld.mulF D pl ql 0=List.replicate n 0):=⟨by simp only[FFld.mulF];rw[hn]⟩;obtain⟨np,hnp⟩:∃ np,pl.length=np:=⟨_,rfl⟩;obtain⟨nq,hnq⟩:∃ nq,ql.length=nq:=⟨_,rfl⟩;have HNP:=Km hnp;have HNQ:=Km hnq;have HCP:=Km (HPS.out.cells (Nat.le_refl _));rw[hnp] at hcp hpl e1 en hlen h0 ⊢;rw[hnq] at hcq hqll e2 en hlen h0;rw[hnq];clear hL hn hnp hnq
  go_enter Tryz.func153,Tryz.ntmps153
  go_wp2_with (at_make;refine wpList_make_zeros _ rfl _ _ 22 rfl 3 .i64 Tryz.underlying22 info_i64 _ _ n rfl rfl (by omega) (by omega) (by omega) ?_)
  intro w3 hrow hbel;rw[FFld.ints_rep] at hrow;have HW3:=Km hrow.wv;have HB3:=Km hbel;clear hrow hbel;go_wp2
  go_loopw [27] (fun iv wr=> ∃ i:Nat,i<=np/\iv= .int .i64 i/\Kept (Wv wr w.heap.size (FFld.mulF D pl ql i))/\Kept (Below w.heap.size w wr)) (fun iv _=>np-(intOf iv).toNat)
  case atStart=>exact⟨0,Nat.zero_le _,rfl,⟨by rw[HZ.out];exact HW3.out⟩,HB3⟩
  case round=>
   obtain⟨i,hi,rfl,hwv,hbl⟩:=hrel
   by_cases hlt:i<np
   ·obtain⟨bp,op,rfl,hcell⟩:=HCP.out _ hbl.out i (by rw[HNP.out];exact hlt);obtain⟨c,hc⟩:∃ c,pl[i]?.getD 0=c:=⟨_,rfl⟩;have hcq2:c<D.p ^ D.k:=by rw[<- hc];exact FFld.getD_lt (Nat.pow_pos hD.pre.pk.p0) HPQ.out i
    rw[hc] at hcell;obtain⟨R,hR⟩:∃ R,FFld.mulF D pl ql i=R:=⟨_,rfl⟩;have hRl:R.length=n:=by rw[<- hR];exact HN.out i
    have HRQ:Kept (∀ a∈R,a<D.p ^ D.k):=⟨by rw[<- hR];exact FFld.mulF_lt hD.pre.pk pl ql i⟩;have HNX:Kept (FFld.mulF D pl ql (i+1)=FFld.addm D R i ql c):=⟨by simp only[FFld.mulF];rw[hR,hc]⟩;rw[hR] at hwv;have hAm:=Km (fun(n' cc:Nat) (hn' :ql.length<=n')=>addMultiple_any (s:=i) (n:=n') (cc:=cc) (cap:=cq) w wr HF.out hbl.out (Nat.le_refl _) R hwv.out HRQ.out ql (HQS.out.qc hbl.out (Nat.le_refl _)) HQQ.out (by rw[hRl,HNQ.out];omega) hn' c hcq2 (by rw[HNQ.out];omega));rw[HNQ.out] at hAm;have hs1:(i:Int)<=(n:Int):=by omega
    have hs2:i<=n:=by omega
    have hs3:(0:Int)<=(i:Int):=by omega
    have hs6:((i:Int)<0)=False:=by simp
    clear hc hR hcq2;go_wp2_with fail;refine(hAm.out _ _ (by omega)).mono ?_;rintro e w7 ⟨rfl,hg7,hw7⟩;have HW7:=Km hw7;have HB7:=Km (belowGrow hg7 hbl.out (Nat.le_refl _));clear hg7 hw7 hAm;go_wp2;go_roundw
    case rel=>exact⟨i+1,by omega,by go_num,⟨by rw[HNX.out];exact HW7.out⟩,HB7⟩
    case measure=>simp[intOf]<;>omega
   ·obtain rfl:i=np:=by omega
    have HS:=Km (hwv.out.sl (n:=n) (c:=n) (HN.out i).symm (Nat.le_refl _) (by unfold maxLen;omega));go_wp2
    go_ret
    exact⟨hbl.out,_,rfl,HS.out⟩
end
end Go.Proofs.YtdnheaafcbihbaaGreat
