/-
  Texts of the proof, merged by program: TAdd TSub TShl TShl2 TAbk TEst TEst2 TTak TTak2 TShr.
-/
import Derived.Test.YtdnheaafcbihbaaGreatDc11
set_option linter.unusedSimpArgs false
set_option linter.unusedVariables false
set_option maxHeartbeats 16000000
namespace Go.Proofs.YtdnheaafcbihbaaGreat
section
open Go Go.RowKit
theorem enter_add (cap:Array Value)(W:World):(callFunc 137 cap).run Tryz.prog W= .ok (.enter 137 cap) W:=by
 kernel_rfl
set_option maxRecDepth 20000 in
theorem add1_any {La Lb:Nat}{y z:Int}(p q:Nat)(sa sb:Bool)(ao bo:Option Addr)(ka kb ca cb:Nat)(w:World)(hp:w.heap[p]? =some (.cells #[.bool sa, .slice ao ka ca] 98 (0,0)))(hq:w.heap[q]? =some (.cells #[.bool sb, .slice bo kb cb] 98 (0,0)))
 (ha:IntV La w (.agg #[.bool sa, .slice ao ka ca]) y) (hb:IntV Lb w (.agg #[.bool sb, .slice bo kb cb]) z) (h1:La<=536870911) (h2:Lb<=536870911):
 Calls Tryz.prog 137 #[.pointer (some ⟨p,0,none⟩), .pointer (some ⟨q,0,none⟩)] w (SmRet (max La Lb+1) w (y+z)):=by
 obtain⟨p0,p1,_,_⟩:=ttwo_cells hp;obtain⟨q0,q1,_,_⟩:=ttwo_cells hq;have hpl:p<w.heap.size:=(Array.getElem?_eq_some_iff.1 hp).1;have hql:q<w.heap.size:=(Array.getElem?_eq_some_iff.1 hq).1;have hb0:=Lib.hid (show Below w.heap.size w (w.alloc (.cells #[.bool false, .slice none 0 0] 98)) from(Below.refl _ _).alloc (Nat.le_refl _) _);have HA:=Lib.hid (ha.below hb0.out);have HB:=Lib.hid (hb.below hb0.out);clear hp hq ha hb
 go_enter Tryz.func137,Tryz.ntmps137
 go_wp2_with fail;refine(plus_any (by exact HA.out) (by exact HB.out) (by omega) (by omega)).mono ?_;rintro e w1 ⟨hb1,v1,rfl,hI1⟩;have s1:=hb1.size;simp at s1;go_wp2_with fail;refine(small_any hI1 (by omega)).mono ?_;rintro e w2 ⟨hb2,hc⟩;have hbx:w2.heap[w.heap.size]? =some (.cells #[.bool false, .slice none 0 0] 98 (0,0)):=(hb2.block _ (by omega)).trans ((hb1.block _ (by simp)).trans (heap_alloc_new w _));have hball:=(hb0.out.trans (hb1.mono (B' :=w.heap.size) (by simp))).trans (hb2.mono (B' :=w.heap.size) (by omega))
 rcases hc with⟨hsm,v',rfl,s,sv,rfl,hs,hn⟩|⟨hsm,u,pv,rfl⟩
 ·obtain⟨ao2,k2,c2,rfl⟩:=hn.form;obtain⟨c0,c1,f0,f1⟩:=ttwo_cells hbx;have hsz:w.heap.size<w2.heap.size:=(Array.getElem?_eq_some_iff.1 hbx).1;have HE:=Lib.hid (int_end (s:=s) (ao:=ao2) (k:=k2) (c:=c2) hbx hball (Nat.le_refl _) hs hn);have HSM:=Lib.hid hsm;clear hball hbx hb1 hb2 hs hn hsm hI1;go_wp2;exact bodyPost_ret (v:= .agg #[.bool s, .slice ao2 k2 c2]) (by simp[results,Tryz.results137,go_sem,HE.out.2.1,HE.out.2.2]) rfl ⟨HE.out.1.1, .inl ⟨HSM.out,HE.out.1.2⟩⟩
 ·have HR:Hid (SmRet (max La Lb+1) w (y+z) (.panicked [{v:= .iface u pv,recovered:=false}]) w2):=⟨hball, .inr ⟨hsm,u,pv,rfl⟩⟩;clear hball hbx hb1 hb2 hsm hI1;go_wp2;exact⟨rfl,HR.out⟩
set_option maxRecDepth 20000 in
theorem add_any {La Lb:Nat}{va vb:Value}{y z:Int}{w:World}(ha:IntV La w va y)(hb:IntV Lb w vb z)(h1:La<=536870911)(h2:Lb<=536870911):
 Calls Tryz.prog 68 #[va,vb] w (YdRet (max La Lb+1) w (y+z)):=by
 have hmf:∀ (fn:Fn) (first cap:Array Value) (w:World),(Instr.makeFunc fn first cap).run Tryz.prog w= .ok (.func fn first cap) w:=fun _ _ _ _=>rfl
 have ha' :=ha;have hb' :=hb;obtain⟨sa,ua,rfl,hsa,hna⟩:=ha;obtain⟨sb,ub,rfl,hsb,hnb⟩:=hb;obtain⟨ao,ka,ca,rfl⟩:=hna.form;obtain⟨bo,kb,cb,rfl⟩:=hnb.form;have hb0:Below w.heap.size w (((w.alloc (.cells #[.bool sa, .slice ao ka ca] 98)).alloc (.cells #[.bool sb, .slice bo kb cb] 98)).alloc (.cells #[.bool false, .slice none 0 0] 98)):=(((Below.refl _ _).alloc (Nat.le_refl _) _).alloc (by simp) _).alloc (by simp;omega) _
 have hbox:∀ W:World,Below (((w.alloc (.cells #[.bool sa, .slice ao ka ca] 98)).alloc (.cells #[.bool sb, .slice bo kb cb] 98)).alloc (.cells #[.bool false, .slice none 0 0] 98)).heap.size (((w.alloc (.cells #[.bool sa, .slice ao ka ca] 98)).alloc (.cells #[.bool sb, .slice bo kb cb] 98)).alloc (.cells #[.bool false, .slice none 0 0] 98)) W->
  W.heap[w.heap.size]? =some (.cells #[.bool sa, .slice ao ka ca] 98 (0,0))/\W.heap[w.heap.size+1]? =some (.cells #[.bool sb, .slice bo kb cb] 98 (0,0))/\W.heap[w.heap.size+1+1]? =some (.cells #[.bool false, .slice none 0 0] 98 (0,0))/\Below w.heap.size w W:=by
  intro W hb;refine⟨?_,?_,?_,hb0.trans (hb.mono (by simp;omega))⟩
  ·exact(hb.block _ (by simp;omega)).trans ((heap_alloc_old _ _ (by simp;omega)).trans ((heap_alloc_old _ _ (by simp)).trans (heap_alloc_new w _)))
  ·exact(hb.block _ (by simp)).trans ((heap_alloc_old _ _ (by simp)).trans (theap_last _ _ _ (by simp)))
  ·exact(hb.block _ (by simp)).trans (theap_last _ _ _ (by simp))
 have HBOX:=Lib.hid hbox;have HA:=Lib.hid ha';have HB:=Lib.hid hb';clear hna hnb hb0 hsa hsb hbox ha' hb'
 go_enter Tryz.func68,Tryz.ntmps68
 go_wp2_with fail;refine(yield_any (L:=max La Lb+1) (z:=y+z) _ _ _ (enter_add _) (fun W hb=>add1_any _ _ sa sb ao bo ka kb ca cb W (HBOX.out W hb).1 (HBOX.out W hb).2.1 (HA.out.below (HBOX.out W hb).2.2.2) (HB.out.below (HBOX.out W hb).2.2.2) h1 h2)).mono ?_;rintro e w1 ⟨hb1,hc⟩;obtain⟨_,_,hx,hbw⟩:=HBOX.out w1 hb1;obtain⟨c0,c1,f0,f1⟩:=ttwo_cells hx;have hsz1:w.heap.size+1+1<w1.heap.size:=(Array.getElem?_eq_some_iff.1 hx).1
 rcases hc with⟨hsm,v',rfl,s,sv,rfl,hs,hn⟩|⟨hsm,rfl⟩
 ·obtain⟨ao2,k2,c2,rfl⟩:=hn.form;have HE:=Lib.hid (int_end (s:=s) (ao:=ao2) (k:=k2) (c:=c2) hx hbw (by omega) hs hn);have HSM:=Lib.hid hsm;clear hx hbw hb1 hs hn hsm;go_wp2;exact bodyPost_ret (v:= .tuple #[.agg #[.bool s, .slice ao2 k2 c2], .int .i64 0]) (by simp[results,Tryz.results68,go_sem,HE.out.2.1,HE.out.2.2]) rfl ⟨HE.out.1.1, .inl ⟨HSM.out,by obtain⟨v,e,h⟩:=HE.out.1.2;cases e;exact⟨_,rfl,h⟩⟩⟩
 ·have HE:=Lib.hid (int_end (L:=0) (z:=0) (s:=false) (ao:=none) (k:=0) (c:=0) hx hbw (by omega) rfl ⟨[],Sl.nil _ _,Dg.Wf.nil _,Dg.Nz.nil,rfl,Nat.le_refl _⟩);have HSM:=Lib.hid hsm;clear hx hbw hb1 hsm;go_wp2;exact bodyPost_ret (v:= .tuple #[.agg #[.bool false, .slice none 0 0], .int .i64 11]) (by simp[results,Tryz.results68,go_sem,HE.out.2.1,HE.out.2.2]) rfl ⟨HE.out.1.1, .inr ⟨HSM.out,rfl⟩⟩
theorem enter_mul (cap:Array Value)(W:World):(callFunc 140 cap).run Tryz.prog W= .ok (.enter 140 cap) W:=by
 kernel_rfl
set_option maxRecDepth 20000 in
theorem mul1_any {La Lb:Nat}{y z:Int}(p q:Nat)(sa sb:Bool)(ao bo:Option Addr)(ka kb ca cb:Nat)(w:World)(hp:w.heap[p]? =some (.cells #[.bool sa, .slice ao ka ca] 98 (0,0)))(hq:w.heap[q]? =some (.cells #[.bool sb, .slice bo kb cb] 98 (0,0)))
 (ha:IntV La w (.agg #[.bool sa, .slice ao ka ca]) y) (hb:IntV Lb w (.agg #[.bool sb, .slice bo kb cb]) z) (h1:La<=536870911) (h2:Lb<=536870911):
 Calls Tryz.prog 140 #[.pointer (some ⟨p,0,none⟩), .pointer (some ⟨q,0,none⟩)] w (SmRet (La+Lb) w (y*z)):=by
 obtain⟨p0,p1,_,_⟩:=ttwo_cells hp;obtain⟨q0,q1,_,_⟩:=ttwo_cells hq;have hpl:p<w.heap.size:=(Array.getElem?_eq_some_iff.1 hp).1;have hql:q<w.heap.size:=(Array.getElem?_eq_some_iff.1 hq).1;have hb0:=Lib.hid (show Below w.heap.size w (w.alloc (.cells #[.bool false, .slice none 0 0] 98)) from(Below.refl _ _).alloc (Nat.le_refl _) _);have HA:=Lib.hid (ha.below hb0.out);have HB:=Lib.hid (hb.below hb0.out);clear hp hq ha hb
 go_enter Tryz.func140,Tryz.ntmps140
 go_wp2_with fail;refine(times_any (by exact HA.out) (by exact HB.out) (by omega) (by omega)).mono ?_;rintro e w1 ⟨hb1,v1,rfl,hI1⟩;have s1:=hb1.size;simp at s1;go_wp2_with fail;refine(small_any hI1 (by omega)).mono ?_;rintro e w2 ⟨hb2,hc⟩;have hbx:w2.heap[w.heap.size]? =some (.cells #[.bool false, .slice none 0 0] 98 (0,0)):=(hb2.block _ (by omega)).trans ((hb1.block _ (by simp)).trans (heap_alloc_new w _));have hball:=(hb0.out.trans (hb1.mono (B' :=w.heap.size) (by simp))).trans (hb2.mono (B' :=w.heap.size) (by omega))
 rcases hc with⟨hsm,v',rfl,s,sv,rfl,hs,hn⟩|⟨hsm,u,pv,rfl⟩
 ·obtain⟨ao2,k2,c2,rfl⟩:=hn.form;obtain⟨c0,c1,f0,f1⟩:=ttwo_cells hbx;have hsz:w.heap.size<w2.heap.size:=(Array.getElem?_eq_some_iff.1 hbx).1;have HE:=Lib.hid (int_end (s:=s) (ao:=ao2) (k:=k2) (c:=c2) hbx hball (Nat.le_refl _) hs hn);have HSM:=Lib.hid hsm;clear hball hbx hb1 hb2 hs hn hsm hI1;go_wp2;exact bodyPost_ret (v:= .agg #[.bool s, .slice ao2 k2 c2]) (by simp[results,Tryz.results140,go_sem,HE.out.2.1,HE.out.2.2]) rfl ⟨HE.out.1.1, .inl ⟨HSM.out,HE.out.1.2⟩⟩
 ·have HR:Hid (SmRet (La+Lb) w (y*z) (.panicked [{v:= .iface u pv,recovered:=false}]) w2):=⟨hball, .inr ⟨hsm,u,pv,rfl⟩⟩;clear hball hbx hb1 hb2 hsm hI1;go_wp2;exact⟨rfl,HR.out⟩
set_option maxRecDepth 20000 in
theorem mul_any {La Lb:Nat}{va vb:Value}{y z:Int}{w:World}(ha:IntV La w va y)(hb:IntV Lb w vb z)(h1:La<=536870911)(h2:Lb<=536870911):
 Calls Tryz.prog 69 #[va,vb] w (YdRet (La+Lb) w (y*z)):=by
 have hmf:∀ (fn:Fn) (first cap:Array Value) (w:World),(Instr.makeFunc fn first cap).run Tryz.prog w= .ok (.func fn first cap) w:=fun _ _ _ _=>rfl
 have ha' :=ha;have hb' :=hb;obtain⟨sa,ua,rfl,hsa,hna⟩:=ha;obtain⟨sb,ub,rfl,hsb,hnb⟩:=hb;obtain⟨ao,ka,ca,rfl⟩:=hna.form;obtain⟨bo,kb,cb,rfl⟩:=hnb.form;have hb0:Below w.heap.size w (((w.alloc (.cells #[.bool sa, .slice ao ka ca] 98)).alloc (.cells #[.bool sb, .slice bo kb cb] 98)).alloc (.cells #[.bool false, .slice none 0 0] 98)):=(((Below.refl _ _).alloc (Nat.le_refl _) _).alloc (by simp) _).alloc (by simp;omega) _
 have hbox:∀ W:World,Below (((w.alloc (.cells #[.bool sa, .slice ao ka ca] 98)).alloc (.cells #[.bool sb, .slice bo kb cb] 98)).alloc (.cells #[.bool false, .slice none 0 0] 98)).heap.size (((w.alloc (.cells #[.bool sa, .slice ao ka ca] 98)).alloc (.cells #[.bool sb, .slice bo kb cb] 98)).alloc (.cells #[.bool false, .slice none 0 0] 98)) W->
  W.heap[w.heap.size]? =some (.cells #[.bool sa, .slice ao ka ca] 98 (0,0))/\W.heap[w.heap.size+1]? =some (.cells #[.bool sb, .slice bo kb cb] 98 (0,0))/\W.heap[w.heap.size+1+1]? =some (.cells #[.bool false, .slice none 0 0] 98 (0,0))/\Below w.heap.size w W:=by
  intro W hb;refine⟨?_,?_,?_,hb0.trans (hb.mono (by simp;omega))⟩
  ·exact(hb.block _ (by simp;omega)).trans ((heap_alloc_old _ _ (by simp;omega)).trans ((heap_alloc_old _ _ (by simp)).trans (heap_alloc_new w _)))
  ·exact(hb.block _ (by simp)).trans ((heap_alloc_old _ _ (by simp)).trans (theap_last _ _ _ (by simp)))
  ·exact(hb.block _ (by simp)).trans (theap_last _ _ _ (by simp))
 have HBOX:=Lib.hid hbox;have HA:=Lib.hid ha';have HB:=Lib.hid hb';clear hna hnb hb0 hsa hsb hbox ha' hb'
 go_enter Tryz.func69,Tryz.ntmps69
 go_wp2_with fail;refine(yield_any (L:=La+Lb) (z:=y*z) _ _ _ (enter_mul _) (fun W hb=>mul1_any _ _ sa sb ao bo ka kb ca cb W (HBOX.out W hb).1 (HBOX.out W hb).2.1 (HA.out.below (HBOX.out W hb).2.2.2) (HB.out.below (HBOX.out W hb).2.2.2) h1 h2)).mono ?_;rintro e w1 ⟨hb1,hc⟩;obtain⟨_,_,hx,hbw⟩:=HBOX.out w1 hb1;obtain⟨c0,c1,f0,f1⟩:=ttwo_cells hx;have hsz1:w.heap.size+1+1<w1.heap.size:=(Array.getElem?_eq_some_iff.1 hx).1
 rcases hc with⟨hsm,v',rfl,s,sv,rfl,hs,hn⟩|⟨hsm,rfl⟩
 ·obtain⟨ao2,k2,c2,rfl⟩:=hn.form;have HE:=Lib.hid (int_end (s:=s) (ao:=ao2) (k:=k2) (c:=c2) hx hbw (by omega) hs hn);have HSM:=Lib.hid hsm;clear hx hbw hb1 hs hn hsm;go_wp2;exact bodyPost_ret (v:= .tuple #[.agg #[.bool s, .slice ao2 k2 c2], .int .i64 0]) (by simp[results,Tryz.results69,go_sem,HE.out.2.1,HE.out.2.2]) rfl ⟨HE.out.1.1, .inl ⟨HSM.out,by obtain⟨v,e,h⟩:=HE.out.1.2;cases e;exact⟨_,rfl,h⟩⟩⟩
 ·have HE:=Lib.hid (int_end (L:=0) (z:=0) (s:=false) (ao:=none) (k:=0) (c:=0) hx hbw (by omega) rfl ⟨[],Sl.nil _ _,Dg.Wf.nil _,Dg.Nz.nil,rfl,Nat.le_refl _⟩);have HSM:=Lib.hid hsm;clear hx hbw hb1 hsm;go_wp2;exact bodyPost_ret (v:= .tuple #[.agg #[.bool false, .slice none 0 0], .int .i64 11]) (by simp[results,Tryz.results69,go_sem,HE.out.2.1,HE.out.2.2]) rfl ⟨HE.out.1.1, .inr ⟨HSM.out,rfl⟩⟩
def YdOne (L:Nat)(z:Int)(w' :World)(s:Bool)(ao:Option Addr)(k c:Nat)(err:Int):Prop:=
 (smallB z.natAbs=true/\err=0/\IntV L w' (.agg #[.bool s, .slice ao k c]) z)\/(smallB z.natAbs=false/\err=11/\s=false/\ao=none/\k=0/\c=0)
theorem or_add' (a b:Int)(s:Nat)(ha:0<=a)(hb:0<=b)(hb1:b<2 ^ s)(hab:a*2 ^ s+b<18446744073709551616):bits .or .u64 b (a*2 ^ s)=a*2 ^ s+b:=by
 obtain⟨a,rfl⟩:=Int.eq_ofNat_of_zero_le ha;obtain⟨b,rfl⟩:=Int.eq_ofNat_of_zero_le hb;have e3:((a*2 ^ s:Nat):Int)=(a:Int)*2 ^ s:=by simp
 have hb2:b<2 ^ s:=by
  have:((2 ^ s:Nat):Int)=2 ^ s:=by simp
  omega
 rw[<- e3,bits_or_u64_nat _ _ (by omega) (by omega),Nat.or_comm,<- Nat.shiftLeft_eq,<- Nat.shiftLeft_add_eq_or_of_lt hb2,Nat.shiftLeft_eq];omega
theorem shl_one (x t:Int)(s:Nat)(hs:s<=63)(x0:0<=x)(x1:x<18446744073709551616)(t0:0<=t)(t1:t<2 ^ s):
 ∃ lo hi:Int,bits .or .u64 t (IntKind.u64.wrap (x*2 ^ s))=lo/\x/2 ^ (64-s)=hi/\0<=lo/\lo<18446744073709551616/\0<=hi/\hi<2 ^ s/\x*2 ^ s+t=hi*18446744073709551616+lo:=by
 have hp:(0:Int)<2 ^ s:=Dg.pow_pos (by omega) s;have hq:(0:Int)<2 ^ (64-s):=Dg.pow_pos (by omega) _
 have hpq:(2:Int) ^ (64-s)*2 ^ s=18446744073709551616:=by
  rw[<- Int.pow_add,show 64-s+s=64 by omega];rfl
 have hd0:=Int.ediv_nonneg x0 (Int.le_of_lt hq);have hm:=Int.mul_ediv_add_emod x (2 ^ (64-s));have hm0:=Int.emod_nonneg x (Int.ne_of_gt hq);have hm1:=Int.emod_lt_of_pos x hq;refine⟨_,_,rfl,rfl,?_⟩;generalize x/2 ^ (64-s)=d at*;generalize x%2 ^ (64-s)=r at*;generalize hP:(2:Int) ^ s=p at*;generalize(2:Int) ^ (64-s)=q at*
 have hd1:d<p:=by
  apply Int.lt_of_mul_lt_mul_left (a:=q) ?_ (by omega)
  omega
 have e1:x*p=d*18446744073709551616+r*p:=by rw[<- hm,Int.add_mul,Int.mul_right_comm,hpq,Int.mul_comm]
 have e2:(r+1)*p<=q*p:=Int.mul_le_mul_of_nonneg_right (by omega) (by omega);rw[hpq,Int.add_mul] at e2;have e3:0<=r*p:=Int.mul_nonneg hm0 (by omega);have ew:IntKind.u64.wrap (x*p)=r*p:=by rw[IntKind.wrap_u64,e1];omega
 have eo:bits .or .u64 t (r*p)=r*p+t:=by
  rw[<- hP];exact or_add' r t s hm0 t0 (by rw[hP];exact t1) (by rw[hP];omega)
 rw[ew,eo];exact⟨by omega,by omega,hd0,hd1,by omega⟩
theorem Dg.val_set (B:Int)(xs:List Int)(i:Nat)(x:Int)(hi:i<xs.length):val B (xs.set i x)=val B xs+B ^ i*(x-xs[i]?.getD 0):=by
 induction xs generalizing i with
 |nil=>simp at hi
 | cons y xs ih=>
   cases i with
   |zero=>simp[val];omega
   | succ i=>
     simp only[List.set_cons_succ,val,List.getElem?_cons_succ];rw[ih i (by simpa using hi),Int.mul_add,<- Int.mul_assoc,Int.mul_comm B (B ^ i),<- Int.pow_succ];simp only[Nat.succ_eq_add_one];omega
structure ShAt (xs T:List Int)(s W k:Nat):Prop where
 len:T.length=xs.length+W+1
 wf:Dg.Wf BW T
 eq:Dg.val BW T=Dg.val BW (xs.take k)*2 ^ s*BW ^ W
 top:T[k+W]?.getD 0<2 ^ s
 zero:∀ i,k+W<i->T[i]?.getD 0=0
theorem ShAt.start (xs:List Int)(s W:Nat):ShAt xs (List.replicate (xs.length+W+1) 0) s W 0:=by
 have hz:∀ i:Nat,(List.replicate (xs.length+W+1) (0:Int))[i]?.getD 0=0:=fun i=>by simp[List.getElem?_replicate];split<;>rfl
 exact⟨by simp,Dg.Wf.zeros (by decide) _,by simp[Dg.val,Dg.val_zeros],by rw[hz];exact Dg.pow_pos (by omega) s,fun i _=>hz i⟩
theorem ShAt.next {xs T:List Int}{s W k:Nat}{x t lo hi:Int}(h:ShAt xs T s W k)(hk:k<xs.length)(hx:x=xs[k]?.getD 0)(ht:t=T[k+W]?.getD 0)
 (l0:0<=lo) (l1:lo<18446744073709551616) (h0:0<=hi) (h1:hi<18446744073709551616) (h2:hi<2 ^ s) (he:x*2 ^ s+t=hi*18446744073709551616+lo):ShAt xs ((T.set (k+W) lo).set (k+W+1) hi) s W (k+1):=by
 obtain⟨hl,hw,hv,_,hz⟩:=h;refine⟨by simpa using hl,(hw.set _ l0 l1).set _ h0 h1,?_,?_,fun i hi' => ?_⟩
 ·have z1:=hz (k+W+1) (by omega);rw[Dg.val_set BW _ _ _ (by simp;omega),Dg.val_set BW _ _ _ (by omega),List.getElem?_set_ne (by omega),z1,<- ht,Dg.val_take_succD,<- hx,hv,Int.pow_succ,Int.pow_add];generalize Dg.val BW (xs.take k)=a;have e1:BW ^ k*(BW ^ W*(x*2 ^ s+t))=BW ^ k*(BW ^ W*(hi*18446744073709551616+lo)):=by rw[he]
  generalize BW ^ k=p at*;generalize BW ^ W=q at*;generalize(2:Int) ^ s=r at*;unfold BW;simp only[Int.mul_add,Int.add_mul,Int.mul_sub,Int.mul_comm,Int.mul_left_comm,Int.mul_assoc,Int.sub_zero] at*;omega
 ·rw[show k+1+W=k+W+1 by omega,List.getElem?_set_self (by simp;omega)];exact h2
 ·rw[List.getElem?_set_ne (by omega),List.getElem?_set_ne (by omega)];exact hz i (by omega)
set_option maxRecDepth 20000 in
theorem shiftLeft_at (v:Value)(xs:List Int)(c:Int)(W s:Nat)(w:World)(hv:Sl .u64 w v xs)(hw:Dg.Wf BW xs)(hc0:0<=c)(hc1:c<=9223372036854775807)
 (hq:c.tdiv 64=W) (hr:c.tmod 64=s) (hs:s<=63) (hW:W<=1099511627776) (hmx:xs.length<=17000000000000):
 Calls Tryz.prog 235 #[v, .int .i64 c] w (RetNum (xs.length+W+1) w (Dg.val BW xs*2 ^ s*BW ^ W)):=by
 obtain⟨ao,cap,rfl,hcap,hmax,hc⟩:=hv;unfold maxLen at hmax
 go_enter Tryz.func235,Tryz.ntmps235
 go_wp2_with (at_make;refine wpList_make_zeros _ rfl _ _ 96 rfl 165 .u64 Tryz.underlying96 info_u64 _ _ (xs.length+W+1) rfl rfl (by omega) (by omega) (by omega) ?_)
 intro w1 hrow hbel;go_wp2
 go_loopw [22] (fun i wr=> ∃ (k:Nat) (T:List Int),k<=xs.length/\i= .int .i64 k/\Hid (ShAt xs T s W k)/\Row 165 .u64 wr w.heap.size T/\Below w.heap.size w wr) (fun i _=>xs.length-(intOf i).toNat)
 case atStart=>exact⟨0,_,Nat.zero_le _,rfl,ShAt.start xs s W,hrow,hbel⟩
 case round=>
  obtain⟨k,T,hk,rfl,hat,hr,hbl⟩:=hrel;clear hrow hbel
  by_cases hlt:k<xs.length
  ·obtain⟨b,o,rfl,hbs,hcell⟩:=hc k hlt;obtain⟨x,hx⟩:∃ x,x=xs[k]?.getD 0:=⟨_,rfl⟩;obtain⟨t,ht⟩:∃ t,t=T[k+W]?.getD 0:=⟨_,rfl⟩;have hxb:=wfD hw k;have htb:=wfD hat.out.wf (k+W);have htop:=hat.out.top;rw[<- hx] at hcell hxb;rw[<- ht] at htb htop;have htl:=hat.out.len;have hcl:=(hbl.cell (p:=⟨b,o+k,none⟩) hbs).trans hcell;have hcz:=hr.cell (i:=k+W) (by omega);rw[<- ht] at hcz;have hcz1:=hr.cell (i:=k+W+1) (by omega);have hfz:=hr.free (k+W);have hfz1:=hr.free (k+W+1);obtain⟨lo,hi,elo,ehi,l0,l1,h0,h1,he⟩:=shl_one x t s hs hxb.1 hxb.2 htb.1 htop;have HX:=Lib.hid hx;have HT:=Lib.hid ht;have HTL:=Lib.hid htl;have HE:=Lib.hid he;have HTop:=Lib.hid htop;have H1:=Lib.hid h1
   have hp1:Hid ((2:Int) ^ s<=18446744073709551616):=by
    show _<=_
    have h3:s<64:=by omega
    have:(2:Nat) ^ s<=2 ^ 64:=Nat.pow_le_pow_right (by omega) (by omega);have e2:(((2:Nat) ^ s:Nat):Int)=(2:Int) ^ s:=by simp
    omega
   clear hx ht htl he htop h1 hcell;go_wp2
   go_region
   go_wp2;go_roundw
   case rel=>exact⟨k+1,_,by omega,by go_num,hat.out.next hlt HX.out HT.out l0 l1 h0 (by have:=hp1.out;have:=H1.out;omega) H1.out HE.out,((hr.set _ lo).drew).set _ hi,(hbl.setCell (Nat.le_refl _) _).drew.setCell (Nat.le_refl _) _⟩
   case measure=>simp[intOf]<;>omega
  ·obtain rfl:k=xs.length:=by omega
   have hat2:=hat.out;have hSl:=hr.slAll (n:=xs.length+W+1) (cap:=xs.length+W+1) hat2.len.symm (Nat.le_refl _) (by unfold maxLen;omega);have hdw:=hat2.wf;have HL:=Lib.hid hat2.len;have HV:=Lib.hid hat2.eq;clear hat2 hat
   go_wp2_with (go_at_call 196;refine(cut_num hSl hdw).mono ?_;rintro e w' ⟨v',rfl,rfl,hn,hob⟩;have HOB:=Lib.hid hob;clear hob)
   go_ret
   rw[HV.out,HL.out,List.take_of_length_le (Nat.le_refl _)] at hn;exact⟨hbl,_,rfl,hn,(Frm.mk (Nat.le_refl _)).of HOB.out⟩
theorem swallow {M us M' :List Int}{c t:Int}(H:AmAt M us M' 1 us.length c)(hl:M.length=us.length+1)(ht:t=M'[us.length]?.getD 0)(hc:c<=1):
 (M'.set us.length (IntKind.u64.wrap (t+c))).length=M.length/\Dg.Wf BW (M'.set us.length (IntKind.u64.wrap (t+c)))/\
 ∃ d:Int,0<=d/\d<=1/\Dg.val BW (M'.set us.length (IntKind.u64.wrap (t+c)))+d*BW ^ (us.length+1)=Dg.val BW M+Dg.val BW us:=by
 obtain⟨hl',hw,c0,c1,hv,hz⟩:=H;have htb:=wfD hw us.length;rw[<- ht] at htb
 have hwr:∃ d:Int,0<=d/\d<=1/\IntKind.u64.wrap (t+c)+d*18446744073709551616=t+c:=by
  rw[IntKind.wrap_u64]
  by_cases h:t+c<18446744073709551616
  ·exact⟨0,by omega,by omega,by omega⟩
  ·exact⟨1,by omega,by omega,by omega⟩
 have hw0:0<=IntKind.u64.wrap (t+c):=by rw[IntKind.wrap_u64];omega
 have hw1:IntKind.u64.wrap (t+c)<18446744073709551616:=by rw[IntKind.wrap_u64];omega
 obtain⟨d,d0,d1,hd⟩:=hwr;generalize IntKind.u64.wrap (t+c)=s at*;refine⟨by simpa using hl',hw.set _ hw0 hw1,d,d0,d1,?_⟩;rw[Dg.val_set BW _ _ _ (by omega),<- ht]
 have e1:Dg.val BW M' =Dg.val BW (M'.take us.length)+BW ^ us.length*t:=by
  rw[ht,<- Dg.val_take_succD,List.take_of_length_le (by omega)]
 have e2:Dg.val BW M=Dg.val BW (M.take us.length)+BW ^ us.length*t:=by
  rw[ht,hz _ (Nat.le_refl _),<- Dg.val_take_succD,List.take_of_length_le (by omega)]
 rw[e1,e2,Int.pow_succ];rw[List.take_of_length_le (Nat.le_refl us.length)] at hv;have e3:BW ^ us.length*(s+d*18446744073709551616)=BW ^ us.length*(t+c):=by rw[hd]
 generalize BW ^ us.length=p at*;unfold BW at*;simp only[Int.mul_add,Int.mul_sub,Int.mul_comm,Int.mul_left_comm,Int.mul_assoc] at*;omega
def AbRet (w:World)(g:Nat)(P M S us:List Int)(e:Ending)(w' :World):Prop:=
 ∃ (M' :List Int),e= .returned (.tuple #[])/\Row 165 .u64 w' g (P++M' ++S)/\w.grownBy w' (some g)/\M'.length=M.length/\Dg.Wf BW M' /\
   ∃ d:Int,0<=d/\d<=1/\Dg.val BW M' +d*BW ^ (us.length+1)=Dg.val BW M+Dg.val BW us
theorem addBack_any (g cap:Nat)(P M S us:List Int)(va:Value)(w0 w:World)(ha:Sl .u64 w0 va us)(hb0:Below w0.heap.size w0 w)(hg:w0.heap.size<=g)
 (hr:Row 165 .u64 w g (P++M++S)) (hM:M.length=us.length+1) (hwM:Dg.Wf BW M) (hwa:Dg.Wf BW us):
 Calls Tryz.prog 260 #[.slice (some ⟨g,P.length,none⟩) (us.length+1) cap,va] w (AbRet w g P M S us):=by
 obtain⟨ao,acap,rfl,hcap,hmax,hc⟩:=ha;unfold maxLen at hmax;have HM:=Lib.hid hM;clear hM
 go_enter Tryz.func260,Tryz.ntmps260
 go_wp2
 go_loopw [4,9] (fun c i wr=> ∃ (k:Nat) (cv:Int) (M' :List Int),k<=us.length/\i= .int .i64 k/\c= .int .u64 cv/\cv<=1/\Hid (AmAt M us M' 1 k cv)/\Row 165 .u64 wr g (P++M' ++S)/\w.grownBy wr (some g)) (fun _ i _=>us.length-(intOf i).toNat)
 case atStart=>exact⟨0,0,M,Nat.zero_le _,rfl,rfl,by decide,AmAt.start hwM us 1,hr,tgrowRefl _ _⟩
 case round=>
  obtain⟨k,cv,M',hk,rfl,rfl,hz1,hat,hrr,hgr⟩:=hrel;have hz0:0<=cv:=hat.out.2.2.1
  by_cases hlt:k<us.length
  ·have hMl:k<M'.length:=by have:=hat.out.1;have:=HM.out;omega
   obtain⟨b,o,rfl,hbs,hcell⟩:=hc k hlt;obtain⟨x,hx⟩:∃ x,x=us[k]?.getD 0:=⟨_,rfl⟩;obtain⟨m,hm⟩:∃ m,m=M'[k]?.getD 0:=⟨_,rfl⟩;have hxb:=wfD hwa k;have hmb:=wfD hat.out.2.1 k;have hcl:=((tbelowGrow hgr hb0 hg).cell (p:=⟨b,o+k,none⟩) hbs).trans hcell;have hcz:=hrr.cell (i:=P.length+k) (by simp;omega);rw[Dg.mid_get P M' S k hMl,<- hm] at hcz;have hfz:=hrr.free (P.length+k);rw[<- hx] at hcl hxb;rw[<- hm] at hmb;have HX:=Lib.hid hx;have HMM:=Lib.hid hm;clear hx hm hcell;obtain⟨s,d,hadd,s0,s1,d0,d1,hs⟩:=add64 m x cv hmb.1 hmb.2 hxb.1 hxb.2 hz0 hz1;have HS:=Lib.hid hs;clear hs;go_wp2;have hrs:=hrr.set (P.length+k) s;rw[Dg.mid_set P M' S k s hMl] at hrs;go_roundw
   case rel=>exact⟨k+1,d,M'.set k s,by omega,by go_num,rfl,d1,by
    have:=hat.out.next (h:=0) (l:=x+cv) (s:=s) (d:=d) (f:=1) (by have:=HM.out;omega) HX.out HMM.out (by omega) (by have:=HS.out;omega) s0 s1 (by omega) (by omega);rw[Int.zero_add] at this
    exact this,hrs,tgrowSet hgr _ _⟩
   case measure=>simp[intOf]<;>omega
  ·obtain rfl:k=us.length:=by omega
   have hMl:us.length<M'.length:=by have:=hat.out.1;have:=HM.out;omega
   obtain⟨t,ht⟩:∃ t,t=M'[us.length]?.getD 0:=⟨_,rfl⟩;have htb:=wfD hat.out.2.1 us.length;have hcz:=hrr.cell (i:=P.length+us.length) (by simp;omega);rw[Dg.mid_get P M' S us.length hMl,<- ht] at hcz;have hfz:=hrr.free (P.length+us.length);have HD:=Lib.hid (swallow hat.out HM.out ht hz1);have hrs:=hrr.set (P.length+us.length) (IntKind.u64.wrap (t+cv));rw[Dg.mid_set P M' S _ _ hMl] at hrs;have HRS:=Lib.hid hrs;clear ht hrs;go_wp2
   go_end0
   exact⟨_,rfl,HRS.out,tgrowSet hgr _ _,HD.out.1,HD.out.2.1,HD.out.2.2⟩
structure Big (D L P f s l2 l1 l0:Int):Prop where
 p:0<P
 f0:9223372036854775808<=f
 f1:f<18446744073709551616
 s0:0<=s
 s1:s<18446744073709551616
 l20:0<=l2
 l10:0<=l1
 l00:0<=l0
 l11:l1<18446744073709551616
 l01:l0<18446744073709551616
 d0:(f*18446744073709551616+s)*P<=D
 d1:D<(f*18446744073709551616+s+1)*P
 e0:((l2*18446744073709551616+l1)*18446744073709551616+l0)*P<=L
 e1:L<((l2*18446744073709551616+l1)*18446744073709551616+l0+1)*P
 lt:L<18446744073709551616*D
variable {D L P f s l2 l1 l0 : Int}
theorem Big.dlow (h:Big D L P f s l2 l1 l0):18446744073709551616*P<=D:=by
 have h1:(18446744073709551616:Int)*P<=(f*18446744073709551616+s)*P:=Int.mul_le_mul_of_nonneg_right (by have:=h.f0;have:=h.s0;omega) (by have:=h.p;omega);have:=h.d0;omega
theorem Big.low (h:Big D L P f s l2 l1 l0){q r:Int}(q0:0<=q)(q1:q<18446744073709551616)(he:l2*18446744073709551616+l1=q*f+r)(ht:q*s<=r*18446744073709551616+l0):q*D<=L+D:=by
 have hp:=h.p;have hl:=h.dlow;have h1:q*D<=q*((f*18446744073709551616+s)*P+P):=Int.mul_le_mul_of_nonneg_left (by have:=h.d1;rw[Int.add_mul _ 1,Int.one_mul] at this;omega) q0;have h2:q*P<=18446744073709551616*P:=Int.mul_le_mul_of_nonneg_right (by omega) (by omega)
 have h3:q*(f*18446744073709551616+s)<=(l2*18446744073709551616+l1)*18446744073709551616+l0:=by
  rw[he,Int.mul_add,Int.add_mul,<- Int.mul_assoc];omega
 have h4:q*(f*18446744073709551616+s)*P<=((l2*18446744073709551616+l1)*18446744073709551616+l0)*P:=Int.mul_le_mul_of_nonneg_right h3 (by omega);rw[Int.mul_add,<- Int.mul_assoc] at h1;have:=h.e0;omega
theorem Big.high (h:Big D L P f s l2 l1 l0){q r:Int}(q0:0<=q)(he:l2*18446744073709551616+l1=q*f+r)(ht:r*18446744073709551616+l0<q*s):L<q*D:=by
 have hp:=h.p
 have h3:(l2*18446744073709551616+l1)*18446744073709551616+l0+1<=q*(f*18446744073709551616+s):=by
  rw[he,Int.mul_add,Int.add_mul,<- Int.mul_assoc];omega
 have h4:((l2*18446744073709551616+l1)*18446744073709551616+l0+1)*P<=q*(f*18446744073709551616+s)*P:=Int.mul_le_mul_of_nonneg_right h3 (by omega);have h1:q*((f*18446744073709551616+s)*P)<=q*D:=Int.mul_le_mul_of_nonneg_left h.d0 q0;rw[<- Int.mul_assoc] at h1;have:=h.e1;omega
theorem Big.first (h:Big D L P f s l2 l1 l0){q r:Int}(q0:0<=q)(he:l2*18446744073709551616+l1=q*f+r)(hr:r<f):L<(q+1)*D:=by
 have hp:=h.p;have e1:(q+1)*f=q*f+f:=by rw[Int.add_mul,Int.one_mul]
 refine h.high (q:=q+1) (r:=r-f) (by omega) (by omega) ?_;have h1:0<=(q+1)*s:=Int.mul_nonneg (by omega) h.s0;have:=h.l01;omega
theorem Big.full (h:Big D L P f s l2 l1 l0)(hf:f<=l2):18446744073709551615*D<=L+D/\L<(18446744073709551615+1)*D:=by
 refine⟨?_,by have:=h.lt;omega⟩;have hp:=h.p
 have h1:D<(f*18446744073709551616+18446744073709551616)*P:=by
  have h2:(f*18446744073709551616+s+1)*P<=(f*18446744073709551616+18446744073709551616)*P:=Int.mul_le_mul_of_nonneg_right (by have:=h.s1;omega) (by omega);have:=h.d1;omega
 have h3:(f*18446744073709551616*18446744073709551616)*P<=L:=by
  have h2:(f*18446744073709551616*18446744073709551616)*P<=((l2*18446744073709551616+l1)*18446744073709551616+l0)*P:=Int.mul_le_mul_of_nonneg_right (by have:=h.l10;have:=h.l00;omega) (by omega);have:=h.e0;omega
 have h4:18446744073709551614*((f*18446744073709551616+18446744073709551616)*P)<=(f*18446744073709551616*18446744073709551616)*P:=by
  rw[<- Int.mul_assoc];exact Int.mul_le_mul_of_nonneg_right (by have:=h.f0;omega) (by omega)
 omega
end
section
open Go Go.RowKit
def EsRet (w:World)(D L:Int)(e:Ending)(w' :World):Prop:= ∃ q:Int,e= .returned (.int .u64 q)/\Below w.heap.size w w' /\0<=q/\q<18446744073709551616/\q*D<=L+D/\L<(q+1)*D
set_option maxRecDepth 20000 in
theorem estimate_any (gl ol cl gd od cd m:Nat)(w:World){D L P f s l2 l1 l0:Int}(hB:Big D L P f s l2 l1 l0)(hgl:gl<w.heap.size)(hgd:gd<w.heap.size)(hm:m<=17000000000000)
 (hf:w.cell? ⟨gd,od+(m+1),none⟩=some (.int .u64 f)) (hs:w.cell? ⟨gd,od+m,none⟩=some (.int .u64 s))
 (h2:w.cell? ⟨gl,ol+(m+2),none⟩=some (.int .u64 l2)) (h1:w.cell? ⟨gl,ol+(m+1),none⟩=some (.int .u64 l1)) (h0:w.cell? ⟨gl,ol+m,none⟩=some (.int .u64 l0)):
 Calls Tryz.prog 258 #[.slice (some ⟨gl,ol,none⟩) (m+3) cl, .slice (some ⟨gd,od,none⟩) (m+2) cd] w (EsRet w D L):=by
 have f0:=hB.f0;have f1:=hB.f1;have s0:=hB.s0;have s1:=hB.s1;have l20:=hB.l20;have l10:=hB.l10;have l11:=hB.l11;have l00:=hB.l00;have l01:=hB.l01;have HB:=Lib.hid hB;clear hB
 go_enter Tryz.func258,Tryz.ntmps258
 go_wp2
 go_quiet (fail)
 by_cases hlt:f<=l2
 ·go_wp2
  go_ret
  exact⟨_,rfl,belowN _ _,by decide,by decide,HB.out.full hlt⟩
 ·obtain⟨W,hWe⟩:∃ W,W=w.drewN nq:=⟨_,rfl⟩;have hbW:Below w.heap.size w W:=by rw[hWe];exact belowN _ _
  have kc0:=(hbW.cell (p:=⟨gl,ol+(m+2),none⟩) hgl).trans h2;have kc1:=(hbW.cell (p:=⟨gl,ol+(m+1),none⟩) hgl).trans h1;have kc2:=(hbW.cell (p:=⟨gl,ol+m,none⟩) hgl).trans h0;have hsW:w.heap.size<=W.heap.size:=hbW.size;rw[<- hWe];clear hWe h2 h1 h0 hf hs;have i0:(0:Int)<=(m:Int)+2:=by omega
  have i1:(0:Int)<=(m:Int)+1:=by omega
  have i2:(m:Int)+2<(m:Int)+3:=by omega
  have i3:(m:Int)+1<(m:Int)+3:=by omega
  have i4:IntKind.i64.wrap ((m:Int)+2-1)=(m:Int)+1:=by rw[IntKind.wrap_i64];omega
  have i5:((m:Int)+2).toNat=m+2:=by omega
  have i6:((m:Int)+1).toNat=m+1:=by omega
  have i7:IntKind.i64.wrap ((m:Int)+1)=(m:Int)+1:=by rw[IntKind.wrap_i64];omega
  have i8:(0:Int)<=(m:Int)+2-1:=by omega
  have i9:(m:Int)+2-1<(m:Int)+3:=by omega
  go_wp2_with fail
  go_region_held3 (fun w' =>w'.cell? ⟨gl,ol+(m+2),none⟩=some (.int .u64 l2)/\w'.cell? ⟨gl,ol+(m+1),none⟩=some (.int .u64 l1)/\w'.cell? ⟨gl,ol+m,none⟩=some (.int .u64 l0))
   (first|exact⟨kd0,kd1,kd2⟩|exact⟨kc0,kc1,kc2⟩|go_keep)
   ((go_at_call 254;refine(div64_any l2 l1 f _ (by omega) (by omega) (by omega) (by omega) (by omega)).mono ?_;rintro e w1 ⟨q,r,rfl,hb1,hqe,r0,r1,q0,q1⟩;have HQE:=Lib.hid hqe;clear hqe;have kd0:=tbelowCell hb1 (v:= .int .u64 l2) (b:=gl) (o:=ol+(m+2)) (by simp[go_sem,kc0]);have kd1:=tbelowCell hb1 (v:= .int .u64 l1) (b:=gl) (o:=ol+(m+1)) (by simp[go_sem,kc1]);have kd2:=tbelowCell hb1 (v:= .int .u64 l0) (b:=gl) (o:=ol+m) (by simp[go_sem,kc2])))
  have hb2:=hbW.drew.trans (hb1.mono (B' :=w.heap.size) (by simpa using hsW));have HF:=Lib.hid (HB.out.first q0 HQE.out r1);have hsW1:=hb2.size;clear hb1 kd0 kd1 kc0 kc1 kc2;go_wp2
  go_loopw [8,9] (fun qv rv wr=> ∃ q r:Int,qv= .int .u64 q/\rv= .int .u64 r/\0<=q/\q<18446744073709551616/\0<=r/\r<18446744073709551616/\Hid (l2*18446744073709551616+l1=q*f+r)/\Hid (L<(q+1)*D)/\Below w.heap.size w wr/\Below w1.heap.size w1 wr) (fun qv _ _=>(intOf qv).toNat)
  case atStart=>exact⟨q,r,rfl,rfl,q0,q1,r0,by omega,HQE,HF,hb2,Below.refl _ _⟩
  case round=>
   clear q0 q1 r0 r1 HQE HF;obtain⟨q,r,rfl,rfl,q0,q1,r0,r1,HE,HF,hbl,hbl1⟩:=hrel;have hcl:=tbelowCell hbl1 kd2;go_wp2_with fail;refine(mul64 q s _ q0 q1 s0 s1).mono ?_;rintro e w' ⟨h,l,rfl,rfl,h0,h1,lo0,lo1,hv⟩;have HV:=Lib.hid hv;clear hv;have i10:IntKind.i64.wrap ((m:Int)+2-2)=(m:Int):=by rw[IntKind.wrap_i64];omega
   by_cases ht:h<r\/(h=r/\l<=l0)
   ·have HL:=Lib.hid (HB.out.low q0 q1 HE.out (by have:=HV.out;omega));have HFIN:Hid (EsRet w D L (.returned (.int .u64 q)) wr):=⟨q,rfl,hbl,q0,q1,HL.out,HF.out⟩
    rcases ht with ht|⟨rfl,ht⟩
    ·go_wp2
     go_ret
     exact HFIN.out
    ·have ht2: ¬ h<h:=by omega
     go_wp2
     go_ret
     exact HFIN.out
   ·have ht1: ¬ h<r:=by omega
    have HL:=Lib.hid (HB.out.high q0 HE.out (by have:=HV.out;omega))
    have hq1:1<=q:=by
     by_cases hq:q=0
     ·subst hq;have:=HV.out;omega
     ·omega
    obtain⟨t,d,hadd,t0,t1,d0,d1,hsum⟩:=add64 r f 0 r0 r1 (by omega) f1 (by omega) (by omega);have HS:=Lib.hid hsum;have HE2:Hid (l2*18446744073709551616+l1=(q-1)*f+(r+f)):=by show _=_;have:=HE.out;rw[Int.sub_mul,Int.one_mul];omega
    have HL2:Hid (L<(q-1+1)*D):=by show _<_;rw[show q-1+1=q by omega];exact HL.out
    clear hsum
    by_cases hd:d=0
    ·subst hd;have hrel2:Hid (l2*18446744073709551616+l1=(q-1)*f+t):=by show _=_;have:=HE2.out;have:=HS.out;omega
     by_cases heq:h=r
     ·have hl: ¬ l<=l0:=by omega
      subst heq;go_wp2;go_roundw
      case rel=>exact⟨q-1,t,by go_num,rfl,by omega,by omega,t0,t1,hrel2,HL2,hbl,hbl1⟩
      case measure=>simp[intOf]<;>omega
     ·go_wp2;go_roundw
      case rel=>exact⟨q-1,t,by go_num,rfl,by omega,by omega,t0,t1,hrel2,HL2,hbl,hbl1⟩
      case measure=>simp[intOf]<;>omega
    ·obtain rfl:d=1:=by omega
     have HD:=Lib.hid (HB.out.low (q:=q-1) (r:=r+f) (by omega) (by omega) HE2.out (by
      have h1:=Dg.mul_bound (B:=18446744073709551616) (x:=q-1) (y:=s) (by omega) (by omega) s0 s1;have:=HS.out
      omega))
     have HFIN:Hid (EsRet w D L (.returned (.int .u64 (q-1))) wr):=⟨q-1,rfl,hbl,by omega,by omega,HD.out,HL2.out⟩
     by_cases heq:h=r
     ·have hl: ¬ l<=l0:=by omega
      subst heq;go_wp2
      go_ret
      exact HFIN.out
     ·go_wp2
      go_ret
      exact HFIN.out
theorem Big.of {us M:List Int}{m:Nat}(hu:us.length=m+2)(hM:M.length=m+3)(hwu:Dg.Wf BW us)(hwM:Dg.Wf BW M)(hf:9223372036854775808<=us[m+1]?.getD 0)
 (hlt:Dg.val BW M<18446744073709551616*Dg.val BW us):
 Big (Dg.val BW us) (Dg.val BW M) (BW ^ m) (us[m+1]?.getD 0) (us[m]?.getD 0) (M[m+2]?.getD 0) (M[m+1]?.getD 0) (M[m]?.getD 0):=by
 have hp:0<BW ^ m:=Dg.pow_pos (by decide) m
 have a1:Dg.val BW us=Dg.val BW (us.take m)+BW ^ m*us[m]?.getD 0+BW ^ (m+1)*us[m+1]?.getD 0:=by
  rw[<- Dg.val_take_succD,<- Dg.val_take_succD,List.take_of_length_le (by omega)]
 have a2:Dg.val BW M=Dg.val BW (M.take m)+BW ^ m*M[m]?.getD 0+BW ^ (m+1)*M[m+1]?.getD 0+BW ^ (m+2)*M[m+2]?.getD 0:=by
  rw[<- Dg.val_take_succD,<- Dg.val_take_succD,<- Dg.val_take_succD,List.take_of_length_le (by omega)]
 have b1:=Dg.val_nonneg (B:=BW) (by decide) (hwu.take m);have b2:=Dg.val_nonneg (B:=BW) (by decide) (hwM.take m);have c1:=Dg.val_lt (B:=BW) (by decide) (hwu.take m);have c2:=Dg.val_lt (B:=BW) (by decide) (hwM.take m);rw[List.length_take,Nat.min_eq_left (by omega)] at c1 c2;have u1:=wfD hwu (m+1);have u0:=wfD hwu m;have m2:=wfD hwM (m+2);have m1:=wfD hwM (m+1);have m0:=wfD hwM m;rw[Int.pow_succ] at a1;rw[show BW ^ (m+2)=BW ^ m*BW*BW by rw[Int.pow_succ,Int.pow_succ],Int.pow_succ] at a2;generalize us[m+1]?.getD 0=f at*;generalize us[m]?.getD 0=s at*;generalize M[m+2]?.getD 0=l2 at*;generalize M[m+1]?.getD 0=l1 at*;generalize M[m]?.getD 0=l0 at*;generalize Dg.val BW (us.take m)=x at*;generalize Dg.val BW (M.take m)=y at*;generalize BW ^ m=p at*;have e1:(f*18446744073709551616+s)*p=p*s+p*BW*f:=by unfold BW;simp only[Int.add_mul,Int.mul_add,Int.mul_comm,Int.mul_left_comm,Int.mul_assoc];omega
 have e2:((l2*18446744073709551616+l1)*18446744073709551616+l0)*p=p*l0+p*BW*l1+p*BW*BW*l2:=by
  unfold BW;simp only[Int.add_mul,Int.mul_add,Int.mul_comm,Int.mul_left_comm,Int.mul_assoc];omega
 refine⟨hp,hf,u1.2,u0.1,u0.2,m2.1,m1.1,m0.1,m1.2,m0.2,?_,?_,?_,?_,hlt⟩
 ·omega
 ·rw[Int.add_mul _ 1,Int.one_mul];omega
 ·omega
 ·rw[Int.add_mul _ 1,Int.one_mul];omega
def TmAt (M us M' :List Int)(f:Int)(k:Nat)(c:Int):Prop:=M'.length=M.length/\Dg.Wf BW M' /\0<=c/\c<18446744073709551616/\
 Dg.val BW (M'.take k)+f*Dg.val BW (us.take k)=Dg.val BW (M.take k)+c*BW ^ k/\ ∀ i,k<=i->M'[i]?.getD 0=M[i]?.getD 0
theorem TmAt.start {M:List Int}(hM:Dg.Wf BW M)(us:List Int)(f:Int):TmAt M us M f 0 0:=⟨rfl,hM,by decide,by decide,by simp[Dg.val],fun _ _=>rfl⟩
theorem TmAt.next {M us M' :List Int}{f:Int}{k:Nat}{c x m h l s d:Int}(H:TmAt M us M' f k c)(hk:k<M.length)(hx:x=us[k]?.getD 0)(hm:m=M'[k]?.getD 0)
 (he:x*f+c=h*18446744073709551616+l) (hs:m-l-0=s-18446744073709551616*d) (s0:0<=s) (s1:s<18446744073709551616) (d0:0<=h+d) (d1:h+d<18446744073709551616):
 TmAt M us (M'.set k s) f (k+1) (h+d):=by
 obtain⟨hl,hw,c0,c1,hv,hz⟩:=H;refine⟨by simpa using hl,hw.set k s0 s1,d0,d1,?_,fun i hi=>by rw[List.getElem?_set_ne (by omega)];exact hz i (by omega)⟩;rw[Dg.take_set_succ M' k s (by omega),Dg.val_append,Dg.val_one,Dg.val_take_succD,Dg.val_take_succD,<- hx,<- hz k (Nat.le_refl _),<- hm,Int.pow_succ];have:(M'.take k).length=k:=by simp;omega
 rw[this];have e1:BW ^ k*(x*f+c)=BW ^ k*(h*18446744073709551616+l):=by rw[he]
 have e2:BW ^ k*m=BW ^ k*(l+s-18446744073709551616*d):=by congr 1;omega
 generalize BW ^ k=p at*;generalize Dg.val BW (M'.take k)=a1 at*;generalize Dg.val BW (us.take k)=a2 at*;generalize Dg.val BW (M.take k)=a3 at*;unfold BW;simp only[Int.mul_add,Int.add_mul,Int.mul_sub,Int.mul_comm,Int.mul_left_comm,Int.mul_assoc] at*;omega
theorem TmAt.last {M us M' :List Int}{f c t s b:Int}(H:TmAt M us M' f us.length c)(hl:M.length=us.length+1)(ht:t=M'[us.length]?.getD 0)(hs:t-c-0=s-18446744073709551616*b)
 (s0:0<=s) (s1:s<18446744073709551616):
 (M'.set us.length s).length=M.length/\Dg.Wf BW (M'.set us.length s)/\Dg.val BW (M'.set us.length s)+f*Dg.val BW us=Dg.val BW M+b*BW ^ (us.length+1):=by
 obtain⟨hl',hw,c0,c1,hv,hz⟩:=H;refine⟨by simpa using hl',hw.set _ s0 s1,?_⟩;rw[Dg.val_set BW _ _ _ (by omega),<- ht]
 have e1:Dg.val BW M' =Dg.val BW (M'.take us.length)+BW ^ us.length*t:=by
  rw[ht,<- Dg.val_take_succD,List.take_of_length_le (by omega)]
 have e2:Dg.val BW M=Dg.val BW (M.take us.length)+BW ^ us.length*t:=by
  rw[ht,hz _ (Nat.le_refl _),<- Dg.val_take_succD,List.take_of_length_le (by omega)]
 rw[e1,e2,Int.pow_succ];rw[List.take_of_length_le (Nat.le_refl us.length)] at hv;have e3:BW ^ us.length*(s-18446744073709551616*b)=BW ^ us.length*(t-c):=by congr 1;omega
 generalize BW ^ us.length=p at*;unfold BW at*;simp only[Int.mul_add,Int.mul_sub,Int.mul_comm,Int.mul_left_comm,Int.mul_assoc] at*;omega
theorem carry_fits {x f c h l m s d:Int}(x0:0<=x)(x1:x<18446744073709551616)(f0:0<=f)(f1:f<18446744073709551616)(c1:c<18446744073709551616)(l0:0<=l)
 (he:x*f+c=h*18446744073709551616+l) (m0:0<=m) (hs:m-l-0=s-18446744073709551616*d) (s1:s<18446744073709551616) (d1:d<=1):h+d<18446744073709551616:=by
 have:=Dg.mul_bound (B:=18446744073709551616) x0 x1 f0 f1;omega
def TmRet (w:World)(g:Nat)(P M S us:List Int)(e:Ending)(w' :World):Prop:=
 ∃ (q:Int) (M' :List Int),e= .returned (.int .u64 q)/\Row 165 .u64 w' g (P++M' ++S)/\w.grownBy w' (some g)/\M'.length=M.length/\Dg.Wf BW M' /\0<=q/\q<18446744073709551616/\
   Dg.val BW M=q*Dg.val BW us+Dg.val BW M' /\Dg.val BW M' <Dg.val BW us
theorem tm_yes {M M' us:List Int}{q:Int}(hw:Dg.Wf BW M')(h:Dg.val BW M' +q*Dg.val BW us=Dg.val BW M+0*BW ^ (us.length+1))(hlt:Dg.val BW M<(q+1)*Dg.val BW us):
 Dg.val BW M=q*Dg.val BW us+Dg.val BW M' /\Dg.val BW M' <Dg.val BW us:=by
 rw[Int.add_mul,Int.one_mul] at hlt;omega
theorem tm_no {M M' M3 us:List Int}{q d:Int}(hl:M'.length=us.length+1)(hl3:M3.length=us.length+1)(hw:Dg.Wf BW M')(hw3:Dg.Wf BW M3)(hwu:Dg.Wf BW us)
 (h:Dg.val BW M' +q*Dg.val BW us=Dg.val BW M+1*BW ^ (us.length+1))
 (h3:Dg.val BW M3+d*BW ^ (us.length+1)=Dg.val BW M' +Dg.val BW us) (d0:0<=d) (d1:d<=1) (hge:q*Dg.val BW us<=Dg.val BW M+Dg.val BW us):
 Dg.val BW M=(q-1)*Dg.val BW us+Dg.val BW M3/\Dg.val BW M3<Dg.val BW us:=by
 have a1:=Dg.val_lt (B:=BW) (by decide) hw;have a3:=Dg.val_lt (B:=BW) (by decide) hw3;have a4:=Dg.val_nonneg (B:=BW) (by decide) hw;rw[hl] at a1;rw[hl3] at a3;rw[Int.sub_mul,Int.one_mul];have:d=0\/d=1:=by omega
 rcases this with rfl|rfl
 ·omega
 ·omega
set_option maxRecDepth 20000 in
theorem takeMultiple_any (g cap m:Nat)(P M S us:List Int)(va:Value)(w0 w:World)(ha:Sl .u64 w0 va us)(hb0:Below w0.heap.size w0 w)(hg:w0.heap.size<=g)
 (hr:Row 165 .u64 w g (P++M++S)) (hu:us.length=m+2) (hM:M.length=m+3) (hwM:Dg.Wf BW M) (hwa:Dg.Wf BW us)
 (hf:9223372036854775808<=us[m+1]?.getD 0) (hlt:Dg.val BW M<18446744073709551616*Dg.val BW us) (hm:m<=17000000000000):
 Calls Tryz.prog 236 #[.slice (some ⟨g,P.length,none⟩) (m+3) cap,va] w (TmRet w g P M S us):=by
 have ha' :=ha;obtain⟨ao,acap,rfl,hcap,hmax,hc⟩:=ha;unfold maxLen at hmax;obtain⟨b,o,rfl,hbs,hcs⟩:=hc m (by omega);obtain⟨b2,o2,e2,hbs2,hcf⟩:=hc (m+1) (by omega);simp only[Option.some.injEq,Addr.mk.injEq,true_and,and_true] at e2;obtain⟨rfl,rfl⟩:=e2;have HBIG:=Lib.hid (Big.of hu hM hwa hwM hf hlt);have HC:=Lib.hid hc;have hgw:=hr.lt;have k1:=(hb0.cell (p:=⟨b,o+m,none⟩) hbs).trans hcs;have k2:=(hb0.cell (p:=⟨b,o+(m+1),none⟩) hbs).trans hcf;have q2:=hr.cell (i:=P.length+(m+2)) (by simp;omega);have q1:=hr.cell (i:=P.length+(m+1)) (by simp;omega);have q0:=hr.cell (i:=P.length+m) (by simp;omega);rw[Dg.mid_get P M S _ (by omega)] at q2 q1 q0;have hbw:b<w.heap.size:=Nat.lt_of_lt_of_le hbs hb0.size
 have hEst:Hid (Calls Tryz.prog 258 #[.slice (some ⟨g,P.length,none⟩) (m+3) cap, .slice (some ⟨b,o,none⟩) (m+2) acap] w (EsRet w (Dg.val BW us) (Dg.val BW M))):=
  estimate_any g P.length cap b o acap m w HBIG.out hgw hbw hm k2 k1 q2 q1 q0
 rw[hu] at hcap ⊢;have HM:=Lib.hid hM;have HU:=Lib.hid hu;have HLT:=Lib.hid hlt;have HFF:=Lib.hid hf;clear hM hu hlt hf hc hcs hcf k1 k2 q2 q1 q0
 go_enter Tryz.func236,Tryz.ntmps236
 go_wp2_with fail;refine hEst.out.mono ?_;rintro e w1 ⟨q,rfl,hb1,hq0,hq1,hqa,hqb⟩;have HQA:=Lib.hid hqa;have HQB:=Lib.hid hqb;have hr1:=hr.below hb1;have hb01:=hb0.trans (hb1.mono hb0.size);have hg1:=tgrowBelow (r:=some g) hb1;clear hqa hqb hr hEst;go_wp2
 go_loopw [6,18] (fun c i wr=> ∃ (k:Nat) (cv:Int) (M' :List Int),k<=m+2/\i= .int .i64 k/\c= .int .u64 cv/\Hid (TmAt M us M' q k cv)/\Row 165 .u64 wr g (P++M' ++S)/\w.grownBy wr (some g)) (fun _ i _=>m+2-(intOf i).toNat)
 case atStart=>exact⟨0,0,M,Nat.zero_le _,rfl,rfl,TmAt.start hwM us q,hr1,hg1⟩
 case round=>
  obtain⟨k,cv,M',hk,rfl,rfl,hat,hrr,hgr⟩:=hrel;clear hr1 hg1;have hz0:0<=cv:=hat.out.2.2.1;have hz1:cv<18446744073709551616:=hat.out.2.2.2.1
  by_cases hlt:k<m+2
  ·have hMl:k<M'.length:=by have:=hat.out.1;have:=HM.out;omega
   obtain⟨b2,o2,e2,_,hcell⟩:=HC.out k (by have:=HU.out;omega);simp only[Option.some.injEq,Addr.mk.injEq,true_and,and_true] at e2;obtain⟨rfl,rfl⟩:=e2;obtain⟨x,hx⟩:∃ x,x=us[k]?.getD 0:=⟨_,rfl⟩;obtain⟨y,hy⟩:∃ y,y=M'[k]?.getD 0:=⟨_,rfl⟩;have hxb:=wfD hwa k;have hyb:=wfD hat.out.2.1 k;have hcl:=((tbelowGrow hgr hb0 hg).cell (p:=⟨b,o+k,none⟩) hbs).trans hcell;have hcz:=hrr.cell (i:=P.length+k) (by simp;omega);rw[Dg.mid_get P M' S k hMl,<- hy] at hcz;have hfz:=hrr.free (P.length+k);rw[<- hx] at hcl hxb;rw[<- hy] at hyb;have HX:=Lib.hid hx;have HY:=Lib.hid hy;clear hx hy hcell;go_wp2_with fail;refine(mulAdd x q cv _ hxb.1 hxb.2 hq0 hq1 hz0 hz1).mono ?_;rintro e w' ⟨h,l,rfl,rfl,h0,h1,l0,l1,hv⟩;obtain⟨s,d,hsub,s0,s1,d0,d1,hs⟩:=sub64 y l 0 hyb.1 hyb.2 l0 l1 (by omega) (by omega);have hfit:=carry_fits hxb.1 hxb.2 hq0 hq1 hz1 l0 hv hyb.1 hs s1 d1;have HV:=Lib.hid hv;have HS:=Lib.hid hs;clear hv hs;go_wp2;have hrs:=hrr.set (P.length+k) s;rw[Dg.mid_set P M' S k s hMl] at hrs;go_roundw
   case rel=>exact⟨k+1,h+d,M'.set k s,by omega,by go_num,rfl,hat.out.next (by have:=HM.out;omega) HX.out HY.out HV.out HS.out s0 s1 (by omega) (by omega),hrs,tgrowSet hgr _ _⟩
   case measure=>simp[intOf]<;>omega
  ·obtain rfl:k=m+2:=by omega
   have hat2:=hat;rw[<- HU.out] at hat2;have hMl:m+2<M'.length:=by have:=hat.out.1;have:=HM.out;omega
   obtain⟨t,ht⟩:∃ t,t=M'[m+2]?.getD 0:=⟨_,rfl⟩;have htb:=wfD hat.out.2.1 (m+2);rw[<- ht] at htb;have hcz:=hrr.cell (i:=P.length+(m+2)) (by simp;omega);rw[Dg.mid_get P M' S _ hMl,<- ht] at hcz;have hfz:=hrr.free (P.length+(m+2));obtain⟨s,d,hsub,s0,s1,d0,d1,hs⟩:=sub64 t cv 0 htb.1 htb.2 hz0 hz1 (by omega) (by omega);have HD:=Lib.hid (hat2.out.last (by have:=HM.out;have:=HU.out;omega) (by rw[HU.out];exact ht) hs s0 s1);have hrs:=hrr.set (P.length+(m+2)) s;rw[Dg.mid_set P M' S _ _ hMl] at hrs;have HRS:=Lib.hid hrs;have HGS:=Lib.hid (tgrowSet hgr (P.length+(m+2)) (.int .u64 s));clear ht hrs hs
   by_cases hd:d=0
   ·subst hd;go_wp2
    go_ret
    have h1:=HD.out;rw[HU.out] at h1;have h2:=tm_yes (us:=us) h1.2.1 (by rw[HU.out];exact h1.2.2) HQB.out;exact⟨q,_,rfl,HRS.out,HGS.out,h1.1,h1.2.1,hq0,hq1,h2⟩
   ·obtain rfl:d=1:=by omega
    have h1:=HD.out;rw[HU.out] at h1;have hAb:=addBack_any g cap P (M'.set (m+2) s) S us _ w0 _ ha' (tbelowGrow HGS.out hb0 hg) hg HRS.out (by rw[h1.1,HM.out,HU.out]) h1.2.1 hwa;rw[HU.out] at hAb;have HAB:=Lib.hid hAb;clear hAb h1;go_wp2_with fail;refine HAB.out.mono ?_;rintro e w' ⟨M3,rfl,hr3,hg3,hl3,hw3,hv3⟩;have HV3:=Lib.hid hv3;have HL3:=Lib.hid hl3;clear hv3 hl3;obtain⟨d,hd0,hd1,hv3⟩:=HV3.out;have h1:=HD.out;rw[HU.out] at h1;have HN:=Lib.hid (tm_no (us:=us) (M:=M) (q:=q) (by rw[h1.1,HM.out,HU.out]) (by rw[HL3.out,h1.1,HM.out,HU.out]) h1.2.1 hw3 hwa (by rw[HU.out];exact h1.2.2) hv3 hd0 hd1 HQA.out)
    have hqp:1<=q:=by
     by_cases hq:q=0
     ·subst hq;have a1:=Dg.val_nonneg (B:=BW) (by decide) hw3;have a2:=Dg.val_nonneg (B:=BW) (by decide) hwM;have:=HN.out;omega
     ·omega
    have HLL:=Lib.hid h1.1;clear hv3 h1;go_wp2
    go_ret
    exact⟨q-1,_,by go_num,hr3,tgrowTrans HGS.out hg3,HL3.out.trans HLL.out,hw3,by omega,by omega,HN.out⟩
theorem shr_one (x y:Int)(s:Nat)(hs:s<=63)(x0:0<=x)(x1:x<18446744073709551616)(y0:0<=y)(y1:y<18446744073709551616):
 ∃ r:Int,bits .or .u64 (x/2 ^ s) (IntKind.u64.wrap (y*2 ^ (64-s)))=r/\0<=r/\r<18446744073709551616/\r*2 ^ s=x-x%2 ^ s+18446744073709551616*(y%2 ^ s):=by
 have hp:(0:Int)<2 ^ s:=Dg.pow_pos (by omega) s;have hq:(0:Int)<2 ^ (64-s):=Dg.pow_pos (by omega) _
 have hpq:(2:Int) ^ (64-s)*2 ^ s=18446744073709551616:=by
  rw[<- Int.pow_add,show 64-s+s=64 by omega];rfl
 have hx0:=Int.ediv_nonneg x0 (Int.le_of_lt hp);have hxm:=Int.mul_ediv_add_emod x (2 ^ s);have hxm0:=Int.emod_nonneg x (Int.ne_of_gt hp);have hym:=Int.mul_ediv_add_emod y (2 ^ s);have hym0:=Int.emod_nonneg y (Int.ne_of_gt hp);have hym1:=Int.emod_lt_of_pos y hp;refine⟨_,rfl,?_⟩;have hor:=fun a b h1 h2 h3 h4=>or_add' a b (64-s) h1 h2 h3 h4
 generalize x/2 ^ s=d at*;generalize y/2 ^ s=e at*;generalize x%2 ^ s=xr at*;generalize y%2 ^ s=yr at*;generalize(2:Int) ^ s=p at*;generalize(2:Int) ^ (64-s)=q at*
 have hd1:d<q:=by
  apply Int.lt_of_mul_lt_mul_left (a:=p) ?_ (by omega)
  rw[Int.mul_comm p q];omega
 have e1:y*q=e*18446744073709551616+yr*q:=by rw[<- hym,Int.add_mul,Int.mul_comm p e,Int.mul_assoc,Int.mul_comm p q,hpq]
 have e2:(yr+1)*q<=p*q:=Int.mul_le_mul_of_nonneg_right (by omega) (by omega);rw[Int.mul_comm p q,hpq,Int.add_mul] at e2;have e3:0<=yr*q:=Int.mul_nonneg hym0 (by omega);have ew:IntKind.u64.wrap (y*q)=yr*q:=by rw[IntKind.wrap_u64,e1];omega
 rw[ew,hor yr d hym0 hx0 hd1 (by omega)];refine⟨by omega,by omega,?_⟩;rw[Int.add_mul,Int.mul_assoc,hpq,Int.mul_comm d p,Int.mul_comm yr];omega
structure ShrAt (ys T:List Int)(s k:Nat):Prop where
 len:T.length=ys.length
 wf:Dg.Wf BW T
 eq:Dg.val BW (T.take k)*2 ^ s=Dg.val BW (ys.take k)-ys[0]?.getD 0%2 ^ s+BW ^ k*(ys[k]?.getD 0%2 ^ s)
 zero:∀ i,k<=i->T[i]?.getD 0=0
theorem ShrAt.start (ys:List Int)(s:Nat):ShrAt ys (List.replicate ys.length 0) s 0:=by
 have hz:∀ i:Nat,(List.replicate ys.length (0:Int))[i]?.getD 0=0:=fun i=>by simp[List.getElem?_replicate];split<;>rfl
 exact⟨by simp,Dg.Wf.zeros (by decide) _,by simp[Dg.val];omega,fun i _=>hz i⟩
theorem ShrAt.next {ys T:List Int}{s k:Nat}{x y r:Int}(h:ShrAt ys T s k)(hk:k<ys.length)(hx:x=ys[k]?.getD 0)(hy:y=ys[k+1]?.getD 0)
 (r0:0<=r) (r1:r<18446744073709551616) (he:r*2 ^ s=x-x%2 ^ s+18446744073709551616*(y%2 ^ s)):ShrAt ys (T.set k r) s (k+1):=by
 obtain⟨hl,hw,hv,hz⟩:=h;refine⟨by simpa using hl,hw.set _ r0 r1,?_,fun i hi=>by rw[List.getElem?_set_ne (by omega)];exact hz i (by omega)⟩;rw[Dg.take_set_succ T k r (by omega),Dg.val_append,Dg.val_one,Dg.val_take_succD,<- hx,<- hy,Int.pow_succ];have:(T.take k).length=k:=by simp;omega
 rw[this,Int.add_mul,hv,<- hx,Int.mul_assoc,he];unfold BW;simp only[Int.mul_add,Int.mul_sub,Int.add_mul,Int.sub_mul,Int.mul_comm,Int.mul_left_comm,Int.mul_assoc];omega
theorem ShrAt.done {ys T:List Int}{s:Nat}(h:ShrAt ys T s ys.length)(hw:Dg.Wf BW ys):Dg.val BW T=Dg.val BW ys/2 ^ s:=by
 have hp:(0:Int)<2 ^ s:=Dg.pow_pos (by omega) s;have hv:=h.eq;rw[List.take_of_length_le (by rw[h.len];exact Nat.le_refl _),List.take_of_length_le (Nat.le_refl _)] at hv;have hz:ys[ys.length]?.getD 0=0:=by simp
 rw[hz,Int.zero_emod,Int.mul_zero,Int.add_zero] at hv;have m0:=Int.emod_nonneg (ys[0]?.getD 0) (Int.ne_of_gt hp);have m1:=Int.emod_lt_of_pos (ys[0]?.getD 0) hp;rw[show Dg.val BW ys=ys[0]?.getD 0%2 ^ s+2 ^ s*Dg.val BW T by rw[Int.mul_comm];omega,Int.add_mul_ediv_left _ _ (Int.ne_of_gt hp),Int.ediv_eq_zero_of_lt m0 m1,Int.zero_add]
theorem shr_val {xs:List Int}(hw:Dg.Wf BW xs)(W s:Nat)(hW:W<=xs.length):Dg.val BW (xs.drop W)/2 ^ s=Dg.val BW xs/(BW ^ W*2 ^ s):=by
 have h:=Dg.val_split BW xs W hW;have b0:=Dg.val_nonneg (B:=BW) (by decide) (hw.take W);have b1:=Dg.val_lt (B:=BW) (by decide) (hw.take W);rw[List.length_take,Nat.min_eq_left hW] at b1;have hp:0<BW ^ W:=Dg.pow_pos (by decide) W;rw[<- Int.ediv_ediv_of_nonneg (Int.le_of_lt hp),h,Int.add_mul_ediv_left _ _ (Int.ne_of_gt hp),Int.ediv_eq_zero_of_lt b0 b1,Int.zero_add]
end
end Go.Proofs.YtdnheaafcbihbaaGreat
