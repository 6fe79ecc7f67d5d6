/-
  Texts of the proof, merged by program: Rmm Rpo Rin0 Rge Pf Pp Pw Lg Rsd.
-/
import Derived.Test.YtdnheaafcbihbaaGreatDc4
import Derived.WalkMore
set_option linter.unusedSimpArgs false
set_option linter.unusedVariables false
set_option maxHeartbeats 16000000
namespace Go.Proofs.YtdnheaafcbihbaaGreat
open Go Go.RowKit
open FFld (ints)
structure MdOk (p k m:Nat):Prop where
 one:k=1->m=p
 more:2<=k->p ^ k<=m/\m<2*p ^ k
set_option maxRecDepth 20000 in
theorem rmul_any (q p k m a b:Nat)(w:World)(hp:2<=p)(hk:1<=k)(ha:a<p ^ k)(hb:b<p ^ k)(hq:p ^ k<=65536)(hm:MdOk p k m):
 Calls Tryz.prog 103 #[rfv q p k m, .int .i64 a, .int .i64 b] w (RB w (.int .i64 (FFld.pmul p k m a k b:Nat))):=by
 have hpk:FFld.PK p k m:=⟨hp,hk⟩;have hp1:p<=65536:=Nat.le_trans (by have:=Nat.pow_le_pow_right (n:=p) (by omega) hk;rw[Nat.pow_one] at this;exact this) hq;have ha1:a<=65536:=by omega
 have hb1:b<=65536:=by omega
 have HX0:Kept (Bxs w [.cells #[.int .i64 q, .int .i64 p, .int .i64 k, .int .i64 m] 47] (w.alloc (.cells #[.int .i64 q, .int .i64 p, .int .i64 k, .int .i64 m] 47))):=⟨(Bxs.start w).alloc (by simp) _⟩;obtain⟨V,hV⟩:∃ V,FFld.pmul p k m a k b=V:=⟨_,rfl⟩;rw[hV];obtain⟨c0,c1,c2,c3⟩:=four_cells HX0.out.b0
 by_cases hk1:k=1
 ·subst hk1;have hm1:=hm.one rfl;subst hm1;rw[Nat.pow_one] at ha hb;have hVV:a*b%m=V:=by rw[<- hV,FFld.pmul_k1 hpk a b ha hb]
  obtain⟨v,hv⟩:∃ v,a*b=v:=⟨_,rfl⟩;have hvl:v<=4294967296:=by rw[<- hv];exact nmul_le (A:=65536) (B:=65536) (by omega) (by omega)
  have e1:wrap64 ((a:Int)*b)=v:=wmul hv (by omega);have e2:(v:Int)%m=V:=by rw[<- hVV,hv];rfl
  have e0:(((1:Nat):Int)==1)=true:=rfl;clear hV hVV hv ha hb hq hm
  go_enter Tryz.func103,Tryz.ntmps103
  go_wp2
  go_ret
  exact⟨HX0.out.1,by simp[e1,e2]⟩
 ·have hk2:2<=k:=by omega
  have e0:((k:Int)==1)=false:=by rw[beq_eq_false_iff_ne];omega
  obtain⟨hm0,hm1⟩:=hm.more hk2
  have hq2:p ^ (2*k)<=1099511627776:=by
   rw[Nat.two_mul,Nat.pow_add];exact Nat.le_trans (nmul_le hq hq) (by omega)
  have hT:=Km (fun W=>rtimes2_any a b p k W hp hp1 hk ha hb hq2);have hR:=Km (fun W (c:Nat) (hc:FFld.Tms p a b c (2*k))=>rrest_any c m p k (2*k) W hp hp1 hk hc.lt hm0 hm1 hq2 (Nat.le_trans hq (by omega)));have hF:=Km (fun(c:Nat) (hc:FFld.Tms p a b c (2*k))=>show FFld.pmul p k m 1 (2*k) c=V from by rw[<- hV];exact hc.val k m hpk ha hb);clear hV ha hb hq hm hm0 hm1 hq2
  go_enter Tryz.func103,Tryz.ntmps103
  go_wp2
  go_region_held3 (fun w' =>w'.cell? ⟨w.heap.size,1,none⟩=some (.int .i64 p)/\w'.cell? ⟨w.heap.size,3,none⟩=some (.int .i64 m))
   (first|exact⟨c1,c3⟩|exact⟨k1,k3⟩|exact⟨l1,l3⟩|go_keep)
   ((first
     |(go_at_call 173;(with_reducible refine(hT.out _).mono ?_);rintro e w2 ⟨hb2,c,rfl,htm⟩;have hx2:Bxs w [.cells #[.int .i64 q, .int .i64 p, .int .i64 k, .int .i64 m] 47] w2:=Bxs.below (by repeat (first|(with_reducible exact HX0.out)|(with_reducible refine Bxs.drew ?_))) hb2;obtain⟨k0,k1,k2,k3⟩:=four_cells hx2.b0;have HTM:=Km htm;clear htm hb2)
     |(go_at_call 99;(with_reducible refine(hR.out _ _ HTM.out).mono ?_);rintro e w3 ⟨hb3,rfl⟩;have hx3:Bxs w [.cells #[.int .i64 q, .int .i64 p, .int .i64 k, .int .i64 m] 47] w3:=Bxs.below (by repeat (first|(with_reducible exact hx2)|(with_reducible refine Bxs.drew ?_))) hb3;obtain⟨l0,l1,l2,l3⟩:=four_cells hx3.b0;clear hb3)))
  go_wp2
  go_ret
  exact⟨hx3.1,by rw[hF.out _ HTM.out];rfl⟩
abbrev rbox (q p k m:Nat):Obj:= .cells #[.int .i64 q, .int .i64 p, .int .i64 k, .int .i64 m] 47
set_option maxRecDepth 20000 in
theorem rpow_any (q p k m a n:Nat)(w:World)(hpk:FFld.PK p k m)(ha:a<p ^ k)(hq:p ^ k<=65536)(hm:MdOk p k m)(hn:n<=70000):
 Calls Tryz.prog 102 #[rfv q p k m, .int .i64 a, .int .i64 n] w (RB w (.int .i64 (FFld.ppow hpk a n:Nat))):=by
 obtain⟨V,hV⟩:∃ V,FFld.ppow hpk a n=V:=⟨_,rfl⟩;have HPW:Kept (FFld.PwAt p k m hpk V 1 a n):=⟨hV ▸ FFld.PwAt.start hpk a n ha⟩;rw[hV];have hMul:=Km (fun W (x y:Nat) (hx:x<p ^ k) (hy:y<p ^ k)=>rmul_any q p k m x y W hpk.p2 hpk.k1 hx hy hq hm);have HX0:Kept (Bxs w [rbox q p k m] (w.alloc (rbox q p k m))):=⟨(Bxs.start w).alloc (by simp) _⟩;clear hV ha hq hm
 go_enter Tryz.func102,Tryz.ntmps102
 go_wp2
 go_loopw [1,2,7] (fun av nv rv wr=> ∃ (x n r:Nat),n<=70000/\av= .int .i64 x/\nv= .int .i64 n/\rv= .int .i64 r/\Kept (FFld.PwAt p k m hpk V r x n)/\Kept (Bxs w [rbox q p k m] wr)) (fun _ nv _ _=>(intOf nv).toNat)
 case atStart=>exact⟨a,n,1,hn,rfl,rfl,rfl,HPW,HX0⟩
 case round=>
  obtain⟨x,n,r,hn,rfl,rfl,rfl,hpw,hbx⟩:=hrel
  by_cases h0:0<n
  ·obtain⟨c0,c1,c2,c3⟩:=four_cells hbx.out.b0;obtain⟨n',hn'⟩:∃ n',n/2=n' :=⟨_,rfl⟩;have en:(n:Int)/2=n' :=by rw[<- hn'];rfl
   have hlt:n' <n:=by omega
   by_cases h1:n%2=1
   ·have HP:=Km (hpw.out.odd h1);rw[hn'] at HP;have e1:((n:Int)%2==1)=true:=by rw[beq_iff_eq];omega
    have HR:=Km hpw.out.rl;have HA:=Km hpw.out.al;clear hn' h1;go_wp2_with fail;refine(hMul.out _ r x HR.out HA.out).mono ?_;rintro e w2 ⟨hb2,rfl⟩;have HX2:=Km (hbx.out.below hb2);obtain⟨d0,d1,d2,d3⟩:=four_cells HX2.out.b0;clear hb2 c0 c1 c2 c3;go_wp2_with fail;refine(hMul.out _ x x HA.out HA.out).mono ?_;rintro e w3 ⟨hb3,rfl⟩;have HX3:=Km (HX2.out.below hb3);clear hb3 d0 d1 d2 d3;go_wp2;go_roundw
    case rel=>exact⟨_,n',_,by omega,rfl,rfl,rfl,HP,HX3⟩
    case measure=>simp[intOf]<;>omega
   ·have HP:=Km (hpw.out.even (by omega));rw[hn'] at HP;have e1:((n:Int)%2==1)=false:=by rw[beq_eq_false_iff_ne];omega
    have HA:=Km hpw.out.al;clear hn' h1;go_wp2_with fail;refine(hMul.out _ x x HA.out HA.out).mono ?_;rintro e w3 ⟨hb3,rfl⟩;have HX3:=Km (hbx.out.below hb3);clear hb3 c0 c1 c2 c3;go_wp2;go_roundw
    case rel=>exact⟨_,n',_,by omega,rfl,rfl,rfl,HP,HX3⟩
    case measure=>simp[intOf]<;>omega
  ·obtain rfl:n=0:=by omega
   have HR:=Km hpw.out.done;go_wp2
   go_ret
   exact⟨hbx.out.1,by rw[HR.out];rfl⟩
set_option maxRecDepth 20000 in
theorem rinv_any (q p k m a:Nat)(w:World)(hpk:FFld.PK p k m)(ha:a<p ^ k)(hq0:q=p ^ k)(hq:p ^ k<=65536)(hm:MdOk p k m):
 Calls Tryz.prog 119 #[rfv q p k m, .int .i64 a] w (RB w (.int .i64 (FFld.ppow hpk a (q-2):Nat))):=by
 have h1:=hpk.one_lt;obtain⟨n,hn⟩:∃ n,q-2=n:=⟨_,rfl⟩;rw[hn];have hP:=Km (fun W=>rpow_any q p k m a n W hpk ha hq hm (by omega));have HX0:Kept (Bxs w [rbox q p k m] (w.alloc (rbox q p k m))):=⟨(Bxs.start w).alloc (by simp) _⟩;obtain⟨c0,c1,c2,c3⟩:=four_cells HX0.out.b0;have e1:(q:Int)-2=n:=by omega
 have hql:q<=65536:=by omega
 have hnl:n<=65536:=by omega
 clear hq0 hq hm ha hn h1
 go_enter Tryz.func119,Tryz.ntmps119
 go_wp2_with fail;refine(hP.out _).mono ?_;rintro e w2 ⟨hb2,rfl⟩;have HX2:=Km (HX0.out.below hb2);clear hb2;go_wp2
 go_ret
 exact⟨HX2.out.1,rfl⟩
set_option maxRecDepth 20000 in
theorem rsub_any (q p k m a b:Nat)(w:World)(hpk:FFld.PK p k m)(ha:a<p ^ k)(hb:b<p ^ k)(hq:p ^ k<=65536):
 Calls Tryz.prog 120 #[rfv q p k m, .int .i64 a, .int .i64 b] w (RB w (.int .i64 (FFld.padd p k a (FFld.pscl p k (p-1) b):Nat))):=by
 have HX0:Kept (Bxs w [rbox q p k m] (w.alloc (rbox q p k m))):=⟨(Bxs.start w).alloc (by simp) _⟩;have hN:=Km (fun W=>rneg_any q p k m b W hpk.p2 hpk.k1 hb hq);have hA:=Km (fun W=>radd_any q p k m a (FFld.pscl p k (p-1) b) W hpk.p2 hpk.k1 ha (FFld.pscl_lt hpk _ _) hq);obtain⟨c0,c1,c2,c3⟩:=four_cells HX0.out.b0;clear ha hb hq
 go_enter Tryz.func120,Tryz.ntmps120
 go_wp2
 go_region_held3 (fun w' =>w'.cell? ⟨w.heap.size,0,none⟩=some (.int .i64 q)/\w'.cell? ⟨w.heap.size,1,none⟩=some (.int .i64 p)/\w'.cell? ⟨w.heap.size,2,none⟩=some (.int .i64 k)/\w'.cell? ⟨w.heap.size,3,none⟩=some (.int .i64 m))
  (first|exact⟨c0,c1,c2,c3⟩|exact⟨k0,k1,k2,k3⟩|exact⟨l0,l1,l2,l3⟩|go_keep)
  ((first
    |(go_at_call 46;(with_reducible refine(hN.out _).mono ?_);rintro e w2 ⟨hb2,rfl⟩;have hx2:Bxs w [rbox q p k m] w2:=Bxs.below (by repeat (first|(with_reducible exact HX0.out)|(with_reducible refine Bxs.drew ?_))) hb2;obtain⟨k0,k1,k2,k3⟩:=four_cells hx2.b0;clear hb2)
    |(go_at_call 108;(with_reducible refine(hA.out _).mono ?_);rintro e w3 ⟨hb3,rfl⟩;have hx3:Bxs w [rbox q p k m] w3:=Bxs.below (by repeat (first|(with_reducible exact hx2)|(with_reducible refine Bxs.drew ?_))) hb3;obtain⟨l0,l1,l2,l3⟩:=four_cells hx3.b0;clear hb3)))
 go_wp2
 go_ret
 exact⟨hx3.1,rfl⟩
def GrAt (D:FFld.FD)(h:FFld.PK D.p D.k D.m)(a r:Nat)(ok:Bool):Prop:=if ok then ∀ i,2<=i->i<r->FFld.GTest D h a i else ∃ i,2<=i/\i<D.p ^ D.k/\ ¬ FFld.GTest D h a i
set_option maxRecDepth 20000 in
theorem fdigits_any (n p:Nat)(w:World)(hp:2<=p)(hp1:p<=65536)(hn:n<1099511627776):
 Calls Tryz.prog 211 #[.int .i64 n, .int .i64 p] w (DigRet p n w):=by
 go_enter Tryz.func211,Tryz.ntmps211
 go_wp2
 go_loopw [0,5] (fun c o wr=> ∃ (cur:Nat) (l:List Nat),c= .int .i64 cur/\cur<=n/\l.length<=41/\Kept (FFld.DgAt p n l cur)/\Kept (Mine 3 .i64 w.heap.size wr o (ints l))/\Kept (Below w.heap.size w wr)) (fun c _ _=>(intOf c).toNat)
 case atStart=>exact⟨n,[],rfl,by omega,by simp,⟨FFld.DgAt.start p n⟩,⟨Mine.nil _ _ _ _⟩,⟨Below.refl _ _⟩⟩
 case round=>
  obtain⟨cur,l,rfl,hc,hl,hat,hm,hbl⟩:=hrel
  by_cases h0:0<cur
  ·have hlen:l.length<=40:=FFld.len_of_pow (hat.out.len hp h0) (Nat.le_of_lt hn);have HNX:=Km (hat.out.next hp h0);obtain⟨d,hd⟩:∃ d,cur%p=d:=⟨_,rfl⟩;obtain⟨q,hq⟩:∃ q,cur/p=q:=⟨_,rfl⟩;have hql:q<cur:=by rw[<- hq];exact Nat.div_lt_self h0 hp
   have hdz:(cur:Int)%p=(d:Int):=by rw[<- hd];rfl
   have hqz:(cur:Int)/p=(q:Int):=by rw[<- hq];rfl
   rw[hd,hq] at HNX;clear hd hq;have HMa:=Lib.hid (hm.out.alloc (.cells #[.int .i64 d] 3));have HNW:=Lib.hid (new_one (K:= .i64) (x:=(d:Int)) (w:=wr.alloc (.cells #[.int .i64 d] 3)) (b:=wr.heap.size) (o:=0) (by exact(Row.new (E:=3) (K:= .i64) wr [(d:Int)]).cell (i:=0) (by simp)));have HBB:=Lib.hid (show w.heap.size<=(wr.alloc (.cells #[.int .i64 d] 3)).heap.size by have:=hbl.out.size;simp;omega);have H1:=Lib.hid (show((ints l).length+ [(d:Int)].length)*8<=140737488355328 by rw[FFld.ints_len];simp;omega);have H2:=Lib.hid (show(ints l).length+ [(d:Int)].length<=maxLen by rw[FFld.ints_len];unfold maxLen;simp;omega);have hOwn:=Km hm.out.own
   go_wp2_with (at_builtin;refine wpList_append_mine _ rfl _ _ 22 rfl 3 .i64 8 Tryz.underlying22 info_i64 w.heap.size _ (ints l) rfl HMa.out HBB.out ⟨wr.heap.size,0,none⟩ 1 1 [(d:Int)] rfl rfl HNW.out H1.out H2.out ?_)
   intro v' w5 hm5 hg5 hn5;have HM5:=Km hm5;have HB5:=Km (hbl.out.grown (growTrans (World.grownBy_alloc wr (.cells #[.int .i64 d] 3) _) hg5) hbl.out.size (fun j hj=>(hOwn.out j hj).1));clear hm5 hg5 hn5;go_wp2;go_roundw
   case rel=>exact⟨q,l++ [d],rfl,by omega,by simp;omega,HNX,by rw[FFld.ints_append];exact HM5,HB5⟩
   case measure=>simp[intOf]<;>omega
  ·have:cur=0:=by omega
   subst this;go_wp2
   go_ret
   exact⟨hbl.out,_,_,rfl,hm.out,hat.out.done⟩
def PfRet (n:Nat)(w:World)(e:Ending)(w' :World):Prop:=Below w.heap.size w w' /\ ∃ v l,e= .returned v/\Mine 3 .i64 w.heap.size w' v (ints l)/\FFld.Facs n l
set_option maxRecDepth 20000 in
theorem factors_any (n0:Nat)(w:World)(hn0:1<=n0)(hn6:n0<=65536):
 Calls Tryz.prog 203 #[.int .i64 n0] w (PfRet n0 w):=by
 go_enter Tryz.func203,Tryz.ntmps203
 go_wp2
 go_loopw [0,3,4] (fun nv fv dv wr=> ∃ (n d:Nat) (l:List Nat),n<=65536/\2<=d/\d<=257/\nv= .int .i64 n/\dv= .int .i64 d/\l.length<=256/\Kept (FFld.PfAt n0 d n l)/\Kept (Mine 3 .i64 w.heap.size wr fv (ints l))/\Kept (Below w.heap.size w wr)) (fun _ _ dv _=>258-(intOf dv).toNat)
 case atStart=>exact⟨n0,2,[],hn6,Nat.le_refl _,by omega,rfl,rfl,by simp,⟨FFld.PfAt.start hn0⟩,⟨Mine.nil _ _ _ _⟩,⟨Below.refl _ _⟩⟩
 case round=>
  obtain⟨n,d,l,hn6,hd2,hd7,rfl,rfl,hll,hat,hm,hbl⟩:=hrel;obtain⟨dd,hdd⟩:∃ dd,d*d=dd:=⟨_,rfl⟩;have hddl:dd<=66049:=by rw[<- hdd];exact nmul_le (A:=257) (B:=257) hd7 hd7
  have edd:wrap64 ((d:Int)*d)=dd:=wmul hdd (by omega)
  by_cases hle:dd<=n
  ·have hd6:d<=256:=by
    rcases Nat.lt_or_ge 256 d with h|h
    ·have:=nmul_le (A:=d) (B:=d) (a:=257) (b:=257) h h;omega
    ·exact h
   obtain⟨s,hs⟩:∃ s,n%d=s:=⟨_,rfl⟩;have es:(n:Int)%d=s:=by rw[<- hs];rfl
   by_cases hs0:s=0
   ·subst hs0;have hdv:d∣n:=Nat.dvd_of_mod_eq_zero hs;have HPG:=Km (hat.out.put hd2 hdv);have ez:(((0:Nat):Int)==0)=true:=rfl;have hl9:l.length<=255:=by have:=hat.out.len;omega
    clear hs hdv hdd;have HMa:=Lib.hid (hm.out.alloc (.cells #[.int .i64 d] 3));have HNW:=Lib.hid (new_one (K:= .i64) (x:=(d:Int)) (w:=wr.alloc (.cells #[.int .i64 d] 3)) (b:=wr.heap.size) (o:=0) (by exact(Row.new (E:=3) (K:= .i64) wr [(d:Int)]).cell (i:=0) (by simp)));have HBB:=Lib.hid (show w.heap.size<=(wr.alloc (.cells #[.int .i64 d] 3)).heap.size by have:=hbl.out.size;simp;omega);have H1:=Lib.hid (show((ints l).length+ [(d:Int)].length)*8<=140737488355328 by rw[FFld.ints_len];simp;omega);have H2:=Lib.hid (show(ints l).length+ [(d:Int)].length<=maxLen by rw[FFld.ints_len];unfold maxLen;simp;omega);have hOwn:=Km hm.out.own
    go_wp2_with (at_builtin;refine wpList_append_mine _ rfl _ _ 22 rfl 3 .i64 8 Tryz.underlying22 info_i64 w.heap.size _ (ints l) rfl HMa.out HBB.out ⟨wr.heap.size,0,none⟩ 1 1 [(d:Int)] rfl rfl HNW.out H1.out H2.out ?_)
    intro v' w5 hm5 hg5 hn5;have HM5:=Km hm5;have HB5:=Km (hbl.out.grown (growTrans (World.grownBy_alloc wr (.cells #[.int .i64 d] 3) _) hg5) hbl.out.size (fun j hj=>(hOwn.out j hj).1));clear hm5 hg5 hn5;go_wp2
    go_loopw [0] (fun nv wr' => ∃ (n' :Nat),n' <=n/\nv= .int .i64 n' /\Kept (FFld.PgAt n0 d n' (l++ [d]))/\w5=wr') (fun nv _=>(intOf nv).toNat)
    case atStart=>exact⟨n,Nat.le_refl _,rfl,HPG,rfl⟩
    case round=>
     obtain⟨n',hn',rfl,hpg,rfl⟩:=hrel;obtain⟨t,ht⟩:∃ t,n' %d=t:=⟨_,rfl⟩;have et:(n' :Int)%d=t:=by rw[<- ht];rfl
     by_cases ht0:t=0
     ·subst ht0;obtain⟨q,hq⟩:∃ q,n' /d=q:=⟨_,rfl⟩;have eq:(n' :Int)/d=q:=by rw[<- hq];rfl
      have hlt:q<n' :=by rw[<- hq];exact Nat.div_lt_self hpg.out.n1 hd2
      have HPN:=Km (hpg.out.next hd2 (Nat.dvd_of_mod_eq_zero ht));rw[hq] at HPN;have ez2:(((0:Nat):Int)==0)=true:=rfl;clear ht hq;go_wp2;go_roundw
      case rel=>exact⟨q,by omega,rfl,HPN,trivial⟩
      case measure=>simp[intOf]<;>omega
     ·have HPD:=Km (hpg.out.done (fun h=>ht0 (by rw[<- ht];exact Nat.mod_eq_zero_of_dvd h)));have ez2:((t:Int)==0)=false:=by rw[beq_eq_false_iff_ne];omega
      clear ht ht0;go_wp2;go_roundw
      case rel=>exact⟨n',d+1,l++ [d],by omega,by omega,by omega,rfl,by go_num,by simp;omega,HPD,⟨by rw[FFld.ints_append];exact HM5.out⟩,HB5⟩
      case measure=>simp[intOf]<;>omega
   ·have ez:((s:Int)==0)=false:=by rw[beq_eq_false_iff_ne];omega
    have HPG:=Km (hat.out.skip (fun h=>hs0 (by rw[<- hs];exact Nat.mod_eq_zero_of_dvd h)));have hl9:l.length<=255:=by have:=hat.out.len;omega
    clear hs hs0 hdd;go_wp2
    go_loopw [0] (fun nv wr' => ∃ (n' :Nat),n' <=n/\nv= .int .i64 n' /\Kept (FFld.PgAt n0 d n' (l))/\wr=wr') (fun nv _=>(intOf nv).toNat)
    case atStart=>exact⟨n,Nat.le_refl _,rfl,HPG,rfl⟩
    case round=>
     obtain⟨n',hn',rfl,hpg,rfl⟩:=hrel;obtain⟨t,ht⟩:∃ t,n' %d=t:=⟨_,rfl⟩;have et:(n' :Int)%d=t:=by rw[<- ht];rfl
     by_cases ht0:t=0
     ·subst ht0;obtain⟨q,hq⟩:∃ q,n' /d=q:=⟨_,rfl⟩;have eq:(n' :Int)/d=q:=by rw[<- hq];rfl
      have hlt:q<n' :=by rw[<- hq];exact Nat.div_lt_self hpg.out.n1 hd2
      have HPN:=Km (hpg.out.next hd2 (Nat.dvd_of_mod_eq_zero ht));rw[hq] at HPN;have ez2:(((0:Nat):Int)==0)=true:=rfl;clear ht hq;go_wp2;go_roundw
      case rel=>exact⟨q,by omega,rfl,HPN,trivial⟩
      case measure=>simp[intOf]<;>omega
     ·have HPD:=Km (hpg.out.done (fun h=>ht0 (by rw[<- ht];exact Nat.mod_eq_zero_of_dvd h)));have ez2:((t:Int)==0)=false:=by rw[beq_eq_false_iff_ne];omega
      clear ht ht0;go_wp2;go_roundw
      case rel=>exact⟨n',d+1,l,by omega,by omega,by omega,rfl,by go_num,by omega,HPD,hm,hbl⟩
      case measure=>simp[intOf]<;>omega
  ·have hlt:n<d*d:=by omega
   by_cases hn1:1<n
   ·have HF:=Km (hat.out.last hd2 hlt hn1 (by omega));clear hlt hdd;have HMa:=Lib.hid (hm.out.alloc (.cells #[.int .i64 n] 3));have HNW:=Lib.hid (new_one (K:= .i64) (x:=(n:Int)) (w:=wr.alloc (.cells #[.int .i64 n] 3)) (b:=wr.heap.size) (o:=0) (by exact(Row.new (E:=3) (K:= .i64) wr [(n:Int)]).cell (i:=0) (by simp)));have HBB:=Lib.hid (show w.heap.size<=(wr.alloc (.cells #[.int .i64 n] 3)).heap.size by have:=hbl.out.size;simp;omega);have H1:=Lib.hid (show((ints l).length+ [(n:Int)].length)*8<=140737488355328 by rw[FFld.ints_len];simp;omega);have H2:=Lib.hid (show(ints l).length+ [(n:Int)].length<=maxLen by rw[FFld.ints_len];unfold maxLen;simp;omega);have hOwn:=Km hm.out.own
    go_wp2_with (at_builtin;refine wpList_append_mine _ rfl _ _ 22 rfl 3 .i64 8 Tryz.underlying22 info_i64 w.heap.size _ (ints l) rfl HMa.out HBB.out ⟨wr.heap.size,0,none⟩ 1 1 [(n:Int)] rfl rfl HNW.out H1.out H2.out ?_)
    intro v' w5 hm5 hg5 hn5;have HM5:=Km hm5;have HB5:=Km (hbl.out.grown (growTrans (World.grownBy_alloc wr (.cells #[.int .i64 n] 3) _) hg5) hbl.out.size (fun j hj=>(hOwn.out j hj).1));clear hm5 hg5 hn5;go_wp2
    go_ret
    exact⟨HB5.out,_,_,rfl,by rw[FFld.ints_append];exact HM5.out,HF.out⟩
   ·obtain rfl:n=1:=by have:=hat.out.n1;omega
    have HF:=Km (hat.out.full (by omega));clear hlt hdd;go_wp2
    go_ret
    exact⟨hbl.out,_,_,rfl,hm.out,HF.out⟩
def PpRet (q:Int)(w:World)(e:Ending)(w' :World):Prop:=Below w.heap.size w w' /\
 ((∃ p k:Nat,FFld.Prime p/\1<=k/\q=((p ^ k:Nat):Int)/\p ^ k<=65536/\e= .returned (.tuple #[.int .i64 p, .int .i64 k, .bool true]))\/(¬ FFld.Fit q/\e= .returned (.tuple #[.int .i64 0, .int .i64 0, .bool false])))
set_option maxRecDepth 20000 in
theorem primePower_any (q:Int)(w:World)(hr0: -9223372036854775808<=q)(hr1:q<=9223372036854775807):
 Calls Tryz.prog 145 #[.int .i64 q] w (PpRet q w):=by
 by_cases hin:2<=q/\q<=65536
 ·obtain⟨n0,rfl⟩:∃ n0:Nat,q=n0:=⟨q.toNat,by omega⟩;have h2:2<=n0:=by omega
  have h6:n0<=65536:=by omega
  clear hin hr0 hr1
  go_enter Tryz.func145,Tryz.ntmps145
  go_wp2_with fail;refine(factors_any n0 _ (by omega) h6).mono ?_;rintro e w1 ⟨hb1,v1,l,rfl,hm1,hf1⟩;obtain⟨a1,c1,rfl,hc1,hx1⟩:=hm1.sl.form;rw[FFld.ints_len] at hc1 hm1 ⊢;have hl3:=hf1.len;have HB1:=Km hb1;have HM1:=Km hm1;have HF1:=Km hf1;clear hb1 hm1 hf1
  rcases l with _|⟨p,_|⟨p2,l⟩⟩
  ·exact absurd HF1.out (fun h=>h.nil h2)
  ·obtain⟨hp,hd,hu⟩:=HF1.out.one;have hp2:=hp.1;have HP:=Km hp;have HD:=Km hd;have HU:=Km hu;obtain⟨g,cap',ev,hgB,hgl,_,_,hcell,_,_⟩:=HM1.out.at (i:=0) (by simp[ints]);rw[FFld.ints_len] at ev;simp only[Value.slice.injEq,true_and] at ev;obtain⟨rfl,rfl⟩:=ev;rw[FFld.ints_get] at hcell;have hcell' :w1.cell? ⟨g,0,none⟩=some (.int .i64 p):=hcell;simp only[List.length_singleton] at hc1 HM1 ⊢;have hpl:p<=n0:=Nat.le_of_dvd (by omega) hd;clear hcell hp hd hu;go_wp2
   go_loopw [0,3] (fun nv kv wr=> ∃ (n k:Nat),1<=n/\n<=65536/\k<=16/\kv= .int .i64 k/\nv= .int .i64 n/\Kept (n*p ^ k=n0)/\w1=wr) (fun nv _ _=>(intOf nv).toNat)
   case atStart=>exact⟨n0,0,by omega,h6,by omega,rfl,rfl,⟨by simp⟩,rfl⟩
   case round=>
    obtain⟨n,k,hn1,hn6,hk16,rfl,rfl,hnk,rfl⟩:=hrel
    by_cases h1:1<n
    ·obtain⟨n',hn'⟩:∃ n',n/p=n' :=⟨_,rfl⟩;have en:(n:Int)/p=n' :=by rw[<- hn'];rfl
     have hpn:p∣n:=by
      obtain⟨f,hf,hfd⟩:=FFld.exists_prime n h1;rw[<- HU.out f hf (Nat.dvd_trans hfd ⟨p ^ k,hnk.out.symm⟩)];exact hfd
     have hnn:n=p*n' :=by rw[<- hn'];exact(Nat.mul_div_cancel' hpn).symm
     have hlt:n' <n:=by rw[<- hn'];exact Nat.div_lt_self (by omega) hp2
     have hn'1:1<=n' :=by
      rcases Nat.eq_zero_or_pos n' with h|h
      ·subst h;omega
      ·exact h
     have HNK:Kept (n' *p ^ (k+1)=n0):=⟨by rw[<- hnk.out,hnn,Nat.pow_succ,Nat.mul_comm p n',Nat.mul_assoc,Nat.mul_comm p]⟩
     have hk15:k+1<=16:=by
      have h3:p ^ (k+1)<=n0:=by rw[<- HNK.out];exact Nat.le_mul_of_pos_left _ hn'1
      rcases Nat.lt_or_ge 16 (k+1) with h|h
      ·have h4:2 ^ 17<=p ^ (k+1):=Nat.le_trans (Nat.pow_le_pow_right (by omega) h) (Nat.pow_le_pow_left hp2 _);rw[show(2:Nat) ^ 17=131072 from rfl] at h4;generalize p ^ (k+1)=z at*;omega
      ·exact h
     clear hn' hpn hnn hnk;go_wp2;go_roundw
     case rel=>exact⟨n',k+1,hn'1,by omega,hk15,by go_num,rfl,HNK,trivial⟩
     case measure=>simp[intOf]<;>omega
    ·obtain rfl:n=1:=by omega
     have hqk:p ^ k=n0:=by have:=hnk.out;rw[Nat.one_mul] at this;exact this
     have hk1:1<=k:=by
      rcases Nat.eq_zero_or_pos k with h|h
      ·subst h;rw[Nat.pow_zero] at hqk;omega
      ·exact h
     have HQK:=Km hqk;clear hnk hqk;go_wp2
     go_ret3
     exact⟨HB1.out, .inl ⟨p,k,HP.out,hk1,by rw[HQK.out],by rw[HQK.out];exact h6,rfl⟩⟩
  ·have hnf:Kept (¬ FFld.Fit (n0:Int)):=⟨HF1.out.two⟩;have hlen:((p::p2::l).length:Int)>1:=by simp;omega
   obtain⟨L,hL⟩:∃ L,(p::p2::l).length=L:=⟨_,rfl⟩;have hl1:1<L:=by rw[<- hL];simp
   rw[hL];clear hlen HM1 HF1 hL;go_wp2
   go_ret3
   exact⟨HB1.out, .inr ⟨hnf.out,rfl⟩⟩
 ·have hnf:Kept (¬ FFld.Fit q):=⟨fun h=>hin h.range⟩;have htest:q<2\/(¬ q<2/\65536<q):=by omega
  clear hin
  go_enter Tryz.func145,Tryz.ntmps145
  rcases htest with h|⟨h,h'⟩
  all_goals
   go_wp2
   go_ret3
   exact⟨Below.refl _ _, .inr ⟨hnf.out,rfl⟩⟩
set_option maxRecDepth 20000 in
theorem power_rem (p k m:Nat)(hpk:FFld.PK p k m)(rv:Value)(a n:Nat)(w:World)(ha:a<p ^ k)(hn:n<=70000)
 (hP:∀ W (x y:Nat),x<p ^ k->y<p ^ k->Calls Tryz.prog 205 #[rv, .int .i64 x, .int .i64 y] W (RB W (.int .i64 (FFld.pmul p k m x k y:Nat)))):
 Calls Tryz.prog 246 #[.int .i64 a, .int .i64 n, .func (.func 205) #[rv] #[]] w (RB w (.int .i64 (FFld.ppow hpk a n:Nat))):=by
 obtain⟨V,hV⟩:∃ V,FFld.ppow hpk a n=V:=⟨_,rfl⟩;have HPW:Kept (FFld.PwAt p k m hpk V 1 a n):=⟨hV ▸ FFld.PwAt.start hpk a n ha⟩;rw[hV];have hMul:=Km hP;clear hV ha hP
 go_enter Tryz.func246,Tryz.ntmps246
 go_wp2
 go_loopw [0,1,7] (fun av nv rv wr=> ∃ (x n r:Nat),n<=70000/\av= .int .i64 x/\nv= .int .i64 n/\rv= .int .i64 r/\Kept (FFld.PwAt p k m hpk V r x n)/\Kept (Below w.heap.size w wr)) (fun _ nv _ _=>(intOf nv).toNat)
 case atStart=>exact⟨a,n,1,hn,rfl,rfl,rfl,HPW,⟨Below.refl _ _⟩⟩
 case round=>
  obtain⟨x,n,r,hn,rfl,rfl,rfl,hpw,hbx⟩:=hrel
  by_cases h0:0<n
  ·obtain⟨n',hn'⟩:∃ n',n/2=n' :=⟨_,rfl⟩;have en:(n:Int)/2=n' :=by rw[<- hn'];rfl
   have hlt:n' <n:=by omega
   by_cases h1:n%2=1
   ·have HP:=Km (hpw.out.odd h1);rw[hn'] at HP;have e1:((n:Int)%2==1)=true:=by rw[beq_iff_eq];omega
    have HR:=Km hpw.out.rl;have HA:=Km hpw.out.al;clear hn' h1;go_wp2_with fail;refine(hMul.out _ r x HR.out HA.out).mono ?_;rintro e w2 ⟨hb2,rfl⟩;have HX2:=Km (hbx.out.trans (hb2.mono hbx.out.size));clear hb2;go_wp2_with fail;refine(hMul.out _ x x HA.out HA.out).mono ?_;rintro e w3 ⟨hb3,rfl⟩;have HX3:=Km (HX2.out.trans (hb3.mono HX2.out.size));clear hb3;go_wp2;go_roundw
    case rel=>exact⟨_,n',_,by omega,rfl,rfl,rfl,HP,HX3⟩
    case measure=>simp[intOf]<;>omega
   ·have HP:=Km (hpw.out.even (by omega));rw[hn'] at HP;have e1:((n:Int)%2==1)=false:=by rw[beq_eq_false_iff_ne];omega
    have HA:=Km hpw.out.al;clear hn' h1;go_wp2_with fail;refine(hMul.out _ x x HA.out HA.out).mono ?_;rintro e w3 ⟨hb3,rfl⟩;have HX3:=Km (hbx.out.trans (hb3.mono hbx.out.size));clear hb3;go_wp2;go_roundw
    case rel=>exact⟨_,n',_,by omega,rfl,rfl,rfl,HP,HX3⟩
    case measure=>simp[intOf]<;>omega
  ·obtain rfl:n=0:=by omega
   have HR:=Km hpw.out.done;go_wp2
   go_ret
   exact⟨hbx.out,by rw[HR.out];rfl⟩
set_option maxRecDepth 20000 in
theorem power_res (p k m:Nat)(hpk:FFld.PK p k m)(rv:Value)(a n:Nat)(w:World)(ha:a<p ^ k)(hn:n<=70000)
 (hP:∀ W (x y:Nat),x<p ^ k->y<p ^ k->Calls Tryz.prog 208 #[rv, .int .i64 x, .int .i64 y] W (RB W (.int .i64 (FFld.pmul p k m x k y:Nat)))):
 Calls Tryz.prog 246 #[.int .i64 a, .int .i64 n, .func (.func 208) #[rv] #[]] w (RB w (.int .i64 (FFld.ppow hpk a n:Nat))):=by
 obtain⟨V,hV⟩:∃ V,FFld.ppow hpk a n=V:=⟨_,rfl⟩;have HPW:Kept (FFld.PwAt p k m hpk V 1 a n):=⟨hV ▸ FFld.PwAt.start hpk a n ha⟩;rw[hV];have hMul:=Km hP;clear hV ha hP
 go_enter Tryz.func246,Tryz.ntmps246
 go_wp2
 go_loopw [0,1,7] (fun av nv rv wr=> ∃ (x n r:Nat),n<=70000/\av= .int .i64 x/\nv= .int .i64 n/\rv= .int .i64 r/\Kept (FFld.PwAt p k m hpk V r x n)/\Kept (Below w.heap.size w wr)) (fun _ nv _ _=>(intOf nv).toNat)
 case atStart=>exact⟨a,n,1,hn,rfl,rfl,rfl,HPW,⟨Below.refl _ _⟩⟩
 case round=>
  obtain⟨x,n,r,hn,rfl,rfl,rfl,hpw,hbx⟩:=hrel
  by_cases h0:0<n
  ·obtain⟨n',hn'⟩:∃ n',n/2=n' :=⟨_,rfl⟩;have en:(n:Int)/2=n' :=by rw[<- hn'];rfl
   have hlt:n' <n:=by omega
   by_cases h1:n%2=1
   ·have HP:=Km (hpw.out.odd h1);rw[hn'] at HP;have e1:((n:Int)%2==1)=true:=by rw[beq_iff_eq];omega
    have HR:=Km hpw.out.rl;have HA:=Km hpw.out.al;clear hn' h1;go_wp2_with fail;refine(hMul.out _ r x HR.out HA.out).mono ?_;rintro e w2 ⟨hb2,rfl⟩;have HX2:=Km (hbx.out.trans (hb2.mono hbx.out.size));clear hb2;go_wp2_with fail;refine(hMul.out _ x x HA.out HA.out).mono ?_;rintro e w3 ⟨hb3,rfl⟩;have HX3:=Km (HX2.out.trans (hb3.mono HX2.out.size));clear hb3;go_wp2;go_roundw
    case rel=>exact⟨_,n',_,by omega,rfl,rfl,rfl,HP,HX3⟩
    case measure=>simp[intOf]<;>omega
   ·have HP:=Km (hpw.out.even (by omega));rw[hn'] at HP;have e1:((n:Int)%2==1)=false:=by rw[beq_eq_false_iff_ne];omega
    have HA:=Km hpw.out.al;clear hn' h1;go_wp2_with fail;refine(hMul.out _ x x HA.out HA.out).mono ?_;rintro e w3 ⟨hb3,rfl⟩;have HX3:=Km (hbx.out.trans (hb3.mono hbx.out.size));clear hb3;go_wp2;go_roundw
    case rel=>exact⟨_,n',_,by omega,rfl,rfl,rfl,HP,HX3⟩
    case measure=>simp[intOf]<;>omega
  ·obtain rfl:n=0:=by omega
   have HR:=Km hpw.out.done;go_wp2
   go_ret
   exact⟨hbx.out,by rw[HR.out];rfl⟩
set_option maxRecDepth 20000 in
theorem leastgen_rem (D:FFld.FD)(hD:D.Ok)(rv:Value)(w:World)
 (hP:∀ W (x y:Nat),x<D.p ^ D.k->y<D.p ^ D.k->Calls Tryz.prog 205 #[rv, .int .i64 x, .int .i64 y] W (RB W (.int .i64 (FFld.pmul D.p D.k D.m x D.k y:Nat)))):
 Calls Tryz.prog 204 #[.int .i64 D.q, .func (.func 205) #[rv] #[]] w (RB w (.int .i64 (D.g:Nat))):=by
 obtain⟨q,hqd⟩:∃ q,D.p ^ D.k=q:=⟨_,rfl⟩;have hqq:D.q=q:=hqd;have hpk:=hD.pre.pk;have hq1:1<q:=by rw[<- hqd];exact hpk.one_lt
 have hq2:q<=65536:=by have:=hD.pre.small;rw[hqq] at this;exact this
 have hgq:D.g<q:=by rw[<- hqd];exact hD.gq
 have hPow:=Km (fun W (a n:Nat) (ha:a<q) (hn:n<=70000)=>power_rem D.p D.k D.m hpk rv a n W (by rw[hqd];exact ha) hn hP);have HG:=Km (fun(a:Nat) (h1:1<=a) (hg:a<=D.g) (ht:∀ r,2<=r->r<q->FFld.GTest D hpk a r)=>hD.gen h1 hg (by rw[hqd];exact ht));have HNG:=Km (fun(a r:Nat) (hg:a<=D.g) (h2:2<=r) (hr:r<q) (ht: ¬ FFld.GTest D hpk a r)=>hD.not_gen hg h2 (by rw[hqd];exact hr) ht);have HQ:=Km hqd;rw[hqq];obtain⟨q1,hq1e⟩:∃ q1,q-1=q1:=⟨_,rfl⟩;have e0:(q:Int)-1=(q1:Int):=by omega
 clear hqd hqq hP
 go_enter Tryz.func204,Tryz.ntmps204
 go_wp2
 go_step3
 go_wp2_with fail;refine(factors_any q1 _ (by omega) (by omega)).mono ?_;rintro e w1 ⟨hb1,v1,l,rfl,hm1,hf1⟩;obtain⟨a1,c1,rfl,hc1,hx1⟩:=hm1.sl.form;rw[FFld.ints_len] at hc1 hm1 ⊢;have hl3:=hf1.len;have HB1:=Km hb1;have HC1:=Km (hm1.sl.cells (Nat.le_refl _));have HF1:=Km hf1;have HQ1:=Km hq1e;clear hb1 hm1 hf1 hq1e;go_wp2
 go_step3
 go_wp2
 go_loopw [6] (fun gv wr=> ∃ (a:Nat),1<=a/\a<=D.g/\gv= .int .i64 a/\Kept (Below w1.heap.size w1 wr)) (fun gv _=>q-(intOf gv).toNat)
 case atStart=>exact⟨1,Nat.le_refl _,hD.g1,rfl,⟨Below.refl _ _⟩⟩
 case round=>
  obtain⟨a,ha1,hag,rfl,hbx⟩:=hrel;go_wp2
  go_loopw [16] (fun iv wr=> ∃ (i:Nat),iv= .int .i64 i/\i<=l.length/\Kept (∀ j,j<i->FFld.GTest D hpk a (l[j]?.getD 0))/\Kept (Below w1.heap.size w1 wr)) (fun iv _=>l.length-(intOf iv).toNat)
  case atStart=>exact⟨0,rfl,Nat.zero_le _,⟨fun j hj=>by omega⟩,hbx⟩
  case round=>
   obtain⟨i,rfl,hil,hat,hbx⟩:=hrel
   by_cases hlt:i<l.length
   ·obtain⟨b,o,rfl,hcell⟩:=HC1.out _ hbx.out i hlt;obtain⟨r,hr⟩:∃ r,l[i]?.getD 0=r:=⟨_,rfl⟩;rw[hr] at hcell;have hrm:r∈l:=by rw[<- hr];simp[hlt]
    obtain⟨hpr,hdv⟩:=(HF1.out.mem r).1 hrm;have hr2:=hpr.1;have hrl:=Nat.le_of_dvd (by omega) hdv;obtain⟨d,hd⟩:∃ d,q1/r=d:=⟨_,rfl⟩;have hdl:d<=70000:=by rw[<- hd];exact Nat.le_trans (Nat.div_le_self _ _) (by omega)
    have ed:(q1:Int)/r=d:=by rw[<- hd];rfl
    obtain⟨v,hv⟩:∃ v,FFld.ppow hpk a d=v:=⟨_,rfl⟩;have hPo:=Km (fun W=>hPow.out W a d (by omega) hdl);rw[hv] at hPo
    have HT:Kept (FFld.GTest D hpk a r↔v≠1):=⟨by
     unfold FFld.GTest;rw[HQ.out,HQ1.out,hd,hv]
     exact⟨fun h=>h hdv hpr,fun h _ _=>h⟩⟩
    have HR:=Km hr;clear hr hrm hpr hdv hd hv
    by_cases hv1:v=1
    ·subst hv1;have ev:(((1:Nat):Int)==1)=true:=rfl;have hN:=HNG.out a r hag hr2 (by omega) (fun h=>HT.out.1 h rfl);go_wp2_with fail;refine(hPo.out _).mono ?_;rintro e w3 ⟨hb3,rfl⟩;have HX3:=Km (hbx.out.trans (hb3.mono hbx.out.size));clear hb3;go_wp2;go_roundw
     case rel=>exact⟨a+1,by omega,hN,by go_num,HX3⟩
     case measure=>simp[intOf]<;>omega
    ·have ev:((v:Int)==1)=false:=by rw[beq_eq_false_iff_ne];omega
     have HN2:=Km (show ∀ j,j<i+1->FFld.GTest D hpk a (l[j]?.getD 0) from fun j hj=>by
      by_cases e:j=i
      ·subst e;rw[HR.out];exact HT.out.2 hv1
      ·exact hat.out j (by omega))
     go_wp2_with fail;refine(hPo.out _).mono ?_;rintro e w3 ⟨hb3,rfl⟩;have HX3:=Km (hbx.out.trans (hb3.mono hbx.out.size));clear hb3;go_wp2;go_roundw
     case rel=>exact⟨i+1,by go_num,by omega,HN2,HX3⟩
     case measure=>simp[intOf]<;>omega
   ·obtain rfl:i=l.length:=by omega
    have hN:=HG.out a ha1 hag (fun r h2 hr hd hp=>by
     have hm:=(HF1.out.mem r).2 ⟨hp,by rw[HQ.out,HQ1.out] at hd;exact hd⟩;obtain⟨j,hj,e⟩:=List.getElem_of_mem hm;have:=hat.out j hj;rw[List.getElem?_eq_getElem hj,Option.getD_some,e] at this
     exact this hd hp)
    go_wp2
    go_ret
    exact⟨HB1.out.trans (hbx.out.mono HB1.out.size),by rw[<- hN];rfl⟩
set_option maxRecDepth 20000 in
theorem leastgen_res (D:FFld.FD)(hD:D.Ok)(rv:Value)(w:World)
 (hP:∀ W (x y:Nat),x<D.p ^ D.k->y<D.p ^ D.k->Calls Tryz.prog 208 #[rv, .int .i64 x, .int .i64 y] W (RB W (.int .i64 (FFld.pmul D.p D.k D.m x D.k y:Nat)))):
 Calls Tryz.prog 204 #[.int .i64 D.q, .func (.func 208) #[rv] #[]] w (RB w (.int .i64 (D.g:Nat))):=by
 obtain⟨q,hqd⟩:∃ q,D.p ^ D.k=q:=⟨_,rfl⟩;have hqq:D.q=q:=hqd;have hpk:=hD.pre.pk;have hq1:1<q:=by rw[<- hqd];exact hpk.one_lt
 have hq2:q<=65536:=by have:=hD.pre.small;rw[hqq] at this;exact this
 have hgq:D.g<q:=by rw[<- hqd];exact hD.gq
 have hPow:=Km (fun W (a n:Nat) (ha:a<q) (hn:n<=70000)=>power_res D.p D.k D.m hpk rv a n W (by rw[hqd];exact ha) hn hP);have HG:=Km (fun(a:Nat) (h1:1<=a) (hg:a<=D.g) (ht:∀ r,2<=r->r<q->FFld.GTest D hpk a r)=>hD.gen h1 hg (by rw[hqd];exact ht));have HNG:=Km (fun(a r:Nat) (hg:a<=D.g) (h2:2<=r) (hr:r<q) (ht: ¬ FFld.GTest D hpk a r)=>hD.not_gen hg h2 (by rw[hqd];exact hr) ht);have HQ:=Km hqd;rw[hqq];obtain⟨q1,hq1e⟩:∃ q1,q-1=q1:=⟨_,rfl⟩;have e0:(q:Int)-1=(q1:Int):=by omega
 clear hqd hqq hP
 go_enter Tryz.func204,Tryz.ntmps204
 go_wp2
 go_step3
 go_wp2_with fail;refine(factors_any q1 _ (by omega) (by omega)).mono ?_;rintro e w1 ⟨hb1,v1,l,rfl,hm1,hf1⟩;obtain⟨a1,c1,rfl,hc1,hx1⟩:=hm1.sl.form;rw[FFld.ints_len] at hc1 hm1 ⊢;have hl3:=hf1.len;have HB1:=Km hb1;have HC1:=Km (hm1.sl.cells (Nat.le_refl _));have HF1:=Km hf1;have HQ1:=Km hq1e;clear hb1 hm1 hf1 hq1e;go_wp2
 go_step3
 go_wp2
 go_loopw [6] (fun gv wr=> ∃ (a:Nat),1<=a/\a<=D.g/\gv= .int .i64 a/\Kept (Below w1.heap.size w1 wr)) (fun gv _=>q-(intOf gv).toNat)
 case atStart=>exact⟨1,Nat.le_refl _,hD.g1,rfl,⟨Below.refl _ _⟩⟩
 case round=>
  obtain⟨a,ha1,hag,rfl,hbx⟩:=hrel;go_wp2
  go_loopw [16] (fun iv wr=> ∃ (i:Nat),iv= .int .i64 i/\i<=l.length/\Kept (∀ j,j<i->FFld.GTest D hpk a (l[j]?.getD 0))/\Kept (Below w1.heap.size w1 wr)) (fun iv _=>l.length-(intOf iv).toNat)
  case atStart=>exact⟨0,rfl,Nat.zero_le _,⟨fun j hj=>by omega⟩,hbx⟩
  case round=>
   obtain⟨i,rfl,hil,hat,hbx⟩:=hrel
   by_cases hlt:i<l.length
   ·obtain⟨b,o,rfl,hcell⟩:=HC1.out _ hbx.out i hlt;obtain⟨r,hr⟩:∃ r,l[i]?.getD 0=r:=⟨_,rfl⟩;rw[hr] at hcell;have hrm:r∈l:=by rw[<- hr];simp[hlt]
    obtain⟨hpr,hdv⟩:=(HF1.out.mem r).1 hrm;have hr2:=hpr.1;have hrl:=Nat.le_of_dvd (by omega) hdv;obtain⟨d,hd⟩:∃ d,q1/r=d:=⟨_,rfl⟩;have hdl:d<=70000:=by rw[<- hd];exact Nat.le_trans (Nat.div_le_self _ _) (by omega)
    have ed:(q1:Int)/r=d:=by rw[<- hd];rfl
    obtain⟨v,hv⟩:∃ v,FFld.ppow hpk a d=v:=⟨_,rfl⟩;have hPo:=Km (fun W=>hPow.out W a d (by omega) hdl);rw[hv] at hPo
    have HT:Kept (FFld.GTest D hpk a r↔v≠1):=⟨by
     unfold FFld.GTest;rw[HQ.out,HQ1.out,hd,hv]
     exact⟨fun h=>h hdv hpr,fun h _ _=>h⟩⟩
    have HR:=Km hr;clear hr hrm hpr hdv hd hv
    by_cases hv1:v=1
    ·subst hv1;have ev:(((1:Nat):Int)==1)=true:=rfl;have hN:=HNG.out a r hag hr2 (by omega) (fun h=>HT.out.1 h rfl);go_wp2_with fail;refine(hPo.out _).mono ?_;rintro e w3 ⟨hb3,rfl⟩;have HX3:=Km (hbx.out.trans (hb3.mono hbx.out.size));clear hb3;go_wp2;go_roundw
     case rel=>exact⟨a+1,by omega,hN,by go_num,HX3⟩
     case measure=>simp[intOf]<;>omega
    ·have ev:((v:Int)==1)=false:=by rw[beq_eq_false_iff_ne];omega
     have HN2:=Km (show ∀ j,j<i+1->FFld.GTest D hpk a (l[j]?.getD 0) from fun j hj=>by
      by_cases e:j=i
      ·subst e;rw[HR.out];exact HT.out.2 hv1
      ·exact hat.out j (by omega))
     go_wp2_with fail;refine(hPo.out _).mono ?_;rintro e w3 ⟨hb3,rfl⟩;have HX3:=Km (hbx.out.trans (hb3.mono hbx.out.size));clear hb3;go_wp2;go_roundw
     case rel=>exact⟨i+1,by go_num,by omega,HN2,HX3⟩
     case measure=>simp[intOf]<;>omega
   ·obtain rfl:i=l.length:=by omega
    have hN:=HG.out a ha1 hag (fun r h2 hr hd hp=>by
     have hm:=(HF1.out.mem r).2 ⟨hp,by rw[HQ.out,HQ1.out] at hd;exact hd⟩;obtain⟨j,hj,e⟩:=List.getElem_of_mem hm;have:=hat.out j hj;rw[List.getElem?_eq_getElem hj,Option.getD_some,e] at this
     exact this hd hp)
    go_wp2
    go_ret
    exact⟨HB1.out.trans (hbx.out.mono HB1.out.size),by rw[<- hN];rfl⟩
abbrev rsv (p l o:Nat):Value:= .agg #[.int .i64 p, .int .i64 l, .int .i64 o]
abbrev rsbox (p l o:Nat):Obj:= .cells #[.int .i64 p, .int .i64 l, .int .i64 o] 217
set_option maxRecDepth 20000 in
theorem multiple_any (p k m l o a c:Nat)(w:World)(hpk:FFld.PK p k m)(ha:a<p ^ k)(hc:c<p)(hq:p ^ k<=65536):
 Calls Tryz.prog 247 #[rsv p l o, .int .i64 a, .int .i64 c] w (RB w (.int .i64 (FFld.pscl p k c a:Nat))):=by
 have hp:=hpk.p2;have hk:=hpk.k1;have hp1:p<=65536:=Nat.le_trans (by have:=Nat.pow_le_pow_right (n:=p) (by omega) hk;rw[Nat.pow_one] at this;exact this) hq;have ha1:a<=65536:=by omega
 have HX0:Kept (Bxs w [rsbox p l o] (w.alloc (rsbox p l o))):=⟨(Bxs.start w).alloc (by simp) _⟩
 by_cases hc2:c<2
 ·obtain⟨v,hv⟩:∃ v,a*c=v:=⟨_,rfl⟩
  have hvr:FFld.pscl p k c a=v:=by
   rcases(show c=0\/c=1 by omega) with rfl|rfl
   ·rw[FFld.pscl_zero hpk,<- hv,Nat.mul_zero]
   ·rw[FFld.pscl_one hpk a ha,<- hv,Nat.mul_one]
  have hvl:v<=131072:=by rw[<- hv];exact nmul_le (A:=65536) (B:=2) ha1 (by omega)
  have e1:wrap64 ((a:Int)*c)=v:=wmul hv (by omega);have HV:=Km hvr;clear hv hvr ha hq
  go_enter Tryz.func247,Tryz.ntmps247
  go_wp2
  go_ret
  exact⟨HX0.out.1,by rw[HV.out];simp[e1]⟩
 ·have HA:=Km ha;have HQ:=Km hq;clear ha hq;obtain⟨f,hf⟩:∃ f:Nat->Nat,(fun i=>(FFld.dig p a i*c)%p)=f:=⟨_,rfl⟩;have HF:=Km hf;have HFL:=Km (show ∀ i,f i<p from fun i=>by rw[<- hf];exact Nat.mod_lt _ (by omega));have hres:FFld.pscl p k c a=FFld.ofd p f k:=by rw[<- hf];rfl
  rw[hres];clear hf hres
  go_enter Tryz.func247,Tryz.ntmps247
  go_wp2
  go_loopw [1,7,8] (fun av nv uv wr=> ∃ (j x n u:Nat),x<=65536/\av= .int .i64 x/\nv= .int .i64 n/\uv= .int .i64 u/\Kept (x=a/p ^ j)/\Kept (FFld.DlAt p f k j n u)/\Kept (Bxs w [rsbox p l o] wr)) (fun av _ _ _=>(intOf av).toNat)
  case atStart=>exact⟨0,a,0,1,ha1,rfl,rfl,rfl,⟨by simp⟩,⟨FFld.DlAt.start p f k⟩,HX0⟩
  case round=>
   obtain⟨j,x,n,u,hx,rfl,rfl,rfl,hxa,hat,hbx⟩:=hrel
   by_cases hpos:0<x
   ·have hjk:j<k:=FFld.cur_pos HA.out (by rw[<- hxa.out];exact hpos) hp;have HNX:=Km (hat.out.next hjk);have hul:u<=65536:=Nat.le_trans (hat.out.u_le hp) HQ.out;have hupl:u*p<=65536:=Nat.le_trans (hat.out.up_le hp hjk) HQ.out;have hnl:n<=65536:=by have:=hat.out.n_lt hp HFL.out;have:=HQ.out;omega
    have hfj:f j<p:=HFL.out j;obtain⟨z,hz⟩:∃ z,f j=z:=⟨_,rfl⟩;rw[hz] at hfj HNX;have hzv:(x%p*c)%p=z:=by rw[<- hz,<- HF.out,hxa.out];rfl
    obtain⟨r,hr⟩:∃ r,x%p=r:=⟨_,rfl⟩;obtain⟨x',hx'⟩:∃ x',x/p=x' :=⟨_,rfl⟩;have HXA:Kept (x' =a/p ^ (j+1)):=⟨by rw[<- hx',hxa.out,FFld.cur_next]⟩;have hdec:x' <x:=by rw[<- hx'];exact Nat.div_lt_self hpos hp
    have hx'l:x' <=65536:=Nat.le_trans (by rw[<- hx'];exact Nat.div_le_self _ _) hx;have hrp:r<p:=by rw[<- hr];exact Nat.mod_lt _ (by omega)
    obtain⟨s,hs⟩:∃ s,r*c=s:=⟨_,rfl⟩;have hsl:s<=4294967296:=by rw[<- hs];exact nmul_le (A:=65536) (B:=65536) (by omega) (by omega)
    have er:(x:Int)%p=r:=by rw[<- hr];rfl
    have e1:IntKind.i64.wrap ((r:Int)*c)=(s:Int):=wimul hs (by omega);have ez:(s:Int)%p=z:=by rw[<- hzv,hr,hs];rfl
    obtain⟨v,hv⟩:∃ v,z*u=v:=⟨_,rfl⟩;obtain⟨u',hu'⟩:∃ u',u*p=u' :=⟨_,rfl⟩;have hvl:v<=4294967296:=by rw[<- hv];exact nmul_le (A:=65536) (B:=65536) (by omega) (by omega)
    have hul' :u' <=65536:=by rw[<- hu'];exact hupl
    have e2:IntKind.i64.wrap ((z:Int)*u)=v:=wimul hv (by omega);have e3:IntKind.i64.wrap ((n:Int)+v)=(n:Int)+v:=wi (by omega) (by omega);have e4:wrap64 ((u:Int)*p)=u' :=wmul hu' (by omega);rw[hv,hu'] at HNX;have ex:(x:Int)/p=x' :=by rw[<- hx'];rfl
    obtain⟨c0,c1,c2,_⟩:=three_cells hbx.out.b0;clear hr hs hx' hz hzv hupl hv hu';go_wp2
    go_quiet (fail)
    go_wp2;go_roundw
    case rel=>exact⟨j+1,x',n+v,u',hx'l,rfl,by simp,congrArg (Value.int .i64) e4,HXA,HNX,⟨hbx.out.below (below_drewN (Below.refl _ _) _)⟩⟩
    case measure=>simp[intOf]<;>omega
   ·obtain rfl:x=0:=by omega
    have HN:=Km (hat.out.done (fun i hi=>by
     rw[<- HF.out]
     show(FFld.dig p a i*c)%p=0
     rw[FFld.cur_zero hxa.out.symm hp hi,Nat.zero_mul,Nat.zero_mod]))
    go_wp2
    go_ret
    exact⟨hbx.out.1,by rw[HN.out];rfl⟩
theorem wadd {a b:Nat}(ha:a<=4294967296)(hb:b<=8589934592):wrap64 ((a:Int)+b)=((a+b:Nat):Int):=by rw[w64 (by omega) (by omega)];simp
theorem wmadd' {n z u v:Nat}(h:z*u=v)(hn:n<=4294967296)(hv:v<=8589934592):wrap64 ((n:Int)+wrap64 ((z:Int)*u))=((n+v:Nat):Int):=by rw[wmul h (Nat.le_trans hv (by decide))];exact wadd hn hv
theorem xor_i64 (a b:Nat)(ha:a<131072)(hb:b<131072):bits BinOp.xor .i64 (a:Int) (b:Int)=((a ^^^ b:Nat):Int):=by
 have hx:a ^^^ b<2 ^ 17:=Nat.xor_lt_two_pow (by rw[show(2:Nat) ^ 17=131072 from rfl];exact ha) (by rw[show(2:Nat) ^ 17=131072 from rfl];exact hb);rw[show(2:Nat) ^ 17=131072 from rfl] at hx
 have h1:(BitVec.ofInt 64 (a:Int)).toNat=a:=by
  rw[BitVec.ofInt_natCast,BitVec.toNat_ofNat];exact Nat.mod_eq_of_lt (by omega)
 have h2:(BitVec.ofInt 64 (b:Int)).toNat=b:=by
  rw[BitVec.ofInt_natCast,BitVec.toNat_ofNat];exact Nat.mod_eq_of_lt (by omega)
 show IntKind.i64.wrap ((BitVec.ofInt 64 (a:Int) ^^^ BitVec.ofInt 64 (b:Int)).toNat:Int)=_
 rw[BitVec.toNat_xor,h1,h2];exact wi (by omega) (by omega)
set_option maxRecDepth 20000 in
theorem rsum_any (p k m l o a b:Nat)(w:World)(hpk:FFld.PK p k m)(ha:a<p ^ k)(hb:b<p ^ k)(hq:p ^ k<=65536):
 Calls Tryz.prog 248 #[rsv p l o, .int .i64 a, .int .i64 b] w (RB w (.int .i64 (FFld.padd p k a b:Nat))):=by
 have hp:=hpk.p2;have hk:=hpk.k1;have hp1:p<=65536:=Nat.le_trans (by have:=Nat.pow_le_pow_right (n:=p) (by omega) hk;rw[Nat.pow_one] at this;exact this) hq;have ha1:a<=65536:=by omega
 have hb1:b<=65536:=by omega
 have HX0:Kept (Bxs w [rsbox p l o] (w.alloc (rsbox p l o))):=⟨(Bxs.start w).alloc (by simp) _⟩
 by_cases hp2:p=2
 ·subst hp2;obtain⟨c0,c1,c2,_⟩:=three_cells HX0.out.b0;have hx:FFld.padd 2 k a b=a ^^^ b:=FFld.padd_xor hpk a b ha hb;have HXR:=Km hx;have e0:(((2:Nat):Int)==2)=true:=rfl;clear ha hb hq hx
  go_enter Tryz.func248,Tryz.ntmps248
  go_wp2
  go_ret
  refine⟨HX0.out.1,?_⟩;rw[HXR.out];simp;exact xor_i64 a b (by omega) (by omega)
 ·have HA:=Km ha;have HB:=Km hb;have HQ:=Km hq;have e0:((p:Int)==2)=false:=by rw[beq_eq_false_iff_ne];omega
  clear ha hb hq hp2;obtain⟨f,hf⟩:∃ f:Nat->Nat,(fun i=>(FFld.dig p a i+FFld.dig p b i)%p)=f:=⟨_,rfl⟩;have HF:=Km hf;have HFL:=Km (show ∀ i,f i<p from fun i=>by rw[<- hf];exact Nat.mod_lt _ (by omega));have hres:FFld.padd p k a b=FFld.ofd p f k:=by rw[<- hf];rfl
  rw[hres];clear hf hres;obtain⟨c0,c1,c2,_⟩:=three_cells HX0.out.b0
  go_enter Tryz.func248,Tryz.ntmps248
  go_wp2
  go_loopw [1,2,7,8] (fun av bv nv uv wr=> ∃ (j x y n u:Nat),x<=65536/\y<=65536/\av= .int .i64 x/\bv= .int .i64 y/\nv= .int .i64 n/\uv= .int .i64 u/\Kept (x=a/p ^ j)/\Kept (y=b/p ^ j)/\Kept (FFld.DlAt p f k j n u)/\Kept (Bxs w [rsbox p l o] wr)) (fun _ bv _ _ _=>(intOf bv).toNat)
  case atStart=>exact⟨0,a,b,0,1,ha1,hb1,rfl,rfl,rfl,rfl,⟨by simp⟩,⟨by simp⟩,⟨FFld.DlAt.start p f k⟩,HX0⟩
  case round=>
   obtain⟨j,x,y,n,u,hx,hy,rfl,rfl,rfl,rfl,hxa,hyb,hat,hbx⟩:=hrel;have hul:u<=65536:=Nat.le_trans (hat.out.u_le hp) HQ.out;have hnl:n<=65536:=by have:=hat.out.n_lt hp HFL.out;have:=HQ.out;omega
   by_cases hpos:0<y
   ·have hjk:j<k:=FFld.cur_pos HB.out (by rw[<- hyb.out];exact hpos) hp;have HNX:=Km (hat.out.next hjk);have hupl:u*p<=65536:=Nat.le_trans (hat.out.up_le hp hjk) HQ.out;have hfj:f j<p:=HFL.out j;obtain⟨z,hz⟩:∃ z,f j=z:=⟨_,rfl⟩;rw[hz] at hfj HNX;have hzv:(x%p+y%p)%p=z:=by rw[<- hz,<- HF.out,hxa.out,hyb.out];rfl
    obtain⟨r,hr⟩:∃ r,x%p=r:=⟨_,rfl⟩;obtain⟨s,hs⟩:∃ s,y%p=s:=⟨_,rfl⟩;obtain⟨x',hx'⟩:∃ x',x/p=x' :=⟨_,rfl⟩;obtain⟨y',hy'⟩:∃ y',y/p=y' :=⟨_,rfl⟩;have HXA:Kept (x' =a/p ^ (j+1)):=⟨by rw[<- hx',hxa.out,FFld.cur_next]⟩;have HYB:Kept (y' =b/p ^ (j+1)):=⟨by rw[<- hy',hyb.out,FFld.cur_next]⟩;have hdec:y' <y:=by rw[<- hy'];exact Nat.div_lt_self hpos hp
    have hx'l:x' <=65536:=Nat.le_trans (by rw[<- hx'];exact Nat.div_le_self _ _) hx;have hy'l:y' <=65536:=Nat.le_trans (by rw[<- hy'];exact Nat.div_le_self _ _) hy;have hrp:r<p:=by rw[<- hr];exact Nat.mod_lt _ (by omega)
    have hsp:s<p:=by rw[<- hs];exact Nat.mod_lt _ (by omega)
    have hrs:(r+s)%p=z:=by rw[<- hzv,hr,hs]
    have er:(x:Int)%p=r:=by rw[<- hr];rfl
    have es:(y:Int)%p=s:=by rw[<- hs];rfl
    have e1:IntKind.i64.wrap ((r:Int)+s)=(r:Int)+s:=wi (by omega) (by omega);obtain⟨v,hv⟩:∃ v,z*u=v:=⟨_,rfl⟩;obtain⟨u',hu'⟩:∃ u',u*p=u' :=⟨_,rfl⟩;have hvl:v<=4294967296:=by rw[<- hv];exact nmul_le (A:=65536) (B:=65536) (by omega) (by omega)
    have hul' :u' <=65536:=by rw[<- hu'];exact hupl
    have E5:Kept (wrap64 ((n:Int)+wrap64 ((z:Int)*u))=((n+v:Nat):Int)):=⟨wmadd' hv (Nat.le_trans hnl (by decide)) (Nat.le_trans hvl (by decide))⟩;have e4:IntKind.i64.wrap ((u:Int)*p)=u' :=wimul hu' (by omega);rw[hv,hu'] at HNX;have ex:(x:Int)/p=x' :=by rw[<- hx'];rfl
    have ey:(y:Int)/p=y' :=by rw[<- hy'];rfl
    obtain⟨c0,c1,c2,_⟩:=three_cells hbx.out.b0
    have hzg:p<=r+s->((r:Int)+s)-p=z:=fun hge=>by
     rw[Nat.mod_eq_sub_mod hge,Nat.mod_eq_of_lt (by omega)] at hrs;omega
    have hzl: ¬ p<=r+s->((r:Int)+s)=z:=fun hge=>by
     rw[Nat.mod_eq_of_lt (by omega)] at hrs;omega
    have HZG:=Km hzg;have HZL:=Km hzl;clear hr hs hx' hy' hz hzv hupl hv hu' hrs hzg hzl;go_wp2
    go_quiet (fail)
    go_upto_if 30 with fail
    go_cut [9] (fun dv W=>dv= .int .i64 z/\wr.drewN nq=W)
    case first=>
     by_cases hge:p<=r+s
     ·have hzz:=Km (HZG.out hge);go_wp2_with fail
      go_meet
      exact⟨congrArg (Value.int .i64) hzz.out,rfl⟩
     ·have hzz:=Km (HZL.out hge);go_wp2_with fail
      go_meet
      exact⟨congrArg (Value.int .i64) hzz.out,rfl⟩
    case rest=>
     obtain⟨rfl,rfl⟩:=hcut;clear hvl hrp hsp er es e1 hul hnl hfj hx hy;go_wp2
     go_quiet (fail)
     go_wp2;go_roundw
     case rel=>exact⟨j+1,x',y',n+v,u',hx'l,hy'l,rfl,rfl,congrArg (Value.int .i64) E5.out,rfl,HXA,HYB,HNX,⟨hbx.out.below (by simp only[World.drewN_drewN];exact below_drewN (Below.refl _ _) _)⟩⟩
     case measure=>simp[intOf]<;>omega
   ·obtain rfl:y=0:=by omega
    have hN:=hat.out.top hp HA.out (fun i hi=>by
     rw[<- HF.out]
     show(FFld.dig p a i+FFld.dig p b i)%p=_
     rw[FFld.cur_zero hyb.out.symm hp hi,Nat.add_zero,FFld.dig_mod])
    rw[<- hxa.out] at hN;obtain⟨v,hv⟩:∃ v,x*u=v:=⟨_,rfl⟩;rw[hv] at hN;have hvl:v<=4294967296:=by rw[<- hv];exact nmul_le (A:=65536) (B:=65536) (by omega) (by omega)
    have e2:wrap64 ((x:Int)*u)=v:=wmul hv (by omega);have HN:=Km hN;clear hv hN;go_wp2
    go_ret
    exact⟨hbx.out.1,by rw[<- HN.out];simp[e2]⟩
end Go.Proofs.YtdnheaafcbihbaaGreat
