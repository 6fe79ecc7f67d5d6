/-
  Texts of the proof, merged by program: Rse Rsn Rmd Ta Nt Fv Ng El.
-/
import Derived.Test.YtdnheaafcbihbaaGreatDc5
import Derived.Deep.OwnRows
set_option linter.unusedSimpArgs false
set_option linter.unusedVariables false
set_option maxHeartbeats 16000000
namespace Go.Proofs.YtdnheaafcbihbaaGreat
section
open Go Go.RowKit
open FFld (ints)
structure RsOk (p k m l o:Nat):Prop where
 pk:FFld.PK p k m
 q:p ^ k<=65536
 m0:p ^ k<=m
 m1:m<2*p ^ k
 l:l=p ^ (k-1)
 o:o=FFld.pscl p k (p-1) (m-p ^ k)
set_option maxRecDepth 20000 in
theorem shifted_any (p k m l o a:Nat)(w:World)(h:RsOk p k m l o)(ha:a<p ^ k):
 Calls Tryz.prog 249 #[rsv p l o, .int .i64 a] w (RB w (.int .i64 (FFld.pshf p k m a:Nat))):=by
 have hp:=h.pk.p2;have hk:=h.pk.k1;have hl0:0<l:=by rw[h.l];exact Nat.pow_pos (by omega)
 have hll:l<=65536:=by rw[h.l];exact Nat.le_trans (Nat.pow_le_pow_right (by omega) (by omega)) h.q
 have hlp:l*p=p ^ k:=by rw[h.l,<- Nat.pow_succ];congr 1;omega
 have hp1:p<=65536:=Nat.le_trans (by have:=Nat.pow_le_pow_right (n:=p) (by omega) hk;rw[Nat.pow_one] at this;exact this) h.q;have hop:o<p ^ k:=by rw[h.o];exact FFld.pscl_lt h.pk _ _
 obtain⟨r,hr⟩:∃ r,a%l=r:=⟨_,rfl⟩;obtain⟨t,ht⟩:∃ t,a/l=t:=⟨_,rfl⟩;obtain⟨s,hs⟩:∃ s,r*p=s:=⟨_,rfl⟩;have hrl:r<l:=by rw[<- hr];exact Nat.mod_lt _ hl0
 have htp:t<p:=by rw[<- ht];exact Nat.div_lt_of_lt_mul (by rw[hlp];exact ha)
 have hsq:s<p ^ k:=by rw[<- hs,<- hlp];exact Nat.mul_lt_mul_of_pos_right hrl (by omega)
 have hres:FFld.pshf p k m a=FFld.padd p k s (FFld.pscl p k t o):=by rw[FFld.pshf_over h.pk a ha h.m0 h.m1,<- h.l,<- h.o,hr,ht,hs]
 rw[hres];have er:(a:Int)%l=r:=by rw[<- hr];rfl
 have et:(a:Int)/l=t:=by rw[<- ht];rfl
 have er' :(a:Int).tmod l=r:=by rw[Int.tmod_eq_emod_of_nonneg (by omega)];exact er
 have et' :(a:Int).tdiv l=t:=by rw[Int.tdiv_eq_ediv_of_nonneg (by omega)];exact et
 have es:IntKind.i64.wrap ((r:Int)*p)=s:=wimul hs (by have:=h.q;omega);have ewt:IntKind.i64.wrap (t:Int)=t:=wi (by omega) (by omega);have hln: ¬ l=0:=by omega
 have hM:=Km (fun W=>multiple_any p k m l o o t W h.pk hop htp h.q);have hS:=Km (fun W=>rsum_any p k m l o s (FFld.pscl p k t o) W h.pk hsq (FFld.pscl_lt h.pk _ _) h.q);have HX0:Kept (Bxs w [rsbox p l o] (w.alloc (rsbox p l o))):=⟨(Bxs.start w).alloc (by simp) _⟩;obtain⟨c0,c1,c2,_⟩:=three_cells HX0.out.b0;have ha1:a<=65536:=by have:=h.q;omega
 clear hr ht hs hrl htp hsq hres hop hlp h ha
 go_enter Tryz.func249,Tryz.ntmps249
 go_wp2
 go_region_held3 (fun w' =>w'.cell? ⟨w.heap.size,0,none⟩=some (.int .i64 p)/\w'.cell? ⟨w.heap.size,1,none⟩=some (.int .i64 l)/\w'.cell? ⟨w.heap.size,2,none⟩=some (.int .i64 o))
  (first|exact⟨c0,c1,c2⟩|exact⟨k0,k1,k2⟩|exact⟨l0,l1,l2⟩|go_keep)
  ((first
    |(go_at_call 247;(with_reducible refine(hM.out _).mono ?_);rintro e w2 ⟨hb2,rfl⟩;have hx2:Bxs w [rsbox p l o] w2:=Bxs.below (by repeat (first|(with_reducible exact HX0.out)|(with_reducible refine Bxs.drew ?_))) hb2;obtain⟨k0,k1,k2,_⟩:=three_cells hx2.b0;clear hb2)
    |(go_at_call 248;(with_reducible refine(hS.out _).mono ?_);rintro e w3 ⟨hb3,rfl⟩;have hx3:Bxs w [rsbox p l o] w3:=Bxs.below (by repeat (first|(with_reducible exact hx2)|(with_reducible refine Bxs.drew ?_))) hb3;obtain⟨l0,l1,l2,_⟩:=three_cells hx3.b0;clear hb3)))
 go_wp2
 go_ret
 exact⟨hx3.1,rfl⟩
set_option maxRecDepth 20000 in
theorem rproduct_any (p k m l o:Nat)(h:RsOk p k m l o):∀ (a b:Nat) (w:World),a<p ^ k->b<p ^ k->
 Calls Tryz.prog 208 #[rsv p l o, .int .i64 a, .int .i64 b] w (RB w (.int .i64 (FFld.pmul p k m a k b:Nat))):=by
 intro a b
 induction b using Nat.strongRecOn with
 | ind b ih=>
   intro w ha hb;have hp:=h.pk.p2;have HX0:Kept (Bxs w [rsbox p l o] (w.alloc (rsbox p l o))):=⟨(Bxs.start w).alloc (by simp) _⟩
   by_cases hb0:b=0
   ·subst hb0;have hz:=Km (FFld.pmul_zero_right h.pk a k);have e0:(((0:Nat):Int)==0)=true:=rfl;clear ih ha hb h
    go_enter Tryz.func208,Tryz.ntmps208
    go_wp2
    go_ret
    exact⟨HX0.out.1,by rw[hz.out];rfl⟩
   ·have e0:((b:Int)==0)=false:=by rw[beq_eq_false_iff_ne];omega
    have hp1:p<=65536:=Nat.le_trans (by have:=Nat.pow_le_pow_right (n:=p) (by omega) h.pk.k1;rw[Nat.pow_one] at this;exact this) h.q;obtain⟨r,hr⟩:∃ r,b%p=r:=⟨_,rfl⟩;obtain⟨t,ht⟩:∃ t,b/p=t:=⟨_,rfl⟩;have htb:t<b:=by rw[<- ht];exact Nat.div_lt_self (by omega) hp
    have hrp:r<p:=by rw[<- hr];exact Nat.mod_lt _ (by omega)
    have hres:FFld.pmul p k m a k b=FFld.padd p k (FFld.pscl p k r a) (FFld.pshf p k m (FFld.pmul p k m a k t)):=by rw[FFld.pmul_step h.pk a b hb,hr,ht]
    rw[hres];have er:(b:Int)%p=r:=by rw[<- hr];rfl
    have et:(b:Int)/p=t:=by rw[<- ht];rfl
    have er' :(b:Int).tmod p=r:=by rw[Int.tmod_eq_emod_of_nonneg (by omega)];exact er
    have et' :(b:Int).tdiv p=t:=by rw[Int.tdiv_eq_ediv_of_nonneg (by omega)];exact et
    have hb1:b<=65536:=by have:=h.q;omega
    have ewt:IntKind.i64.wrap (t:Int)=t:=wi (by omega) (by omega);have hpn: ¬ p=0:=by omega
    have hM:=Km (fun W=>multiple_any p k m l o a r W h.pk ha hrp h.q);have hP:=Km (fun W=>ih t htb W ha (by omega));have hH:=Km (fun W=>shifted_any p k m l o (FFld.pmul p k m a k t) W h (FFld.pmul_lt h.pk _ _ _));have hS:=Km (fun W=>rsum_any p k m l o (FFld.pscl p k r a) (FFld.pshf p k m (FFld.pmul p k m a k t)) W h.pk (FFld.pscl_lt h.pk _ _) (FFld.pshf_lt h.pk _) h.q);obtain⟨c0,c1,c2,_⟩:=three_cells HX0.out.b0;obtain⟨u,hu⟩:∃ u,FFld.pmul p k m a k t=u:=⟨_,rfl⟩;rw[hu] at hP hH hS ⊢;clear hr ht htb hrp hres h ha hb ih hu hb0
    go_enter Tryz.func208,Tryz.ntmps208
    go_wp2
    go_region_held3 (fun w' =>w'.cell? ⟨w.heap.size,0,none⟩=some (.int .i64 p)/\w'.cell? ⟨w.heap.size,1,none⟩=some (.int .i64 l)/\w'.cell? ⟨w.heap.size,2,none⟩=some (.int .i64 o))
     (first|exact⟨c0,c1,c2⟩|exact⟨k0,k1,k2⟩|exact⟨l0,l1,l2⟩|exact⟨n0,n1,n2⟩|exact⟨m0,m1,m2⟩|go_keep)
     ((first
       |(go_at_call 247;(with_reducible refine(hM.out _).mono ?_);rintro e w2 ⟨hb2,rfl⟩;have hx2:Bxs w [rsbox p l o] w2:=Bxs.below (by repeat (first|(with_reducible exact HX0.out)|(with_reducible assumption)|(with_reducible refine Bxs.drew ?_))) hb2;obtain⟨k0,k1,k2,_⟩:=three_cells hx2.b0;clear hb2)
       |(go_at_call 208;(with_reducible refine(hP.out _).mono ?_);rintro e w3 ⟨hb3,rfl⟩;have hx3:Bxs w [rsbox p l o] w3:=Bxs.below (by repeat (first|(with_reducible exact HX0.out)|(with_reducible assumption)|(with_reducible refine Bxs.drew ?_))) hb3;obtain⟨l0,l1,l2,_⟩:=three_cells hx3.b0;clear hb3)
       |(go_at_call 249;(with_reducible refine(hH.out _).mono ?_);rintro e w4 ⟨hb4,rfl⟩;have hx4:Bxs w [rsbox p l o] w4:=Bxs.below (by repeat (first|(with_reducible exact HX0.out)|(with_reducible assumption)|(with_reducible refine Bxs.drew ?_))) hb4;obtain⟨n0,n1,n2,_⟩:=three_cells hx4.b0;clear hb4)
       |(go_at_call 248;(with_reducible refine(hS.out _).mono ?_);rintro e w5 ⟨hb5,rfl⟩;have hx5:Bxs w [rsbox p l o] w5:=Bxs.below (by repeat (first|(with_reducible exact HX0.out)|(with_reducible assumption)|(with_reducible refine Bxs.drew ?_))) hb5;obtain⟨m0,m1,m2,_⟩:=three_cells hx5.b0;clear hb5)))
    all_goals
     go_wp2
     go_ret
     exact⟨hx5.1,rfl⟩
theorem three_set' {w:World}{g:Nat}{a b c:Value}{T:TypeId}(h:w.heap[g]? =some (.cells #[a,b,c] T (0,0)))(a' b' c' :Value):
 (((w.setCell ⟨g,0,none⟩ a').setCell ⟨g,1,none⟩ b').setCell ⟨g,2,none⟩ c').heap[g]? =some (.cells #[a',b',c'] T (0,0)):=by
 have h1:=heap_setCell_same w g 0 _ T a' h;have h2:=heap_setCell_same _ g 1 _ T b' h1;have h3:=heap_setCell_same _ g 2 _ T c' h2
 simpa using h3
theorem three_end {w W:World}{g:Nat}{a b c:Value}{T:TypeId}(h:W.heap[g]? =some (.cells #[a,b,c] T (0,0)))(hb:Below w.heap.size w W)(hg:w.heap.size<=g)(a' b' c' :Value):
 Below w.heap.size w (((W.setCell ⟨g,0,none⟩ a').setCell ⟨g,1,none⟩ b').setCell ⟨g,2,none⟩ c')/\
 (((W.setCell ⟨g,0,none⟩ a').setCell ⟨g,1,none⟩ b').setCell ⟨g,2,none⟩ c').cell? ⟨g,0,none⟩=some a' /\
 (((W.setCell ⟨g,0,none⟩ a').setCell ⟨g,1,none⟩ b').setCell ⟨g,2,none⟩ c').cell? ⟨g,1,none⟩=some b' /\
 (((W.setCell ⟨g,0,none⟩ a').setCell ⟨g,1,none⟩ b').setCell ⟨g,2,none⟩ c').cell? ⟨g,2,none⟩=some c' :=by
 obtain⟨c0,c1,c2,_⟩:=three_cells (three_set' h a' b' c');exact⟨((hb.setCell (p:=⟨g,0,none⟩) hg _).setCell (p:=⟨g,1,none⟩) hg _).setCell (p:=⟨g,2,none⟩) hg _,c0,c1,c2⟩
set_option maxRecDepth 20000 in
theorem newResidues_any (p k m q:Nat)(w:World)(hpk:FFld.PK p k m)(hq0:q=p ^ k)(hq:p ^ k<=65536)(m0:p ^ k<=m)(m1:m<2*p ^ k):
 Calls Tryz.prog 207 #[.int .i64 p, .int .i64 q, .int .i64 m] w (fun e w' =>Below w.heap.size w w' /\ ∃ l o,e= .returned (rsv p l o)/\RsOk p k m l o):=by
 have hp:=hpk.p2;have hk:=hpk.k1;obtain⟨l,hl⟩:∃ l,q/p=l:=⟨_,rfl⟩;obtain⟨d,hd⟩:∃ d,m-q=d:=⟨_,rfl⟩;obtain⟨c,hc⟩:∃ c,p-1=c:=⟨_,rfl⟩;obtain⟨o,ho⟩:∃ o,FFld.pscl p k c d=o:=⟨_,rfl⟩;have HR:Kept (RsOk p k m l o):=⟨⟨hpk,hq,m0,m1,by rw[<- hl,hq0];exact FFld.last_eq hp hk,by rw[<- ho,<- hd,<- hc,hq0]⟩⟩;have el:(q:Int)/p=l:=by rw[<- hl];rfl
 have hll:l<=65536:=by rw[<- hl];exact Nat.le_trans (Nat.div_le_self _ _) (by omega)
 have ed:(m:Int)-q=d:=by omega
 have ec:(p:Int)-1=c:=by omega
 have hp1:p<=65536:=Nat.le_trans (by have:=Nat.pow_le_pow_right (n:=p) (by omega) hk;rw[Nat.pow_one] at this;exact this) hq;have hM:=Km (fun W=>multiple_any p k m l 0 d c W hpk (by omega) (by omega) hq);rw[ho] at hM;have hql:q<=65536:=by omega
 have hml:m<=131072:=by omega
 clear hl hd hc ho hq hq0 m0 m1;have HX0:Kept (Bxs w [rsbox 0 0 0,rsbox p l 0] ((w.alloc (rsbox 0 0 0)).alloc (rsbox p l 0))):=⟨((Bxs.start w).alloc (by simp) _).alloc (by simp) _⟩;obtain⟨a0,a1,a2,_⟩:=three_cells HX0.out.b0;obtain⟨b0,b1,b2,_,_,b5⟩:=three_cells HX0.out.b1
 go_enter Tryz.func207,Tryz.ntmps207
 go_wp2_with fail;refine(hM.out _).mono ?_;rintro e w2 ⟨hb2,rfl⟩;have HX2:=Km (HX0.out.below hb2);obtain⟨c0,c1,c2,f0,f1,f2⟩:=three_cells HX2.out.b0;obtain⟨d0,d1,d2,_,_,d5⟩:=three_cells HX2.out.b1
 have hne:(w2.setCell ⟨w.heap.size+1,2,none⟩ (.int .i64 o)).heap[w.heap.size]? =some (.cells #[.int .i64 ((0:Nat):Int), .int .i64 ((0:Nat):Int), .int .i64 ((0:Nat):Int)] 217 (0,0)):=
  (heap_setCell_other _ _ _ _ (by simp)).trans HX2.out.b0
 have hbW:Below w.heap.size w (w2.setCell ⟨w.heap.size+1,2,none⟩ (.int .i64 o)):=HX2.out.1.setCell (p:=⟨w.heap.size+1,2,none⟩) (by simp) _;obtain⟨hb,e0,e1,e2⟩:=three_end hne hbW (Nat.le_refl _) (.int .i64 p) (.int .i64 l) (.int .i64 o);have HB:=Km hb;clear hb2 a0 a1 a2 b0 b1 b2 b5 hb hne hbW;go_wp2;exact bodyPost_ret (v:=rsv p l o) (by simp[results,Tryz.results207,go_sem,e0,e1,e2]) rfl ⟨HB.out,_,_,rfl,HR.out⟩
abbrev rmv (p g:Nat):Value:= .agg #[.int .i64 p, .int .i64 g]
abbrev rmbox (p g:Nat):Obj:= .cells #[.int .i64 p, .int .i64 g] 215
set_option maxRecDepth 20000 in
theorem fproduct_any (p g a b:Nat)(w:World)(hpk:FFld.PK p 1 p)(hp1:p<=65536)(ha:a<p ^ 1)(hb:b<p ^ 1):
 Calls Tryz.prog 205 #[rmv p g, .int .i64 a, .int .i64 b] w (RB w (.int .i64 (FFld.pmul p 1 p a 1 b:Nat))):=by
 rw[Nat.pow_one] at ha hb;have hp:=hpk.p2;obtain⟨v,hv⟩:∃ v,a*b=v:=⟨_,rfl⟩;obtain⟨z,hz⟩:∃ z,v%p=z:=⟨_,rfl⟩;have hres:FFld.pmul p 1 p a 1 b=z:=by rw[FFld.pmul_k1 hpk a b ha hb,hv,hz]
 rw[hres];have hvl:v<=4294967296:=by rw[<- hv];exact nmul_le (A:=65536) (B:=65536) (by omega) (by omega)
 have e1:wrap64 ((a:Int)*b)=v:=wmul hv (by omega);have ez:(v:Int)%p=z:=by rw[<- hz];rfl
 have HX0:Kept (Bxs w [rmbox p g] (w.alloc (rmbox p g))):=⟨(Bxs.start w).alloc (by simp) _⟩;obtain⟨c0,c1,_,_⟩:=two_cells HX0.out.b0;clear hv hz hres
 go_enter Tryz.func205,Tryz.ntmps205
 go_wp2
 go_ret
 exact⟨HX0.out.1,by simp[e1,ez]⟩
set_option maxRecDepth 20000 in
theorem fsum_any (p g a b:Nat)(w:World)(hpk:FFld.PK p 1 p)(hp1:p<=65536)(ha:a<p ^ 1)(hb:b<p ^ 1):
 Calls Tryz.prog 280 #[rmv p g, .int .i64 a, .int .i64 b] w (RB w (.int .i64 (FFld.padd p 1 a b:Nat))):=by
 rw[Nat.pow_one] at ha hb;have hp:=hpk.p2;obtain⟨z,hz⟩:∃ z,(a+b)%p=z:=⟨_,rfl⟩;have hres:FFld.padd p 1 a b=z:=by rw[FFld.padd_k1 hpk a b ha hb,hz]
 rw[hres];have ez:((a:Int)+b)%p=z:=by rw[<- hz];rfl
 have HX0:Kept (Bxs w [rmbox p g] (w.alloc (rmbox p g))):=⟨(Bxs.start w).alloc (by simp) _⟩;obtain⟨c0,c1,_,_⟩:=two_cells HX0.out.b0;clear hz hres
 go_enter Tryz.func280,Tryz.ntmps280
 go_wp2
 go_ret
 exact⟨HX0.out.1,by simp[ez]⟩
set_option maxRecDepth 20000 in
theorem fpower_any (p g a n:Nat)(w:World)(hpk:FFld.PK p 1 p)(hp1:p<=65536)(ha:a<p ^ 1)(hn:n<=70000):
 Calls Tryz.prog 279 #[rmv p g, .int .i64 a, .int .i64 n] w (RB w (.int .i64 (FFld.ppow hpk a n:Nat))):=by
 have HX0:Kept (Bxs w [rmbox p g] (w.alloc (rmbox p g))):=⟨(Bxs.start w).alloc (by simp) _⟩;have hP:=Km (fun W=>power_rem p 1 p hpk (rmv p g) a n W ha hn (fun W x y hx hy=>fproduct_any p g x y W hpk hp1 hx hy));obtain⟨c0,c1,_,_⟩:=two_cells HX0.out.b0;clear ha hn
 go_enter Tryz.func279,Tryz.ntmps279
 go_wp2_with fail;refine(hP.out _).mono ?_;rintro e w2 ⟨hb2,rfl⟩;have HX2:=Km (HX0.out.below hb2);clear hb2;go_wp2
 go_ret
 exact⟨HX2.out.1,rfl⟩
def Cu (B:Nat)(ao:Option Addr)(l:List Nat)(w:World):Prop:= ∀ w',Below B w w' -> ∀ i,i<l.length-> ∃ b o,ao=some ⟨b,o,none⟩/\w'.cell? ⟨b,o+i,none⟩=some (.int .u16 ((l[i]?.getD 0:Nat):Int))
abbrev tbv (p:Nat)(pa:Option Addr)(q1 pc:Nat)(la:Option Addr)(q lc:Nat):Value:= .agg #[.int .i64 p, .slice pa q1 pc, .slice la q lc]
abbrev tbbox (p:Nat)(pa:Option Addr)(q1 pc:Nat)(la:Option Addr)(q lc:Nat):Obj:= .cells #[.int .i64 p, .slice pa q1 pc, .slice la q lc] 221
structure TbW (D:FFld.FD)(h:D.Ok)(B:Nat)(pa:Option Addr)(q1:Nat)(la:Option Addr)(q:Nat)(P L:List Nat)(w:World):Prop where
 cp:Cu B pa P w
 cl:Cu B la L w
 ok:FFld.TabOk D h P L
 q1:D.p ^ D.k-1=q1
 q:D.p ^ D.k=q
set_option maxRecDepth 20000 in
theorem generated_any {D:FFld.FD}{h:D.Ok}{pa la:Option Addr}{q1 q:Nat}{P L:List Nat}(pc lc n:Nat)(w:World)(ht:TbW D h w.heap.size pa q1 la q P L w)(hn:n<=1099511627776):
 Calls Tryz.prog 281 #[tbv D.p pa q1 pc la q lc, .int .i64 n] w (RB w (.int .i64 (FFld.ppow h.pre.pk D.g n:Nat))):=by
 have h1:=h.pre.pk.one_lt;have hq1:=ht.q1;have hq6:q1<=65535:=by have:=h.pre.small;unfold FFld.FD.q at this;omega
 have hq0:0<q1:=by omega
 obtain⟨r,hr⟩:∃ r,n%q1=r:=⟨_,rfl⟩;have hrl:r<q1:=by rw[<- hr];exact Nat.mod_lt _ hq0
 have hpl:P.length=q1:=by rw[ht.ok.pl,hq1]
 obtain⟨v,hv⟩:∃ v,P[r]?.getD 0=v:=⟨_,rfl⟩;have hres:FFld.ppow h.pre.pk D.g n=v:=by rw[<- hv,ht.ok.pw r (by omega),<- hr,<- hq1,h.pow_mod]
 have hv6:v<=65535:=by
  have:=FFld.ppow_lt h.pre.pk D.g n;have h3:=h.pre.small;unfold FFld.FD.q at h3;omega
 rw[hres];have HX0:Kept (Bxs w [tbbox D.p pa q1 pc la q lc] (w.alloc (tbbox D.p pa q1 pc la q lc))):=⟨(Bxs.start w).alloc (by simp) _⟩;obtain⟨c0,c1,c2,_⟩:=three_cells HX0.out.b0;obtain⟨b,o,rfl,hcell⟩:=ht.cp _ HX0.out.1 r (by omega);rw[hv] at hcell;have er:(n:Int)%q1=r:=by rw[<- hr];rfl
 clear hr hpl hv hres h1 hq1 ht h
 go_enter Tryz.func281,Tryz.ntmps281
 go_wp2
 go_quiet (fail)
 go_wp2
 go_ret
 refine⟨below_drewN HX0.out.1 _,?_⟩;simp
theorem TbW.below {D:FFld.FD}{h:D.Ok}{pa la:Option Addr}{q1 q:Nat}{P L:List Nat}{w w' :World}(ht:TbW D h w.heap.size pa q1 la q P L w)(hb:Below w.heap.size w w'):TbW D h w'.heap.size pa q1 la q P L w' :=
 ⟨fun W hW i hi=>ht.cp W (hb.trans (hW.mono hb.size)) i hi,fun W hW i hi=>ht.cl W (hb.trans (hW.mono hb.size)) i hi,ht.ok,ht.q1,ht.q⟩
set_option maxRecDepth 20000 in
theorem tproduct_any {D:FFld.FD}{h:D.Ok}{pa la:Option Addr}{q1 q:Nat}{P L:List Nat}(pc lc a b_:Nat)(w:World)(ht:TbW D h w.heap.size pa q1 la q P L w)(ha:a<D.p ^ D.k)(hb:b_<D.p ^ D.k):
 Calls Tryz.prog 284 #[tbv D.p pa q1 pc la q lc, .int .i64 a, .int .i64 b_] w (RB w (.int .i64 (FFld.pmul D.p D.k D.m a D.k b_:Nat))):=by
 have h1:=h.pre.pk.one_lt;have hq1:=ht.q1;have hqq:=ht.q;have hq6:q<=65536:=by have:=h.pre.small;unfold FFld.FD.q at this;omega
 have hq2:2<=q:=by omega
 have hll:L.length=q:=by rw[ht.ok.ll,hqq]
 have HX0:Kept (Bxs w [tbbox D.p pa q1 pc la q lc] (w.alloc (tbbox D.p pa q1 pc la q lc))):=⟨(Bxs.start w).alloc (by simp) _⟩;obtain⟨c0,c1,c2,_⟩:=three_cells HX0.out.b0
 by_cases a0:a=0
 ·subst a0;have hz:=Km (show FFld.pmul D.p D.k D.m 0 D.k b_=0 from by rw[FFld.pmul_comm h.pre.pk 0 b_ ha hb,FFld.pmul_zero_right h.pre.pk]);have e0:(((0:Nat):Int)==0)=true:=rfl;clear ht ha hb hll h1 hq1 hqq
  go_enter Tryz.func284,Tryz.ntmps284
  go_wp2
  go_ret
  exact⟨HX0.out.1,by rw[hz.out];rfl⟩
 by_cases b0:b_=0
 ·subst b0;have hz:=Km (FFld.pmul_zero_right h.pre.pk (m:=D.m) a D.k);have e0:(((0:Nat):Int)==0)=true:=rfl;have e1:((a:Int)==0)=false:=by rw[beq_eq_false_iff_ne];omega
  clear ht ha hb hll h1 hq1 hqq a0
  go_enter Tryz.func284,Tryz.ntmps284
  go_wp2
  go_ret
  exact⟨HX0.out.1,by rw[hz.out];rfl⟩
 have e1:((a:Int)==0)=false:=by rw[beq_eq_false_iff_ne];omega
 have e2:((b_:Int)==0)=false:=by rw[beq_eq_false_iff_ne];omega
 obtain⟨x,hx⟩:∃ l,L[a]?.getD 0=l:=⟨_,rfl⟩;obtain⟨y,hy⟩:∃ l,L[b_]?.getD 0=l:=⟨_,rfl⟩;have hx6:x<=65535:=by have:=(ht.ok.lg a ha a0).1;omega
 have hy6:y<=65535:=by have:=(ht.ok.lg b_ hb b0).1;omega
 obtain⟨n,hn⟩:∃ n,x+y=n:=⟨_,rfl⟩;have ewx:IntKind.i64.wrap (x:Int)=x:=wi (by omega) (by omega);have ewy:IntKind.i64.wrap (y:Int)=y:=wi (by omega) (by omega);have exy:IntKind.i64.wrap ((x:Int)+y)=n:=by rw[<- hn];simp;exact wi (by omega) (by omega)
 have hres:FFld.pmul D.p D.k D.m a D.k b_=FFld.ppow h.pre.pk D.g n:=by rw[<- ht.ok.product a b_ ha hb a0 b0,hx,hy,hn]
 rw[hres];have hG:=Km (fun W (hW:Below w.heap.size w W)=>generated_any pc lc n W (ht.below hW) (by omega));obtain⟨b,o,rfl,hcella⟩:=ht.cl _ HX0.out.1 a (by omega);obtain⟨b',o',e',hcellb⟩:=ht.cl _ HX0.out.1 b_ (by omega);simp only[Option.some.injEq,Addr.mk.injEq,and_true] at e';obtain⟨rfl,rfl⟩:=e';rw[hx] at hcella;rw[hy] at hcellb
 have HCA:=Km (fun W (hW:Below w.heap.size w W)=>show W.cell? ⟨b,o+a,none⟩=some (.int .u16 x) from by
  obtain⟨b',o',e',hc⟩:=ht.cl W hW a (by omega);simp only[Option.some.injEq,Addr.mk.injEq,and_true] at e';obtain⟨rfl,rfl⟩:=e';rw[hx] at hc
  exact hc)
 have HCB:=Km (fun W (hW:Below w.heap.size w W)=>show W.cell? ⟨b,o+b_,none⟩=some (.int .u16 y) from by
  obtain⟨b',o',e',hc⟩:=ht.cl W hW b_ (by omega);simp only[Option.some.injEq,Addr.mk.injEq,and_true] at e';obtain⟨rfl,rfl⟩:=e';rw[hy] at hc
  exact hc)
 have haq:a<q:=by omega
 have hbq:b_<q:=by omega
 clear hx hy hn hres ht ha hb hll h1 hq1 hqq a0 b0
 go_enter Tryz.func284,Tryz.ntmps284
 go_wp2
 go_region_held3 (fun w' =>w'.cell? ⟨w.heap.size,0,none⟩=some (.int .i64 D.p)/\w'.cell? ⟨w.heap.size,1,none⟩=some (.slice pa q1 pc)/\w'.cell? ⟨w.heap.size,2,none⟩=some (.slice (some ⟨b,o,none⟩) q lc)/\w'.cell? ⟨b,o+a,none⟩=some (.int .u16 x)/\w'.cell? ⟨b,o+b_,none⟩=some (.int .u16 y))
  (first|exact⟨c0,c1,c2,hcella,hcellb⟩|exact⟨k0,k1,k2,g0,g1⟩|go_keep)
  ((first
    |(go_at_call 281;(with_reducible refine(hG.out _ ?_).mono ?_);(exact(by first|exact HX0.out.1|exact HX0.out.1.drew));rintro e w2 ⟨hb2,rfl⟩;have hx2:Bxs w [tbbox D.p pa q1 pc (some ⟨b,o,none⟩) q lc] w2:=Bxs.below (by repeat (first|(with_reducible exact HX0.out)|(with_reducible refine Bxs.drew ?_))) hb2;obtain⟨k0,k1,k2,_⟩:=three_cells hx2.b0;have g0:=HCA.out _ hx2.1;have g1:=HCB.out _ hx2.1;clear hb2)))
 go_wp2
 go_ret
 exact⟨hx2.1,rfl⟩
set_option maxRecDepth 20000 in
theorem tpower_any {D:FFld.FD}{h:D.Ok}{pa la:Option Addr}{q1 q:Nat}{P L:List Nat}(pc lc a e_:Nat)(w:World)(ht:TbW D h w.heap.size pa q1 la q P L w)(ha:a<D.p ^ D.k)(hne:a≠0\/0<e_)(hel:e_<=70000):
 Calls Tryz.prog 283 #[tbv D.p pa q1 pc la q lc, .int .i64 a, .int .i64 e_] w (RB w (.int .i64 (FFld.ppow h.pre.pk a e_:Nat))):=by
 have h1:=h.pre.pk.one_lt;have hq1:=ht.q1;have hqq:=ht.q;have hq6:q<=65536:=by have:=h.pre.small;unfold FFld.FD.q at this;omega
 have hq2:2<=q:=by omega
 have hll:L.length=q:=by rw[ht.ok.ll,hqq]
 have HX0:Kept (Bxs w [tbbox D.p pa q1 pc la q lc] (w.alloc (tbbox D.p pa q1 pc la q lc))):=⟨(Bxs.start w).alloc (by simp) _⟩;obtain⟨c0,c1,c2,_⟩:=three_cells HX0.out.b0
 by_cases a0:a=0
 ·subst a0
  have hz:Kept (FFld.ppow h.pre.pk 0 e_=0):=⟨by
   obtain⟨n,rfl⟩:∃ n,e_=n+1:=⟨e_-1,by omega⟩
   rw[FFld.ppow_succ h.pre.pk 0 n ha,FFld.pmul_zero_right h.pre.pk]⟩
  have e0:(((0:Nat):Int)==0)=true:=rfl;clear ht ha hll h1 hq1 hqq
  go_enter Tryz.func283,Tryz.ntmps283
  go_wp2
  go_ret
  exact⟨HX0.out.1,by rw[hz.out];rfl⟩
 have e1:((a:Int)==0)=false:=by rw[beq_eq_false_iff_ne];omega
 obtain⟨x,hx⟩:∃ l,L[a]?.getD 0=l:=⟨_,rfl⟩;have hx6:x<=65535:=by have:=(ht.ok.lg a ha a0).1;omega
 obtain⟨n,hn⟩:∃ n,x*e_=n:=⟨_,rfl⟩;have hnl:n<=4587520000:=by rw[<- hn];exact nmul_le (A:=65536) (B:=70000) (by omega) hel
 have ewx:IntKind.i64.wrap (x:Int)=x:=wi (by omega) (by omega);have exy:IntKind.i64.wrap ((x:Int)*e_)=n:=wimul hn (by omega);have hres:FFld.ppow h.pre.pk a e_=FFld.ppow h.pre.pk D.g n:=by rw[<- ht.ok.power a e_ ha a0,hx,hn]
 rw[hres];have hG:=Km (fun W (hW:Below w.heap.size w W)=>generated_any pc lc n W (ht.below hW) (by omega));obtain⟨b,o,rfl,hcella⟩:=ht.cl _ HX0.out.1 a (by omega);rw[hx] at hcella
 have HCA:=Km (fun W (hW:Below w.heap.size w W)=>show W.cell? ⟨b,o+a,none⟩=some (.int .u16 x) from by
  obtain⟨b',o',e',hc⟩:=ht.cl W hW a (by omega);simp only[Option.some.injEq,Addr.mk.injEq,and_true] at e';obtain⟨rfl,rfl⟩:=e';rw[hx] at hc
  exact hc)
 have haq:a<q:=by omega
 clear hx hn hres ht ha hll h1 hq1 hqq a0 hne
 go_enter Tryz.func283,Tryz.ntmps283
 go_wp2
 go_region_held3 (fun w' =>w'.cell? ⟨w.heap.size,0,none⟩=some (.int .i64 D.p)/\w'.cell? ⟨w.heap.size,1,none⟩=some (.slice pa q1 pc)/\w'.cell? ⟨w.heap.size,2,none⟩=some (.slice (some ⟨b,o,none⟩) q lc)/\w'.cell? ⟨b,o+a,none⟩=some (.int .u16 x))
  (first|exact⟨c0,c1,c2,hcella⟩|exact⟨k0,k1,k2,g0⟩|go_keep)
  ((first
    |(go_at_call 281;(with_reducible refine(hG.out _ ?_).mono ?_);(exact(by first|exact HX0.out.1|exact HX0.out.1.drew));rintro e w2 ⟨hb2,rfl⟩;have hx2:Bxs w [tbbox D.p pa q1 pc (some ⟨b,o,none⟩) q lc] w2:=Bxs.below (by repeat (first|(with_reducible exact HX0.out)|(with_reducible refine Bxs.drew ?_))) hb2;obtain⟨k0,k1,k2,_⟩:=three_cells hx2.b0;have g0:=HCA.out _ hx2.1;clear hb2)))
 go_wp2
 go_ret
 exact⟨hx2.1,rfl⟩
set_option maxRecDepth 20000 in
theorem tsum_any {D:FFld.FD}{h:D.Ok}{pa la:Option Addr}{q1 q:Nat}{P L:List Nat}(pc lc a b_:Nat)(w:World)(ht:TbW D h w.heap.size pa q1 la q P L w)(ha:a<D.p ^ D.k)(hb:b_<D.p ^ D.k):
 Calls Tryz.prog 285 #[tbv D.p pa q1 pc la q lc, .int .i64 a, .int .i64 b_] w (RB w (.int .i64 (FFld.padd D.p D.k a b_:Nat))):=by
 have h1:=h.pre.pk.one_lt;have hq1:=ht.q1;have hqq:=ht.q;have hq6:q<=65536:=by have:=h.pre.small;unfold FFld.FD.q at this;omega
 have hq2:2<=q:=by omega
 have hll:L.length=q:=by rw[ht.ok.ll,hqq]
 have haq:a<q:=by omega
 have hbq:b_<q:=by omega
 have hp2:=h.pre.prime.1
 have hpq:D.p<=q:=by
  rw[<- hqq];have:=Nat.pow_le_pow_right (n:=D.p) (by omega) h.pre.k1;rw[Nat.pow_one] at this;exact this
 obtain⟨V,hV⟩:∃ V,FFld.padd D.p D.k a b_=V:=⟨_,rfl⟩;rw[hV];have hTP:=Km (fun W (hW:Below w.heap.size w W) (y:Nat) (hy:y<D.p ^ D.k)=>tproduct_any pc lc a y W (ht.below hW) ha hy);have hTG:=Km (fun W (hW:Below w.heap.size w W) (n:Nat) (hn:n<=1099511627776)=>generated_any pc lc n W (ht.below hW) hn);have HX0:Kept (Bxs w [tbbox D.p pa q1 pc la q lc] (w.alloc (tbbox D.p pa q1 pc la q lc))):=⟨(Bxs.start w).alloc (by simp) _⟩;obtain⟨c0,c1,c2,_⟩:=three_cells HX0.out.b0
 by_cases hp:D.p=2
 ·have hx:V=a ^^^ b_:=by
   rw[<- hV,hp];exact FFld.padd_xor (m:=D.m) ⟨by omega,h.pre.k1⟩ a b_ (by rw[<- hp];exact ha) (by rw[<- hp];exact hb)
  have HXR:=Km hx;have e0:((D.p:Int)==2)=true:=by rw[hp];rfl
  clear ha hb hx hV hTP hTG ht h1 hq1 hqq hll hp2
  go_enter Tryz.func285,Tryz.ntmps285
  go_wp2
  go_ret
  refine⟨(Below.refl _ _).alloc (Nat.le_refl _) _,?_⟩;rw[HXR.out];simp;exact xor_i64 a b_ (by omega) (by omega)
 have ep:((D.p:Int)==2)=false:=by rw[beq_eq_false_iff_ne];omega
 by_cases a0:a=0
 ·subst a0;have hz:=Km (show V=b_ from by rw[<- hV,FFld.padd_comm',FFld.padd_zero h.pre.pk _ hb]);have e0:(((0:Nat):Int)==0)=true:=rfl;clear ha hb hV hTP hTG ht h1 hq1 hqq hll hp2 hp
  go_enter Tryz.func285,Tryz.ntmps285
  go_wp2
  go_ret
  exact⟨HX0.out.1,by rw[hz.out];rfl⟩
 have e1:((a:Int)==0)=false:=by rw[beq_eq_false_iff_ne];omega
 by_cases b0:b_=0
 ·subst b0;have hz:=Km (show V=a from by rw[<- hV,FFld.padd_zero h.pre.pk _ ha]);have e0:(((0:Nat):Int)==0)=true:=rfl;clear ha hb hV hTP hTG ht h1 hq1 hqq hll hp2 a0 hp
  go_enter Tryz.func285,Tryz.ntmps285
  go_wp2
  go_ret
  exact⟨HX0.out.1,by rw[hz.out];rfl⟩
 have e2:((b_:Int)==0)=false:=by rw[beq_eq_false_iff_ne];omega
 obtain⟨r,hr1,hr2,hr3,hr4⟩:=ht.ok.sum a b_ ha hb a0 b0;have hx6:=(ht.ok.lg a ha a0).1;have hy6:=(ht.ok.lg b_ hb b0).1;obtain⟨x,hx⟩:∃ l,L[a]?.getD 0=l:=⟨_,rfl⟩;obtain⟨y,hy⟩:∃ l,L[b_]?.getD 0=l:=⟨_,rfl⟩;rw[hx] at hx6 hr1;rw[hy,hq1] at hr1;rw[hq1] at hx6 hy6;rw[hy] at hy6;obtain⟨n,hn⟩:∃ n,y+q1-x=n:=⟨_,rfl⟩;rw[hn] at hr1;have ewx:IntKind.i64.wrap (x:Int)=x:=wi (by omega) (by omega);have ewy:IntKind.i64.wrap (y:Int)=y:=wi (by omega) (by omega);have eyx:IntKind.i64.wrap ((y:Int)-x)=(y:Int)-x:=by rw[IntKind.wrap_i64];omega
 have eyq:IntKind.i64.wrap ((y:Int)-x+q1)=n:=by rw[show(y:Int)-x+q1=n from by omega];exact wi (by omega) (by omega)
 have hG:=Km (fun W (hW:Below w.heap.size w W)=>hTG.out W hW n (by omega));rw[hr1] at hG;have hrq:r<q:=by omega
 obtain⟨s,hs⟩:∃ s,r%D.p=s:=⟨_,rfl⟩;have er:(r:Int)%D.p=s:=by rw[<- hs];rfl
 have hpo:=FFld.padd_one h.pre.pk r hr2;rw[hs] at hpo;rw[hV] at hr4;obtain⟨b,o,rfl,hcella⟩:=ht.cl _ HX0.out.1 a (by omega);obtain⟨b',o',e',hcellb⟩:=ht.cl _ HX0.out.1 b_ (by omega);simp only[Option.some.injEq,Addr.mk.injEq,and_true] at e';obtain⟨rfl,rfl⟩:=e';rw[hx] at hcella;rw[hy] at hcellb
 have HCA:=Km (fun W (hW:Below w.heap.size w W)=>show W.cell? ⟨b,o+a,none⟩=some (.int .u16 x) from by
  obtain⟨b',o',e',hc⟩:=ht.cl W hW a (by omega);simp only[Option.some.injEq,Addr.mk.injEq,and_true] at e';obtain⟨rfl,rfl⟩:=e';rw[hx] at hc
  exact hc)
 have HCB:=Km (fun W (hW:Below w.heap.size w W)=>show W.cell? ⟨b,o+b_,none⟩=some (.int .u16 y) from by
  obtain⟨b',o',e',hc⟩:=ht.cl W hW b_ (by omega);simp only[Option.some.injEq,Addr.mk.injEq,and_true] at e';obtain⟨rfl,rfl⟩:=e';rw[hy] at hc
  exact hc)
 have hsp:s<D.p:=by rw[<- hs];exact Nat.mod_lt _ (by omega)
 have hrs:s<=r:=by rw[<- hs];exact Nat.mod_le _ _
 obtain⟨u,hu⟩:∃ u,FFld.padd D.p D.k r 1=u:=⟨_,rfl⟩;have huq:u<D.p ^ D.k:=by rw[<- hu];exact FFld.padd_lt h.pre.pk _ _
 rw[hu] at hr4 hpo;have hP:=Km (fun W (hW:Below w.heap.size w W)=>hTP.out W hW u huq);have hul:u<q:=by omega
 have ep1:IntKind.i64.wrap ((D.p:Int)-1)=(D.p:Int)-1:=by rw[IntKind.wrap_i64];omega
 have ews:IntKind.i64.wrap (s:Int)=s:=wi (by omega) (by omega);rw[hr4] at hP
 by_cases hsl:s=D.p-1
 ·rw [if_pos hsl] at hpo;have eu:(r:Int)-D.p+1=u:=by omega
  have es:((s:Int)==(D.p:Int)-1)=true:=by rw[beq_iff_eq];omega
  clear hx hy hn ht ha hb hll h1 hq1 hqq a0 b0 hTP hTG hV hr1 hr2 hr3 hr4 hs hpo hu huq hp2 hp hsl
  go_enter Tryz.func285,Tryz.ntmps285
  go_wp2
  go_region_held3 (fun w' =>w'.cell? ⟨w.heap.size,0,none⟩=some (.int .i64 D.p)/\w'.cell? ⟨w.heap.size,1,none⟩=some (.slice pa q1 pc)/\w'.cell? ⟨w.heap.size,2,none⟩=some (.slice (some ⟨b,o,none⟩) q lc)/\w'.cell? ⟨b,o+a,none⟩=some (.int .u16 x)/\w'.cell? ⟨b,o+b_,none⟩=some (.int .u16 y))
   (first|exact⟨c0,c1,c2,hcella,hcellb⟩|exact⟨k0,k1,k2,g0,g1⟩|go_keep)
   ((first
     |(go_at_call 281;(with_reducible refine(hG.out _ ?_).mono ?_);(exact(by first|exact HX0.out.1|exact HX0.out.1.drew));rintro e w2 ⟨hb2,rfl⟩;have hx2:Bxs w [tbbox D.p pa q1 pc (some ⟨b,o,none⟩) q lc] w2:=Bxs.below (by repeat (first|(with_reducible exact HX0.out)|(with_reducible refine Bxs.drew ?_))) hb2;obtain⟨k0,k1,k2,_⟩:=three_cells hx2.b0;have g0:=HCA.out _ hx2.1;have g1:=HCB.out _ hx2.1;clear hb2)))
  have HX2:=Km hx2;go_wp2
  go_quiet (fail)
  go_wp2_with fail;refine(hP.out _ (below_drewN HX2.out.1 _)).mono ?_;rintro e w3 ⟨hb3,rfl⟩;have HX3:Kept (Bxs w [tbbox D.p pa q1 pc (some ⟨b,o,none⟩) q lc] w3):=⟨(HX2.out.below (below_drewN (Below.refl _ _) _)).below hb3⟩;clear hb3;go_wp2
  go_ret
  exact⟨HX3.out.1,rfl⟩
 ·rw [if_neg hsl] at hpo;have eu:(r:Int)+1=u:=by omega
  have es:((s:Int)==(D.p:Int)-1)=false:=by rw[beq_eq_false_iff_ne];omega
  clear hx hy hn ht ha hb hll h1 hq1 hqq a0 b0 hTP hTG hV hr1 hr2 hr3 hr4 hs hpo hu huq hp2 hp hsl
  go_enter Tryz.func285,Tryz.ntmps285
  go_wp2
  go_region_held3 (fun w' =>w'.cell? ⟨w.heap.size,0,none⟩=some (.int .i64 D.p)/\w'.cell? ⟨w.heap.size,1,none⟩=some (.slice pa q1 pc)/\w'.cell? ⟨w.heap.size,2,none⟩=some (.slice (some ⟨b,o,none⟩) q lc)/\w'.cell? ⟨b,o+a,none⟩=some (.int .u16 x)/\w'.cell? ⟨b,o+b_,none⟩=some (.int .u16 y))
   (first|exact⟨c0,c1,c2,hcella,hcellb⟩|exact⟨k0,k1,k2,g0,g1⟩|go_keep)
   ((first
     |(go_at_call 281;(with_reducible refine(hG.out _ ?_).mono ?_);(exact(by first|exact HX0.out.1|exact HX0.out.1.drew));rintro e w2 ⟨hb2,rfl⟩;have hx2:Bxs w [tbbox D.p pa q1 pc (some ⟨b,o,none⟩) q lc] w2:=Bxs.below (by repeat (first|(with_reducible exact HX0.out)|(with_reducible refine Bxs.drew ?_))) hb2;obtain⟨k0,k1,k2,_⟩:=three_cells hx2.b0;have g0:=HCA.out _ hx2.1;have g1:=HCB.out _ hx2.1;clear hb2)))
  have HX2:=Km hx2;go_wp2
  go_quiet (fail)
  go_wp2_with fail;refine(hP.out _ (below_drewN HX2.out.1 _)).mono ?_;rintro e w3 ⟨hb3,rfl⟩;have HX3:Kept (Bxs w [tbbox D.p pa q1 pc (some ⟨b,o,none⟩) q lc] w3):=⟨(HX2.out.below (below_drewN (Below.refl _ _) _)).below hb3⟩;clear hb3;go_wp2
  go_ret
  exact⟨HX3.out.1,rfl⟩
end
section
open Go Go.RowKit Go.Deep
open FFld (ints)
theorem info_u16:(Tryz.prog.info? 252).map (fun i=>(i.zero,i.size,i.bytes))=some (some (.int .u16 0),1,2):=by kernel_rfl
theorem ext1_any (p k m l o g a b8 b9:Nat)(w:World)(h:RsOk p k m l o)(ha:a<p ^ k)(hg:g<p ^ k)(h8:w.heap[b8]? =some (.cells #[.int .i64 p, .int .i64 l, .int .i64 o] 217 (0,0)))(h9:w.cell? ⟨b9,0,none⟩=some (.int .i64 g)):
 Calls Tryz.prog 210 #[.int .i64 a, .pointer (some ⟨b8,0,none⟩), .pointer (some ⟨b9,0,none⟩)] w (RB w (.int .i64 (FFld.pmul p k m a k g:Nat))):=by
 obtain⟨c0,c1,c2,_⟩:=three_cells h8;have hP:=Km (fun W=>rproduct_any p k m l o h a g W ha hg);clear h8 ha hg h
 go_enter Tryz.func210,Tryz.ntmps210
 go_wp2_with fail;refine(hP.out _).mono ?_;rintro e w2 ⟨hb2,rfl⟩;have HB:=Km hb2;clear hb2 c0 c1 c2 h9;go_wp2
 go_ret
 exact⟨HB.out,rfl⟩
theorem drew_heap (W:World):W.drew.heap=W.heap:=rfl
theorem made_row (K:IntKind)(n:Nat):madeCells #[.int K 0] n=((ints (List.replicate n 0)).map (Value.int K)).toArray:=by
 apply Array.toList_inj.1
 rw[toList_madeCells_one];simp[ints]
structure NtW (w:World)(gP gL g7 p q1 q:Nat)(P L:List Nat)(W:World):Prop where
 bel:Below w.heap.size w W
 h0:W.heap[w.heap.size]? =some (.cells #[.int .i64 0, .slice none 0 0, .slice none 0 0] 221 (0,0))
 rP:Row 252 .u16 W gP (ints P)
 rL:Row 252 .u16 W gL (ints L)
 h7:W.heap[g7]? =some (.cells #[.int .i64 p, .slice (some ⟨gP,0,none⟩) q1 q1, .slice (some ⟨gL,0,none⟩) q q] 221 (0,0))
 n1:w.heap.size<gP
 n2:w.heap.size<gL
 n3:w.heap.size<g7
 n4:gP≠gL
 n5:gP≠g7
 n6:gL≠g7
theorem NtW.below {w:World}{gP gL g7 p q1 q:Nat}{P L:List Nat}{W W' :World}(h:NtW w gP gL g7 p q1 q P L W)(hb:Below W.heap.size W W'):NtW w gP gL g7 p q1 q P L W' :=
 ⟨h.bel.trans (hb.mono h.bel.size),(hb.block _ (Array.getElem?_eq_some_iff.1 h.h0).1).trans h.h0,h.rP.below hb,h.rL.below hb,(hb.block _ (Array.getElem?_eq_some_iff.1 h.h7).1).trans h.h7,h.n1,h.n2,h.n3,h.n4,h.n5,h.n6⟩
theorem NtW.setP {w:World}{gP gL g7 p q1 q:Nat}{P L:List Nat}{W:World}(h:NtW w gP gL g7 p q1 q P L W)(i v:Nat):NtW w gP gL g7 p q1 q (P.set i v) L (W.setCell ⟨gP,i,none⟩ (.int .u16 v)):=by
 have e:=h.rP.set i (v:Int);rw[FFld.ints_set] at e;exact⟨h.bel.setCell (p:=⟨gP,i,none⟩) (Nat.le_of_lt h.n1) _,(heap_setCell_other _ _ _ _ (by have:=h.n1;simp;omega)).trans h.h0,e,h.rL.setOther _ (fun e=>h.n4 e),(heap_setCell_other _ _ _ _ (by have:=h.n5;simp;omega)).trans h.h7,h.n1,h.n2,h.n3,h.n4,h.n5,h.n6⟩
theorem NtW.setL {w:World}{gP gL g7 p q1 q:Nat}{P L:List Nat}{W:World}(h:NtW w gP gL g7 p q1 q P L W)(i v:Nat):NtW w gP gL g7 p q1 q P (L.set i v) (W.setCell ⟨gL,i,none⟩ (.int .u16 v)):=by
 have e:=h.rL.set i (v:Int);rw[FFld.ints_set] at e;exact⟨h.bel.setCell (p:=⟨gL,i,none⟩) (Nat.le_of_lt h.n2) _,(heap_setCell_other _ _ _ _ (by have:=h.n2;simp;omega)).trans h.h0,h.rP.setOther _ (fun e=>h.n4 e.symm),e,(heap_setCell_other _ _ _ _ (by have:=h.n6;simp;omega)).trans h.h7,h.n1,h.n2,h.n3,h.n4,h.n5,h.n6⟩
def NtRet (D:FFld.FD)(h:D.Ok)(w:World)(e:Ending)(w' :World):Prop:=Below w.heap.size w w' /\ ∃ gP gL q1 q P L,e= .returned (tbv D.p (some ⟨gP,0,none⟩) q1 q1 (some ⟨gL,0,none⟩) q q)/\Row 252 .u16 w' gP (ints P)/\Row 252 .u16 w' gL (ints L)/\FFld.TabOk D h P L/\D.p ^ D.k-1=q1/\D.p ^ D.k=q
set_option maxRecDepth 20000 in
theorem newTables_any (D:FFld.FD)(h:D.Ok)(b8 b9:Nat)(w:World)
 (hN:∀ W,Below w.heap.size w W-> ∀ a,a<D.p ^ D.k->Calls Tryz.prog 210 #[.int .i64 a, .pointer (some ⟨b8,0,none⟩), .pointer (some ⟨b9,0,none⟩)] W (RB W (.int .i64 (FFld.pmul D.p D.k D.m a D.k D.g:Nat)))):
 Calls Tryz.prog 209 #[.int .i64 D.p, .int .i64 D.q, .func (.func 210) #[] #[.pointer (some ⟨b8,0,none⟩), .pointer (some ⟨b9,0,none⟩)]] w (NtRet D h w):=by
 have h1:=h.pre.pk.one_lt;obtain⟨q,hq⟩:∃ q,D.p ^ D.k=q:=⟨_,rfl⟩;obtain⟨q1,hq1⟩:∃ q1,q-1=q1:=⟨_,rfl⟩;have hqq:D.q=q:=hq;have hq6:q<=65536:=by have:=h.pre.small;rw[hqq] at this;exact this
 have hq2:2<=q:=by omega
 have e0:IntKind.i64.wrap ((q:Int)-1)=q1:=by rw[show(q:Int)-1=q1 from by omega];exact wi (by omega) (by omega)
 have hmk1:=run_make_row' (P:=Tryz.prog) 219 252 (.int .u16 0) 2 Tryz.underlying219 info_u16 rfl .i64 .i64 q1 (by omega) (by omega);have hmk2:=run_make_row' (P:=Tryz.prog) 219 252 (.int .u16 0) 2 Tryz.underlying219 info_u16 rfl .i64 .i64 q (by omega) (by omega);have HN:=Km hN;have HQ:=Km hq;have HQ1:=Km hq1;have hq1a:q1+1<=q:=by omega
 have hq1b:q<=q1+1:=by omega
 rw[hqq];clear hqq hq hq1 hN
 go_enter Tryz.func209,Tryz.ntmps209
 go_wp2
 go_cut [7] from 10 to 17 (fun tv W=> ∃ gP gL g7:Nat,tv= .pointer (some ⟨g7,0,none⟩)/\Kept (NtW w gP gL g7 D.p q1 q (List.replicate q1 0) (List.replicate q 0) W))
 case first=>
  go_region
  all_goals
   (go_wp2_with fail
    go_meet
    first
     |refine⟨w.heap.size+1,w.heap.size+1+1,w.heap.size+1+1+1,rfl,⟨?_⟩⟩;((refine⟨?_,?_,?_,?_,?_,by omega,by omega,by omega,by omega,by omega,by omega⟩)<;>first|((repeat (first|exact Below.refl _ _|refine Below.drew ?_|refine Below.alloc ?_ (by simp<;>omega) _));done)|((try unfold Row);(try rw[<- made_row]);(try simp only[drew_heap]);(repeat (first|exact heap_last _ _ _ (by simp)|(refine(heap_alloc_old _ _ (by simp<;>omega)).trans ?_)));done))
     |refine⟨w.heap.size+1+1,w.heap.size+1,w.heap.size+1+1+1,rfl,⟨?_⟩⟩;((refine⟨?_,?_,?_,?_,?_,by omega,by omega,by omega,by omega,by omega,by omega⟩)<;>first|((repeat (first|exact Below.refl _ _|refine Below.drew ?_|refine Below.alloc ?_ (by simp<;>omega) _));done)|((try unfold Row);(try rw[<- made_row]);(try simp only[drew_heap]);(repeat (first|exact heap_last _ _ _ (by simp)|(refine(heap_alloc_old _ _ (by simp<;>omega)).trans ?_)));done))
     |refine⟨w.heap.size+1,w.heap.size+1+1+1,w.heap.size+1+1,rfl,⟨?_⟩⟩;((refine⟨?_,?_,?_,?_,?_,by omega,by omega,by omega,by omega,by omega,by omega⟩)<;>first|((repeat (first|exact Below.refl _ _|refine Below.drew ?_|refine Below.alloc ?_ (by simp<;>omega) _));done)|((try unfold Row);(try rw[<- made_row]);(try simp only[drew_heap]);(repeat (first|exact heap_last _ _ _ (by simp)|(refine(heap_alloc_old _ _ (by simp<;>omega)).trans ?_)));done))
     |refine⟨w.heap.size+1+1,w.heap.size+1+1+1,w.heap.size+1,rfl,⟨?_⟩⟩;((refine⟨?_,?_,?_,?_,?_,by omega,by omega,by omega,by omega,by omega,by omega⟩)<;>first|((repeat (first|exact Below.refl _ _|refine Below.drew ?_|refine Below.alloc ?_ (by simp<;>omega) _));done)|((try unfold Row);(try rw[<- made_row]);(try simp only[drew_heap]);(repeat (first|exact heap_last _ _ _ (by simp)|(refine(heap_alloc_old _ _ (by simp<;>omega)).trans ?_)));done))
     |refine⟨w.heap.size+1+1+1,w.heap.size+1,w.heap.size+1+1,rfl,⟨?_⟩⟩;((refine⟨?_,?_,?_,?_,?_,by omega,by omega,by omega,by omega,by omega,by omega⟩)<;>first|((repeat (first|exact Below.refl _ _|refine Below.drew ?_|refine Below.alloc ?_ (by simp<;>omega) _));done)|((try unfold Row);(try rw[<- made_row]);(try simp only[drew_heap]);(repeat (first|exact heap_last _ _ _ (by simp)|(refine(heap_alloc_old _ _ (by simp<;>omega)).trans ?_)));done))
     |refine⟨w.heap.size+1+1+1,w.heap.size+1+1,w.heap.size+1,rfl,⟨?_⟩⟩;((refine⟨?_,?_,?_,?_,?_,by omega,by omega,by omega,by omega,by omega,by omega⟩)<;>first|((repeat (first|exact Below.refl _ _|refine Below.drew ?_|refine Below.alloc ?_ (by simp<;>omega) _));done)|((try unfold Row);(try rw[<- made_row]);(try simp only[drew_heap]);(repeat (first|exact heap_last _ _ _ (by simp)|(refine(heap_alloc_old _ _ (by simp<;>omega)).trans ?_)));done)))
 case rest=>
  obtain⟨gP,gL,g7,rfl,hnt⟩:=hcut;obtain⟨c0,c1,c2,_⟩:=three_cells hnt.out.h7;have hst:=FFld.TfAt.start h;rw[HQ.out,HQ1.out] at hst;have HST:=Km hst;clear hst hmk1 hmk2;go_wp2
  go_loopw [8,20] (fun av iv wr=> ∃ (a i:Nat) (P L:List Nat),a<q/\i<=q1/\av= .int .i64 a/\iv= .int .i64 i/\Kept (FFld.TfAt D h P L i a)/\Kept (NtW w gP gL g7 D.p q1 q P L wr)) (fun _ iv _=>q1-(intOf iv).toNat)
  case atStart=>exact⟨1,0,_,_,by omega,by omega,rfl,rfl,HST,hnt⟩
  case round=>
   obtain⟨a,i,P,L,haq,hiq,rfl,rfl,hat,hnt⟩:=hrel;obtain⟨c0,c1,c2,_⟩:=three_cells hnt.out.h7
   by_cases hlt:i<q1
   ·have HNX:=Km (hat.out.next (by rw[HQ.out,HQ1.out];exact hlt));obtain⟨a',ha'⟩:∃ a',FFld.pmul D.p D.k D.m a D.k D.g=a' :=⟨_,rfl⟩;rw[ha'] at HNX;have haq' :a' <q:=HQ.out ▸ HNX.out.cur_lt;have hPl:P.length=q1:=by rw[hat.out.pl,HQ.out,HQ1.out]
    have hLl:L.length=q:=by rw[hat.out.ll,HQ.out]
    have hcp:=hnt.out.rP.cell (i:=i) (by rw[FFld.ints_len,hPl];exact hlt);have hfp:=hnt.out.rP.free i;have hn2:=hnt.out.setP i a;have hcl:=hn2.rL.cell (i:=a) (by rw[FFld.ints_len,hLl];exact haq);have hfl:=hn2.rL.free a;obtain⟨d0,d1,d2,_⟩:=three_cells hn2.h7;have HN3:=Km (hn2.setL a i);have hC:=Km (fun W (hW:Below w.heap.size w W)=>HN.out W hW a (by rw[HQ.out];exact haq));rw[ha'] at hC;have ewa:IntKind.u16.wrap (a:Int)=a:=by rw[IntKind.wrap_u16];omega
    have ewi:IntKind.u16.wrap (i:Int)=i:=by rw[IntKind.wrap_u16];omega
    clear ha' hPl hLl hn2 hat hnt HST;go_wp2_with fail;refine(hC.out _ HN3.out.bel).mono ?_;rintro e w3 ⟨hb3,rfl⟩;have HN4:=Km (HN3.out.below hb3);clear hb3 hcp hfp hcl hfl c0 c1 c2 d0 d1 d2;go_wp2;go_roundw
    case rel=>exact⟨a',i+1,_,_,haq',by omega,rfl,by go_num,HNX,HN4⟩
    case measure=>simp[intOf]<;>omega
   ·obtain rfl:i=q1:=by omega
    have hd:FFld.TfAt D h P L (D.p ^ D.k-1) a:=by rw[HQ.out,HQ1.out];exact hat.out
    have HD:=Km hd.done;obtain⟨d0,d1,d2,f0,f1,f2⟩:=three_cells hnt.out.h0;obtain⟨hb,e0',e1',e2'⟩:=three_end hnt.out.h0 hnt.out.bel (Nat.le_refl _) (.int .i64 D.p) (.slice (some ⟨gP,0,none⟩) i i) (.slice (some ⟨gL,0,none⟩) q q);have hn1:=hnt.out.n1;have hn2:=hnt.out.n2;have HB:=Km hb;have HRP:=Km (((hnt.out.rP.setOther (a:=⟨w.heap.size,0,none⟩) (.int .i64 D.p) (by simp;omega)).setOther (a:=⟨w.heap.size,1,none⟩) (.slice (some ⟨gP,0,none⟩) i i) (by simp;omega)).setOther (a:=⟨w.heap.size,2,none⟩) (.slice (some ⟨gL,0,none⟩) q q) (by simp;omega));have HRL:=Km (((hnt.out.rL.setOther (a:=⟨w.heap.size,0,none⟩) (.int .i64 D.p) (by simp;omega)).setOther (a:=⟨w.heap.size,1,none⟩) (.slice (some ⟨gP,0,none⟩) i i) (by simp;omega)).setOther (a:=⟨w.heap.size,2,none⟩) (.slice (some ⟨gL,0,none⟩) q q) (by simp;omega));clear hb hd hnt hat hn1 hn2;go_wp2;exact bodyPost_ret (v:=tbv D.p (some ⟨gP,0,none⟩) i i (some ⟨gL,0,none⟩) q q) (by simp[results,Tryz.results209,go_sem,e0',e1',e2']) rfl ⟨HB.out,_,_,_,_,_,_,rfl,HRP.out,HRL.out,HD.out,by rw[HQ.out];exact HQ1.out,HQ.out⟩
end
section
open Go Go.RowKit
open FFld (ints)
def ArV (D:FFld.FD)(h:D.Ok)(w:World)(v:Value):Prop:=
 (D.k=1/\v= .iface 215 (rmv D.p D.g))\/
 (2<=D.k/\ ∃ gP gL q1 q P L,v= .iface 221 (tbv D.p (some ⟨gP,0,none⟩) q1 q1 (some ⟨gL,0,none⟩) q q)/\Row 252 .u16 w gP (ints P)/\Row 252 .u16 w gL (ints L)/\FFld.TabOk D h P L/\D.p ^ D.k-1=q1/\D.p ^ D.k=q)
theorem ArV.below {D:FFld.FD}{h:D.Ok}{w w' :World}{v:Value}(hv:ArV D h w v)(hb:Below w.heap.size w w'):ArV D h w' v:=by
 rcases hv with hv|⟨h1,gP,gL,q1,q,P,L,e,h2,h3,h4⟩
 ·exact .inl hv
 ·exact .inr ⟨h1,gP,gL,q1,q,P,L,e,h2.below hb,h3.below hb,h4⟩
def FldB (D:FFld.FD)(w:World)(b:Nat):Prop:= ∃ (h:D.Ok) (ar ms:Value) (ml:List Nat),w.heap[b]? =some (.cells #[ar, .int .i64 D.q, .int .i64 D.p, .int .i64 D.k, .int .i64 D.g,ms] 179 (0,0))/\ArV D h w ar/\Sl .i64 w ms (ints ml)/\FFld.Digs D.p D.m ml
theorem FldB.below {D:FFld.FD}{w w' :World}{b:Nat}(h:FldB D w b)(hb:Below w.heap.size w w'):FldB D w' b:=by
 obtain⟨h,ar,ms,ml,h1,h2,h3,h4⟩:=h;exact⟨h,ar,ms,ml,(hb.block _ (Array.getElem?_eq_some_iff.1 h1).1).trans h1,h2.below hb,h3.below hb,h4⟩
def FldRet (D:FFld.FD)(w:World)(e:Ending)(w' :World):Prop:=Below w.heap.size w w' /\ ∃ b,w.heap.size<=b/\e= .returned (.pointer (some ⟨b,0,none⟩))/\FldB D w' b
theorem digs_k1 {p:Nat}(hp:2<=p):FFld.Digs p p [0,1]:=⟨by simp[FFld.num],fun c hc=>by simp at hc;omega,by simp⟩
set_option maxRecDepth 20000 in
theorem primeField_any (D:FFld.FD)(h:D.Ok)(hk:D.k=1)(w:World):
 Calls Tryz.prog 146 #[.int .i64 D.p] w (FldRet D w):=by
 have hpk:=h.pre.pk;have hm:D.m=D.p:=h.pre.mod1 hk;have hq:D.q=D.p:=by unfold FFld.FD.q;rw[hk,Nat.pow_one]
 have hp1:D.p<=65536:=by have:=h.pre.small;omega
 have hpk1:FFld.PK D.p 1 D.p:=⟨hpk.p2,Nat.le_refl _⟩
 have hL:=Km (fun W=>leastgen_rem D h (rmv D.p 0) W (fun W x y hx hy=>by
  rw[hk] at hx hy ⊢;rw[hm]
  exact fproduct_any D.p 0 x y W hpk1 hp1 hx hy))
 rw[hq] at hL;have HH:=Km (And.intro hk hm);have HQ:=Km hq;have HD:=Km (digs_k1 hpk.p2);have HO:=Km h;clear hk hm hq hpk hpk1
 go_enter Tryz.func146,Tryz.ntmps146
 go_wp2_with fail;refine(hL.out _).mono ?_;rintro e w1 ⟨hb1,rfl⟩;have HB1:=Km hb1;have hs1:=hb1.size;clear hb1;go_wp2
 go_ret
 obtain⟨hk,hm⟩:=HH.out;refine⟨((HB1.out.alloc hs1 _).alloc (by simp;omega) _),w1.heap.size+1,by omega,rfl,HO.out,_, .slice (some ⟨w1.heap.size,0,none⟩) 2 2,[0,1],?_, .inl ⟨hk,rfl⟩,?_,by rw[hm];exact HD.out⟩
 ·rw[HQ.out,hk];exact heap_last _ _ _ (by simp)
 ·have hr:Row 3 .i64 (w1.alloc (.cells #[.int .i64 0, .int .i64 1] 3)) w1.heap.size (ints [0,1]):=heap_alloc_new w1 _;exact(hr.alloc _).slAll (by simp[ints]) (Nat.le_refl _) (by unfold maxLen;omega)
theorem six_cells {w:World}{g:Nat}{a b c d e f:Value}{T:TypeId}(h:w.heap[g]? =some (.cells #[a,b,c,d,e,f] T (0,0))):
 w.cell? ⟨g,0,none⟩=some a/\w.cell? ⟨g,1,none⟩=some b/\w.cell? ⟨g,2,none⟩=some c/\w.cell? ⟨g,3,none⟩=some d/\w.cell? ⟨g,4,none⟩=some e/\w.cell? ⟨g,5,none⟩=some f:=
 ⟨by rw[cell_of_row w g 0 _ T (0,0) h];rfl,by rw[cell_of_row w g 1 _ T (0,0) h];rfl,by rw[cell_of_row w g 2 _ T (0,0) h];rfl,by rw[cell_of_row w g 3 _ T (0,0) h];rfl,by rw[cell_of_row w g 4 _ T (0,0) h];rfl,by rw[cell_of_row w g 5 _ T (0,0) h];rfl⟩
theorem TbW.of {D:FFld.FD}{h:D.Ok}{gP gL q1 q:Nat}{P L:List Nat}{w:World}(h1:Row 252 .u16 w gP (ints P))(h2:Row 252 .u16 w gL (ints L))(ht:FFld.TabOk D h P L)(e1:D.p ^ D.k-1=q1)(e2:D.p ^ D.k=q):
 TbW D h w.heap.size (some ⟨gP,0,none⟩) q1 (some ⟨gL,0,none⟩) q P L w:=by
 refine⟨fun W hW i hi=>⟨gP,0,rfl,?_⟩,fun W hW i hi=>⟨gL,0,rfl,?_⟩,ht,e1,e2⟩
 ·rw[Nat.zero_add,(h1.below hW).cell (by rw[FFld.ints_len];exact hi),FFld.ints_get]
 ·rw[Nat.zero_add,(h2.below hW).cell (by rw[FFld.ints_len];exact hi),FFld.ints_get]
structure ArOps (D:FFld.FD)(h:D.Ok)(w:World)(T:TypeId)(x:Value)(fs fp fw:FuncId):Prop where
 ms:∀ W,(method 378 T x "dauber/field.sum").run Tryz.prog W= .ok (fs,x) W
 mp:∀ W,(method 378 T x "dauber/field.product").run Tryz.prog W= .ok (fp,x) W
 mw:∀ W,(method 378 T x "dauber/field.power").run Tryz.prog W= .ok (fw,x) W
 cs:∀ args W,(callFunc fs args).run Tryz.prog W= .ok (.enter fs args) W
 cp:∀ args W,(callFunc fp args).run Tryz.prog W= .ok (.enter fp args) W
 cw:∀ args W,(callFunc fw args).run Tryz.prog W= .ok (.enter fw args) W
 sum:∀ W,Below w.heap.size w W-> ∀ a b,a<D.p ^ D.k->b<D.p ^ D.k->Calls Tryz.prog fs #[x, .int .i64 (a:Nat), .int .i64 (b:Nat)] W (RB W (.int .i64 (FFld.padd D.p D.k a b:Nat)))
 product:∀ W,Below w.heap.size w W-> ∀ a b,a<D.p ^ D.k->b<D.p ^ D.k->Calls Tryz.prog fp #[x, .int .i64 (a:Nat), .int .i64 (b:Nat)] W (RB W (.int .i64 (FFld.pmul D.p D.k D.m a D.k b:Nat)))
 power:∀ W,Below w.heap.size w W-> ∀ a n,a<D.p ^ D.k->a≠0\/0<n->n<=70000->Calls Tryz.prog fw #[x, .int .i64 (a:Nat), .int .i64 (n:Nat)] W (RB W (.int .i64 (FFld.ppow h.pre.pk a n:Nat)))
theorem ArV.ops {D:FFld.FD}{h:D.Ok}{w:World}{v:Value}(hv:ArV D h w v):∃ T x fs fp fw,v= .iface T x/\ArOps D h w T x fs fp fw:=by
 rcases hv with⟨hk,rfl⟩|⟨h2,gP,gL,q1,q,P,L,rfl,r1,r2,ht,e1,e2⟩
 ·have hm:D.m=D.p:=h.pre.mod1 hk
  have hp1:D.p<=65536:=by
   have:=h.pre.small;unfold FFld.FD.q at this;rw[hk,Nat.pow_one] at this;exact this
  have hpk1:FFld.PK D.p 1 D.p:=⟨h.pre.pk.p2,Nat.le_refl _⟩;refine⟨_,_,280,205,279,rfl,fun _=>by kernel_rfl,fun _=>by kernel_rfl,fun _=>by kernel_rfl,fun _ _=>by kernel_rfl,fun _ _=>by kernel_rfl,fun _ _=>by kernel_rfl,?_,?_,?_⟩
  ·intro W _ a b ha hb;rw[hk] at ha hb ⊢;exact fsum_any D.p D.g a b W hpk1 hp1 ha hb
  ·intro W _ a b ha hb;rw[hk] at ha hb ⊢;rw[hm];exact fproduct_any D.p D.g a b W hpk1 hp1 ha hb
  ·intro W _ a n ha _ hn
   have key:∀ (k m:Nat) (hpk:FFld.PK D.p k m) (e1:k=1) (e2:m=D.p) (ha:a<D.p ^ k),Calls Tryz.prog 279 #[rmv D.p D.g, .int .i64 (a:Nat), .int .i64 (n:Nat)] W (RB W (.int .i64 (FFld.ppow hpk a n:Nat))):=by
    intro k m hpk e1 e2 ha;subst e1 e2;exact fpower_any D.p D.g a n W hpk1 hp1 ha hn
   exact key D.k D.m h.pre.pk hk hm ha
 ·have htb:=TbW.of r1 r2 ht e1 e2;refine⟨_,_,285,284,283,rfl,fun _=>by kernel_rfl,fun _=>by kernel_rfl,fun _=>by kernel_rfl,fun _ _=>by kernel_rfl,fun _ _=>by kernel_rfl,fun _ _=>by kernel_rfl,?_,?_,?_⟩
  ·intro W hW a b ha hb;exact tsum_any _ _ a b W (htb.below hW) ha hb
  ·intro W hW a b ha hb;exact tproduct_any _ _ a b W (htb.below hW) ha hb
  ·intro W hW a n ha hne hn;exact tpower_any _ _ a n W (htb.below hW) ha hne hn
theorem FldB.open {D:FFld.FD}{w:World}{b:Nat}(hf:FldB D w b):∃ (h:D.Ok) (T:TypeId) (x:Value) (fs fp fw:FuncId) (ms:Value) (ml:List Nat),w.heap[b]? =some (.cells #[.iface T x, .int .i64 D.q, .int .i64 D.p, .int .i64 D.k, .int .i64 D.g,ms] 179 (0,0))/\ArOps D h w T x fs fp fw/\Sl .i64 w ms (ints ml)/\FFld.Digs D.p D.m ml:=by
 obtain⟨h,ar,ms,ml,h1,h2,h3,h4⟩:=hf;obtain⟨T,x,fs,fp,fw,rfl,ho⟩:=h2.ops;exact⟨h,T,x,fs,fp,fw,ms,ml,h1,ho,h3,h4⟩
theorem FldB.ok {D:FFld.FD}{w:World}{b:Nat}(hf:FldB D w b):D.Ok:=let ⟨h,_⟩:=hf;h
theorem FldB.lt {D:FFld.FD}{w:World}{b:Nat}(hf:FldB D w b):b<w.heap.size:=by
 obtain⟨h,ar,ms,ml,h1,_⟩:=hf;exact(Array.getElem?_eq_some_iff.1 h1).1
theorem pmul_const {p k m:Nat}(h:FFld.PK p k m)(a c:Nat)(hc:c<p):FFld.pmul p k m a k c=FFld.pscl p k c a:=by
 have hk:=h.k1;have hck:c<p ^ k:=Nat.lt_of_lt_of_le hc (by have:=Nat.pow_le_pow_right (n:=p) (by have:=h.p2;omega) hk;rw[Nat.pow_one] at this;exact this);rw[FFld.pmul_step h a c hck,Nat.mod_eq_of_lt hc,Nat.div_eq_of_lt hc,FFld.pmul_zero_right h,FFld.pshf_zero h,FFld.padd_zero h _ (FFld.pscl_lt h _ _)]
theorem p_le_q {D:FFld.FD}(h:D.Ok):D.p<=D.p ^ D.k:=by
 have:=Nat.pow_le_pow_right (n:=D.p) (by have:=h.pre.prime.1;omega) h.pre.k1;rw[Nat.pow_one] at this;exact this
set_option maxRecDepth 20000 in
theorem negative_any {D:FFld.FD}{b:Nat}(a:Nat)(w:World)(hf:FldB D w b)(ha:a<D.p ^ D.k):
 Calls Tryz.prog 154 #[.pointer (some ⟨b,0,none⟩), .int .i64 a] w (RB w (.int .i64 (FFld.pscl D.p D.k (D.p-1) a:Nat))):=by
 obtain⟨h,T,x,fs,fp,fw,ms,ml,hb,ho,_,_⟩:=hf.open;obtain⟨c0,c1,c2,c3,c4,c5⟩:=six_cells hb;have hp2:=h.pre.prime.1;have hpq:=p_le_q h;have hq6:=h.pre.small;unfold FFld.FD.q at hq6;obtain⟨p1,hp1⟩:∃ p1,D.p-1=p1:=⟨_,rfl⟩;have ep:IntKind.i64.wrap ((D.p:Int)-1)=p1:=by rw[show(D.p:Int)-1=p1 from by omega];exact wi (by omega) (by omega)
 have hP:=Km (fun W (hW:Below w.heap.size w W)=>ho.product W hW a p1 ha (by omega));rw[pmul_const h.pre.pk a p1 (by omega)] at hP;rw[hp1];have hmp:=ho.mp;have hcp:=ho.cp;have HL:=Km hf;clear ho hb hp1 ha hpq hq6
 go_enter Tryz.func154,Tryz.ntmps154
 go_wp2
 go_region_held3 (fun w' =>w'.cell? ⟨b,0,none⟩=some (.iface T x)/\w'.cell? ⟨b,2,none⟩=some (.int .i64 D.p))
  (first|exact⟨c0,c2⟩|exact⟨k0,k2⟩|go_keep)
  ((first
    |((with_reducible refine(hP.out _ ?_).mono ?_);(exact(by first|exact Below.refl _ _|exact(Below.refl _ _).drew));rintro e w2 ⟨hb2,rfl⟩;have HB2:=Km (show Below w.heap.size w w2 from(by first|exact hb2|exact(Below.refl _ _).drew.trans hb2));have k0:=belowCell HB2.out c0;have k2:=belowCell HB2.out c2;clear hb2)))
 go_wp2
 go_ret
 exact⟨HB2.out,rfl⟩
end
end Go.Proofs.YtdnheaafcbihbaaGreat
