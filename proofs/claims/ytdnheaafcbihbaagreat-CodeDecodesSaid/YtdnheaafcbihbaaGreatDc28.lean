/-
  Texts of the proof, merged by program: Rrv Rkp.
-/
import Derived.Test.YtdnheaafcbihbaaGreatDc27
set_option linter.unusedSimpArgs false
set_option linter.unusedVariables false
set_option maxHeartbeats 16000000
namespace Go.Proofs.YtdnheaafcbihbaaGreat
section
open Go Go.RowKit Go.Deep
open FFld (ints)
theorem reE_seven {D:FFld.FD}{n k:Nat}{vs es:List Int}(h:vs.length≠n\/n<es.length+k):reE D n k vs es=7:=by
 unfold reE;rw[if_pos h]
theorem reE_one {D:FFld.FD}{n k:Nat}{vs es:List Int}(h1:vs.length=n)(h2: ¬ n<es.length+k)(h: ¬ (belB D.q vs=true/\belB n es=true/\difB es es.length=true)):reE D n k vs es=1:=by
 unfold reE;rw[if_neg (by omega),if_neg h]
theorem reE_nil {D:FFld.FD}{n k:Nat}{vs es:List Int}(h:reE D n k vs es=0):vs.length=n/\es.length+k<=n/\belB D.q vs=true/\belB n es=true/\difB es es.length=true:=by
 unfold reE at h
 split at h
 ·cases h
 ·split at h
  ·rename_i h1 h2
   exact⟨by omega,by omega,h2⟩
  ·cases h
set_option maxRecDepth 20000 in
theorem rreceived_any {D:FFld.FD}(hD:D.Ok)(ax aw ae:Option Addr)(cx cw ce n nw m k:Nat)(xs:List Nat)(vs es:List Int)(w:World)(hx:Sl .i64 w (.slice ax n cx) (ints xs))(hv:Sl .i64 w (.slice aw nw cw) vs)(hs:Sl .i64 w (.slice ae m ce) es)(hc:CodeV D xs n k)(lw:vs.length=nw)(le:es.length=m):
 Calls Tryz.prog 38 #[cdv D.q ax n cx k, .slice aw nw cw, .slice ae m ce] w (RB w (.int .i64 (reE D n k vs es:Nat))):=by
 have n64:=hc.n64;have k1:=hc.k1;have kn:=hc.kn;have HX0:Kept (Bxs w [rcdbox D.q ax n cx k] (w.alloc (rcdbox D.q ax n cx k))):=⟨(Bxs.start w).alloc (by simp) _⟩;have HWD:=Km (fun(W:World) (hW:Below w.heap.size w W)=>rword3_any hD ax aw cx cw n k nw xs vs W (hx.below hW) (hv.below hW) hc lw)
 have HTW:Kept (∀ W,Below w.heap.size w W->Calls Tryz.prog 83 #[.slice ae m ce] W (RB W (.bool (!difB es m)))):=⟨fun W hW=>by
  have h:=rtwice_any (.slice ae m ce) es W (hs.below hW);rw[le] at h
  exact h⟩
 have HS:=Km hs;have HL:=Km le;have er1:(n:Int)-(k:Int)=((n-k:Nat):Int):=by omega
 have hcx:m<=ce/\ce<=9223372036854775807:=by
  obtain⟨_,_,e,h1,h2,_⟩:=hs;rw[le] at h1 e;simp only[Value.slice.injEq] at e;obtain⟨_,e1,e2⟩:=e;unfold maxLen at h2;omega
 have hcw:nw<=cw/\cw<=9223372036854775807:=by
  obtain⟨_,_,e,h1,h2,_⟩:=hv;rw[lw] at h1 e;simp only[Value.slice.injEq] at e;obtain⟨_,e1,e2⟩:=e;unfold maxLen at h2;omega
 obtain⟨hcx1,hcx2⟩:=hcx;obtain⟨hcw1,hcw2⟩:=hcw;obtain⟨r,hr⟩:∃ r,reE D n k vs es=r:=⟨_,rfl⟩;rw[hr];have HLW:=Km lw;clear hx hv hs hc lw le
 go_enter Tryz.func38,Tryz.ntmps38
 obtain⟨c0,c1,c2,_⟩:=three_cells HX0.out.b0;have hbx:=bxs_bel HX0.out
 by_cases hs1:nw=n
 ·subst hs1;have g1:((nw:Int)!=(nw:Int))=false:=by simp
  by_cases hs2:nw<m+k
  ·have HR:Kept (r=7):=⟨by rw[<- hr];exact reE_seven (.inr (by rw[HL.out];exact hs2))⟩;have q1:nw-k<m:=by omega
   have q2:((nw-k:Nat):Int)<(m:Int):=by omega
   clear hr;go_wp2
   go_ret
   exact⟨hbx,by rw[HR.out];rfl⟩
  ·have q1 : ¬ (nw-k<m):=by omega
   have q2: ¬ (((nw-k:Nat):Int)<(m:Int)):=by omega
   have q3:m<=nw-k:=by omega
   have hone: ¬ (belB D.q vs=true/\belB nw es=true/\difB es m=true)->r=1:=fun h=>by
    rw[<- hr];exact reE_one HLW.out (by rw[HL.out];exact hs2) (by rw[HL.out];exact h)
   have hzero:belB D.q vs=true->belB nw es=true->difB es m=true->r=0:=fun h1 h2 h3=>by
    rw[<- hr];unfold reE;rw[HLW.out,HL.out,if_neg (by omega),if_pos ⟨h1,h2,h3⟩]
   have HONE:=Km hone;have HZERO:=Km hzero
   have hw2:wdE D nw vs=if belB (D.q:Int) vs=true then 0 else 1:=by
    unfold wdE;rw[HLW.out,if_neg (fun e=>e rfl),els_bel]
    cases belB (D.q:Int) vs<;>rfl
   rw[hw2] at HWD;clear hone hzero hr hw2
   cases hb1:belB (D.q:Int) vs with
   | false=>
     rw[hb1] at HWD;have HR:Kept (r=1):=⟨HONE.out fun h=>by rw[hb1] at h;cases h.1⟩;clear hb1;go_wp2_with fail;(with_reducible refine(HWD.out _ hbx).mono ?_);rintro e w1 ⟨hb1,rfl⟩;have HB1:=Km (bstep hbx hb1);clear hb1 c0 c1 c2;go_wp2
     go_ret
     exact⟨HB1.out,by rw[HR.out];rfl⟩
   | true =>
     rw[hb1] at HWD;have HV1:=Km hb1;clear hb1;go_wp2_with fail;(with_reducible refine(HWD.out _ hbx).mono ?_);rintro e w1 ⟨hb1,rfl⟩;have HX1:=Km (HX0.out.below hb1);clear hb1 c0 c1 c2 hbx;obtain⟨c0,c1,c2,_⟩:=three_cells HX1.out.b0;have hbx:=bxs_bel HX1.out
     cases hd:difB es m with
     | false=>
       rw[hd] at HTW;have HR:Kept (r=1):=⟨HONE.out fun h=>by rw[hd] at h;cases h.2.2⟩;clear hd;go_wp2_with fail;(with_reducible refine(HTW.out _ hbx).mono ?_);rintro e w2 ⟨hb2,rfl⟩;have HB2:=Km (bstep hbx hb2);clear hb2 c0 c1 c2;go_wp2
       go_ret
       exact⟨HB2.out,by rw[HR.out];rfl⟩
     | true =>
       rw[hd] at HTW;have HDF:=Km hd;clear hd;go_wp2_with fail;(with_reducible refine(HTW.out _ hbx).mono ?_);rintro e w2 ⟨hb2,rfl⟩;have HX2:=Km (HX1.out.below hb2);clear hb2 c0 c1 c2 hbx;go_wp2
       go_loopw [7] (fun iv wr=> ∃ (i:Nat),i<=m/\iv= .int .i64 i/\Kept (∀ j,j<i->0<=es[j]?.getD 0/\es[j]?.getD 0<(nw:Int))/\Kept (Below w2.heap.size w2 wr)) (fun iv _=>m-(intOf iv).toNat)
       case atStart=>exact⟨0,Nat.zero_le _,rfl,⟨fun j hj=>by omega⟩,⟨Below.refl _ _⟩⟩
       case round=>
        obtain⟨i,hin,rfl,hall,hbw⟩:=hrel;have HBW:=Km (bstep (bxs_bel HX2.out) hbw.out)
        by_cases hlt:i<m
        ·obtain⟨bx,ox,rfl,hbx,u1⟩:=(HS.out.below HBW.out).news_ i (by rw[HL.out];exact hlt);obtain⟨y,hy⟩:∃ y,es[i]?.getD 0=y:=⟨_,rfl⟩;rw[hy] at u1
         by_cases hy1:0<=y/\y<(nw:Int)
         ·have HA:Kept (∀ j,j<i+1->0<=es[j]?.getD 0/\es[j]?.getD 0<(nw:Int)):=⟨fun j hj=>by
           rcases Nat.lt_or_ge j i with h|h
           ·exact hall.out j h
           ·obtain rfl:j=i:=by omega
            rw[hy]
            exact hy1⟩
          obtain⟨hy2,hy3⟩:=hy1;obtain⟨z,rfl⟩:∃ z:Nat,y=(z:Int):=⟨y.toNat,by omega⟩;have p0: ¬ ((z:Int)<0):=by omega
          have p1: ¬ (nw<=z):=by omega
          have p2: ¬ ((nw:Int)<=(z:Int)):=by omega
          clear hy;go_wp2;go_roundw
          case rel=>exact⟨i+1,by omega,by go_num,HA,hbw⟩
          case measure=>simp[intOf]<;>omega
         ·have HR:Kept (r=1):=⟨HONE.out fun h=>by
           have h2:=h.2.1;unfold belB at h2;rw[List.all_eq_true] at h2
           have hm:es[i]?.getD 0∈es:=by
            rw[List.getElem?_eq_getElem (by have:=HL.out;omega)];exact List.getElem_mem _
           have h3:=of_decide_eq_true (h2 _ hm);rw[hy] at h3
           exact hy1 h3⟩
          by_cases hy0:y<0
          ·clear hy hy1;go_wp2
           go_ret
           exact⟨HBW.out,by rw[HR.out];rfl⟩
          ·have p0: ¬ (y<0):=hy0;have p2:(nw:Int)<=y:=by omega
           clear hy hy1;go_wp2
           go_ret
           exact⟨HBW.out,by rw[HR.out];rfl⟩
        ·obtain rfl:i=m:=by omega
         have HR:Kept (r=0):=⟨HZERO.out HV1.out (by
          unfold belB;rw[List.all_eq_true];intro a ha;obtain⟨j,hj,rfl⟩:=List.mem_iff_getElem.1 ha;have h1:=hall.out j (by have:=HL.out;omega);rw[List.getElem?_eq_getElem hj] at h1
          exact decide_eq_true h1) HDF.out⟩
         go_wp2
         go_ret
         exact⟨HBW.out,by rw[HR.out];rfl⟩
 ·have g1:((nw:Int)!=(n:Int))=true:=by rw[bne_iff_ne];omega
  have HR:Kept (r=7):=⟨by rw[<- hr];exact reE_seven (.inl (by rw[HLW.out];exact hs1))⟩;clear hr;go_wp2
  go_ret
  exact⟨hbx,by rw[HR.out];rfl⟩
end
section
namespace FFld
section
variable {D : FD} (hD : D.Ok)
def RS {D:FD}(hD:D.Ok)(W N:Nat)(A:List (List Nat))(v:Nat->El (D.p ^ D.k)):Prop:= ∃ i,i<N/\ ∀ c,c<W->v c=toE hD.pre.pk (cellAt A i c)
def Into {D:FD}(hD:D.Ok)(W N:Nat)(A B:List (List Nat)):Prop:= ∀ v,RS hD W N A v->Dom.Spn (FD.dom hD.nzd) W (RS hD W N B) v
variable {hD} {W N : Nat} {A B C : List (List Nat)}
theorem Into.refl:Into hD W N A A:=fun v hv=> .mem v hv
theorem Into.trans (h1:Into hD W N A B)(h2:Into hD W N B C):Into hD W N A C:=fun v hv=>(h1 v hv).trans h2
theorem Dom.Spn.ext {α:Type}{F:Dom α}{W:Nat}{P:(Nat->α)->Prop}{u w:Nat->α}(h:Dom.Spn F W P u)(e:∀ c,c<W->w c=u c):Dom.Spn F W P w:= .mul F.one u w h fun c hc=>by rw[F.one_mul,e c hc]
theorem Into.of (h:∀ i,i<N->Dom.Spn (FD.dom hD.nzd) W (RS hD W N B) (fun c=>toE hD.pre.pk (cellAt A i c))):Into hD W N A B:=fun v hv=>by
 obtain⟨i,hi,e⟩:=hv;exact(h i hi).ext e
theorem row_in {i:Nat}(hi:i<N):Dom.Spn (FD.dom hD.nzd) W (RS hD W N A) (fun c=>toE hD.pre.pk (cellAt A i c)):= .mem _ ⟨i,hi,fun _ _=>rfl⟩
theorem swapN_swapN (i j k:Nat):swapN i j (swapN i j k)=k:=by
 unfold swapN
 by_cases h1:k=j
 ·subst h1;rw[if_pos rfl]
  by_cases h2:i=k
  ·rw[if_pos h2];exact h2
  ·rw[if_neg h2,if_pos rfl]
 ·rw[if_neg h1]
  by_cases h2:k=i
  ·subst h2;rw[if_pos rfl,if_pos rfl]
  ·rw[if_neg h2,if_neg h1,if_neg h2]
theorem into_exch {i j:Nat}(hl:A.length=N)(hi:i<N)(hj:j<N):Into hD W N (exch [] A i j) A/\Into hD W N A (exch [] A i j):=
 ⟨.of fun k hk=> .mem _ ⟨swapN i j k,swapN_lt hi hj hk,fun c _=>by dsimp only;rw[cell_exch (by omega) (by omega)]⟩,
  .of fun k hk=> .mem _ ⟨swapN i j k,swapN_lt hi hj hk,fun c _=>by dsimp only;rw[cell_exch (by omega) (by omega),swapN_swapN]⟩⟩
theorem into_mul (hl:A.length=N)(wa:Wfm D W A){i t x:Nat}(hi:i<N)(ht:t<D.p ^ D.k)(hx:x<D.p ^ D.k)(h1:pmul D.p D.k D.m x D.k t=1):Into hD W N (mulAt D A i t) A/\Into hD W N A (mulAt D A i t):=by
 have hk:=hD.pre.pk;have e1:(FD.dom hD.nzd).mul (toE hk x) (toE hk t)=(FD.dom hD.nzd).one:=by rw[<- toE_mul hD hx ht,h1,toE_one hD]
 refine⟨.of fun k hkn=> ?_, .of fun k hkn=> ?_⟩
 ·by_cases e:k=i
  ·subst e;refine .mul (toE hk t) _ _ (row_in hkn) fun c hc=> ?_
   rw[cell_mul wa (by omega) t k hc,if_pos rfl,toE_mul hD (wa.cell hk _ _) ht,Dom.mul_comm]
  ·exact .mem _ ⟨k,hkn,fun c hc=>by dsimp only;rw[cell_mul wa (by omega) t k hc,if_neg e]⟩
 ·by_cases e:k=i
  ·subst e;refine .mul (toE hk x) _ _ (row_in (A:=mulAt D A k t) hkn) fun c hc=> ?_
   rw[cell_mul wa (by omega) t k hc,if_pos rfl,toE_mul hD (wa.cell hk _ _) ht,Dom.mul_comm _ (toE hk (cellAt A k c)),<- Dom.mul_assoc,e1,Dom.one_mul]
  ·exact .mem _ ⟨k,hkn,fun c hc=>by dsimp only;rw[cell_mul wa (by omega) t k hc,if_neg e]⟩
theorem into_subs {B:List (List Nat)}{top c0:Nat}(wa:Wfm D W A)(ht:top<N)
 (hc:∀ k c,k<N->c<W->cellAt B k c=if k<N/\k≠top then padd D.p D.k (cellAt A k c) (pmul D.p D.k D.m (cellAt A top c) D.k (negF D (cellAt A k c0))) else cellAt A k c):Into hD W N B A/\Into hD W N A B:=by
 have hk:=hD.pre.pk;have hw:=fun k c=>wa.cell hk k c
 have hn:∀ a,negF D a<D.p ^ D.k:=fun a=>pscl_lt hk _ _
 refine⟨.of fun k hkn=> ?_, .of fun k hkn=> ?_⟩
 ·by_cases e:k=top
  ·exact .mem _ ⟨k,hkn,fun c hcw=>by dsimp only;rw[hc k c hkn hcw,if_neg (fun h=>h.2 e)]⟩
  ·refine .add _ _ _ (row_in hkn) (.mul (toE hk (negF D (cellAt A k c0))) _ (fun c=>(FD.dom hD.nzd).mul (toE hk (negF D (cellAt A k c0))) (toE hk (cellAt A top c))) (row_in ht) fun c _=>rfl) fun c hcw=> ?_
   rw[hc k c hkn hcw,if_pos ⟨hkn,e⟩,toE_add hD (hw _ _) (pmul_lt hk _ _ _),toE_mul hD (hw _ _) (hn _),Dom.mul_comm]
 ·by_cases e:k=top
  ·exact .mem _ ⟨k,hkn,fun c hcw=>by dsimp only;rw[hc k c hkn hcw,if_neg (fun h=>h.2 e)]⟩
  ·refine .add _ _ _ (row_in (A:=B) hkn) (.mul (toE hk (cellAt A k c0)) _ (fun c=>(FD.dom hD.nzd).mul (toE hk (cellAt A k c0)) (toE hk (cellAt B top c))) (row_in (A:=B) ht) fun c _=>rfl) fun c hcw=> ?_
   have en:toE hk (negF D (cellAt A k c0))=(FD.dom hD.nzd).neg (toE hk (cellAt A k c0)):=toE_neg hD (hw _ _);rw[hc k c hkn hcw,if_pos ⟨hkn,e⟩,hc top c ht hcw,if_neg (fun h=>h.2 rfl),toE_add hD (hw _ _) (pmul_lt hk _ _ _),toE_mul hD (hw _ _) (hn _),en,Dom.mul_neg,Dom.mul_comm _ (toE hk (cellAt A top c)),Dom.add_assoc,Dom.add_comm _ (Dom.neg _ _),Dom.add_neg,Dom.add_zero]
end
theorem step_cases {D:FD}(hD:D.Ok){W N n:Nat}{s:ESt}{c:Nat}(ho:EOk D W n N s)(hc:c<W):
 (stepF D hD.pre.pk c s=s/\ ∀ k,s.cols.length<=k->k<N->cellAt s.A k c=0)\/
 (s.cols.length<N/\ ∃ row inv,s.cols.length<=row/\row<N/\inv<D.p ^ D.k/\pmul D.p D.k D.m (cellAt (exch [] s.A s.cols.length row) s.cols.length c) D.k inv=1/\(stepF D hD.pre.pk c s).cols=s.cols++ [c]/\
   ∀ k c',k<N->c' <W->cellAt (stepF D hD.pre.pk c s).A k c' =if k<N/\k≠s.cols.length then padd D.p D.k (cellAt (mulAt D (exch [] s.A s.cols.length row) s.cols.length inv) k c') (pmul D.p D.k D.m (cellAt (mulAt D (exch [] s.A s.cols.length row) s.cols.length inv) s.cols.length c') D.k (negF D (cellAt (mulAt D (exch [] s.A s.cols.length row) s.cols.length inv) k c))) else cellAt (mulAt D (exch [] s.A s.cols.length row) s.cols.length inv) k c'):=by
 have hk:=hD.pre.pk;have hp:=piv_le s.A c (s.A.length-s.cols.length) s.cols.length;have hla:=ho.la;have hlr:=ho.lr;have hcl:=ho.cl;have hfd:=piv_found (A:=s.A) (c:=c) (s.A.length-s.cols.length) s.cols.length;have hzr:=piv_zero (A:=s.A) (c:=c) (s.A.length-s.cols.length) s.cols.length;unfold stepF;simp only
 split
 ·rename_i he
  exact .inl ⟨rfl,fun k h1 h2=>hzr (by omega) k h1 (by omega)⟩
 ·rename_i hne
  have htop:s.cols.length<N:=by omega
  have hrow:piv s.A c (s.A.length-s.cols.length) s.cols.length<N:=by omega
  have hge:=hp.1;have hx0:=hfd (by omega);clear hfd hzr;generalize piv s.A c (s.A.length-s.cols.length) s.cols.length=row at*;have la1:(exch [] s.A s.cols.length row).length=N:=by rw[exch_len];exact hla
  have w1:=ho.wa.exch (i:=s.cols.length) (j:=row) (by omega) (by omega);have wr1:=ho.wr.exch (i:=s.cols.length) (j:=row) (by omega) (by omega)
  have hxe:cellAt (exch [] s.A s.cols.length row) s.cols.length c=cellAt s.A row c:=by
   rw[cell_exch (by omega) (by omega)]
   congr 1
   unfold swapN
   by_cases e:s.cols.length=row
   ·rw[if_pos e];exact e
   ·rw[if_neg e,if_pos rfl]
  rw[<- hxe] at hx0;have hxq:=w1.cell hk s.cols.length c;have hix:=hD.div_mul (a:=1) (b:=cellAt (exch [] s.A s.cols.length row) s.cols.length c) hk.one_lt hxq hx0;rw[pmul_comm hk _ _ hk.one_lt hxq,pmul_by_one hk _ hxq] at hix;have hiq:=ppow_lt hk (cellAt (exch [] s.A s.cols.length row) s.cols.length c) (D.q-2);generalize ppow hk (cellAt (exch [] s.A s.cols.length row) s.cols.length c) (D.q-2)=inv at*;have la2:(mulAt D (exch [] s.A s.cols.length row) s.cols.length inv).length=N:=by rw[mulAt_len];exact la1
  have w2:=w1.mul hk s.cols.length inv;have wr2:=wr1.mul hk s.cols.length inv;rw[hla];exact .inr ⟨htop,row,inv,hge,hrow,hiq,hix,rfl,fun k c' h1 h2=>cell_subs hk la2 w2 wr2 hc htop N (Nat.le_refl _) k c' h1 h2⟩
theorem into_step {D:FD}(hD:D.Ok){W N n:Nat}{s:ESt}{c:Nat}(ho:EOk D W n N s)(hc:c<W):Into hD W N (stepF D hD.pre.pk c s).A s.A/\Into hD W N s.A (stepF D hD.pre.pk c s).A:=by
 have hk:=hD.pre.pk;have hla:=ho.la
 rcases step_cases hD ho hc with⟨e,_⟩|⟨htop,row,inv,h1,h2,h3,h4,_,h5⟩
 ·rw[e];exact⟨.refl, .refl⟩
 ·have w1:=ho.wa.exch (i:=s.cols.length) (j:=row) (by omega) (by omega);have la1:(exch [] s.A s.cols.length row).length=N:=by rw[exch_len];exact hla
  have i1:=into_exch (hD:=hD) (W:=W) hla htop h2;have i2:=into_mul (hD:=hD) la1 w1 htop h3 (w1.cell hk _ _) h4;have i3:=into_subs (hD:=hD) (w1.mul hk s.cols.length inv) htop h5;exact⟨i3.1.trans (i2.1.trans i1.1),i1.2.trans (i2.2.trans i3.2)⟩
theorem into_elim {D:FD}(hD:D.Ok){W N n:Nat}{s:ESt}(ho:EOk D W n N s):∀ c,c<=W->Into hD W N (elimF D hD.pre.pk s c).A s.A/\Into hD W N s.A (elimF D hD.pre.pk s c).A
 |0,_=>⟨.refl, .refl⟩
 | c+1,hc=>by
   have h1:=into_elim hD ho c (by omega);have h2:=into_step hD (ho.elim hD.pre.pk c) (c:=c) (by omega);exact⟨h2.1.trans h1.1,h1.2.trans h2.2⟩
structure Rcf (N:Nat)(s:ESt):Prop where
 up:∀ i,i<s.cols.length-> ∀ k,k<N->k≠i->cellAt s.A k (s.cols[i]?.getD 0)=0
 mono:∀ i j,i<j->j<s.cols.length->s.cols[i]?.getD 0<s.cols[j]?.getD 0
theorem Rcf.step {D:FD}(hD:D.Ok){W N n:Nat}{s:ESt}{c:Nat}(h:Ecf N c s)(hr:Rcf N s)(ho:EOk D W n N s)(hc:c<W):Rcf N (stepF D hD.pre.pk c s):=by
 have hk:=hD.pre.pk;have hla:=ho.la
 rcases step_cases hD ho hc with⟨e,_⟩|⟨htop,row,inv,h1,h2,h3,h4,ec,h5⟩
 ·rw[e];exact hr
 ·have w1:=ho.wa.exch (i:=s.cols.length) (j:=row) (by omega) (by omega);have la1:(exch [] s.A s.cols.length row).length=N:=by rw[exch_len];exact hla
  have c1:∀ k c',cellAt (exch [] s.A s.cols.length row) k c' =cellAt s.A (swapN s.cols.length row k) c' :=fun k c' =>cell_exch (by omega) (by omega) k c'
  have hz1:∀ k,s.cols.length<=k->k<N-> ∀ c',c' <c->cellAt (exch [] s.A s.cols.length row) k c' =0:=fun k q1 q2 c' hc' =>by
   rw[c1];refine h.zero _ ?_ (swapN_lt htop h2 q2) c' hc';unfold swapN
   split
   ·omega
   ·split<;>omega
  have hl1:∀ k,k<s.cols.length-> ∀ c',cellAt (exch [] s.A s.cols.length row) k c' =cellAt s.A k c' :=fun k q1 c' =>by
   rw[c1]
   congr 1
   unfold swapN;rw[if_neg (by omega),if_neg (by omega)]
  generalize exch [] s.A s.cols.length row=A1 at*;have c2:=fun k c' (hc' :c' <W)=>cell_mul w1 (i:=s.cols.length) (by omega) inv k hc'
  have w2:=w1.mul hk s.cols.length inv;have ht2:cellAt (mulAt D A1 s.cols.length inv) s.cols.length c=1:=by rw[c2 s.cols.length c hc,if_pos rfl];exact h4
  have hz2:∀ k,s.cols.length<=k->k<N-> ∀ c',c' <c->cellAt (mulAt D A1 s.cols.length inv) k c' =0:=fun k q1 q2 c' hc' =>by
   rw[c2 k c' (by omega)]
   split
   ·rw[hz1 s.cols.length (Nat.le_refl _) htop c' hc',pmul_comm hk _ _ (Nat.pow_pos hk.p0) h3,pmul_zero_right hk]
   ·exact hz1 k q1 q2 c' hc'
  have hl2:∀ k,k<s.cols.length-> ∀ c',c' <W->cellAt (mulAt D A1 s.cols.length inv) k c' =cellAt s.A k c' :=fun k q1 c' hc' =>by
   rw[c2 k c' hc',if_neg (by omega)];exact hl1 k q1 c'
  generalize mulAt D A1 s.cols.length inv=A2 at*;have hzz:∀ t,t<D.p ^ D.k->pmul D.p D.k D.m 0 D.k t=0:=fun t ht=>by rw[pmul_comm hk _ _ (Nat.pow_pos hk.p0) ht,pmul_zero_right hk]
  have old:∀ k,k<N-> ∀ c',c' <c->cellAt (stepF D hD.pre.pk c s).A k c' =cellAt A2 k c' :=fun k q1 c' hc' =>by
   rw[h5 k c' q1 (by omega)]
   split
   ·rw[hz2 s.cols.length (Nat.le_refl _) htop c' hc',hzz (negF D (cellAt A2 k c)) (pscl_lt hk _ _),padd_zero hk _ (w2.cell hk k c')]
   ·rfl
  have ei:∀ i,i<s.cols.length->(s.cols++ [c])[i]?.getD 0=s.cols[i]?.getD 0:=fun i hi=>by rw[List.getElem?_append_left hi]
  have et:(s.cols++ [c])[s.cols.length]?.getD 0=c:=by simp
  refine⟨fun i hi k hkn hne=> ?_,fun i j hij hj=> ?_⟩
  ·rw[ec,List.length_append,List.length_singleton] at hi;rw[ec]
   by_cases e:i=s.cols.length
   ·subst e;rw[et,h5 k c hkn hc,if_pos ⟨hkn,hne⟩,ht2,pmul_comm hk 1 (negF D (cellAt A2 k c)) hk.one_lt (pscl_lt hk _ _),pmul_by_one hk (negF D (cellAt A2 k c)) (pscl_lt hk _ _)];exact padd_neg hk _
   ·have hi' :i<s.cols.length:=by omega
    obtain⟨a1,a2,a3⟩:=h.low i hi';rw[ei i hi',old k hkn _ a1]
    by_cases e3:k<s.cols.length
    ·rw[hl2 k e3 _ (by omega)];exact hr.up i hi' k hkn hne
    ·exact hz2 k (by omega) hkn _ a1
  ·rw[ec,List.length_append,List.length_singleton] at hj;rw[ec,ei i (by omega)]
   by_cases e:j=s.cols.length
   ·subst e;rw[et];exact(h.low i (by omega)).1
   ·rw[ei j (by omega)];exact hr.mono i j hij (by omega)
theorem Rcf.elim {D:FD}(hD:D.Ok){W N n:Nat}{s:ESt}(h0:s.cols= [])(ho:EOk D W n N s):∀ c,c<=W->Rcf N (elimF D hD.pre.pk s c)
 |0,_=>⟨fun i hi=>by simp only[elimF] at hi;rw[h0] at hi;simp at hi,fun i j _ hj=>by simp only[elimF] at hj;rw[h0] at hj;simp at hj⟩
 |c+1,hc=>(Rcf.elim hD h0 ho c (by omega)).step hD (Ecf.elim hD h0 ho c (by omega)) (ho.elim hD.pre.pk c) (by omega)
end FFld
end
end Go.Proofs.YtdnheaafcbihbaaGreat
