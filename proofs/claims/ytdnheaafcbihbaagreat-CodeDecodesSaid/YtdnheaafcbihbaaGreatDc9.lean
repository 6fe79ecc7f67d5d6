/-
  Texts of the proof, merged by program: Awa Awb Rne Soa Lca Lla Cut TWat TCut TSum TCmp TMul TAddMul TSum2.
-/
import Derived.Test.YtdnheaafcbihbaaGreatDc8
import Derived.Test.YtdnheaafcbihbaaGreatProg
import Derived.Laws.Externs
import Derived.Deep.QuietTactic
import Derived.BigQuiet
import Derived.Test.YtdnheaafcbihbaaGreatShelf
import Derived.Deep.DeepMust
set_option linter.unusedSimpArgs false
set_option linter.unusedVariables false
set_option maxHeartbeats 16000000
namespace Go.Proofs.YtdnheaafcbihbaaGreat
section
open Go Go.RowKit Go.Deep
open FFld (ints)
namespace FFld
theorem prime_of {n:Nat}(h:isP n=true):Prime n:=isP_prime h
theorem fit_pow {p k:Nat}(hp:Prime p)(hk:1<=k)(hq:p ^ k<=65536):Fit ((p ^ k:Nat):Int):=by
 obtain⟨m,g,h⟩:=FD.exists p k hp hk hq;exact⟨⟨p,k,m,g⟩,h,rfl⟩
theorem ok8:∃ g,FD.Ok ⟨2,3,11,g⟩:=by
 have hpre:FD.Pre ⟨2,3,11,0⟩:=⟨prime_of (by decide),by decide,by decide,fun h=>by simp at h,fun _=>⟨by decide,by decide,(irr_iff 2 3 11).1 (by decide),fun n h1 h2 hi=>by
  have h1' :8<=n:=h1;have h2' :n<11:=h2;rw[<- irr_iff] at hi;have:n=8\/n=9\/n=10:=by omega
  rcases this with rfl|rfl|rfl<;>exact absurd hi (by decide)⟩⟩
 exact FD.with_gen 2 3 11 hpre (nzd_cert (g:=2) (fs:= [7]) hpre.pk (by decide) (by decide))
theorem q8 {D:FD}(h:D.Ok)(e:D.q=8):D=⟨2,3,11,2⟩:=by
 obtain⟨g,hg⟩:=ok8;have hD:D=⟨2,3,11,g⟩:=FD.uniq h hg (by rw[e];rfl);subst hD;have h1:1<=g:=hg.g1;have e7:((2:Nat) ^ 3-1)/7=1:=by decide
 have h2:2<=g:=hg.not_gen (a:=1) (r:=7) h1 (by decide) (show(7:Nat)<2 ^ 3 by decide) (fun ht=>ht (show(7:Nat)∣2 ^ 3-1 by decide) (prime_of (by decide)) (by
  show ppow hg.pre.pk 1 (((2:Nat) ^ 3-1)/7)=1
  rw[e7]
  exact ppow_one hg.pre.pk 1 (show(1:Nat)<2 ^ 3 by decide)))
 have h3:2=g:=hg.gen (a:=2) (by decide) h2 (fun r hr1 hr2 hd hp he=>by
  have hd' :r∣7:=hd
  have:r=7:=by
   have h8:r<8:=hr2;have h5:=Nat.le_of_dvd (by decide) hd';have:r=2\/r=3\/r=4\/r=5\/r=6\/r=7:=by omega
   rcases this with rfl|rfl|rfl|rfl|rfl|rfl
   all_goals first|rfl|exact absurd hd' (by decide)
  subst this;have e1:ppow hg.pre.pk 2 (((2:Nat) ^ 3-1)/7)=1:=he;rw[e7,ppow_one hg.pre.pk 2 (show(2:Nat)<2 ^ 3 by decide)] at e1
  exact absurd e1 (by decide))
 subst h3;rfl
theorem q5 {D:FD}(h:D.Ok)(e:D.q=5):∃ g,D=⟨5,1,5,g⟩:=by
 obtain⟨g,hg⟩:=FD.prime_exists 5 (prime_of (by decide)) (by decide);exact⟨g,FD.uniq h hg (by rw[e];rfl)⟩
end FFld
end
section
open Go Go.RowKit Go.Deep
open FFld (ints)
abbrev awL (w:World):World:=(((w.alloc (.cells #[.int .i64 1, .int .i64 2] 3)).alloc (.cells #[.int .i64 2, .int .i64 4] 3)).alloc (.cells #[.slice (some ⟨w.heap.size,0,none⟩) 2 2, .slice (some ⟨w.heap.size+1,0,none⟩) 2 2] 22)).alloc (.cells #[.int .i64 1, .int .i64 3] 3)
end
section
open Go Go.RowKit
open FFld (ints)
theorem four_set {w:World}{g:Nat}{a b c d:Value}{T:TypeId}(h:w.heap[g]? =some (.cells #[a,b,c,d] T (0,0)))(a' b' c' d' :Value):
 ((((w.setCell ⟨g,0,none⟩ a').setCell ⟨g,1,none⟩ b').setCell ⟨g,2,none⟩ c').setCell ⟨g,3,none⟩ d').heap[g]? =some (.cells #[a',b',c',d'] T (0,0)):=by
 have h1:=heap_setCell_same w g 0 _ T a' h;have h2:=heap_setCell_same _ g 1 _ T b' h1;have h3:=heap_setCell_same _ g 2 _ T c' h2;have h4:=heap_setCell_same _ g 3 _ T d' h3
 simpa using h4
theorem four_frz {w:World}{g:Nat}{a b c d:Value}{T:TypeId}(h:w.heap[g]? =some (.cells #[a,b,c,d] T (0,0))):
 w.frozen? ⟨g,0,none⟩=false/\w.frozen? ⟨g,1,none⟩=false/\w.frozen? ⟨g,2,none⟩=false/\w.frozen? ⟨g,3,none⟩=false:=
 ⟨frozen_of_row w g 0 _ T h,frozen_of_row w g 1 _ T h,frozen_of_row w g 2 _ T h,frozen_of_row w g 3 _ T h⟩
theorem four_end {w W:World}{g:Nat}{a b c d:Value}{T:TypeId}(h:W.heap[g]? =some (.cells #[a,b,c,d] T (0,0)))(hb:Below w.heap.size w W)(hg:w.heap.size<=g)(a' b' c' d' :Value):
 Below w.heap.size w ((((W.setCell ⟨g,0,none⟩ a').setCell ⟨g,1,none⟩ b').setCell ⟨g,2,none⟩ c').setCell ⟨g,3,none⟩ d')/\
 ((((W.setCell ⟨g,0,none⟩ a').setCell ⟨g,1,none⟩ b').setCell ⟨g,2,none⟩ c').setCell ⟨g,3,none⟩ d').cell? ⟨g,0,none⟩=some a' /\
 ((((W.setCell ⟨g,0,none⟩ a').setCell ⟨g,1,none⟩ b').setCell ⟨g,2,none⟩ c').setCell ⟨g,3,none⟩ d').cell? ⟨g,1,none⟩=some b' /\
 ((((W.setCell ⟨g,0,none⟩ a').setCell ⟨g,1,none⟩ b').setCell ⟨g,2,none⟩ c').setCell ⟨g,3,none⟩ d').cell? ⟨g,2,none⟩=some c' /\
 ((((W.setCell ⟨g,0,none⟩ a').setCell ⟨g,1,none⟩ b').setCell ⟨g,2,none⟩ c').setCell ⟨g,3,none⟩ d').cell? ⟨g,3,none⟩=some d' :=
 ⟨(((hb.setCell (p:=⟨g,0,none⟩) hg _).setCell (p:=⟨g,1,none⟩) hg _).setCell (p:=⟨g,2,none⟩) hg _).setCell (p:=⟨g,3,none⟩) hg _,four_cells (four_set h a' b' c' d')⟩
abbrev rzero:Value:= .agg #[.int .i64 0, .int .i64 0, .int .i64 0, .int .i64 0]
abbrev rzbox:Obj:= .cells #[.int .i64 0, .int .i64 0, .int .i64 0, .int .i64 0] 47
def RnRet (q:Int)(w:World)(e:Ending)(w' :World):Prop:=Below w.heap.size w w' /\((∃ D:FFld.FD,D.Ok/\q=D.q/\e= .returned (.tuple #[rfv D.q D.p D.k D.m, .bool true]))\/(¬ FFld.Fit q/\e= .returned (.tuple #[rzero, .bool false])))
set_option maxRecDepth 20000 in
theorem rnew_any (q:Int)(w:World)(hr0: -9223372036854775808<=q)(hr1:q<=9223372036854775807):
 Calls Tryz.prog 31 #[.int .i64 q] w (RnRet q w):=by
 have HX0:Kept (Bxs w [rzbox] (w.alloc rzbox)):=⟨(Bxs.start w).alloc (by simp) _⟩
 by_cases hin:2<=q/\q<=65536
 ·obtain ⟨n0,rfl⟩:∃ n0:Nat,q=n0:=⟨q.toNat,by omega⟩;have h2:2<=n0:=by omega
  have h6:n0<=65536:=by omega
  clear hin hr0 hr1
  go_enter Tryz.func31,Tryz.ntmps31
  go_wp2
  go_loopw [4] (fun pv wr=> ∃ (p:Nat),2<=p/\p<=n0/\pv= .int .i64 p/\Kept (∀ i,2<=i->i<p-> ¬ i∣n0)/\w.alloc rzbox=wr) (fun pv _=>n0-(intOf pv).toNat)
  case atStart=>exact⟨2,Nat.le_refl _,h2,rfl,⟨fun i h1 h2=>by omega⟩,rfl⟩
  case round =>
   obtain⟨p,hp2,hpn,rfl,hno,rfl⟩:=hrel;obtain⟨s,hs⟩:∃ s,n0%p=s:=⟨_,rfl⟩;have es:(n0:Int)%p=s:=by rw[<- hs];rfl
   by_cases hs0:s=0
   ·subst hs0;have hd:p∣n0:=Nat.dvd_of_mod_eq_zero hs;have hpr:=FFld.prime_least hp2 hd hno.out;have HPR:=Km hpr;have HD:=Km hd;have ez:(((0:Nat):Int)!=0)=false:=rfl;clear hs hd hpr hno;go_wp2
    go_loopw [5,6] (fun kv nv wr=> ∃ (k n:Nat),1<=n/\n<=65536/\k<=16/\kv= .int .i64 k/\nv= .int .i64 n/\Kept (n*p ^ k=n0)/\w.alloc rzbox=wr) (fun _ nv _=>(intOf nv).toNat)
    case atStart=>exact⟨0,n0,by omega,h6,by omega,rfl,rfl,⟨by simp⟩,rfl⟩
    case round =>
     obtain⟨k,n,hn1,hn6,hk16,rfl,rfl,hnk,rfl⟩:=hrel
     by_cases h1:1<n
     ·obtain⟨s,hs⟩:∃ s,n%p=s:=⟨_,rfl⟩;obtain⟨n',hn'⟩:∃ n',n/p=n' :=⟨_,rfl⟩;have es:(n:Int)%p=s:=by rw[<- hs];rfl
      have en:(n:Int)/p=n' :=by rw[<- hn'];rfl
      by_cases hs0:s=0
      ·subst hs0;have ez:(((0:Nat):Int)!=0)=false:=rfl;have hnn:n=p*n' :=by rw[<- hn'];exact(Nat.mul_div_cancel' (Nat.dvd_of_mod_eq_zero hs)).symm
       have hlt:n' <n:=by rw[<- hn'];exact Nat.div_lt_self (by omega) hp2
       have hn'1:1<=n' :=by
        rcases Nat.eq_zero_or_pos n' with h|h
        ·subst h;omega
        ·exact h
       have HNK:Kept (n' *p ^ (k+1)=n0):=⟨by rw[<- hnk.out,hnn,Nat.pow_succ,Nat.mul_comm p n',Nat.mul_assoc,Nat.mul_comm p]⟩
       have hk15:k+1<=16:=by
        have h3:p ^ (k+1)<=n0:=by rw[<- HNK.out];exact Nat.le_mul_of_pos_left _ hn'1
        rcases Nat.lt_or_ge 16 (k+1) with h|h
        ·have h4:2 ^ 17<=p ^ (k+1):=Nat.le_trans (Nat.pow_le_pow_right (by omega) h) (Nat.pow_le_pow_left hp2 _);rw[show(2:Nat) ^ 17=131072 from rfl] at h4;generalize p ^ (k+1)=z at*;omega
        ·exact h
       clear hs hn' hnn hnk;go_wp2;go_roundw
       case rel=>exact⟨k+1,n',hn'1,by omega,hk15,by go_num,rfl,HNK,trivial⟩
       case measure=>simp[intOf]<;>omega
      ·have ez:((s:Int)!=0)=true:=by rw[bne_iff_ne];omega
       have hnf:Kept (¬ FFld.Fit (n0:Int)):=⟨FFld.Fit.no (by rw[hnk.out]) HPR.out (by rw[hnk.out];exact HD.out) h1 (fun h=>hs0 (by rw[<- hs];exact Nat.mod_eq_zero_of_dvd h))⟩;obtain⟨f0,f1,f2,f3⟩:=four_frz HX0.out.b0;obtain⟨c0,c1,c2,c3⟩:=four_cells HX0.out.b0;clear hs hn' hnk hs0;go_wp2;exact bodyPost_ret (v:= .tuple #[rzero, .bool false]) (by simp[results,Tryz.results31,go_sem,c0,c1,c2,c3]) rfl ⟨HX0.out.1, .inr ⟨hnf.out,rfl⟩⟩
     ·obtain rfl :n=1:=by omega
      have hqk:p ^ k=n0:=by have:=hnk.out;rw[Nat.one_mul] at this;exact this
      have hk1:1<=k:=by
       rcases Nat.eq_zero_or_pos k with h|h
       ·subst h;rw[Nat.pow_zero] at hqk;omega
       ·exact h
      obtain⟨m,g,hD⟩:=FFld.FD.exists p k HPR.out hk1 (by rw[hqk];exact h6);have hq:(⟨p,k,m,g⟩:FFld.FD).q=n0:=hqk;have HQK:=Km hqk;have HDD:=Km hD;have HQQ:=Km hq;obtain⟨f0,f1,f2,f3⟩:=four_frz HX0.out.b0;clear hnk hqk hq
      by_cases hk1' :k=1
      ·subst hk1';have hm:m=p:=hD.pre.mod1 rfl;have ek:(((1:Nat):Int)==1)=true:=rfl;have HB:Kept (Bxs w [rbox n0 p 1 p] (w.alloc (rbox n0 p 1 p))):=⟨(Bxs.start w).alloc (by simp) _⟩;obtain⟨e0,e1,e2,e3⟩:=four_cells HB.out.b0;have HM:=Km hm;clear hD hm;go_wp2;exact bodyPost_ret (v:= .tuple #[rfv n0 p 1 p, .bool true]) (by simp[results,Tryz.results31,go_sem,e0,e1,e2,e3]) rfl ⟨HB.out.1, .inl ⟨_,HDD.out,by rw[HQQ.out],by rw[HQQ.out];show _=Ending.returned (.tuple #[rfv n0 p 1 m, .bool true]);rw[HM.out]⟩⟩
      ·have hk2 :2<=k:=by omega
       have ek:((k:Int)==1)=false:=by rw[beq_eq_false_iff_ne];omega
       have hpq:p ^ k<=65536:=by have:=HQK.out;omega
       have hqm:n0<=m:=by have:=(hD.pre.mod2 hk2).1;rw[HQQ.out] at this;exact this
       have hm2:m<131072:=by have:=(hD.pre.mod2 hk2).2.1;rw[HQQ.out] at this;have e:m<2*n0:=this;omega
       have hp256:p<=256:=by
        rcases Nat.lt_or_ge 256 p with h|h
        ·have h3:p ^ 2<=p ^ k:=Nat.pow_le_pow_right (by omega) hk2;have h4:=nmul_le (A:=p) (B:=p) (a:=257) (b:=257) h h;rw[Nat.pow_two] at h3;omega
        ·exact h
       have hpk1:p ^ (k+1)<=1099511627776:=by
        rw[Nat.pow_succ];exact Nat.le_trans (nmul_le (A:=65536) (B:=256) hpq hp256) (by omega)
       have hmk1:131072<=p ^ (k+1)\/2*n0<=p ^ (k+1):= .inr (by rw[Nat.pow_succ',HQK.out];exact Nat.mul_le_mul_right _ hp2)
       have hRest:=Km (fun W (c x d:Nat) (hd:1<=d) (hd2:2*d<=k) (hc:c<=m) (h1:p ^ d<=x) (h2:x<2*p ^ d)=>rrest_any c x p d (k+1) W hp2 (by omega) hd (by
        have:=(hD.pre.mod2 hk2).2.1;rw[HQQ.out] at this;have e:m<2*n0:=this;have e2:2*n0<=p ^ (k+1):=by rw[Nat.pow_succ',HQK.out];exact Nat.mul_le_mul_right _ hp2
        omega) h1 h2 hpk1 (by
        have:=Nat.pow_le_pow_right (n:=p) (by omega) (show d<=k by omega)
        omega))
       have HIS:=Km (fun(c:Nat) (h1:n0<=c) (hc:c<=m) (hi:FFld.Irr p k c)=>FFld.FD.Ok.mod_is hD hk2 (c:=c) (by rw[HQQ.out];exact h1) hc hi);have HNOT:=Km (fun(c:Nat) (hc:c<=m) (hi: ¬ FFld.Irr p k c)=>FFld.FD.Ok.mod_not hD hk2 (c:=c) hc hi);have hk17:k<=17:=by omega
       have hpd:=Km (fun(d:Nat) (hd:2*d<=k)=>show p ^ d<=256 from by
        rcases Nat.lt_or_ge 256 (p ^ d) with h|h
        ·have h3:p ^ (2*d)<=p ^ k:=Nat.pow_le_pow_right (by omega) hd;have h4:=nmul_le (A:=p ^ d) (B:=p ^ d) (a:=257) (b:=257) h h;rw[Nat.two_mul,Nat.pow_add] at h3;generalize p ^ d*p ^ d=z at*;omega
        ·exact h)
       have hk16' :=hk16;clear hD hmk1 hpk1 hpq;go_wp2
       go_loopw [7] (fun mv wr=> ∃ (c:Nat),n0<=c/\c<=m/\mv= .int .i64 c/\Kept (Bxs w [rzbox] wr)) (fun mv _=>m-(intOf mv).toNat)
       case atStart=>exact⟨n0,Nat.le_refl _,hqm,rfl,HX0⟩
       case round=>
        obtain⟨c,hc0,hcm,rfl,hbx⟩:=hrel;go_wp2
        go_loopw [8,9,10] (fun ov fv dv wr=> ∃ (ok:Bool) (f d:Nat),ov= .bool ok/\fv= .int .i64 f/\dv= .int .i64 d/\1<=d/\d<=17/\f<=65536/\Kept (ok=true->f=p ^ d)/\Kept (FFld.DvAt_ p k c d f ok)/\Kept (Bxs w [rzbox] wr)) (fun _ _ dv _=>18-(intOf dv).toNat)
        case atStart=>exact⟨true,p,1,rfl,rfl,rfl,Nat.le_refl _,by omega,by omega,⟨fun _=>(Nat.pow_one p).symm⟩,⟨by have:=FFld.DvAt_.start p k c;rw[Nat.pow_one] at this;exact this⟩,hbx⟩
        case round=>
         obtain⟨ok,f,d,rfl,rfl,rfl,hd1,hd17,hf6,hfp,hat,hbx⟩:=hrel
         cases ok with
         | false=>
           have hN:=HNOT.out c hcm hat.out
           by_cases hlt:2*d<=k
           ·go_wp2;go_roundw
            case rel=>exact⟨c+1,by omega,hN,by go_num,hbx⟩
            case measure=>simp[intOf]<;>omega
           ·go_wp2;go_roundw
            case rel=>exact⟨c+1,by omega,hN,by go_num,hbx⟩
            case measure=>simp[intOf]<;>omega
         | true =>
           have hfe:=hfp.out rfl
           by_cases hlt:2*d<=k
           ·have hf256:f<=256:=by rw[hfe];exact hpd.out d hlt
            have HFE:=Km hfe;obtain⟨f',hf'⟩:∃ f',f*p=f' :=⟨_,rfl⟩;have hf'e:f' =p ^ (d+1):=by rw[<- hf',hfe,Nat.pow_succ]
            have hf'6:f' <=65536:=by
             rw[hf'e];exact Nat.le_trans (Nat.pow_le_pow_right (by omega) (show d+1<=k by omega)) (by rw[HQK.out];exact h6)
            have ef:wrap64 ((f:Int)*p)=f' :=wmul hf' (by omega);have HF' :=Km hf'e;clear hfe hf' hf'e;go_wp2
            go_loopw [8,11] (fun ov xv wr=> ∃ (ok:Bool) (x:Nat),ov= .bool ok/\xv= .int .i64 x/\f<=x/\x<=600/\Kept (ok=true->x<=2*f)/\Kept (FFld.DvAt_ p k c d x ok)/\Kept (Bxs w [rzbox] wr)) (fun _ xv _=>601-(intOf xv).toNat)
            case atStart=>exact⟨true,f,rfl,rfl,Nat.le_refl _,by omega,⟨fun _=>by omega⟩,hat,hbx⟩
            case round=>
             obtain⟨ok,x,rfl,rfl,hfx,hx6,hx2,hat,hbx⟩:=hrel
             cases ok with
             | false=>
               by_cases hxl:x<2*f
               ·go_wp2;go_roundw
                case rel=>exact⟨false,f',d+1,rfl,congrArg (Value.int .i64) ef,by go_num,by omega,by omega,hf'6,⟨fun h=>by cases h⟩,hat,hbx⟩
                case measure=>simp[intOf]<;>omega
               ·go_wp2;go_roundw
                case rel=>exact⟨false,f',d+1,rfl,congrArg (Value.int .i64) ef,by go_num,by omega,by omega,hf'6,⟨fun h=>by cases h⟩,hat,hbx⟩
                case measure=>simp[intOf]<;>omega
             | true=>
               have hx2' :=hx2.out rfl
               by_cases hxl:x<2*f
               ·obtain⟨v,hv⟩:∃ v,FFld.pmul p d x 1 (k+1) c=v:=⟨_,rfl⟩;have hC:=Km (fun W=>hRest.out W c x d hd1 hlt hcm (by rw[<- HFE.out];exact hfx) (by rw[<- HFE.out];exact hxl));rw[hv] at hC
                by_cases hv0:v=0
                ·subst hv0;have HD2:=Km (FFld.DvAt_.fail hd1 hlt (by rw[<- HFE.out];exact hfx) (by rw[<- HFE.out];exact hxl) hv (x+1));have ev:(((0:Nat):Int)!=0)=false:=rfl;clear hv;go_wp2_with fail;refine(hC.out _).mono ?_;rintro e w3 ⟨hb3,rfl⟩;have HX3:=Km (hbx.out.below hb3);clear hb3;go_wp2;go_roundw
                 case rel=>exact⟨false,x+1,rfl,by go_num,by omega,by omega,⟨fun h=>by cases h⟩,HD2,HX3⟩
                 case measure=>simp[intOf]<;>omega
                ·have HD2:=Km (hat.out.next (by rw[hv];exact hv0));have ev:((v:Int)!=0)=true:=by rw[bne_iff_ne];omega
                 clear hv hv0;go_wp2_with fail;refine(hC.out _).mono ?_;rintro e w3 ⟨hb3,rfl⟩;have HX3:=Km (hbx.out.below hb3);clear hb3;go_wp2;go_roundw
                 case rel=>exact⟨true,x+1,rfl,by go_num,by omega,by omega,⟨fun _=>by omega⟩,HD2,HX3⟩
                 case measure=>simp[intOf]<;>omega
               ·obtain rfl:x=2*f:=by omega
                have HD2:Kept (FFld.DvAt_ p k c (d+1) (p ^ (d+1)) true):=⟨by have:=hat.out;rw[HFE.out] at this;exact this.row⟩;rw[<- HF'.out] at HD2;go_wp2;go_roundw
                case rel=>exact⟨true,f',d+1,rfl,congrArg (Value.int .i64) ef,by go_num,by omega,by omega,hf'6,⟨fun _=>HF'.out⟩,HD2,hbx⟩
                case measure=>simp[intOf]<;>omega
           ·have hI:=HIS.out c hc0 hcm (hat.out.done (by omega));obtain⟨f0,f1,f2,f3⟩:=four_frz hbx.out.b0;obtain⟨c0,c1,c2,c3⟩:=four_cells hbx.out.b0;obtain⟨hb,e0,e1,e2,e3⟩:=four_end hbx.out.b0 hbx.out.1 (Nat.le_refl _) (.int .i64 n0) (.int .i64 p) (.int .i64 k) (.int .i64 c);have HB:=Km hb;have HI:=Km hI;clear hb hI hfe;go_wp2;exact bodyPost_ret (v:= .tuple #[rfv n0 p k c, .bool true]) (by simp[results,Tryz.results31,go_sem,e0,e1,e2,e3]) rfl ⟨HB.out, .inl ⟨_,HDD.out,by rw[HQQ.out],by rw[HQQ.out];show _=Ending.returned (.tuple #[rfv n0 p k m, .bool true]);rw[HI.out]⟩⟩
   ·have hlt:p+1<=n0:=by
     rcases Nat.lt_or_ge p n0 with h|h
     ·exact h
     ·have:p=n0:=by omega
      subst this;rw[Nat.mod_self] at hs;omega
    have HNO:=Km (show ∀ i,2<=i->i<p+1-> ¬ i∣n0 from fun i h1 h2 hdv=>by
     by_cases e:i=p
     ·subst e;rw[Nat.mod_eq_zero_of_dvd hdv] at hs;omega
     ·exact hno.out i h1 (by omega) hdv)
    have ez:((s:Int)!=0)=true:=by rw[bne_iff_ne];omega
    clear hs hs0;go_wp2;go_roundw
    case rel=>exact⟨p+1,by omega,hlt,by go_num,HNO,trivial⟩
    case measure=>simp[intOf]<;>omega
 ·have hnf:Kept (¬ FFld.Fit q):=⟨fun h=>hin h.range⟩;obtain⟨f0,f1,f2,f3⟩:=four_frz HX0.out.b0;obtain⟨c0,c1,c2,c3⟩:=four_cells HX0.out.b0;have htest:q<2\/(¬ q<2/\65536<q):=by omega
  clear hin
  go_enter Tryz.func31,Tryz.ntmps31
  rcases htest with h|⟨h,h'⟩
  all_goals
   go_wp2;exact bodyPost_ret (v:= .tuple #[rzero, .bool false]) (by simp[results,Tryz.results31,go_sem,c0,c1,c2,c3]) rfl ⟨HX0.out.1, .inr ⟨hnf.out,rfl⟩⟩
end
section
open Go Go.RowKit Go.Deep
open FFld (ints)
def SoRet (most:Int)(w:World)(e:Ending)(w' :World):Prop:=Below w.heap.size w w' /\ ∃ (D:FFld.FD) (b:Nat),D.Ok/\((D.q:Int)<=most\/D.q<=27)/\w.heap.size<=b/\FldB D w' b/\e= .returned (.tuple #[.pointer (some ⟨b,0,none⟩),rfv D.q D.p D.k D.m])
def smL:List Nat:= [2,3,4,5,7,8,9,11,13,16,25,27]
theorem Row.grown {E:TypeId}{K:IntKind}{w w' :World}{g k:Nat}{xs:List Int}(h:Row E K w g xs)(hg:w.grownBy w' (some k))(hne:g≠k):Row E K w' g xs:=(hg.block _ h.lt (by simpa using hne)).trans h
theorem md_ok {D:FFld.FD}(h:D.Ok):MdOk D.p D.k D.m:=⟨h.pre.mod1,fun hk=>⟨(h.pre.mod2 hk).1,(h.pre.mod2 hk).2.1⟩⟩
end
section
open Go Go.RowKit Go.Deep
open FFld (ints)
namespace FFld
end FFld
section
variable {D : FFld.FD} {b : Nat} {W : World}
end
end
section
open Go Go.RowKit Go.Deep
def headIs (n:Nat):Code->Bool
 | .region m _ _=>Nat.beq m n
 | .seq a _=>headIs n a
 |_=>false
def seqAt (n:Nat):Code->Code
 | .seq a b=>match headIs n a with
   |true=> .seq a b
   |false=>seqAt n b
 | .scope c=>seqAt n c
 | .block _ c=>seqAt n c
 |c=>c
def fstOf:Code->Code
 | .seq a _=>a
 |c=>c
def sndOf:Code->Code
 | .seq _ b=>b
 |c=>c
def loopOf:Code->Code
 | .loop c=>c
 | .seq _ b=>loopOf b
 | .block _ c=>loopOf c
 |c=>c
end
section
open Go Go.RowKit
abbrev BW:Int:=18446744073709551616
theorem wfD {xs:List Int}(h:Dg.Wf BW xs)(i:Nat):0<=xs[i]?.getD 0/\xs[i]?.getD 0<18446744073709551616:=h.getD (by decide) i
theorem info_u64:(Tryz.prog.info? 165).map (fun i=>(i.zero,i.size,i.bytes))=some (some (.int .u64 0),1,8):=by kernel_rfl
theorem add64 (x y c:Int)(hx:0<=x)(hx1:x<18446744073709551616)(hy:0<=y)(hy1:y<18446744073709551616)(hc0:0<=c)(hc:c<=1):
 ∃ s k:Int,(∀ w:World,(callFunc 238 #[.int .u64 x, .int .u64 y, .int .u64 c]).run Tryz.prog w= .ok (.value (.tuple #[.int .u64 s, .int .u64 k])) w)/\
   0<=s/\s<18446744073709551616/\0<=k/\k<=1/\x+y+c=s+18446744073709551616*k:=by
 refine⟨(x+y+c)%18446744073709551616,(x+y+c)/18446744073709551616,fun w=> ?_,by omega,by omega,by omega,by omega,by omega⟩;rw[run_callFunc_extern Tryz.func238 (by kernel_rfl) (by kernel_rfl) (by kernel_rfl) (e:=add64Entry) (by kernel_rfl),run_add64 x y c hx hy hc0 hc];rfl
def sub64Entry:Array Value->Sem Value:=fun args=>do
 let (x,y,b) <- Extern.MathBitsCarry.three "Sub64" args
 pure (Extern.MathBitsCarry.pair ((x+Extern.MathBitsCarry.m64-y-b)%Extern.MathBitsCarry.m64) (if x<y+b then 1 else 0))
theorem run_sub64 {P:Program}(x y b:Nat)(hb:b<=1)(w:World):
 (sub64Entry #[.int .u64 x, .int .u64 y, .int .u64 b]).run P w=
   .ok (.tuple #[.int .u64 (((x+18446744073709551616-y-b)%18446744073709551616:Nat):Int), .int .u64 ((if x<y+b then 1 else 0:Nat):Int)]) w:=by
 have:b=0\/b=1:=by omega
 rcases this with rfl|rfl<;>rfl
theorem sub64 (x y c:Int)(hx:0<=x)(hx1:x<18446744073709551616)(hy:0<=y)(hy1:y<18446744073709551616)(hc0:0<=c)(hc:c<=1):
 ∃ s k:Int,(∀ w:World,(callFunc 240 #[.int .u64 x, .int .u64 y, .int .u64 c]).run Tryz.prog w= .ok (.value (.tuple #[.int .u64 s, .int .u64 k])) w)/\
   0<=s/\s<18446744073709551616/\0<=k/\k<=1/\x-y-c=s-18446744073709551616*k:=by
 obtain⟨x,rfl⟩:=Int.eq_ofNat_of_zero_le hx;obtain⟨y,rfl⟩:=Int.eq_ofNat_of_zero_le hy;obtain⟨c,rfl⟩:=Int.eq_ofNat_of_zero_le hc0;refine⟨((x+18446744073709551616-y-c)%18446744073709551616:Nat),((if x<y+c then 1 else 0:Nat):Int),fun w=> ?_,by omega,by omega,by split<;>omega,by split<;>omega,by split<;>omega⟩;rw[run_callFunc_extern Tryz.func240 (by kernel_rfl) (by kernel_rfl) (by kernel_rfl) (e:=sub64Entry) (by kernel_rfl),run_sub64 x y c (by omega)];rfl
theorem wordAt_in (b o n cap:Nat)(k:Nat)(x:Int)(w:World)(hk:k<n)(hc:w.cell? ⟨b,o+k,none⟩=some (.int .u64 x)):
 Calls Tryz.prog 239 #[.slice (some ⟨b,o,none⟩) n cap, .int .i64 k] w fun e w' =>e= .returned (.int .u64 x)/\w=w' :=by
 go_enter Tryz.func239,Tryz.ntmps239
 go_wp2
 go_ret
 exact⟨rfl,rfl⟩
theorem wordAt_out (ao:Option Addr)(n cap:Nat)(k:Nat)(w:World)(hk:n<=k):
 Calls Tryz.prog 239 #[.slice ao n cap, .int .i64 k] w fun e w' =>e= .returned (.int .u64 0)/\w=w' :=by
 go_enter Tryz.func239,Tryz.ntmps239
 go_wp2
 go_ret
 exact⟨rfl,rfl⟩
theorem wordAt_any {v:Value}{xs:List Int}{w:World}(h:Sl .u64 w v xs)(k:Nat)(x:Int)(hx:Hid (x=xs[k]?.getD 0)):
 Calls Tryz.prog 239 #[v, .int .i64 k] w fun e w' =>e= .returned (.int .u64 x)/\w=w' :=by
 obtain⟨ao,cap,rfl,hcap,hmax,hc⟩:=h
 by_cases hk:k<xs.length
 ·obtain⟨b,o,rfl,hb,hcell⟩:=hc k hk;rw[<- hx.out] at hcell;exact wordAt_in b o _ cap k x w hk hcell
 ·have:x=0:=by rw[hx.out];simp[hk]
  subst this;exact wordAt_out ao _ cap k w (by omega)
theorem Sl.cut_of {K:IntKind}{w:World}{ao:Option Addr}{xs:List Int}{k:Nat}(hk:k<=xs.length)(hm:xs.length<=maxLen)
 (hx:∀ i,i<xs.length-> ∃ b o,ao=some ⟨b,o,none⟩/\b<w.heap.size/\w.cell? ⟨b,o+i,none⟩=some (.int K (xs[i]?.getD 0))):Sl K w (.slice ao k k) (xs.take k):=by
 refine⟨ao,k,by simp[Nat.min_eq_left hk],by simp[Nat.min_eq_left hk],Nat.le_trans hk hm,fun i hi=> ?_⟩;have hi' :i<k:=by simpa[Nat.min_eq_left hk] using hi
 obtain⟨b,o,e,hl,hcell⟩:=hx i (by omega);exact⟨b,o,e,hl,by rw[hcell,List.getElem?_take,if_pos hi']⟩
theorem cut_any (v:Value)(xs:List Int)(w:World)(h:Sl .u64 w v xs):
 Calls Tryz.prog 196 #[v] w (RetSame .u64 w v (Dg.cut xs)):=by
 obtain⟨ao,cap,rfl,hcap,hmax,hc⟩:=h;have hmax' :=hmax;unfold maxLen at hmax
 go_enter Tryz.func196,Tryz.ntmps196
 go_wp2
 go_loop [3] (fun n=> ∃ k:Nat,k<=xs.length/\n= .int .i64 k/\Hid (∀ i,k<=i->xs[i]?.getD 0=0)) (fun n=>(intOf n).toNat)
 case atStart=>exact⟨xs.length,Nat.le_refl _,rfl,fun i hi=>by simp[hi]⟩
 case round=>
  obtain⟨k,hk,rfl,hz⟩:=hrel
  by_cases h0:0<k
  ·obtain⟨b,o,rfl,hb,hcell⟩:=hc (k-1) (by omega);obtain⟨k,rfl⟩:∃ j,k=j+1:=⟨k-1,by omega⟩;obtain⟨x,hx⟩:∃ x,x=xs[k]?.getD 0:=⟨_,rfl⟩;simp only[Nat.add_sub_cancel] at hcell;rw[<- hx] at hcell;have HX:=Lib.hid hx;clear hx;go_wp2
   ·have h1:(x==0)=true:=by assumption
    refine⟨⟨k,by omega,rfl,fun i hi=> ?_⟩,by simp[intOf]⟩
    by_cases e:i=k
    ·rw[e,<- HX.out];simpa using h1
    ·exact hz.out i (by omega)
   ·have h1:(x==0)=false:=by assumption
    go_ret
    refine⟨rfl,_,rfl,?_⟩;rw[Dg.cut_eq xs (k+1) hz.out (Or.inr (by simpa[<- HX.out] using h1))];exact⟨Sl.cut_of hk (Nat.le_trans hcap hmax') hc,fun k h=>h⟩
  ·obtain rfl:k=0:=by omega
   go_wp2
   go_ret
   refine⟨rfl,_,rfl,?_⟩;rw[Dg.cut_eq xs 0 hz.out (Or.inl rfl)];exact⟨Sl.nil _ _,fun k h=>by simp[Value.ownBlock] at h⟩
def Num (L:Nat)(w:World)(v:Value)(n:Int):Prop:= ∃ xs,Sl .u64 w v xs/\Dg.Wf BW xs/\Dg.Nz xs/\Dg.val BW xs=n/\xs.length<=L
def RetNum (L:Nat)(w:World)(n:Int)(e:Ending)(w' :World):Prop:=Below w.heap.size w w' /\ ∃ v',e= .returned v' /\Num L w' v' n/\Frm w.heap.size v'
theorem Num.below {L:Nat}{w w' :World}{v:Value}{n:Int}(h:Num L w v n)(hb:Below w.heap.size w w'):Num L w' v n:=
 let ⟨xs,h1,h2⟩:=h;⟨xs,h1.below hb,h2⟩
theorem Num.mono {L L' :Nat}{w:World}{v:Value}{n:Int}(h:Num L w v n)(hL:L<=L'):Num L' w v n:=
 let ⟨xs,h1,h2,h3,h4,h5⟩:=h;⟨xs,h1,h2,h3,h4,Nat.le_trans h5 hL⟩
theorem cut_num {v:Value}{xs:List Int}{w:World}(h:Sl .u64 w v xs)(hw:Dg.Wf BW xs):
 Calls Tryz.prog 196 #[v] w fun e w' => ∃ v',e= .returned v' /\w=w' /\Num xs.length w v' (Dg.val BW xs)/\ ∀ k,v'.ownBlock=some k->v.ownBlock=some k:=
 (cut_any v xs w h).mono fun e w' ⟨hw',v',he,hs,ho⟩=>⟨v',he,hw',⟨Dg.cut xs,hs,hw.cut,Dg.nz_cut xs,Dg.val_cut BW xs,Dg.cut_len xs⟩,ho⟩
def SumAt (xs ys zs:List Int)(k:Nat)(c:Int):Prop:=zs.length=xs.length+1/\Dg.Wf BW zs/\0<=c/\c<=1/\
 Dg.val BW (zs.take k)+c*BW ^ k=Dg.val BW (xs.take k)+Dg.val BW (ys.take k)/\ ∀ i,k<=i->zs[i]?.getD 0=0
theorem SumAt.start (xs ys:List Int):SumAt xs ys (List.replicate (xs.length+1) 0) 0 0:=
 ⟨by simp,Dg.Wf.zeros (by decide) _,by decide,by decide,by simp[Dg.val],fun i _=>by simp[List.getElem?_replicate];split<;>rfl⟩
theorem SumAt.next {xs ys zs:List Int}{k:Nat}{c x y s d:Int}(h:SumAt xs ys zs k c)(hk:k<xs.length)(hx:x=xs[k]?.getD 0)(hy:y=ys[k]?.getD 0)
 (s0:0<=s) (s1:s<BW) (d0:0<=d) (d1:d<=1) (he:x+y+c=s+BW*d):SumAt xs ys (zs.set k s) (k+1) d:=by
 obtain⟨hl,hw,c0,c1,hv,hz⟩:=h;refine⟨by simpa using hl,hw.set k s0 s1,d0,d1,?_,fun i hi=>by rw[List.getElem?_set_ne (by omega)];exact hz i (by omega)⟩;rw[Dg.take_set_succ zs k s (by omega),Dg.val_append,Dg.val_one,Dg.val_take_succD,Dg.val_take_succD,<- hx,<- hy,Int.pow_succ];have:(zs.take k).length=k:=by simp;omega
 rw[this];exact Dg.step_sum hv he
theorem SumAt.done {xs ys zs:List Int}{c:Int}(h:SumAt xs ys zs xs.length c)(hy:ys.length<=xs.length):
 Dg.Wf BW (zs.set xs.length c)/\Dg.val BW (zs.set xs.length c)=Dg.val BW xs+Dg.val BW ys:=by
 obtain⟨hl,hw,c0,c1,hv,hz⟩:=h;refine⟨hw.set _ c0 (by unfold BW;omega),?_⟩;rw[Dg.set_last zs _ c hl,Dg.val_append,Dg.val_one];have:(zs.take xs.length).length=xs.length:=by simp;omega
 rw[this];rw[List.take_of_length_le (Nat.le_refl _),List.take_of_length_le hy] at hv;rw[<- hv,Int.mul_comm]
theorem tquietSame {P:Program}{f:FuncId}{args:Array Value}{w:World}{n:Nat}{v:Value}
 (h:Calls P f args (w.drewN n) fun e w' =>e= .returned v/\w.drewN n=w'):Calls P f args (w.drewN n) fun e w'' =>e= .returned v/\ ∃ m,w'' =w.drewN m:=
 h.mono fun _ _ ⟨he,hm⟩=>⟨he,n,hm.symm⟩
theorem cmpInt_any (x y:Int)(w:World):
 Calls Tryz.prog 200 #[.int .i64 x, .int .i64 y] w fun e w' =>e= .returned (.int .i64 (Dg.sg x y))/\w=w' :=by
 rcases Int.lt_trichotomy x y with h|rfl|h
 ·go_enter Tryz.func200,Tryz.ntmps200
  go_wp2
  go_ret
  exact⟨by rw[Dg.sg_lt h];rfl,rfl⟩
 ·go_enter Tryz.func200,Tryz.ntmps200
  go_wp2
  go_ret
  exact⟨by rw[Dg.sg_eq];rfl,rfl⟩
 ·go_enter Tryz.func200,Tryz.ntmps200
  go_wp2
  go_ret
  exact⟨by rw[Dg.sg_gt h];rfl,rfl⟩
theorem cmpWord_any (x y:Int)(w:World):
 Calls Tryz.prog 201 #[.int .u64 x, .int .u64 y] w fun e w' =>e= .returned (.int .i64 (Dg.sg x y))/\w=w' :=by
 rcases Int.lt_trichotomy x y with h|rfl|h
 ·go_enter Tryz.func201,Tryz.ntmps201
  go_wp2
  go_ret
  exact⟨by rw[Dg.sg_lt h];rfl,rfl⟩
 ·go_enter Tryz.func201,Tryz.ntmps201
  go_wp2
  go_ret
  exact⟨by rw[Dg.sg_eq];rfl,rfl⟩
 ·go_enter Tryz.func201,Tryz.ntmps201
  go_wp2
  go_ret
  exact⟨by rw[Dg.sg_gt h];rfl,rfl⟩
def RetV (w:World)(v:Value)(e:Ending)(w' :World):Prop:=Below w.heap.size w w' /\e= .returned v
theorem compare_eqlen {va vb:Value}{xs ys:List Int}{w:World}(ha:Sl .u64 w va xs)(hb:Sl .u64 w vb ys)(hwa:Dg.Wf BW xs)(hwb:Dg.Wf BW ys)(hl:ys.length=xs.length):
 Calls Tryz.prog 142 #[va,vb] w (RetV w (.int .i64 (Dg.sg (Dg.val BW xs) (Dg.val BW ys)))):=by
 obtain⟨ao,cap,rfl,hcap,hmax,hc⟩:=ha;obtain⟨bo,bcap,rfl,hbcap,hbmax,hbc⟩:=hb;unfold maxLen at hmax hbmax;rw[hl] at hbcap ⊢;have HL:=Lib.hid hl;simp only[hl] at hbc;clear hl;have hz:(Dg.sg (xs.length:Int) xs.length)=0:=Dg.sg_eq _
 go_enter Tryz.func142,Tryz.ntmps142
 go_wp2_with (go_at_call 200;refine(cmpInt_any _ _ _).mono ?_;rintro e w' ⟨rfl,rfl⟩)
 go_loopw [6] (fun i wr=> ∃ (k:Nat) (j:Int),k<=xs.length/\Hid (j+1=k)/\i= .int .i64 j/\Hid (xs.drop k=ys.drop k)/\Below w.heap.size w wr) (fun i _=>(intOf i+1).toNat)
 case atStart=>exact⟨xs.length,_,Nat.le_refl _,by show _-(1:Int)+1=_;omega,rfl,by show xs.drop xs.length=ys.drop xs.length;rw[<- HL.out];simp[HL.out],Below.refl _ _⟩
 case round=>
  obtain⟨k,j,hk,hj,rfl,hd,hbl⟩:=hrel
  by_cases h0:0<k
  ·obtain⟨k,rfl⟩:∃ j,k=j+1:=⟨k-1,by omega⟩;obtain rfl:j=(k:Int):=by have:=hj.out;omega
   clear hj;obtain⟨b,o,rfl,hbs,hcell⟩:=hc k (by omega);obtain⟨b',o',rfl,hbs',hcell'⟩:=hbc k (by omega);obtain⟨x,hx⟩:∃ x,x=xs[k]?.getD 0:=⟨_,rfl⟩;obtain⟨y,hy⟩:∃ y,y=ys[k]?.getD 0:=⟨_,rfl⟩;rw[<- hx] at hcell;rw[<- hy] at hcell';have HX:=Lib.hid hx;have HY:=Lib.hid hy;clear hx hy;have hcl:=(hbl.cell (p:=⟨b,o+k,none⟩) hbs).trans hcell;have hcl' :=(hbl.cell (p:=⟨b',o' +k,none⟩) hbs').trans hcell';clear hcell hcell' hc hbc;have hbd:∀ q,Below w.heap.size w (wr.drewN q):=fun q=>⟨hbl.os,hbl.tape,hbl.output,hbl.size,hbl.block⟩
   have hki:k<xs.length:=by omega
   rcases Int.lt_trichotomy x y with h|h|h
   ·have hs:=Dg.sg_lt h;go_wp2_with fail
    go_quiet ((go_at_call 201;exact tquietSame (cmpWord_any _ _ _)))
    go_wp2
    go_ret
    refine⟨hbd _,?_⟩;rw[Dg.sg_lt (Dg.val_lt_at (by decide) hwa hwb HL.out.symm (k:=k) (by omega) hd.out (by rw[<- HX.out,<- HY.out];exact h))]
    show Ending.returned (.int .i64 (Dg.sg x y))=_
    rw[hs]
   ·subst h;have hs:=Dg.sg_eq x;go_wp2_with fail
    go_quiet ((go_at_call 201;exact tquietSame (cmpWord_any _ _ _)))
    go_wp2;go_roundw
    case rel=>exact⟨k,(k:Int)-1,by omega,by show _-(1:Int)+1=_;omega,rfl,Dg.drop_eq_at HL.out.symm hd.out (by rw[<- HX.out,<- HY.out]),hbd _⟩
    case measure=>simp[intOf]<;>omega
   ·have hs:=Dg.sg_gt h;go_wp2_with fail
    go_quiet ((go_at_call 201;exact tquietSame (cmpWord_any _ _ _)))
    go_wp2
    go_ret
    refine⟨hbd _,?_⟩;rw[Dg.sg_gt (Dg.val_lt_at (by decide) hwb hwa HL.out (k:=k) (by have:=HL.out;omega) hd.out.symm (by rw[<- HX.out,<- HY.out];exact h))]
    show Ending.returned (.int .i64 (Dg.sg x y))=_
    rw[hs]
  ·obtain rfl:k=0:=by omega
   obtain rfl:j= -1:=by have:=hj.out;omega
   have he:xs=ys:=by simpa using hd.out
   have hs:Dg.sg (Dg.val BW xs) (Dg.val BW ys)=0:=by rw[he];exact Dg.sg_eq _
   have HS:=Lib.hid hs;clear hj hd he hs;go_wp2
   go_ret
   exact⟨hbl,by rw[HS.out];rfl⟩
theorem compare_any {va vb:Value}{xs ys:List Int}{w:World}(ha:Sl .u64 w va xs)(hb:Sl .u64 w vb ys)(hwa:Dg.Wf BW xs)(hwb:Dg.Wf BW ys)(hna:Dg.Nz xs)(hnb:Dg.Nz ys):
 Calls Tryz.prog 142 #[va,vb] w (RetV w (.int .i64 (Dg.sg (Dg.val BW xs) (Dg.val BW ys)))):=by
 rcases Nat.lt_trichotomy xs.length ys.length with h|h|h
 ·have hs:Dg.sg (xs.length:Int) ys.length= -1:=Dg.sg_lt (by omega);have hv:Dg.sg (Dg.val BW xs) (Dg.val BW ys)= -1:=Dg.sg_lt (Dg.val_lt_of_len (by decide) hwa hwb hnb h);obtain⟨ao,cap,rfl,hcap,hmax,hc⟩:=ha;obtain⟨bo,bcap,rfl,hbcap,hbmax,hbc⟩:=hb;have HV:=Lib.hid hv;clear hv
  go_enter Tryz.func142,Tryz.ntmps142
  go_wp2_with (go_at_call 200;refine(cmpInt_any _ _ _).mono ?_;rintro e w' ⟨rfl,rfl⟩)
  go_ret
  exact⟨Below.refl _ _,by rw[HV.out];rfl⟩
 ·exact compare_eqlen ha hb hwa hwb h.symm
 ·have hs:Dg.sg (xs.length:Int) ys.length=1:=Dg.sg_gt (by omega);have hv:Dg.sg (Dg.val BW xs) (Dg.val BW ys)=1:=Dg.sg_gt (Dg.val_lt_of_len (by decide) hwb hwa hna h);obtain⟨ao,cap,rfl,hcap,hmax,hc⟩:=ha;obtain⟨bo,bcap,rfl,hbcap,hbmax,hbc⟩:=hb;have HV:=Lib.hid hv;clear hv
  go_enter Tryz.func142,Tryz.ntmps142
  go_wp2_with (go_at_call 200;refine(cmpInt_any _ _ _).mono ?_;rintro e w' ⟨rfl,rfl⟩)
  go_ret
  exact⟨Below.refl _ _,by rw[HV.out];rfl⟩
theorem compare_num {La Lb:Nat}{va vb:Value}{m n:Int}{w:World}(ha:Num La w va m)(hb:Num Lb w vb n):
 Calls Tryz.prog 142 #[va,vb] w (RetV w (.int .i64 (Dg.sg m n))):=by
 obtain⟨xs,h1,h2,h3,rfl,_⟩:=ha;obtain⟨ys,k1,k2,k3,rfl,_⟩:=hb;exact compare_any h1 k1 h2 k2 h3 k3
def Two (x y:Int)(c:Int)(w:World)(e:Ending)(w' :World):Prop:= ∃ h l:Int,e= .returned (.tuple #[.int .u64 h, .int .u64 l])/\w=w' /\
 0<=h/\h<18446744073709551616/\0<=l/\l<18446744073709551616/\x*y+c=h*18446744073709551616+l
theorem mul64 (x y:Int)(w:World)(hx:0<=x)(hx1:x<18446744073709551616)(hy:0<=y)(hy1:y<18446744073709551616):
 Calls Tryz.prog 261 #[.int .u64 x, .int .u64 y] w (Two x y 0 w):=by
 obtain⟨x,rfl⟩:=Int.eq_ofNat_of_zero_le hx;obtain⟨y,rfl⟩:=Int.eq_ofNat_of_zero_le hy;refine(Go.Proofs.Tryz.bits_Mul64 x y (by omega) (by omega) w).mono fun e w' ⟨he,hw⟩=> ?_
 have hb:=Dg.mul_bound (B:=18446744073709551616) hx hx1 hy hy1;have hp:0<=(x:Int)*y:=Int.mul_nonneg hx hy;refine⟨_,_,he,hw.symm,by omega,?_,by omega,by omega,?_⟩
 ·have:(x*y:Nat)/18446744073709551616<18446744073709551616:=by
   apply Nat.div_lt_of_lt_mul
   have:((x*y:Nat):Int)=x*y:=Int.natCast_mul _ _;omega
  omega
 ·have e1:((x*y:Nat):Int)=x*y:=Int.natCast_mul _ _;have:=Nat.div_add_mod (x*y) 18446744073709551616;omega
theorem mulAdd (x y c:Int)(w:World)(hx:0<=x)(hx1:x<18446744073709551616)(hy:0<=y)(hy1:y<18446744073709551616)(hc:0<=c)(hc1:c<18446744073709551616):
 Calls Tryz.prog 259 #[.int .u64 x, .int .u64 y, .int .u64 c] w (Two x y c w):=by
 have hbd:=Dg.mul_bound (B:=18446744073709551616) hx hx1 hy hy1;have HB:=Lib.hid hbd;clear hbd
 go_enter Tryz.func259,Tryz.ntmps259
 go_wp2_with fail;refine(mul64 x y _ hx hx1 hy hy1).mono ?_;rintro e w' ⟨h,l,rfl,rfl,h0,h1,l0,l1,hv⟩;obtain⟨s,k,hadd,s0,s1,k0,k1,hs⟩:=add64 l c 0 l0 l1 hc hc1 (by omega) (by omega);have hkb:h+k<=18446744073709551615:=by have:=HB.out;omega
 have HV:=Lib.hid hv;have HS:=Lib.hid hs;clear hv hs;go_wp2
 go_ret2
 exact⟨_,_,rfl,rfl,by omega,by omega,s0,s1,by have:=HV.out;have:=HS.out;omega⟩
theorem tgrowRefl (w:World)(r:Option Nat):w.grownBy w r:=⟨rfl,rfl,rfl,Nat.le_refl _,fun _ _ _=>rfl⟩
theorem tgrowTrans {a b c:World}{r:Option Nat}(h:a.grownBy b r)(k:b.grownBy c r):a.grownBy c r:=
 ⟨k.os.trans h.os,k.tape.trans h.tape,k.output.trans h.output,Nat.le_trans h.size k.size,fun i hi hne=>(k.block i (Nat.lt_of_lt_of_le hi h.size) hne).trans (h.block i hi hne)⟩
theorem tgrowSet {w w' :World}{g:Nat}(h:w.grownBy w' (some g))(i:Nat)(v:Value):w.grownBy (w'.setCell ⟨g,i,none⟩ v) (some g):=
 tgrowTrans h ⟨rfl,rfl,rfl,by simp[World.setCell],fun k _ hk=>heap_setCell_other w' ⟨g,i,none⟩ k v (fun e=>hk (by rw[e]))⟩
theorem tgrowBelow {w w' :World}{r:Option Nat}(h:Below w.heap.size w w'):w.grownBy w' r:=⟨h.os,h.tape,h.output,h.size,fun i hi _=>h.block i hi⟩
theorem tbelowGrow {w0 w w' :World}{g:Nat}(h:w.grownBy w' (some g))(hb:Below w0.heap.size w0 w)(hg:w0.heap.size<=g):Below w0.heap.size w0 w' :=
 hb.grown h hb.size (fun k hk=>by cases hk;exact hg)
def AmAt (M us M' :List Int)(f:Int)(k:Nat)(c:Int):Prop:=M'.length=M.length/\Dg.Wf BW M' /\0<=c/\c<18446744073709551616/\
 Dg.val BW (M'.take k)+c*BW ^ k=Dg.val BW (M.take k)+f*Dg.val BW (us.take k)/\ ∀ i,k<=i->M'[i]?.getD 0=M[i]?.getD 0
theorem AmAt.start {M:List Int}(hM:Dg.Wf BW M)(us:List Int)(f:Int):AmAt M us M f 0 0:=⟨rfl,hM,by decide,by decide,by simp[Dg.val],fun _ _=>rfl⟩
theorem AmAt.next {M us M' :List Int}{f:Int}{k:Nat}{c x m h l s d:Int}(H:AmAt M us M' f k c)(hk:k<M.length)(hx:x=us[k]?.getD 0)(hm:m=M'[k]?.getD 0)
 (he:x*f+c=h*18446744073709551616+l) (hs:m+l+0=s+18446744073709551616*d) (s0:0<=s) (s1:s<18446744073709551616) (d0:0<=h+d) (d1:h+d<18446744073709551616):
 AmAt M us (M'.set k s) f (k+1) (h+d):=by
 obtain⟨hl,hw,c0,c1,hv,hz⟩:=H;refine⟨by simpa using hl,hw.set k s0 s1,d0,d1,?_,fun i hi=>by rw[List.getElem?_set_ne (by omega)];exact hz i (by omega)⟩;rw[Dg.take_set_succ M' k s (by omega),Dg.val_append,Dg.val_one,Dg.val_take_succD,Dg.val_take_succD,<- hx,<- hz k (Nat.le_refl _),<- hm,Int.pow_succ];have:(M'.take k).length=k:=by simp;omega
 rw[this];exact Dg.step_mul hv he (by rw[Int.add_zero] at hs;exact hs)
theorem AmAt.done {M us M' :List Int}{f c:Int}(H:AmAt M us M' f us.length c)(hl:M.length=us.length):Dg.val BW M' +c*BW ^ us.length=Dg.val BW M+f*Dg.val BW us:=by
 obtain⟨hl',hw,c0,c1,hv,hz⟩:=H;rw[List.take_of_length_le (by omega),List.take_of_length_le (by omega),List.take_of_length_le (Nat.le_refl _)] at hv;exact hv
def AmRet (w:World)(g:Nat)(P M S us:List Int)(f:Int)(e:Ending)(w' :World):Prop:=
 ∃ (c:Int) (M' :List Int),e= .returned (.int .u64 c)/\Row 165 .u64 w' g (P++M' ++S)/\w.grownBy w' (some g)/\M'.length=M.length/\Dg.Wf BW M' /\0<=c/\c<18446744073709551616/\
   Dg.val BW M' +c*BW ^ us.length=Dg.val BW M+f*Dg.val BW us
theorem taddMultiple_any (g cap:Nat)(P M S us:List Int)(va:Value)(f:Int)(w0 w:World)(ha:Sl .u64 w0 va us)(hb0:Below w0.heap.size w0 w)(hg:w0.heap.size<=g)
 (hr:Row 165 .u64 w g (P++M++S)) (hM:M.length=us.length) (hwM:Dg.Wf BW M) (hwa:Dg.Wf BW us) (hf:0<=f) (hf1:f<18446744073709551616):
 Calls Tryz.prog 242 #[.slice (some ⟨g,P.length,none⟩) us.length cap,va, .int .u64 f] w (AmRet w g P M S us f):=by
 obtain⟨ao,acap,rfl,hcap,hmax,hc⟩:=ha;unfold maxLen at hmax;have HM:=Lib.hid hM;clear hM
 go_enter Tryz.func242,Tryz.ntmps242
 go_wp2
 go_loopw [7,15] (fun c i wr=> ∃ (k:Nat) (cv:Int) (M' :List Int),k<=us.length/\i= .int .i64 k/\c= .int .u64 cv/\Hid (AmAt M us M' f k cv)/\Row 165 .u64 wr g (P++M' ++S)/\w.grownBy wr (some g)) (fun _ i _=>us.length-(intOf i).toNat)
 case atStart=>exact⟨0,0,M,Nat.zero_le _,rfl,rfl,AmAt.start hwM us f,hr,tgrowRefl _ _⟩
 case round=>
  obtain⟨k,cv,M',hk,rfl,rfl,hat,hrr,hgr⟩:=hrel;have hz0:0<=cv:=hat.out.2.2.1;have hz1:cv<18446744073709551616:=hat.out.2.2.2.1
  by_cases hlt:k<us.length
  ·have hMl:k<M'.length:=by have:=hat.out.1;have:=HM.out;omega
   obtain⟨b,o,rfl,hbs,hcell⟩:=hc k hlt;obtain⟨x,hx⟩:∃ x,x=us[k]?.getD 0:=⟨_,rfl⟩;obtain⟨m,hm⟩:∃ m,m=M'[k]?.getD 0:=⟨_,rfl⟩;have hxb:=wfD hwa k;have hmb:=wfD hat.out.2.1 k;have hcl:=((tbelowGrow hgr hb0 hg).cell (p:=⟨b,o+k,none⟩) hbs).trans hcell;have hcz:=hrr.cell (i:=P.length+k) (by simp;omega);rw[Dg.mid_get P M' S k hMl,<- hm] at hcz;have hfz:=hrr.free (P.length+k);rw[<- hx] at hcl hxb;rw[<- hm] at hmb;have HX:=Lib.hid hx;have HMM:=Lib.hid hm;clear hx hm hcell;have hxf:=Lib.hid (Dg.mul_bound (B:=18446744073709551616) hxb.1 hxb.2 hf hf1);go_wp2_with fail;refine(mulAdd x f cv _ hxb.1 hxb.2 hf hf1 hz0 hz1).mono ?_;rintro e w' ⟨h,l,rfl,rfl,h0,h1,l0,l1,hv⟩;obtain⟨s,d,hadd,s0,s1,d0,d1,hs⟩:=add64 m l 0 hmb.1 hmb.2 l0 l1 (by omega) (by omega);have hkb:h+d<=18446744073709551615:=by have:=hxf.out;omega
   have HV:=Lib.hid hv;have HS:=Lib.hid hs;clear hv hs;go_wp2;have hrs:=hrr.set (P.length+k) s;rw[Dg.mid_set P M' S k s hMl] at hrs;go_roundw
   case rel=>exact⟨k+1,h+d,M'.set k s,by omega,by go_num,rfl,hat.out.next (by have:=HM.out;omega) HX.out HMM.out HV.out HS.out s0 s1 (by omega) (by omega),hrs,tgrowSet hgr _ _⟩
   case measure=>simp[intOf]<;>omega
  ·obtain rfl:k=us.length:=by omega
   go_wp2
   go_ret
   exact⟨_,M',rfl,hrr,hgr,hat.out.1,hat.out.2.1,hz0,hz1,hat.out.done HM.out⟩
theorem sum_core (sw:Bool)(va vb:Value)(xs ys:List Int)(w:World)(ha:Sl .u64 w va xs)(hb:Sl .u64 w vb ys)(hwa:Dg.Wf BW xs)(hwb:Dg.Wf BW ys)
 (hle:ys.length<=xs.length) (hlt:sw=true->ys.length<xs.length) (hmx:xs.length<=17000000000000):
 Calls Tryz.prog 194 (if sw then #[vb,va] else #[va,vb]) w (RetNum (xs.length+1) w (Dg.val BW xs+Dg.val BW ys)):=by
 have hb' :=hb;have ha' :=ha;obtain⟨ao,cap,rfl,hcap,hmax,hc⟩:=ha;obtain⟨bo,bcap,rfl,hbcap,hbmax,hbc⟩:=hb;unfold maxLen at hmax hbmax
 cases sw
 all_goals
  simp only[if_true,if_false,Bool.false_eq_true,forall_const] at hlt ⊢
  go_enter Tryz.func194,Tryz.ntmps194
  go_wp2_with (at_make;refine wpList_make_zeros _ rfl _ _ 96 rfl 165 .u64 Tryz.underlying96 info_u64 _ _ (xs.length+1) rfl rfl (by omega) (by omega) (by omega) ?_)
 all_goals
  intro w1 hrow hbel;go_wp2
  go_loopw [6,22] (fun c i wr=> ∃ (k:Nat) (cv:Int) (zs:List Int),k<=xs.length/\i= .int .i64 k/\c= .int .u64 cv/\Hid (SumAt xs ys zs k cv)/\Row 165 .u64 wr w.heap.size zs/\Below w.heap.size w wr) (fun _ i _=>xs.length-(intOf i).toNat)
  case atStart=>exact⟨0,0,_,Nat.zero_le _,rfl,rfl,SumAt.start xs ys,hrow,hbel⟩
  case round=>
   obtain⟨k,cv,zs,hk,rfl,rfl,hat,hr,hbl⟩:=hrel;have hzl:zs.length=xs.length+1:=hat.out.1;have hz0:0<=cv:=hat.out.2.2.1;have hz1:cv<=1:=hat.out.2.2.2.1;clear hrow hbel
   by_cases hlt' :k<xs.length
   ·obtain⟨b,o,rfl,hbs,hcell⟩:=hc k hlt';obtain⟨x,hx⟩:∃ x,x=xs[k]?.getD 0:=⟨_,rfl⟩;obtain⟨y,hy⟩:∃ y,y=ys[k]?.getD 0:=⟨_,rfl⟩;have hxb:=wfD hwa k;have hyb:=wfD hwb k;rw[<- hx] at hcell hxb;rw[<- hy] at hyb;have HX:=Lib.hid hx;have HY:=Lib.hid hy;clear hx hy;have hcl:=(hbl.cell (p:=⟨b,o+k,none⟩) hbs).trans hcell;have hsl:=hb'.below hbl;have hcz:=hr.cell (i:=k) (by omega);have hfz:=hr.free k;obtain⟨s,d,hadd,hs0,hs1,hd0,hd1,hsd⟩:=add64 x y cv hxb.1 hxb.2 hyb.1 hyb.2 hz0 hz1;have HSD:=Lib.hid hsd;clear hsd hcell
    go_wp2_with (go_at_call 239;refine(wordAt_any hsl k y HY).mono ?_;rintro e w' ⟨rfl,rfl⟩)
    go_roundw
    case rel=>exact⟨k+1,d,zs.set k s,by omega,by go_num,rfl,hat.out.next hlt' HX.out HY.out hs0 hs1 hd0 hd1 HSD.out,hr.set k s,hbl.setCell (Nat.le_refl _) _⟩
    case measure=>simp[intOf]<;>omega
   ·obtain rfl:k=xs.length:=by omega
    have hcz:=hr.cell (i:=xs.length) (by omega);have hfz:=hr.free xs.length;obtain⟨hdw,hdv⟩:=hat.out.done hle;have hrs:=hr.set xs.length cv;have hlen:(zs.set xs.length cv).length=xs.length+1:=by simpa using hzl
    have hSl:=hrs.slAll (n:=xs.length+1) (cap:=xs.length+1) hlen.symm (Nat.le_refl _) (by unfold maxLen;omega);have hbl2:Below w.heap.size w (wr.setCell ⟨w.heap.size,xs.length,none⟩ (.int .u64 cv)):=hbl.setCell (Nat.le_refl _) _;have HL:=Lib.hid hlen;have HV:=Lib.hid hdv;clear hlen hdv hat hzl
    go_wp2_with (go_at_call 196;refine(cut_num hSl hdw).mono ?_;rintro e w' ⟨v',rfl,rfl,hn,hob⟩;have HOB:=Lib.hid hob;clear hob)
    go_ret
    rw[HV.out,HL.out] at hn;exact⟨hbl2,_,rfl,hn,(Frm.mk (Nat.le_refl _)).of HOB.out⟩
end
end Go.Proofs.YtdnheaafcbihbaaGreat
