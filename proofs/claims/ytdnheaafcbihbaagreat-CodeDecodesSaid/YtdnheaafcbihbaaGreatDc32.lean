/-
  Texts of the proof, merged by program: Rdp Eqa Apf.
-/
import Derived.Test.YtdnheaafcbihbaaGreatDc31
set_option linter.unusedSectionVars false
set_option linter.unusedSimpArgs false
set_option linter.unusedVariables false
set_option maxHeartbeats 16000000
namespace Go.Proofs.YtdnheaafcbihbaaGreat
section
open Go Go.RowKit Go.Deep
open FFld (ints)
namespace FFld
theorem sm_split {α:Type}(F:Dom α)(f:Nat->α)(m:Nat):∀ n,F.sm f (m+n)=F.add (F.sm f m) (F.sm (fun i=>f (m+i)) n)
 | 0=>by
   show F.sm f m=F.add (F.sm f m) F.zero
   rw[F.add_zero]
 | n+1=>by
   show F.add (F.sm f (m+n)) (f (m+n))=F.add (F.sm f m) (F.add (F.sm (fun i=>f (m+i)) n) (f (m+n)))
   rw[sm_split F f m n,F.add_assoc]
section
variable {D : FD}
def dcRow (hk:PK D.p D.k D.m)(a b d k:Nat):List Nat:=(List.range (d+k)).map (fun c=>ppow hk a c)++(List.range d).map (fun c=>pscl D.p D.k (D.p-1) (pmul D.p D.k D.m b D.k (ppow hk a c)))
theorem dcRow_len (hk:PK D.p D.k D.m)(a b d k:Nat):(dcRow hk a b d k).length=d+k+d:=by simp[dcRow]
theorem dcRow_lt (hk:PK D.p D.k D.m)(a b d k:Nat):∀ x∈dcRow hk a b d k,x<D.p ^ D.k:=fun x hx=>by
 rcases List.mem_append.1 hx with h|h
 ·obtain⟨c,_,rfl⟩:=List.mem_map.1 h;exact ppow_lt _ _ _
 ·obtain⟨c,_,rfl⟩:=List.mem_map.1 h;exact pscl_lt hk _ _
theorem dcRow_l (hk:PK D.p D.k D.m)(a b d k:Nat){c:Nat}(hc:c<d+k):(dcRow hk a b d k)[c]?.getD 0=ppow hk a c:=by
 unfold dcRow;rw[List.getElem?_append_left (by simpa using hc),List.getElem?_map,List.getElem?_range hc];rfl
theorem dcRow_r (hk:PK D.p D.k D.m)(a b d k:Nat){c:Nat}(hc:c<d):(dcRow hk a b d k)[d+k+c]?.getD 0=pscl D.p D.k (D.p-1) (pmul D.p D.k D.m b D.k (ppow hk a c)):=by
 unfold dcRow;rw[List.getElem?_append_right (by simp),List.getElem?_map];have e:d+k+c-(List.map (fun c=>ppow hk a c) (List.range (d+k))).length=c:=by simp
 rw[e,List.getElem?_range hc];rfl
def dcM (hk:PK D.p D.k D.m)(P W:List Nat)(d k n:Nat):List (List Nat):=(List.range n).map fun j=>dcRow hk (P[j]?.getD 0) (W[j]?.getD 0) d k
def dcB (hk:PK D.p D.k D.m)(P W:List Nat)(d n:Nat):List Nat:=(List.range n).map fun j=>pmul D.p D.k D.m (W[j]?.getD 0) D.k (ppow hk (P[j]?.getD 0) d)
theorem dcM_len (hk:PK D.p D.k D.m)(P W:List Nat)(d k n:Nat):(dcM hk P W d k n).length=n:=by simp[dcM]
theorem dcB_len (hk:PK D.p D.k D.m)(P W:List Nat)(d n:Nat):(dcB hk P W d n).length=n:=by simp[dcB]
theorem dcM_wf (hk:PK D.p D.k D.m)(P W:List Nat)(d k n:Nat):Wfm D (d+k+d) (dcM hk P W d k n):=fun r hr=>by
 obtain⟨j,_,rfl⟩:=List.mem_map.1 hr;exact⟨dcRow_len _ _ _ _ _,dcRow_lt _ _ _ _ _⟩
theorem dcB_lt (hk:PK D.p D.k D.m)(P W:List Nat)(d n:Nat):∀ a∈dcB hk P W d n,a<D.p ^ D.k:=fun a ha=>by
 obtain⟨j,_,rfl⟩:=List.mem_map.1 ha;exact pmul_lt hk _ _ _
theorem dc_wide (hk:PK D.p D.k D.m)(P W:List Nat)(d k n:Nat){j:Nat}(hj:j<n):rowAt (wideM (dcM hk P W d k n) (dcB hk P W d n) n) j=dcRow hk (P[j]?.getD 0) (W[j]?.getD 0) d k++ [pmul D.p D.k D.m (W[j]?.getD 0) D.k (ppow hk (P[j]?.getD 0) d)]:=by
 rw[wide_row _ _ hj];unfold wideR rowAt dcM dcB;rw[List.getElem?_map,List.getElem?_map,List.getElem?_range hj];rfl
theorem dc_cell (hk:PK D.p D.k D.m)(P W:List Nat)(d k n:Nat){j c:Nat}(hj:j<n)(hc:c<d+k+d):cellAt (wideM (dcM hk P W d k n) (dcB hk P W d n) n) j c=(dcRow hk (P[j]?.getD 0) (W[j]?.getD 0) d k)[c]?.getD 0:=by
 unfold cellAt;rw[dc_wide hk P W d k n hj,List.getElem?_append_left (by rw[dcRow_len];exact hc)]
theorem dc_last (hk:PK D.p D.k D.m)(P W:List Nat)(d k n:Nat){j:Nat}(hj:j<n):cellAt (wideM (dcM hk P W d k n) (dcB hk P W d n) n) j (d+k+d)=pmul D.p D.k D.m (W[j]?.getD 0) D.k (ppow hk (P[j]?.getD 0) d):=by
 unfold cellAt;rw[dc_wide hk P W d k n hj,List.getElem?_append_right (by rw[dcRow_len];exact Nat.le_refl _),dcRow_len,Nat.sub_self];rfl
theorem dc_eok (hk:PK D.p D.k D.m)(P W:List Nat)(d k n:Nat):EOk D (d+k+d+1) 0 n ⟨wideM (dcM hk P W d k n) (dcB hk P W d n) n,List.replicate n [],[]⟩:=
 ⟨wide_len _ _ _,by simp,wide_wf hk (dcM_wf hk P W d k n) (dcM_len _ _ _ _ _ _) (dcB_lt hk P W d n),fun r hr=>by rw[List.eq_of_mem_replicate hr];simp,by simp⟩
end
section
variable {D : FD} (hD : D.Ok)
theorem toE_pow' {a:Nat}(ha:a<D.p ^ D.k)(n:Nat):toE hD.pre.pk (ppow hD.pre.pk a n)=(FD.dom hD.nzd).pow (toE hD.pre.pk a) n:=by
 have e:toE hD.pre.pk a=⟨a,ha⟩:=dif_pos ha
 apply Subtype.ext
 rw[toE_val _ (ppow_lt _ _ _),dom_pow hD.nzd,ppow_of _ _ _ ha,e]
theorem dc_row {x:List Nat}{a b d k:Nat}(ha:a<D.p ^ D.k)(hb:b<D.p ^ D.k)(hl:x.length=d+k+d):
 (FD.dom hD.nzd).sm (fun c=>(FD.dom hD.nzd).mul (toE hD.pre.pk ((dcRow hD.pre.pk a b d k)[c]?.getD 0)) (toE hD.pre.pk (x[c]?.getD 0))) (d+k+d)=(FD.dom hD.nzd).mul (toE hD.pre.pk b) ((FD.dom hD.nzd).pow (toE hD.pre.pk a) d)↔
 evE hD (x.take (d+k)) (toE hD.pre.pk a)=(FD.dom hD.nzd).mul (toE hD.pre.pk b) (evE hD (x.drop (d+k)++ [1]) (toE hD.pre.pk a)):=by
 have hk:=hD.pre.pk
 have h1:(FD.dom hD.nzd).sm (fun c=>(FD.dom hD.nzd).mul (toE hD.pre.pk ((dcRow hD.pre.pk a b d k)[c]?.getD 0)) (toE hD.pre.pk (x[c]?.getD 0))) (d+k)=evE hD (x.take (d+k)) (toE hD.pre.pk a):=by
  rw[evE_sum hD _ _ (n:=d+k) (by simp;omega)];refine(FD.dom hD.nzd).sm_congr _ fun c hc=> ?_
  unfold cfE;rw[dcRow_l _ _ _ _ _ hc,toE_pow' hD ha,(FD.dom hD.nzd).mul_comm,take_getD hc]
 have h2:(FD.dom hD.nzd).sm (fun c=>(FD.dom hD.nzd).mul (toE hD.pre.pk ((dcRow hD.pre.pk a b d k)[d+k+c]?.getD 0)) (toE hD.pre.pk (x[d+k+c]?.getD 0))) d=(FD.dom hD.nzd).mul ((FD.dom hD.nzd).neg (toE hD.pre.pk b)) (evE hD (x.drop (d+k)) (toE hD.pre.pk a)):=by
  rw[evE_sum hD _ _ (n:=d) (by simp;omega),<- (FD.dom hD.nzd).sm_mul];refine(FD.dom hD.nzd).sm_congr _ fun c hc=> ?_
  unfold cfE;rw[dcRow_r _ _ _ _ _ hc,toE_neg hD (pmul_lt hk _ _ _),toE_mul hD hb (ppow_lt _ _ _),toE_pow' hD ha,List.getElem?_drop];generalize toE hD.pre.pk b=β;generalize(FD.dom hD.nzd).pow (toE hD.pre.pk a) c=π;generalize toE hD.pre.pk (x[d+k+c]?.getD 0)=ξ;rw[<- Dom.neg_mul,Dom.mul_assoc,(FD.dom hD.nzd).mul_comm π ξ]
 have h3:evE hD (x.drop (d+k)++ [1]) (toE hD.pre.pk a)=(FD.dom hD.nzd).add (evE hD (x.drop (d+k)) (toE hD.pre.pk a)) ((FD.dom hD.nzd).pow (toE hD.pre.pk a) d):=by
  unfold evE;rw[List.map_append,List.map_cons,List.map_nil,Dom.eval_snoc,toE_one hD,Dom.one_mul,List.length_map,List.length_drop,hl,show d+k+d-(d+k)=d by omega]
 rw[sm_split,h1,h2,h3];generalize evE hD (x.take (d+k)) (toE hD.pre.pk a)=Q;generalize evE hD (x.drop (d+k)) (toE hD.pre.pk a)=E;generalize toE hD.pre.pk b=β;generalize(FD.dom hD.nzd).pow (toE hD.pre.pk a) d=π;rw[Dom.neg_mul,(FD.dom hD.nzd).mul_add];generalize(FD.dom hD.nzd).mul β E=y;generalize(FD.dom hD.nzd).mul β π=z;constructor
 ·intro h;rw[<- h,(FD.dom hD.nzd).add_comm Q,<- (FD.dom hD.nzd).add_assoc,(FD.dom hD.nzd).add_neg,Dom.zero_add]
 ·intro h;rw[h,(FD.dom hD.nzd).add_comm y z,(FD.dom hD.nzd).add_assoc,(FD.dom hD.nzd).add_neg,(FD.dom hD.nzd).add_zero]
theorem thV_top {D:FD}(hD:D.Ok)(xs:List Nat):∀ i,(thV D xs i)[i]?.getD 0=1
 |0=>rfl
 | i+1=>by
   have hk:=hD.pre.pk;have hl:=lin_lt (D:=D) hk (xs[i]?.getD 0);have h1:=serL_mulL hD (thV_lt hk xs i) hl;have hs1:=serL_sh hD (thV D xs i);have hs2:=serL_sh hD [pscl D.p D.k (D.p-1) (xs[i]?.getD 0),1];rw[thV_len] at hs1;have h2:=(FD.dom hD.nzd).top_mul (m:=i) (n:=1) hs1 hs2;rw[<- h1] at h2;have h3:toE hD.pre.pk ((thV D xs (i+1))[i+1]?.getD 0)=(FD.dom hD.nzd).mul (toE hD.pre.pk ((thV D xs i)[i]?.getD 0)) (toE hD.pre.pk 1):=h2;rw[thV_top hD xs i,toE_one hD,Dom.one_mul,<- toE_one hD] at h3;exact toE_inj hk (getD_lt (Nat.pow_pos hk.p0) (thV_lt hk xs (i+1)) _) hk.one_lt h3
end
end FFld
def difL (xs ys:List Int)(n:Nat):List Nat:=(List.range n).filter fun j=>decide (xs[j]?.getD 0≠ys[j]?.getD 0)
theorem difL_len (xs ys:List Int):∀ n,(difL xs ys n).length=disF xs ys n
 |0=>rfl
 | n+1=>by
   have ih:=difL_len xs ys n;unfold difL at ih ⊢;rw[List.range_succ,List.filter_append,List.filter_cons,List.filter_nil,disF,List.length_append]
   by_cases h:xs[n]?.getD 0=ys[n]?.getD 0
   ·rw[if_neg (by simpa using h),if_pos h];simp only[List.length_nil];omega
   ·rw[if_pos (decide_eq_true h),if_neg h];simp only[List.length_cons,List.length_nil];omega
theorem difL_mem {xs ys:List Int}{n j:Nat} :j∈difL xs ys n↔j<n/\xs[j]?.getD 0≠ys[j]?.getD 0:=by
 unfold difL;rw[List.mem_filter,List.mem_range];simp
section
variable {D : FFld.FD} (hD : D.Ok) {P W : List Nat} {n d k : Nat} (lP : P.length = n) (lW : W.length = n) (hP : ∀ a ∈ P, a < D.p ^ D.k) (hW : ∀ a ∈ W, a < D.p ^ D.k)
def DcSol (x:List Nat):Prop:=x.length=d+k+d/\(∀ a∈x,a<D.p ^ D.k)/\ ∀ j,j<n->FFld.evE hD (x.take (d+k)) (FFld.plE hD P j)=(FFld.FD.dom hD.nzd).mul (FFld.plE hD W j) (FFld.evE hD (x.drop (d+k)++ [1]) (FFld.plE hD P j))
include hP hW
theorem dcSol_eqs {x:List Nat}(hl:x.length=d+k+d):(∀ j,j<n->FFld.evE hD (x.take (d+k)) (FFld.plE hD P j)=(FFld.FD.dom hD.nzd).mul (FFld.plE hD W j) (FFld.evE hD (x.drop (d+k)++ [1]) (FFld.plE hD P j)))↔
 ∀ j,j<n->(FFld.FD.dom hD.nzd).sm (fun c=>(FFld.FD.dom hD.nzd).mul (FFld.toE hD.pre.pk (FFld.cellAt (wideM (FFld.dcM hD.pre.pk P W d k n) (FFld.dcB hD.pre.pk P W d n) n) j c)) (FFld.toE hD.pre.pk (x[c]?.getD 0))) (d+k+d)=FFld.toE hD.pre.pk (FFld.cellAt (wideM (FFld.dcM hD.pre.pk P W d k n) (FFld.dcB hD.pre.pk P W d n) n) j (d+k+d)):=by
 have h0:=Nat.pow_pos (n:=D.k) hD.pre.pk.p0
 have key:∀ j,j<n->((FFld.FD.dom hD.nzd).sm (fun c=>(FFld.FD.dom hD.nzd).mul (FFld.toE hD.pre.pk (FFld.cellAt (wideM (FFld.dcM hD.pre.pk P W d k n) (FFld.dcB hD.pre.pk P W d n) n) j c)) (FFld.toE hD.pre.pk (x[c]?.getD 0))) (d+k+d)=FFld.toE hD.pre.pk (FFld.cellAt (wideM (FFld.dcM hD.pre.pk P W d k n) (FFld.dcB hD.pre.pk P W d n) n) j (d+k+d))↔FFld.evE hD (x.take (d+k)) (FFld.plE hD P j)=(FFld.FD.dom hD.nzd).mul (FFld.plE hD W j) (FFld.evE hD (x.drop (d+k)++ [1]) (FFld.plE hD P j))):=fun j hj=>by
  have ha:=FFld.getD_lt h0 hP j;have hb:=FFld.getD_lt h0 hW j;rw[FFld.dc_last _ _ _ _ _ _ hj,FFld.toE_mul hD hb (FFld.ppow_lt _ _ _),FFld.toE_pow' hD ha];rw[(FFld.FD.dom hD.nzd).sm_congr (d+k+d) (g:=fun c=>(FFld.FD.dom hD.nzd).mul (FFld.toE hD.pre.pk ((FFld.dcRow hD.pre.pk (P[j]?.getD 0) (W[j]?.getD 0) d k)[c]?.getD 0)) (FFld.toE hD.pre.pk (x[c]?.getD 0))) fun c hc=>by rw[FFld.dc_cell _ _ _ _ _ _ hj hc]];exact FFld.dc_row hD ha hb hl
 exact⟨fun h j hj=>(key j hj).2 (h j hj),fun h j hj=>(key j hj).1 (h j hj)⟩
theorem dc_yes (h:∀ i,i<(FFld.elimF D hD.pre.pk ⟨wideM (FFld.dcM hD.pre.pk P W d k n) (FFld.dcB hD.pre.pk P W d n) n,List.replicate n [],[]⟩ (d+k+d+1)).cols.length->(FFld.elimF D hD.pre.pk ⟨wideM (FFld.dcM hD.pre.pk P W d k n) (FFld.dcB hD.pre.pk P W d n) n,List.replicate n [],[]⟩ (d+k+d+1)).cols[i]?.getD 0<d+k+d):
 DcSol hD (P:=P) (W:=W) (n:=n) (d:=d) (k:=k) (solW (FFld.elimF D hD.pre.pk ⟨wideM (FFld.dcM hD.pre.pk P W d k n) (FFld.dcB hD.pre.pk P W d n) n,List.replicate n [],[]⟩ (d+k+d+1)) (d+k+d) (FFld.elimF D hD.pre.pk ⟨wideM (FFld.dcM hD.pre.pk P W d k n) (FFld.dcB hD.pre.pk P W d n) n,List.replicate n [],[]⟩ (d+k+d+1)).cols.length):=by
 obtain⟨h1,h2⟩:=FFld.sol_is hD (FFld.dc_eok hD.pre.pk P W d k n) h;exact⟨solW_len _ _ _,h1,(dcSol_eqs hD hP hW (solW_len _ _ _)).2 h2⟩
theorem dc_no {x:List Nat}(h:DcSol hD (P:=P) (W:=W) (n:=n) (d:=d) (k:=k) x):∀ i,i<(FFld.elimF D hD.pre.pk ⟨wideM (FFld.dcM hD.pre.pk P W d k n) (FFld.dcB hD.pre.pk P W d n) n,List.replicate n [],[]⟩ (d+k+d+1)).cols.length->(FFld.elimF D hD.pre.pk ⟨wideM (FFld.dcM hD.pre.pk P W d k n) (FFld.dcB hD.pre.pk P W d n) n,List.replicate n [],[]⟩ (d+k+d+1)).cols[i]?.getD 0<d+k+d:=
 FFld.sol_no hD (FFld.dc_eok hD.pre.pk P W d k n) (fun c=>FFld.toE hD.pre.pk (x[c]?.getD 0)) ((dcSol_eqs hD hP hW h.1).1 h.2.2)
include lP lW
theorem dc_near {Po:List Nat}(hq:∀ a∈Po,a<D.p ^ D.k)(tz:FFld.Tz Po)(hl:Po.length<=k)(hd:disF (ints (FFld.valsF D Po P n)) (ints W) n=d):∃ x,DcSol hD (P:=P) (W:=W) (n:=n) (d:=d) (k:=k) x:=by
 have hk:=hD.pre.pk;have h0:=Nat.pow_pos (n:=D.k) hk.p0;obtain⟨J,hJ⟩:∃ J,difL (ints (FFld.valsF D Po P n)) (ints W) n=J:=⟨_,rfl⟩;have hJl:J.length=d:=by rw[<- hJ,difL_len];exact hd
 obtain⟨Z,hZ⟩:∃ Z,J.map (fun j=>P[j]?.getD 0)=Z:=⟨_,rfl⟩;have hZl:Z.length=d:=by rw[<- hZ,List.length_map];exact hJl
 have hZq:∀ a∈Z,a<D.p ^ D.k:=fun a ha=>by
  rw[<- hZ] at ha;obtain⟨j,_,rfl⟩:=List.mem_map.1 ha;exact FFld.getD_lt h0 hP j
 have hvl:=FFld.thV_len D Z d;have hvq:=FFld.thV_lt (D:=D) hk Z d;have hvt:=FFld.thV_top hD Z d;have hz:=FFld.thV_zero hD hZq d;obtain⟨V,hV⟩:∃ V,FFld.thV D Z d=V:=⟨_,rfl⟩;rw[hV] at hvl hvq hvt hz
 have hV1:V.take d++ [1]=V:=by
  refine FFld.ext_getD (by simp;omega) fun i hi=> ?_
  have hi' :i<d+1:=by simpa[hvl] using hi
  by_cases e:i<d
  ·rw[List.getElem?_append_left (by simp;omega),FFld.take_getD e]
  ·obtain rfl:i=d:=by omega
   rw[List.getElem?_append_right (by rw[List.length_take];exact Nat.min_le_left _ _),hvt];simp[hvl]
 have hml:=FFld.mulL_lt (D:=D) hk V Po
 have hmn:(FFld.mulL D V Po).length<=d+k:=by
  by_cases hp0:Po.length=0
  ·have e:FFld.mulL D V Po= []:=by unfold FFld.mulL;rw[if_pos (.inr hp0)]
   rw[e];simp
  ·rw[FFld.mulL_len_is (by omega) hp0];omega
 have hpl:=FFld.padF_len hmn;refine⟨FFld.padF (FFld.mulL D V Po) (d+k)++V.take d,by rw[List.length_append,hpl,List.length_take];omega,fun a ha=> ?_,fun j hj=> ?_⟩
 ·rcases List.mem_append.1 ha with h|h
  ·exact FFld.padF_lt h0 hml _ a h
  ·exact hvq a (List.mem_of_mem_take h)
 ·rw[List.take_left' hpl,List.drop_left' hpl,hV1];rw[FFld.evE_congr hD (FFld.padF_get _ _),FFld.evE_mulL hD hvq hq]
  by_cases hjd:j∈J
  ·obtain⟨i,hi⟩:=List.mem_iff_getElem.1 hjd;obtain⟨hi,rfl⟩:=hi;have h1:=hz i (by omega)
   have e:FFld.plE hD Z i=FFld.plE hD P J[i]:=by
    unfold FFld.plE;rw[<- hZ,List.getElem?_map,List.getElem?_eq_getElem hi];rfl
   rw[<- e,h1,FFld.Dom.zero_mul,FFld.Dom.mul_zero]
  ·have h1:(ints (FFld.valsF D Po P n))[j]?.getD 0=(ints W)[j]?.getD 0:=Classical.byContradiction fun hc=>hjd (by rw[<- hJ];exact difL_mem.2 ⟨hj,hc⟩)
   rw[FFld.ints_get,FFld.ints_get] at h1;have h2:=vals_ev hD hq tz hP (j:=j) (by rw[lP];exact hj);rw[lP,Int.ofNat.inj h1] at h2;rw[<- h2,(FFld.FD.dom hD.nzd).mul_comm];rfl
theorem dc_good {x Po:List Nat}(hx:DcSol hD (P:=P) (W:=W) (n:=n) (d:=d) (k:=k) x)(hdis:∀ i j,j<i->i<n->P[i]?.getD 0≠P[j]?.getD 0)(hn:2*d+k<=n)(hq:∀ a∈Po,a<D.p ^ D.k)(tz:FFld.Tz Po)(hl:Po.length<=k)(hd:disF (ints (FFld.valsF D Po P n)) (ints W) n<=d):
 FFld.quoF D (x.drop (d+k)++ [1]) (FFld.invT D hD.pre.pk (x.drop (d+k)++ [1])) (FFld.trm (x.take (d+k)))=Po/\FFld.rstF D (x.drop (d+k)++ [1]) (FFld.invT D hD.pre.pk (x.drop (d+k)++ [1])) (FFld.trm (x.take (d+k)))= []:=by
 have hk:=hD.pre.pk;obtain⟨hxl,hxq,hxe⟩:=hx;have hEl:(x.drop (d+k)++ [1]).length=d+1:=by rw[List.length_append,List.length_drop,hxl];simp<;>omega
 have hEq:∀ a∈x.drop (d+k)++ [1],a<D.p ^ D.k:=fun a ha=>by
  rcases List.mem_append.1 ha with h|h
  ·exact hxq a (List.mem_of_mem_drop h)
  ·rw[List.mem_singleton.1 h];exact hk.one_lt
 have hQl:(FFld.trm (x.take (d+k))).length<=d+k:=Nat.le_trans (FFld.trm_len_le _) (by simp;omega);have hQq:∀ a∈FFld.trm (x.take (d+k)),a<D.p ^ D.k:=FFld.trm_lt fun a ha=>hxq a (List.mem_of_mem_take ha)
 have hEt:FFld.Tz (x.drop (d+k)++ [1]):= .inr (by rw[hEl,List.getElem?_append_right (by rw[List.length_drop,hxl]<;>omega)];rw[List.length_drop,hxl,show d+1-1-(d+k+d-(d+k))=0 by omega];decide);have h4:=same_len (ints (FFld.valsF D Po P n)) (ints W) n;refine FFld.near hD (xs:=P) (ys:=W) (n:=n) (t:=d) hQq hEq hq (FFld.trm_tz _) hEt tz hP (by omega) (fun a b ha hb hab=> ?_) (by omega) (by omega) (fun j hj=> ?_) (sameL (ints (FFld.valsF D Po P n)) (ints W) n) (List.Pairwise.filter _ List.nodup_range) (fun j hj=> ?_) (by omega) (fun j hj=> ?_)
 ·rcases Nat.lt_or_ge a b with h|h
  ·exact(hdis b a h hb).symm
  ·exact hdis a b (by omega) ha
 ·rw[FFld.evE_trm,hxe j hj,(FFld.FD.dom hD.nzd).mul_comm]
 ·exact List.mem_range.1 (List.mem_filter.1 hj).1
 ·obtain⟨h6,h7⟩:=List.mem_filter.1 hj;have h8:=of_decide_eq_true h7;rw[FFld.ints_get,FFld.ints_get] at h8;have h9:=vals_ev hD hq tz hP (j:=j) (by rw[lP];exact List.mem_range.1 h6);rw[<- h9,lP];unfold FFld.plE;exact congrArg _ (Int.ofNat.inj h8)
end
end
section
open Go Go.RowKit Go.Deep
open FFld (ints)
theorem take_next3 {α:Type}{xs:List α}{i:Nat}{d:α}(h:i<xs.length):xs.take (i+1)=xs.take i++ [xs[i]?.getD d]:=by
 rw[List.take_add_one,List.getElem?_eq_getElem h];rfl
structure EqAt (M:List (List Nat))(Bl:List Nat)(B jn:Nat)(mv bv:Value)(L:List (Value × List Int))(W:World):Prop where
 rw:Rws B W mv L
 eq:L.map (·.2)=(M.take jn).map ints
 mb:Mine 3 .i64 B W bv (ints (Bl.take jn))
 ap1:∀ g,bv.ownBlock=some g->mv.ownBlock≠some g
 ap2:∀ r∈L,∀ g,r.1.ownBlock=some g->bv.ownBlock≠some g
section
variable {M : List (List Nat)} {Bl : List Nat} {B jn : Nat} {mv bv mv' bv' rv : Value} {L : List (Value × List Int)} {W W' : World}
theorem EqAt.start:EqAt M Bl B 0 (.slice none 0 0) (.slice none 0 0) [] W:=
 ⟨Rws.nil _ _,rfl,Mine.nil _ _ _ _,(fun g h=>by cases h),(fun r h=>by cases h)⟩
theorem EqAt.below (h:EqAt M Bl B jn mv bv L W)(hb:Below W.heap.size W W'):EqAt M Bl B jn mv bv L W' :=
 ⟨h.rw.below hb,h.eq,h.mb.below hb,h.ap1,h.ap2⟩
structure EqMid (M:List (List Nat))(Bl:List Nat)(B jn:Nat)(mv bv:Value)(L:List (Value × List Int))(W:World):Prop where
 rw:Rws B W mv L
 eq:L.map (·.2)=(M.take (jn+1)).map ints
 mb:Mine 3 .i64 B W bv (ints (Bl.take jn))
 ap1:∀ g,bv.ownBlock=some g->mv.ownBlock≠some g
 ap2:∀ r∈L,∀ g,r.1.ownBlock=some g->bv.ownBlock≠some g
theorem EqMid.below (h:EqMid M Bl B jn mv bv L W)(hb:Below W.heap.size W W'):EqMid M Bl B jn mv bv L W' :=
 ⟨h.rw.below hb,h.eq,h.mb.below hb,h.ap1,h.ap2⟩
theorem EqAt.pushRow {B0:Nat}{r:List Nat}(h:EqAt M Bl B jn mv bv L W)(hj:jn<M.length)(he:M[jn]?.getD []=r)(hr:Mine 3 .i64 B W rv (ints r))(hnew:∀ g,rv.ownBlock=some g->B0<=g)(hold:(∀ g,mv.ownBlock=some g->g<B0)/\ ∀ g,bv.ownBlock=some g->g<B0)
 (ho:OwnV 22 B W' mv' (L.map (·.1)++ [rv])) (hg:W.grownBy W' mv.ownBlock) (hv:mv'.ownBlock=mv.ownBlock\/Frm W.heap.size mv'):EqMid M Bl B jn mv' bv (L++ [(rv,ints r)]) W' :=by
 refine⟨h.rw.push hr (fun g hgb e=>by have h1:=hnew g hgb;have h2:=hold.1 g e;omega) ho hg hv,?_,h.mb.kept hg ?_,fun g hgb e=> ?_,fun r hrm g hgb e=> ?_⟩
 ·rw[List.map_append,h.eq,take_next3 (d:= []) hj,List.map_append,he];rfl
 ·cases hb:bv.ownBlock with
  |none=>exact .inl rfl
  |some g=>exact .inr (fun e=>h.ap1 g hb e.symm)
 ·rcases hv with h1|h1
  ·rw[h1] at e;exact h.ap1 g hgb e
  ·have h2:=h1 g e;have h3:=(h.mb.own g hgb).2;omega
 ·rcases List.mem_append.1 hrm with h1|h1
  ·exact h.ap2 r h1 g hgb e
  ·obtain rfl:=List.mem_singleton.1 h1;have h2:=hnew g hgb;have h3:=hold.2 g e;omega
theorem EqMid.pushB {x:Nat}(h:EqMid M Bl B jn mv bv L W)(hj:jn<Bl.length)(hx:Bl[jn]?.getD 0=x)
 (hm:Mine 3 .i64 B W' bv' (ints (Bl.take jn)++ [(x:Int)])) (hg:W.grownBy W' bv.ownBlock) (hv:bv'.ownBlock=bv.ownBlock\/Frm W.heap.size bv'):EqAt M Bl B (jn+1) mv bv' L W' :=by
 have hk:∀ v:Value,(∀ g,v.ownBlock=some g->bv.ownBlock≠some g)->(v.ownBlock=none\/v.ownBlock≠bv.ownBlock):=fun v hv=>by
  cases hb:v.ownBlock with
  |none=>exact .inl rfl
  |some g=>exact .inr (fun e=>hv g hb e.symm)
 have hmv:∀ g,mv.ownBlock=some g->bv.ownBlock≠some g:=fun g h1 h2=>h.ap1 g h2 h1
 refine⟨⟨h.rw.own.kept hg (hk mv hmv),fun r hr=>(h.rw.ok r hr).kept hg (hk r.1 (h.ap2 r hr)),h.rw.ne⟩,h.eq,?_,fun g hgb e=> ?_,fun r hr g hgb e=> ?_⟩
 ·rw[take_next3 (d:=0) hj,hx,FFld.ints_append];exact hm
 ·rcases hv with h1|h1
  ·rw[h1] at hgb;exact h.ap1 g hgb e
  ·have h2:=h1 g hgb;have h3:=(h.rw.own.own g e).2;omega
 ·rcases hv with h1|h1
  ·rw[h1] at e;exact h.ap2 r hr g hgb e
  ·have h2:=h1 g e;have h3:=((h.rw.ok r hr).own g hgb).2;omega
end
end
section
open Go Go.RowKit Go.Deep
theorem wpList_append_full {P:Program}(w:World){ops:Array Oper}{rest:List Oper}{o:Oper}{a:Act}{Q:Exit->Act->World->Prop}(hgd:o.guard=none)(s x:Operand)(t:TypeId)
 (ho:o.op= .call {callee:= .builtin .append,args:= #[s,x],argTypes:= #[t,t]}) (E:TypeId) (K:IntKind) (bytes:Nat) (ht:P.underlying t=some (.slice E))
 (hinfo:(P.info? E).map (fun i=>(i.zero,i.size,i.bytes))=some (some (.int K 0),1,bytes)) (bd:Addr) (cap:Nat) (xs:List Int) (nx:Nat) (hnx:xs.length=nx) (hs:a.eval s= .slice (some bd) nx cap) (holds:∀ j u,(xs.map (Value.int K))[j]? =some u->w.cell? (bd.add j)=some u)
 (ad:Addr) (m c:Nat) (news:List Int) (hx:a.eval x= .slice (some ad) m c) (hl:news.length=m) (hnews:∀ j u,(news.map (Value.int K))[j]? =some u->w.cell? (ad.add j)=some u)
 (hg:cap<xs.length+news.length) (hb:(xs.length+news.length)*bytes<=140737488355328) (hm:xs.length+news.length<=maxLen)
 (h:∀ va nv vc w',(xs++news).length=nv->Mine E K w.heap.size w' (.slice va nv vc) (xs++news)->Below w.heap.size w w' ->wpList P ops Q rest (a.put o.dst (.slice va nv vc)) w'):wpList P ops Q (o::rest) a w:=by
 refine wpList_plain hgd fun K' hK=> ?_
 subst hl hnx;obtain⟨i,hi,hz,hsz,hby⟩:=info_parts hinfo;obtain⟨v',w',hrun,h2,h3⟩:=run_append_arg_grows (P:=P) w t o.type E i (.int K 0) 1 bytes ht hi hz hsz hby rfl (by decide) bd xs.length cap (xs.map (Value.int K)) (by simp) holds ad news.length c (news.map (Value.int K)) (by simp) hnews hg hm hb;have hM:Mine E K w.heap.size w' v' (xs++news):=Mine.of_owns (n:=xs.length+news.length) (by simpa using h2);obtain⟨va,vc,rfl,_⟩:=hM.sl;have hB:Below w.heap.size w w' :=(Below.refl _ _).grown h3 (Nat.le_refl _) (fun j hj=>by cases hj);unfold Oper.wp;simp[execOp,ho,resolve,invoke,builtin,hs,hx,hrun,Result.andThen];exact hK _ _ (h va _ vc w' (by simp) (by simpa using hM) hB)
end
end Go.Proofs.YtdnheaafcbihbaaGreat
