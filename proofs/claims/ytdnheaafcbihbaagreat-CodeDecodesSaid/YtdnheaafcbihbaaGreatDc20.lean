/-
  Texts of the proof, merged by program: Slk Pel Lgp Smu Gdv Cam Cmn Pfn Cva.
-/
import Derived.Test.YtdnheaafcbihbaaGreatDc19
import Derived.Laws.CopyOwn
set_option linter.unusedSectionVars false
set_option linter.unusedSimpArgs false
set_option linter.unusedVariables false
set_option maxHeartbeats 16000000
namespace Go.Proofs.YtdnheaafcbihbaaGreat
section
namespace FFld
theorem mon_mul {α:Type}(F:Dom α)(a:α)(s:Nat)(g:Nat->α)(n:Nat):F.ser.mul (F.mon1 a s) g n=if n<s then F.zero else F.mul a (g (n-s)):=by
 show F.cv (F.mon1 a s) g n=_
 unfold Dom.cv Dom.mon1
 by_cases h:n<s
 ·rw[if_pos h];exact F.sm_zero _ fun i hi=>by rw[if_neg (by omega),F.zero_mul]
 ·rw[if_neg h,F.sm_one (j:=s) _ (by omega) fun i _ hne=>by rw[if_neg hne,F.zero_mul],if_pos rfl]
section
variable {D : FD} (hD : D.Ok)
def serL (l:List Nat):Nat->El (D.p ^ D.k):=fun i=>toE hD.pre.pk (l[i]?.getD 0)
theorem serL_sh (l:List Nat):(FD.dom hD.nzd).Sh (serL hD l) l.length:=fun i hi=>by
 show toE hD.pre.pk (l[i]?.getD 0)=_
 rw[List.getElem?_eq_none hi];exact toE_zero hD
theorem serL_pl (l:List Nat):(FD.dom hD.nzd).Pl (serL hD l):=⟨_,serL_sh hD l⟩
theorem serL_dg {l:List Nat}(hl:∀ a∈l,a<D.p ^ D.k)(h0:l.length≠0)(ht:Tz l):(FD.dom hD.nzd).Dg (serL hD l) (l.length-1):=by
 have hp:=Nat.pow_pos (n:=D.k) hD.pre.pk.p0;exact⟨fun i hi=>serL_sh hD l i (by omega),fun e=>ht.top h0 (toE_inj hD.pre.pk (getD_lt hp hl _) hp (Eq.trans e (toE_zero hD).symm))⟩
theorem serL_nil {l:List Nat}(h:l.length=0):serL hD l=(FD.dom hD.nzd).ser.zero:=funext fun i=>serL_sh hD l i (by omega)
theorem serL_addm {xs q:List Nat}{c s:Nat}(hx:∀ a∈xs,a<D.p ^ D.k)(hq:∀ a∈q,a<D.p ^ D.k)(hc:c<D.p ^ D.k)(hl:s+q.length<=xs.length):serL hD (addm D xs s q c)=(FD.dom hD.nzd).ser.add (serL hD xs) ((FD.dom hD.nzd).ser.mul ((FD.dom hD.nzd).mon1 (toE hD.pre.pk c) s) (serL hD q)):=by
 have hp:=Nat.pow_pos (n:=D.k) hD.pre.pk.p0;have hk:=hD.pre.pk
 funext n
 show toE hD.pre.pk ((addm D xs s q c)[n]?.getD 0)=(FD.dom hD.nzd).add (toE hD.pre.pk (xs[n]?.getD 0)) ((FD.dom hD.nzd).ser.mul ((FD.dom hD.nzd).mon1 (toE hD.pre.pk c) s) (serL hD q) n)
 rw[mon_mul]
 by_cases h1:n<s
 ·rw[if_pos h1,(FD.dom hD.nzd).add_zero];unfold addm;rw[addmF_old _ _ _ _ _ _ _ (.inl h1)]
 ·rw[if_neg h1];obtain⟨i,rfl⟩:∃ i,n=s+i:=⟨n-s,by omega⟩;rw[Nat.add_sub_cancel_left]
  by_cases h2:i<q.length
  ·rw[addm_at D xs s q c h2 hl,toE_add hD (getD_lt hp hx _) (pmul_lt hk _ _ _),toE_mul hD (getD_lt hp hq _) hc,(FD.dom hD.nzd).mul_comm];rfl
  ·have e:serL hD q i=(FD.dom hD.nzd).zero:=serL_sh hD q i (by omega);rw[e,(FD.dom hD.nzd).mul_zero,(FD.dom hD.nzd).add_zero];unfold addm;rw[addmF_old _ _ _ _ _ _ _ (.inr (by omega))]
theorem serL_divF {ql pl:List Nat}{inv n:Nat}(hq:∀ a∈ql,a<D.p ^ D.k)(hp:∀ a∈pl,a<D.p ^ D.k)(hn:n+ql.length=pl.length+1)(h1:1<=ql.length):∀ t,t<=n->Eqv (FD.dom hD.nzd) (serL hD ql) (serL hD pl) (serL hD (divF D ql inv n pl t))
 |0,_=>Eqv.refl _
 | t+1,ht=>by
   have hk:=hD.pre.pk;refine Eqv.trans (serL_divF (inv:=inv) hq hp hn h1 t (by omega)) ?_
   apply Eqv.symm
   have e:divF D ql inv n pl (t+1)=addm D (divF D ql inv n pl t) (n-1-t) ql (pscl D.p D.k (D.p-1) (divQ D ql inv n pl t)):=rfl;rw[e,serL_addm hD (divF_lt hk _ _ _ _ hp) hq (pscl_lt hk _ _) (by rw[divF_len];omega)];refine⟨(FD.dom hD.nzd).mon1 (toE hD.pre.pk (pscl D.p D.k (D.p-1) (divQ D ql inv n pl t))) (n-1-t),⟨_,(FD.dom hD.nzd).mon1_sh _ _⟩,?_⟩;rw[(FD.dom hD.nzd).ser.add_comm (serL hD (divF D ql inv n pl t)),(FD.dom hD.nzd).ser.add_assoc,(FD.dom hD.nzd).ser.add_neg,(FD.dom hD.nzd).ser.add_zero]
theorem serL_trm (l:List Nat):serL hD (trm l)=serL hD l:=by
 funext i
 show toE hD.pre.pk ((trm l)[i]?.getD 0)=toE hD.pre.pk (l[i]?.getD 0)
 congr 1
 by_cases h:i<trmN l l.length
 ·unfold trm;rw[take_getD h]
 ·rw[List.getElem?_eq_none (by rw[trm_len];omega)]
  by_cases h2:i<l.length
  ·rw[trmN_zero l l.length i (by omega) h2];rfl
  ·rw[List.getElem?_eq_none (by omega)]
theorem rst_eqv {ql pl:List Nat}(inv:Nat)(hq:∀ a∈ql,a<D.p ^ D.k)(hp:∀ a∈pl,a<D.p ^ D.k)(h1:1<=ql.length):Eqv (FD.dom hD.nzd) (serL hD ql) (serL hD pl) (serL hD (rstF D ql inv pl)):=by
 unfold rstF
 split
 ·exact Eqv.refl _
 ·rw[serL_trm];exact serL_divF hD hq hp (by omega) h1 _ (Nat.le_refl _)
end
end FFld
end
section
namespace FFld
section
variable {D : FD} (hD : D.Ok)
include hD
end
def derF (D:FD)(l:List Nat):List Nat:=(List.range (l.length-1)).map fun i=>pmul D.p D.k D.m (l[i+1]?.getD 0) D.k ((i+1)%D.p)
section
variable {D : FD} (hD : D.Ok)
end
end FFld
end
section
namespace FFld
def sumL (D:FD)(p q:List Nat):List Nat:=(List.range (max p.length q.length)).map fun i=>padd D.p D.k (p[i]?.getD 0) (q[i]?.getD 0)
theorem sumL_len (D:FD)(p q:List Nat):(sumL D p q).length=max p.length q.length:=by simp[sumL]
theorem sumL_lt {D:FD}(h:PK D.p D.k D.m)(p q:List Nat):∀ a∈sumL D p q,a<D.p ^ D.k:=fun a ha=>by
 obtain⟨i,_,rfl⟩:=List.mem_map.1 ha;exact padd_lt h _ _
def lgL (D:FD)(h:PK D.p D.k D.m)(xs:List Nat)(y i:Nat):Nat->List Nat
 |0=> [y]
 |k+1=>if k=i then lgL D h xs y i k else trm (rowMul D (mulL D (lgL D h xs y i k) [pscl D.p D.k (D.p-1) (xs[k]?.getD 0),1]) (ppow h (padd D.p D.k (xs[i]?.getD 0) (pscl D.p D.k (D.p-1) (xs[k]?.getD 0))) (D.q-2)))
def lgO (D:FD)(h:PK D.p D.k D.m)(xs ys:List Nat)(n:Nat):Nat->List Nat
 |0=> []
 |i+1=>trm (sumL D (lgO D h xs ys n i) (trm (lgL D h xs (ys[i]?.getD 0) i n)))
theorem trm_len_le (l:List Nat):(trm l).length<=l.length:=by
 rw[trm_len];exact trmN_le l _
section
variable {D : FD} (hD : D.Ok) {xs ys : List Nat} (hx : ∀ a ∈ xs, a < D.p ^ D.k) (hy : ∀ a ∈ ys, a < D.p ^ D.k)
include hD
theorem sumL_ev {p q:List Nat}(hp:∀ a∈p,a<D.p ^ D.k)(hq:∀ a∈q,a<D.p ^ D.k)(x:El (D.p ^ D.k)):evE hD (sumL D p q) x=(FD.dom hD.nzd).add (evE hD p x) (evE hD q x):=by
 have hk:=hD.pre.pk;rw[evE_sum hD (sumL D p q) x (n:=max p.length q.length) (by rw[sumL_len];exact Nat.le_refl _),evE_sum hD p x (n:=max p.length q.length) (by omega),evE_sum hD q x (n:=max p.length q.length) (by omega),<- Dom.sm_add]
 exact Dom.sm_congr _ _ fun i hi=>by
  have e:(sumL D p q)[i]?.getD 0=padd D.p D.k (p[i]?.getD 0) (q[i]?.getD 0):=range_get _ hi;unfold cfE;rw[e,toE_add hD (getD_lt (Nat.pow_pos hk.p0) hp i) (getD_lt (Nat.pow_pos hk.p0) hq i),Dom.add_mul]
include hx
theorem inv_ev {c:Nat}(hc:c<D.p ^ D.k)(h0:c≠0):(FD.dom hD.nzd).mul (toE hD.pre.pk (ppow hD.pre.pk c (D.q-2))) (toE hD.pre.pk c)=(FD.dom hD.nzd).one:=by
 have hk:=hD.pre.pk;have h:=hD.div_mul (a:=1) (b:=c) hk.one_lt hc h0;rw[pmul_comm hk _ _ hk.one_lt hc,pmul_by_one hk _ hc] at h;rw[<- toE_mul hD (ppow_lt hk _ _) hc,pmul_comm hk _ _ (ppow_lt hk _ _) hc,h,toE_one hD]
include hy
end
end FFld
end
section
namespace FFld
section
variable {D : FD} (hD : D.Ok)
theorem serL_zeros (n:Nat):serL hD (List.replicate n 0)=(FD.dom hD.nzd).ser.zero:=by
 funext i
 show toE hD.pre.pk ((List.replicate n 0)[i]?.getD 0)=(FD.dom hD.nzd).zero
 by_cases h:i<n
 ·rw[List.getElem?_replicate_of_lt h];exact toE_zero hD
 ·rw[List.getElem?_eq_none (by rw[List.length_replicate];omega)];exact toE_zero hD
def cutS {α:Type}(F:Dom α)(f:Nat->α)(i:Nat):Nat->α:=fun n=>if n<i then f n else F.zero
theorem cutS_zero {α:Type}(F:Dom α)(f:Nat->α):cutS F f 0=F.ser.zero:=funext fun n=>if_neg (Nat.not_lt_zero n)
theorem cutS_succ {α:Type}(F:Dom α)(f:Nat->α)(i:Nat):cutS F f (i+1)=F.ser.add (cutS F f i) (F.mon1 (f i) i):=by
 funext n
 show(if n<i+1 then f n else F.zero)=F.add (if n<i then f n else F.zero) (if n=i then f i else F.zero)
 rcases Nat.lt_trichotomy n i with h|h|h
 ·rw[if_pos (by omega),if_pos h,if_neg (by omega),F.add_zero]
 ·rw[if_pos (by omega),if_neg (by omega),if_pos h,F.zero_add,h]
 ·rw[if_neg (by omega),if_neg (by omega),if_neg (by omega),F.add_zero]
theorem cutS_all {α:Type}{F:Dom α}{f:Nat->α}{i:Nat}(h:F.Sh f i):cutS F f i=f:=by
 funext n
 show(if n<i then f n else F.zero)=f n
 by_cases e:n<i
 ·rw[if_pos e]
 ·rw[if_neg e,h n (by omega)]
theorem serL_mulL {pl ql:List Nat}(hp:∀ a∈pl,a<D.p ^ D.k)(hq:∀ a∈ql,a<D.p ^ D.k):serL hD (mulL D pl ql)=(FD.dom hD.nzd).ser.mul (serL hD pl) (serL hD ql):=by
 have hk:=hD.pre.pk;unfold mulL
 split
 ·rename_i h
  rw[serL_nil hD (l:= []) rfl]
  rcases h with h|h
  ·rw[serL_nil hD h,Dom.zero_mul]
  ·rw[serL_nil hD h,Dom.mul_zero]
 ·rename_i h
  have key:∀ i,i<=pl.length->serL hD (mulF D pl ql i)=(FD.dom hD.nzd).ser.mul (cutS (FD.dom hD.nzd) (serL hD pl) i) (serL hD ql):=fun i=>by
   induction i with
   | zero=>
     intro _
     show serL hD (List.replicate _ 0)=_
     rw[serL_zeros,cutS_zero,Dom.zero_mul]
   | succ i ih=>
     intro hi;have hpi:pl[i]?.getD 0<D.p ^ D.k:=getD_lt (Nat.pow_pos hk.p0) hp i
     show serL hD (addm D (mulF D pl ql i) i ql (pl[i]?.getD 0))=_
     rw[serL_addm hD (mulF_lt hk _ _ _) hq hpi (by rw[mulF_len];omega),ih (by omega),cutS_succ,Dom.add_mul];rfl
  rw[key _ (Nat.le_refl _),cutS_all (serL_sh hD pl)]
theorem serL_sumL {p q:List Nat}(hp:∀ a∈p,a<D.p ^ D.k)(hq:∀ a∈q,a<D.p ^ D.k):serL hD (sumL D p q)=(FD.dom hD.nzd).ser.add (serL hD p) (serL hD q):=by
 have hp0:=Nat.pow_pos (n:=D.k) hD.pre.pk.p0
 funext i
 show toE hD.pre.pk ((sumL D p q)[i]?.getD 0)=(FD.dom hD.nzd).add (toE hD.pre.pk (p[i]?.getD 0)) (toE hD.pre.pk (q[i]?.getD 0))
 by_cases h:i<max p.length q.length
 ·have e:(sumL D p q)[i]?.getD 0=padd D.p D.k (p[i]?.getD 0) (q[i]?.getD 0):=range_get _ h;rw[e,toE_add hD (getD_lt hp0 hp _) (getD_lt hp0 hq _)]
 ·rw[List.getElem?_eq_none (by rw[sumL_len];omega),List.getElem?_eq_none (by omega),List.getElem?_eq_none (by omega)]
  show toE hD.pre.pk 0=(FD.dom hD.nzd).add (toE hD.pre.pk 0) (toE hD.pre.pk 0)
  rw[toE_zero hD,Dom.add_zero]
theorem tz_of_dg {l:List Nat}{n:Nat}(h:(FD.dom hD.nzd).Dg (serL hD l) n)(hl:l.length=n+1):Tz l:=by
 right;intro e
 apply h.2
 show toE hD.pre.pk (l[n]?.getD 0)=_
 rw[show n=l.length-1 by omega,e];exact toE_zero hD
include hD in
theorem mulL_tz {pl ql:List Nat}(hp:∀ a∈pl,a<D.p ^ D.k)(hq:∀ a∈ql,a<D.p ^ D.k)(tp:Tz pl)(tq:Tz ql):Tz (mulL D pl ql):=by
 by_cases h:pl.length=0\/ql.length=0
 ·left;unfold mulL;rw[if_pos h];rfl
 ·have h1:pl.length≠0:=fun e=>h (.inl e)
  have h2:ql.length≠0:=fun e=>h (.inr e)
  have hd:=Dom.Dg.mul _ (serL_dg hD hp h1 tp) (serL_dg hD hq h2 tq);rw[<- serL_mulL hD hp hq] at hd;refine tz_of_dg hD hd ?_;unfold mulL;rw[if_neg h,mulF_len];omega
structure RemIs (m:List Nat)(f:Nat->El (D.p ^ D.k))(o:List Nat):Prop where
 lt:∀ a∈o,a<D.p ^ D.k
 tz:Tz o
 len:o.length+1<=m.length
 eqv:Eqv (FD.dom hD.nzd) (serL hD m) f (serL hD o)
variable {m : List Nat} (hm : ∀ a ∈ m, a < D.p ^ D.k) (h1 : 1 <= m.length) (ht : m[m.length - 1]?.getD 0 ≠ 0)
include hm h1 ht
theorem RemIs.of {f:Nat->El (D.p ^ D.k)}{l:List Nat}(hl:∀ a∈l,a<D.p ^ D.k)(tl:Tz l)(he:Eqv (FD.dom hD.nzd) (serL hD m) f (serL hD l)):RemIs hD m f (rstF D m (invT D hD.pre.pk m) l):=
 ⟨rstF_lt hD.pre.pk _ _ hl,rstF_tz D _ _ tl,rst_short hD hm hl h1 ht,Eqv.trans he (rst_eqv hD _ hm hl h1)⟩
theorem RemIs.uniq {f:Nat->El (D.p ^ D.k)}{o o' :List Nat}(h:RemIs hD m f o)(h' :RemIs hD m f o'):o=o' :=by
 have hp0:=Nat.pow_pos (n:=D.k) hD.pre.pk.p0;have hd:=serL_dg hD hm (by omega) (.inr ht);have e:serL hD o=serL hD o' :=Eqv.eq hd (Dom.Sh.mono _ (serL_sh hD o) (by have:=h.len;omega)) (Dom.Sh.mono _ (serL_sh hD o') (by have:=h'.len;omega)) (Eqv.trans h.eqv.symm h'.eqv);have ei:∀ i,o[i]?.getD 0=o'[i]?.getD 0:=fun i=>toE_inj hD.pre.pk (getD_lt hp0 h.lt i) (getD_lt hp0 h'.lt i) (congrFun e i)
 have key:∀ {a b:List Nat},(∀ i,a[i]?.getD 0=b[i]?.getD 0)->Tz a->a.length<=b.length:=fun {a b} hi ha=>by
  rcases ha with h0|h0
  ·omega
  ·apply Classical.byContradiction
   intro hc;rw[hi,List.getElem?_eq_none (by omega)] at h0;exact h0 rfl
 have el:o.length=o'.length:=Nat.le_antisymm (key ei h.tz) (key (fun i=>(ei i).symm) h'.tz);exact ext_getD el fun i _=>ei i
end
end FFld
end
section
namespace FFld
theorem Dom.tidy {α:Type}(F:Dom α)(a x y:α):F.add (F.add a (F.neg x)) (F.add y x)=F.add a y:=by
 rw[F.add_assoc,F.add_comm y x,<- F.add_assoc (F.neg x) x y,F.add_comm (F.neg x) x,F.add_neg,F.zero_add]
section
variable {D : FD} (hD : D.Ok)
def qS (ql:List Nat)(inv n:Nat)(pl:List Nat)(t:Nat):Nat->El (D.p ^ D.k):=fun i=>if n-t<=i/\i<n then toE hD.pre.pk (divQ D ql inv n pl (n-1-i)) else(FD.dom hD.nzd).zero
theorem divQ_lt (hk:PK D.p D.k D.m)(ql:List Nat)(inv n:Nat)(pl:List Nat)(t:Nat):divQ D ql inv n pl t<D.p ^ D.k:=pmul_lt hk _ _ _
theorem divF_ser {ql pl:List Nat}{inv n:Nat}(hq:∀ a∈ql,a<D.p ^ D.k)(hp:∀ a∈pl,a<D.p ^ D.k)(hn:n+ql.length=pl.length+1)(h1:1<=ql.length):∀ t,t<=n->serL hD pl=(FD.dom hD.nzd).ser.add (serL hD (divF D ql inv n pl t)) ((FD.dom hD.nzd).ser.mul (qS hD ql inv n pl t) (serL hD ql))
 | 0,_=>by
   have e:qS hD ql inv n pl 0=(FD.dom hD.nzd).ser.zero:=funext fun i=>if_neg (by omega)
   rw[e,(FD.dom hD.nzd).ser.zero_mul,(FD.dom hD.nzd).ser.add_zero];rfl
 | t +1,ht=>by
   have hk:=hD.pre.pk;refine(divF_ser (inv:=inv) hq hp hn h1 t (by omega)).trans ?_;have e:divF D ql inv n pl (t+1)=addm D (divF D ql inv n pl t) (n-1-t) ql (pscl D.p D.k (D.p-1) (divQ D ql inv n pl t)):=rfl
   have e2:qS hD ql inv n pl (t+1)=(FD.dom hD.nzd).ser.add (qS hD ql inv n pl t) ((FD.dom hD.nzd).mon1 (toE hk (divQ D ql inv n pl t)) (n-1-t)):=funext fun i=>by
    show qS hD ql inv n pl (t+1) i=(FD.dom hD.nzd).add (qS hD ql inv n pl t i) ((FD.dom hD.nzd).mon1 (toE hk (divQ D ql inv n pl t)) (n-1-t) i)
    unfold qS Dom.mon1
    by_cases h:i=n-1-t
    ·rw[if_pos (by omega),if_neg (by omega),if_pos h,Dom.zero_add,h,show n-1-(n-1-t)=t by omega]
    ·by_cases h2:n-t<=i/\i<n
     ·rw[if_pos (by omega),if_pos h2,if_neg h,Dom.add_zero]
     ·rw[if_neg (by omega),if_neg h2,if_neg h,Dom.add_zero]
   have e3:(FD.dom hD.nzd).mon1 (toE hk (pscl D.p D.k (D.p-1) (divQ D ql inv n pl t))) (n-1-t)=(FD.dom hD.nzd).ser.neg ((FD.dom hD.nzd).mon1 (toE hk (divQ D ql inv n pl t)) (n-1-t)):=funext fun i=>by
    show(if i=n-1-t then toE hk (pscl D.p D.k (D.p-1) (divQ D ql inv n pl t)) else(FD.dom hD.nzd).zero)=(FD.dom hD.nzd).neg (if i=n-1-t then toE hk (divQ D ql inv n pl t) else(FD.dom hD.nzd).zero)
    by_cases h:i=n-1-t
    ·rw[if_pos h,if_pos h,toE_neg hD (divQ_lt hk _ _ _ _ _)]
    ·rw[if_neg h,if_neg h,Dom.neg_zero]
   rw[e,serL_addm hD (divF_lt hk _ _ _ _ hp) hq (pscl_lt hk _ _) (by rw[divF_len];omega),e2,e3,Dom.add_mul,Dom.neg_mul,Dom.tidy]
theorem quo_ser {ql pl:List Nat}(inv:Nat)(h: ¬ pl.length<ql.length):qS hD ql inv (pl.length+1-ql.length) pl (pl.length+1-ql.length)=serL hD (quoF D ql inv pl):=funext fun i=>by
 unfold quoF;rw[if_neg h]
 show qS _ _ _ _ _ _ i=toE hD.pre.pk _
 unfold qS
 by_cases hi:i<pl.length+1-ql.length
 ·rw[if_pos (by omega),range_get _ hi]
 ·rw[if_neg (by omega),List.getElem?_eq_none (by simp;omega)];exact(toE_zero hD).symm
theorem div_ser {ql pl:List Nat}(inv:Nat)(hq:∀ a∈ql,a<D.p ^ D.k)(hp:∀ a∈pl,a<D.p ^ D.k)(h1:1<=ql.length):serL hD pl=(FD.dom hD.nzd).ser.add (serL hD (rstF D ql inv pl)) ((FD.dom hD.nzd).ser.mul (serL hD (quoF D ql inv pl)) (serL hD ql)):=by
 by_cases h:pl.length<ql.length
 ·have e1:rstF D ql inv pl=pl:=by unfold rstF;rw[if_pos h]
  have e2:quoF D ql inv pl= []:=by unfold quoF;rw[if_pos h]
  rw[e1,e2,serL_nil hD (l:= []) rfl,(FD.dom hD.nzd).ser.zero_mul,(FD.dom hD.nzd).ser.add_zero]
 ·have e1:rstF D ql inv pl=trm (divF D ql inv (pl.length+1-ql.length) pl (pl.length+1-ql.length)):=by unfold rstF;rw[if_neg h]
  rw[e1,serL_trm,<- quo_ser hD inv h];exact divF_ser hD hq hp (by omega) h1 _ (Nat.le_refl _)
theorem quoF_lt (hk:PK D.p D.k D.m)(ql:List Nat)(inv:Nat)(pl:List Nat):∀ a∈quoF D ql inv pl,a<D.p ^ D.k:=fun a ha=>by
 unfold quoF at ha
 split at ha
 ·cases ha
 ·obtain⟨i,_,rfl⟩:=List.mem_map.1 ha;exact divQ_lt hk _ _ _ _ _
theorem ser_get {l m:List Nat}(hl:∀ a∈l,a<D.p ^ D.k)(hm:∀ a∈m,a<D.p ^ D.k)(h:serL hD l=serL hD m)(i:Nat):l[i]?.getD 0=m[i]?.getD 0:=
 toE_inj hD.pre.pk (getD_lt (Nat.pow_pos hD.pre.pk.p0) hl i) (getD_lt (Nat.pow_pos hD.pre.pk.p0) hm i) (congrFun h i)
theorem div_ev {ql pl:List Nat}(inv:Nat)(hq:∀ a∈ql,a<D.p ^ D.k)(hp:∀ a∈pl,a<D.p ^ D.k)(h1:1<=ql.length)(x:El (D.p ^ D.k)):evE hD pl x=(FD.dom hD.nzd).add (evE hD (rstF D ql inv pl) x) ((FD.dom hD.nzd).mul (evE hD (quoF D ql inv pl) x) (evE hD ql x)):=by
 have hk:=hD.pre.pk;have hr:=rstF_lt hk ql inv hp;have hu:=quoF_lt hk ql inv pl
 have e:serL hD pl=serL hD (sumL D (rstF D ql inv pl) (mulL D (quoF D ql inv pl) ql)):=by
  rw[serL_sumL hD hr (mulL_lt hk _ _),serL_mulL hD hu hq];exact div_ser hD inv hq hp h1
 rw[evE_congr hD (ser_get hD hp (sumL_lt hk _ _) e) x,sumL_ev hD hr (mulL_lt hk _ _),evE_mulL hD hu hq]
theorem quo_len_is {ql pl:List Nat}(inv:Nat)(h: ¬ pl.length<ql.length):(quoF D ql inv pl).length=pl.length+1-ql.length:=by
 unfold quoF;rw[if_neg h];simp
theorem quo_tz {ql pl:List Nat}(hq:∀ a∈ql,a<D.p ^ D.k)(hp:∀ a∈pl,a<D.p ^ D.k)(h1:1<=ql.length)(h0:ql[ql.length-1]?.getD 0≠0)(tp:Tz pl):Tz (quoF D ql (invT D hD.pre.pk ql) pl):=by
 have hk:=hD.pre.pk
 by_cases h:pl.length<ql.length
 ·left;unfold quoF;rw[if_pos h];rfl
 ·right;have hl:=quo_len_is (D:=D) (ql:=ql) (pl:=pl) (invT D hk ql) h;rw[hl];unfold quoF;rw[if_neg h,range_get _ (by omega),show pl.length+1-ql.length-1-(pl.length+1-ql.length-1)=0 by omega];intro e;have e' :pmul D.p D.k D.m (pl[pl.length+1-ql.length-1-0+(ql.length-1)]?.getD 0) D.k (invT D hk ql)=0:=e;rw[show pl.length+1-ql.length-1-0+(ql.length-1)=pl.length-1 by omega] at e';have ha:=getD_lt (Nat.pow_pos hk.p0) hp (pl.length-1);have hb:=getD_lt (Nat.pow_pos hk.p0) hq (ql.length-1);have hi:invT D hk ql<D.p ^ D.k:=ppow_lt hk _ _;have e2:=toE_mul hD ha hi;rw[e',toE_zero hD] at e2
  rcases(FD.dom hD.nzd).nzd _ _ e2.symm with e3|e3
  ·rcases tp with h2|h2
   ·omega
   ·exact h2 (toE_inj hk ha (Nat.pow_pos hk.p0) (e3.trans (toE_zero hD).symm))
  ·have e4:=inv_ev hD (xs:= []) (by simp) hb h0;have e5:toE hD.pre.pk (ppow hD.pre.pk (ql[ql.length-1]?.getD 0) (D.q-2))=(FD.dom hD.nzd).zero:=e3;rw[e5,Dom.zero_mul] at e4;exact(FD.dom hD.nzd).one_ne e4.symm
theorem mulL_len_is {pl ql:List Nat}(h1:pl.length≠0)(h2:ql.length≠0):(mulL D pl ql).length=pl.length+ql.length-1:=by
 unfold mulL;rw[if_neg (by omega),mulF_len]
include hD in
theorem mulL_one {pl:List Nat}(hp:∀ a∈pl,a<D.p ^ D.k)(tp:Tz pl):mulL D [1] pl=pl:=by
 have hk:=hD.pre.pk;have h1:∀ a∈ [1],a<D.p ^ D.k:=fun a ha=>by rw[List.mem_singleton.1 ha];exact hk.one_lt
 have t1:Tz [1]:= .inr (by decide);refine tz_ext (mulL_tz hD h1 hp t1 tp) tp (ser_get hD (mulL_lt hk _ _) hp ?_);rw[serL_mulL hD h1 hp]
 have e:serL hD [1]=(FD.dom hD.nzd).ser.one:=funext fun i=>by
  show toE hk ([1][i]?.getD 0)=if i=0 then(FD.dom hD.nzd).one else(FD.dom hD.nzd).zero
  rcases i with _|i
  ·exact toE_one hD
  ·exact toE_zero hD
 rw[e,Dom.one_mul]
def padF (p:List Nat)(n:Nat):List Nat:=p++List.replicate (n-p.length) 0
theorem padF_len {p:List Nat}{n:Nat}(h:p.length<=n):(padF p n).length=n:=by simp[padF];omega
theorem padF_get (p:List Nat)(n i:Nat):(padF p n)[i]?.getD 0=p[i]?.getD 0:=by
 unfold padF
 by_cases h:i<p.length
 ·rw[List.getElem?_append_left h]
 ·rw[List.getElem?_append_right (by omega),List.getElem?_eq_none (l:=p) (by omega),List.getElem?_replicate]
  split<;>rfl
theorem padF_lt {q:Nat}(hq:0<q){p:List Nat}(h:∀ a∈p,a<q)(n:Nat):∀ a∈padF p n,a<q:=fun a ha=>by
 rcases List.mem_append.1 ha with h1|h1
 ·exact h a h1
 ·rw[(List.mem_replicate.1 h1).2];exact hq
def plusF (D:FD)(p q:List Nat)(c s:Nat):List Nat:=trm (addm D (padF p (max p.length (s+q.length))) s q c)
theorem plusF_lt (hk:PK D.p D.k D.m){p q:List Nat}{c s:Nat}(hp:∀ a∈p,a<D.p ^ D.k):∀ a∈plusF D p q c s,a<D.p ^ D.k:=by
 unfold plusF;exact trm_lt (addmF_lt hk _ _ _ _ (padF_lt (Nat.pow_pos hk.p0) hp _))
theorem plusF_tz (p q:List Nat)(c s:Nat):Tz (plusF D p q c s):=trm_tz _
theorem plusF_ev {p q:List Nat}{c s:Nat}(hp:∀ a∈p,a<D.p ^ D.k)(hq:∀ a∈q,a<D.p ^ D.k)(hc:c<D.p ^ D.k)(x:El (D.p ^ D.k)):evE hD (plusF D p q c s) x=(FD.dom hD.nzd).add (evE hD p x) ((FD.dom hD.nzd).mul (toE hD.pre.pk c) ((FD.dom hD.nzd).mul ((FD.dom hD.nzd).pow x s) (evE hD q x))):=by
 unfold plusF;rw[evE_trm,evE_addm hD _ s q (padF_lt (Nat.pow_pos hD.pre.pk.p0) hp _) hq hc (by rw[padF_len (by omega)];omega),evE_congr hD (padF_get p _) x]
include hD in
theorem plusF_len {p q:List Nat}{c:Nat}(hq:∀ a∈q,a<D.p ^ D.k)(tq:Tz q)(hc:c<D.p ^ D.k)(c0:c≠0)(hl:p.length<q.length):(plusF D p q c 0).length=q.length:=by
 have hk:=hD.pre.pk;have hm:max p.length (0+q.length)=q.length:=by omega
 unfold plusF;rw[hm];have hL:(addm D (padF p q.length) 0 q c).length=q.length:=by rw[addm_len,padF_len (by omega)]
 have ht:=addm_top (D:=D) (padF p q.length) 0 q c (by omega) (by rw[padF_len (by omega)];omega);rw[padF_get,List.getElem?_eq_none (l:=p) (by omega)] at ht;rw[trm_self,hL];right;rw[hL];intro e;rw[Nat.zero_add] at ht;rw[e] at ht;have hqt:=getD_lt (Nat.pow_pos hk.p0) hq (q.length-1)
 have e1:toE hk 0=(FD.dom hD.nzd).add (toE hk 0) (toE hk (pmul D.p D.k D.m (q[q.length-1]?.getD 0) D.k c)):=by
  rw[<- toE_add hD (Nat.pow_pos hk.p0) (pmul_lt hk _ _ _)];exact congrArg (toE hk) ht
 rw[toE_zero hD,Dom.zero_add,toE_mul hD hqt hc] at e1
 rcases(FD.dom hD.nzd).nzd _ _ e1.symm with e3|e3
 ·rcases tq with h2|h2
  ·omega
  ·exact h2 (toE_inj hk hqt (Nat.pow_pos hk.p0) (e3.trans (toE_zero hD).symm))
 ·exact c0 (toE_inj hk hc (Nat.pow_pos hk.p0) (e3.trans (toE_zero hD).symm))
end
end FFld
end
section
open Go Go.RowKit
open FFld (ints)
theorem md_nat {q r:Nat}(h:r<q):((r:Nat):Int)%(q:Int)=r:=Int.emod_eq_of_lt (by omega) (by omega)
set_option maxRecDepth 20000 in
theorem caddMultiple_any {D:FFld.FD}{b g s n cc:Nat}{ao:Option Addr}{cap:Nat}(w0 w:World)(hD:D.Ok)(hf:FldB D w0 b)(hb:Below w0.heap.size w0 w)(hg:w0.heap.size<=g)(xs:List Nat)(hx:Wv w g xs)(hxq:∀ c∈xs,c<D.p ^ D.k)
 (q:List Nat) (hq:Qc g ao q w) (hqq:∀ c∈q,c<D.p ^ D.k) (hs:s+q.length<=xs.length) (hn:q.length<=n) (a:Nat) (ha:a<D.p ^ D.k) (hql:q.length<=1000000):
 Calls Tryz.prog 217 #[.pointer (some ⟨b,0,none⟩), .slice (some ⟨g,s,none⟩) n cc, .slice ao q.length cap, .int .i64 a] w (fun e w' =>e= .returned (.tuple #[])/\w.grownBy w' (some g)/\Wv w' g (FFld.addm D xs s q a)):=by
 have hpk:=hD.pre.pk;have hq6:D.p ^ D.k<=65536:=hD.pre.small;have hqd:D.q=D.p ^ D.k:=rfl;have HQ:=Km hq;have HXQ:=Km (fun j=>FFld.addmF_lt (D:=D) hpk s q a j hxq);have HQQ:=Km hqq;have HA:=Km ha;have HPK:=Km hpk;have HB:=Km hb;have HX:=Km hx;have HP:=Km (fun(W:World) (hW:Below w0.heap.size w0 W) (r t:Nat) (h1:r<D.p ^ D.k) (h2:t<D.p ^ D.k)=>fmul_any (r:Int) (t:Int) W (hf.below hW) (by omega) (by omega) (by omega) (by omega) r t (md_nat h1) (md_nat h2) h1 h2);have HS:=Km (fun(W:World) (hW:Below w0.heap.size w0 W) (r t:Nat) (h1:r<D.p ^ D.k) (h2:t<D.p ^ D.k)=>fadd_any (r:Int) (t:Int) W (hf.below hW) (by omega) (by omega) (by omega) (by omega) r t (md_nat h1) (md_nat h2) h1 h2);clear hf hb hx hxq hq hqq ha hpk hqd
 go_enter Tryz.func217,Tryz.ntmps217
 go_wp2
 go_loopw [12] (fun iv wr=> ∃ (j:Nat),j<=q.length/\iv= .int .i64 j/\Kept (Wv wr g (FFld.addmF D xs s q a j))/\Kept (w.grownBy wr (some g))) (fun iv _=>q.length-(intOf iv).toNat)
 case atStart=>exact⟨0,Nat.zero_le _,rfl,HX,⟨growRefl _ _⟩⟩
 case round=>
  obtain⟨j,hj,rfl,hwv,hgr⟩:=hrel
  by_cases hlt:j<q.length
  ·obtain⟨bq,oq,rfl,hne,hbq,hcq⟩:=(HQ.out.grown hgr.out) j hlt;have HBW:=Km (belowGrow hgr.out HB.out hg);have hsz:=HBW.out.size;have hgl:=hwv.out.lt;have hlen:=FFld.addmF_len D xs s q a j;have t1:=hwv.out.cell (i:=s+j) (by omega);have hqb:=FFld.getD_lt (Nat.pow_pos HPK.out.p0) HQQ.out j;have hub:=FFld.getD_lt (Nat.pow_pos HPK.out.p0) (HXQ.out j) (s+j);obtain⟨u,hu⟩:∃ u,(FFld.addmF D xs s q a j)[s+j]?.getD 0=u:=⟨_,rfl⟩;obtain⟨y,hy⟩:∃ y,q[j]?.getD 0=y:=⟨_,rfl⟩;obtain⟨z,hz⟩:∃ z,FFld.pmul D.p D.k D.m y D.k a=z:=⟨_,rfl⟩;obtain⟨v,hv⟩:∃ v,FFld.padd D.p D.k u z=v:=⟨_,rfl⟩;have HV:Kept ((FFld.addmF D xs s q a j).set (s+j) v=FFld.addmF D xs s q a (j+1)):=⟨by simp only[FFld.addmF];rw[hu,hy,hz,hv]⟩;rw[hu] at t1 hub;rw[hy] at hcq hqb;have hP:=Km (fun W (hW:Below w0.heap.size w0 W)=>HP.out W hW y a hqb HA.out);rw[hz] at hP;have hS:=Km (fun W (hW:Below w0.heap.size w0 W)=>HS.out W hW u z hub (by rw[<- hz];exact FFld.pmul_lt HPK.out _ _ _));rw[hv] at hS;have hjn:j<n:=by omega
   clear hu hy hz hv hqb hub hlen;go_wp2;refine wp_region_held_drew (S:=fun _=>True) (by kernel_rfl) trivial (fun hHeld=> ?_);refine wpAnyH_take (i:=0) (v:= ?_) rfl (by kernel_rfl) (by kernel_rfl) (by kernel_rfl) (fun _ _ _ h=>h) (Or.inl ⟨by rfl,?_⟩) (by assumption) ?_;rotate_left
   ·(intro w hSw;(try dsimp only at hSw);go_simp;(try with_reducible rfl))
   try simp only[Act.put,sA]
   refine wpAnyH_take (i:=1) (v:= ?_) rfl (by kernel_rfl) (by kernel_rfl) (by kernel_rfl) (fun _ _ _ h=>h) (Or.inl ⟨by rfl,?_⟩) (by assumption) ?_;rotate_left
   ·(intro w hSw;(try dsimp only at hSw);go_simp;(try with_reducible rfl))
   try simp only[Act.put,sA]
   refine wpAnyH_take (i:=2) (v:= ?_) rfl (by kernel_rfl) (by kernel_rfl) (by kernel_rfl) (fun _ _ _ h=>h) (Or.inl ⟨by rfl,?_⟩) (by assumption) ?_;rotate_left
   ·(intro w hSw;(try dsimp only at hSw);go_simp;(try with_reducible rfl))
   try simp only[Act.put,sA]
   refine wpAnyH_take (i:=3) (v:= ?_) rfl (by kernel_rfl) (by kernel_rfl) (by kernel_rfl) (fun _ _ _ h=>h) (Or.inl ⟨by rfl,?_⟩) (by assumption) ?_;rotate_left
   ·(intro w hSw;(try dsimp only at hSw);go_simp;(try with_reducible rfl))
   try simp only[Act.put,sA]
   refine wpAnyH_take (i:=4) (v:= ?_) rfl (by kernel_rfl) (by kernel_rfl) (by kernel_rfl) (fun _ _ _ h=>h) (Or.inl ⟨by rfl,?_⟩) (by assumption) ?_;rotate_left
   ·(intro w hSw;(try dsimp only at hSw);go_simp;(try with_reducible rfl))
   try simp only[Act.put,sA]
   refine wpAnyH_take (i:=5) (v:= ?_) rfl (by kernel_rfl) (by kernel_rfl) (by kernel_rfl) (fun _ _ _ h=>h) (Or.inl ⟨by rfl,?_⟩) (by assumption) ?_;rotate_left
   ·(intro w hSw;(try dsimp only at hSw);go_simp;(try with_reducible rfl))
   try simp only[Act.put,sA]
   refine wpAnyH_take (i:=7) (v:= ?_) rfl (by kernel_rfl) (by kernel_rfl) (by kernel_rfl) (fun _ _ _ h=>h) (Or.inl ⟨by rfl,?_⟩) (by assumption) ?_;rotate_left
   ·(intro w hSw;(try dsimp only at hSw);go_simp;(try with_reducible rfl))
   try simp only[Act.put,sA]
   refine wpAnyH_take (i:=8) (v:= ?_) rfl (by kernel_rfl) (by kernel_rfl) (by kernel_rfl) (fun _ _ _ h=>h) (Or.inl ⟨by rfl,?_⟩) (by assumption) ?_;rotate_left
   ·(intro w hSw;(try dsimp only at hSw);go_simp;(try with_reducible rfl))
   try simp only[Act.put,sA]
   refine wpAnyH_take (i:=9) (v:= ?_) rfl (by kernel_rfl) (by kernel_rfl) (by kernel_rfl) (fun _ _ _ h=>h) (Or.inl ⟨by rfl,?_⟩) (by assumption) ?_;rotate_left
   ·(intro w hSw;(try dsimp only at hSw);go_simp;(try with_reducible rfl))
   try simp only[Act.put,sA]
   refine wpAnyH_ready (rs:= [6,10]) (by kernel_rfl) (by simp) ?_;refine AllReadyH.cons rfl (fun K hK=> ?_) (AllReadyH.cons rfl (fun K hK=> ?_) AllReadyH.nil)
   ·go_simp
    refine hK.out _ _ trivial (fun hHeld=> ?_);clear hK K
    try simp only[Act.put,sA]
    refine wpAnyH_ready (rs:= [10]) (by kernel_rfl) (by simp) ?_;refine(AllReadyH.cons rfl (fun K hK=> ?_) AllReadyH.nil)
    go_simp
    refine(hP.out _ HBW.out.drew).mono ?_;rintro e w2 ⟨hb2,rfl⟩;have HB2:=Km (bstep HBW.out.drew hb2);have HR2:Kept (Below wr.heap.size wr w2):=⟨(Below.refl _ _).drew.trans hb2⟩;have t2:=(HR2.out.cell (p:=⟨g,s+j,none⟩) (by simp only[];omega)).trans t1;clear hb2;refine hK.out _ _ trivial (fun hHeld=> ?_);clear hK K
    try simp only[Act.put,sA]
    refine wpAnyH_ready (rs:= [11]) (by kernel_rfl) (by simp) ?_;refine(AllReadyH.cons rfl (fun K hK=> ?_) AllReadyH.nil)
    go_simp
    refine(hS.out _ HB2.out).mono ?_;rintro e w3 ⟨hb3,rfl⟩;have HB3:=Km (bstep HB2.out hb3);have HR3:=Km (bstep HR2.out hb3);have t3:=(hb3.cell (p:=⟨g,s+j,none⟩) (by have:=HR2.out.size;simp only[];omega)).trans t2;have HW3:=Km (hwv.out.below HR3.out);have z3:=HW3.out.free (s+j);clear hb3;refine hK.out _ _ trivial (fun hHeld=> ?_);clear hK K
    try simp only[Act.put,sA]
    refine wpAnyH_take (i:=12) (v:= ?_) rfl (by kernel_rfl) (by kernel_rfl) (by kernel_rfl) (fun _ _ _ h=>h) (Or.inl ⟨by rfl,?_⟩) (by assumption) ?_;rotate_left
    ·(intro w hSw;(try dsimp only at hSw);go_simp;(try with_reducible rfl))
    try simp only[Act.put,sA]
    refine wpAnyH_ready (rs:= [13]) (by kernel_rfl) (by simp) ?_;refine(AllReadyH.cons rfl (fun K hK=> ?_) AllReadyH.nil)
    go_simp
    refine hK.out _ _ trivial (fun hHeld=> ?_);clear hK K
    try simp only[Act.put,sA]
    refine wpAnyH_done (by kernel_rfl) ?_ _;go_wp2;go_roundw
    case rel=>exact⟨j+1,by omega,by go_num,⟨by have:=HW3.out.set (i:=s+j) v;rw[HV.out] at this;exact this⟩,⟨growTrans hgr.out (growSet (growBelow HR3.out) _ _)⟩⟩
    case measure=>simp[intOf]<;>omega
   ·go_simp
    refine(hP.out _ HBW.out.drew).mono ?_;rintro e w2 ⟨hb2,rfl⟩;have HB2:=Km (bstep HBW.out.drew hb2);have HR2:Kept (Below wr.heap.size wr w2):=⟨(Below.refl _ _).drew.trans hb2⟩;have t2:=(HR2.out.cell (p:=⟨g,s+j,none⟩) (by simp only[];omega)).trans t1;clear hb2;refine hK.out _ _ trivial (fun hHeld=> ?_);clear hK K
    try simp only[Act.put,sA]
    refine wpAnyH_ready (rs:= [6]) (by kernel_rfl) (by simp) ?_;refine(AllReadyH.cons rfl (fun K hK=> ?_) AllReadyH.nil)
    go_simp
    refine hK.out _ _ trivial (fun hHeld=> ?_);clear hK K
    try simp only[Act.put,sA]
    refine wpAnyH_ready (rs:= [11]) (by kernel_rfl) (by simp) ?_;refine(AllReadyH.cons rfl (fun K hK=> ?_) AllReadyH.nil)
    go_simp
    refine(hS.out _ HB2.out).mono ?_;rintro e w3 ⟨hb3,rfl⟩;have HB3:=Km (bstep HB2.out hb3);have HR3:=Km (bstep HR2.out hb3);have t3:=(hb3.cell (p:=⟨g,s+j,none⟩) (by have:=HR2.out.size;simp only[];omega)).trans t2;have HW3:=Km (hwv.out.below HR3.out);have z3:=HW3.out.free (s+j);clear hb3;refine hK.out _ _ trivial (fun hHeld=> ?_);clear hK K
    try simp only[Act.put,sA]
    refine wpAnyH_take (i:=12) (v:= ?_) rfl (by kernel_rfl) (by kernel_rfl) (by kernel_rfl) (fun _ _ _ h=>h) (Or.inl ⟨by rfl,?_⟩) (by assumption) ?_;rotate_left
    ·(intro w hSw;(try dsimp only at hSw);go_simp;(try with_reducible rfl))
    try simp only[Act.put,sA]
    refine wpAnyH_ready (rs:= [13]) (by kernel_rfl) (by simp) ?_;refine(AllReadyH.cons rfl (fun K hK=> ?_) AllReadyH.nil)
    go_simp
    refine hK.out _ _ trivial (fun hHeld=> ?_);clear hK K
    try simp only[Act.put,sA]
    refine wpAnyH_done (by kernel_rfl) ?_ _;go_wp2;go_roundw
    case rel=>exact⟨j+1,by omega,by go_num,⟨by have:=HW3.out.set (i:=s+j) v;rw[HV.out] at this;exact this⟩,⟨growTrans hgr.out (growSet (growBelow HR3.out) _ _)⟩⟩
    case measure=>simp[intOf]<;>omega
  ·obtain rfl:j=q.length:=by omega
   go_wp2
   go_end0
   exact⟨rfl,hgr.out,hwv.out⟩
theorem splice_padF (n:Nat)(l:List Nat)(h:l.length<=n):splice ((ints (List.replicate n 0)).map (Value.int .i64)) 0 ((ints l).map (Value.int .i64))=(ints (FFld.padF l n)).map (Value.int .i64):=by
 unfold splice FFld.padF ints;simp[List.map_append,List.drop_replicate]
theorem csize_i64:(Tryz.prog.info? 3).map (·.size)=some 1:=by kernel_rfl
theorem csrc {w:World}{ao:Option Addr}{n cap:Nat}{xs:List Int}(h:Sl .i64 w (.slice ao n cap) xs)(hl:0<xs.length):∃ ad,ao=some ad/\ ∀ j u,(xs.map (Value.int .i64))[j]? =some u->w.cell? (ad.add j)=some u:=by
 have h' :=h;obtain⟨ao',cap',e,hc,hm,hx⟩:=h
 cases e
 obtain⟨b,o,rfl,_,_⟩:=hx 0 hl;exact⟨_,rfl,h'.news⟩
set_option maxRecDepth 20000 in
theorem cpadded_any (ao:Option Addr)(cap:Nat)(l:List Nat)(n:Nat)(w:World)(h:Sl .i64 w (.slice ao l.length cap) (ints l))(hl:l.length<=n)(hn:n<=1000000):
 Calls Tryz.prog 89 #[.slice ao l.length cap, .int .i64 n] w (fun e w' =>Below w.heap.size w w' /\e= .returned (.slice (some ⟨w.heap.size,0,none⟩) n n)/\Wv w' w.heap.size (FFld.padF l n)):=by
 have hmk:=run_make_row' (P:=Tryz.prog) 22 3 (.int .i64 0) 8 Tryz.underlying22 info_i64 rfl .i64 .i64 n (by omega) (by omega);obtain⟨nl,hnl⟩:∃ nl,l.length=nl:=⟨_,rfl⟩;have HL:=Km hl;have HNL:=Km hnl;have HS:=Km h;rw[hnl] at HS ⊢;clear h hnl;have hr:(w.alloc (.cells (madeCells #[.int .i64 0] n) 3)).heap[w.heap.size]? =some (.cells ((ints (List.replicate n 0)).map (Value.int .i64)).toArray 3 (0,0)):=by rw[<- made_zeros];exact heap_alloc_new w _
 have hal:Below w.heap.size w (w.alloc (.cells (madeCells #[.int .i64 0] n) 3)):=(Below.refl _ _).alloc (Nat.le_refl _) _
 go_enter Tryz.func89,Tryz.ntmps89
 go_upto_region 2 with fail
 obtain⟨g,hg⟩:∃ g,w.heap.size=g:=⟨_,rfl⟩;obtain⟨W1,hW1⟩:∃ W,w.alloc (.cells (madeCells #[.int .i64 0] n) 3)=W:=⟨_,rfl⟩;rw[hW1] at hr hal
 try rw[hW1]
 have hS1:=HS.out.below hal;rw[hg] at hr hal
 try rw[hg]
 have HGG:=Km hg;clear hW1 hmk;obtain⟨cs,hcs⟩:∃ cs,cs=(ints l).map (Value.int .i64):=⟨_,rfl⟩;have HCS:=Km hcs;have HCL:Kept (cs.length=nl):=⟨by rw[hcs,List.length_map,FFld.ints_len,HNL.out]⟩
 have HONE:Kept (∀ v∈cs,v.oneCell' =true):=⟨fun v hv=>by
  rw[HCS.out] at hv;obtain⟨a,_,rfl⟩:=List.mem_map.1 hv
  rfl⟩
 have HPOS:Kept (0<cs.length-> ∃ ad,ao=some ad/\ ∀ j u,cs[j]? =some u->W1.cell? (ad.add j)=some u):=⟨fun h=>by
  rw[HCL.out] at h;rw[HCS.out]
  exact csrc hS1 (by rw[FFld.ints_len,HNL.out];exact h)⟩
 have HR:=Km hr;have HAL:=Km hal;have hnn:nl<=n:=by have:=HL.out;rw[HNL.out] at this;exact this
 clear hcs hr hal hS1 hg
 go_wp2_with (refine wpList_copy_splice (o:=⟨some 10,_,_,_,_,_⟩) rfl (.tmp 8) (.tmp 9) 22 22 rfl 3 Tryz.underlying22 csize_i64 _ _ n n nl cap rfl rfl g 0 ((ints (List.replicate n 0)).map (Value.int .i64)) 3 HR.out cs (by show _=min _ _;rw[HCL.out];exact(Nat.min_eq_left hnn).symm) (fun h=>⟨rfl,HPOS.out h⟩) (by rw[HCL.out];simp[FFld.ints_len];exact hnn) HONE.out g W1 (Below.refl _ _) (Nat.le_refl _) ?_)
 intro w6 hr6 hb6;have HB6:Kept (Below g w w6):=⟨HAL.out.trans hb6⟩
 have HW6:Kept (Wv w6 g (FFld.padF l n)):=⟨by
  have h1:=hr6.out;rw[HCS.out,splice_padF n _ HL.out] at h1
  exact Row.wv (show Row 3 .i64 w6 g (ints (FFld.padF l n)) from h1)⟩
 clear hr6 hb6;go_wp2
 go_ret
 rw[HGG.out];exact⟨HB6.out,rfl,HW6.out⟩
theorem qc_of {w w' :World}{g:Nat}{ao:Option Addr}{cap n:Nat}{l:List Nat}(h:Sl .i64 w (.slice ao n cap) (ints l))(hb:Below w.heap.size w w')(hg:w.heap.size<=g):Qc g ao l w' :=fun i hi=>by
 obtain⟨ao',cap',e,hc,hm,hx⟩:=h
 cases e
 obtain⟨b,o,rfl,h1,h2⟩:=hx i (by rw[FFld.ints_len];exact hi);rw[FFld.ints_get] at h2;exact⟨b,o,rfl,by omega,Nat.lt_of_lt_of_le h1 hb.size,(hb.cell (p:=⟨b,o+i,none⟩) h1).trans h2⟩
end
section
open Go Go.RowKit Go.Deep
open FFld (ints)
theorem cErr_poly {D:FFld.FD}{l:List Nat}(h:∀ a∈l,a<D.p ^ D.k)(ht:FFld.Tz l)(hl:l.length<=200):cErr D (ints l)=0:=by
 unfold cErr;rw[FFld.ints_len,if_neg (by omega),if_pos];constructor
 ·unfold elsB;rw[List.all_eq_true];intro x hx;unfold FFld.ints at hx;obtain⟨a,ha,rfl⟩:=List.mem_map.1 hx;have:=h a ha;rw[decide_eq_true_eq];unfold FFld.FD.q;omega
 ·unfold zlast;rw[FFld.ints_len]
  rcases ht with h0|h0
  ·rw[h0];rfl
  ·rw[FFld.ints_get]
   have:decide (((l[l.length-1]?.getD 0:Nat):Int)=0)=false:=by
    rw[decide_eq_false_iff_not];omega
   rw[this,Bool.and_false]
section
variable {D : FFld.FD} {b : Nat} (vp vq : Value) (pl ql : List Nat) (w : World) (hf : FldB D w b) (hp : Sl .i64 w vp (ints pl)) (hq : Sl .i64 w vq (ints ql)) (h1 : cErr D (ints pl) = 0) (h2 : cErr D (ints ql) = 0)
include hf hp hq h1 h2
set_option maxRecDepth 20000 in
theorem both_any:Calls Tryz.prog 215 #[.pointer (some ⟨b,0,none⟩),vp,vq] w (fun e w' =>w=w' /\e= .returned (.int .i64 0)):=by
 have H1:=Km (fcheck_any vp (ints pl) w hf hp);have H2:=Km (fcheck_any vq (ints ql) w hf hq);rw[h1] at H1;rw[h2] at H2;clear hf hp hq h1 h2
 go_enter Tryz.func215,Tryz.ntmps215
 go_wp2_with fail;refine H1.out.mono ?_;rintro e w1 ⟨rfl,rfl⟩;go_wp2_with fail;refine H2.out.mono ?_;rintro e w1 ⟨rfl,rfl⟩;go_wp2
 go_ret
 exact⟨rfl,rfl⟩
set_option maxRecDepth 20000 in
theorem fpproduct_any (hD:D.Ok)(hpq:∀ a∈pl,a<D.p ^ D.k)(hqq:∀ a∈ql,a<D.p ^ D.k)(hpl:pl.length<=100000)(hqll:ql.length<=100000):
 Calls Tryz.prog 218 #[.pointer (some ⟨b,0,none⟩),vp,vq] w (fun e w' =>Below w.heap.size w w' /\ ∃ v,e= .returned (.tuple #[v, .int .i64 0])/\Sl .i64 w' v (ints (FFld.mulL D pl ql))):=by
 have HB:=Km (both_any vp vq pl ql w hf hp hq h1 h2);have HM:=Km (multiply_any hD vp vq pl ql w hf hp hq hpq hqq hpl hqll);clear hf hp hq h1 h2 hpq hqq
 go_enter Tryz.func218,Tryz.ntmps218
 go_wp2_with fail;refine HB.out.mono ?_;rintro e w1 ⟨rfl,rfl⟩;go_wp2_with fail;refine HM.out.mono ?_;rintro e w2 ⟨hb2,v,rfl,hs2⟩;have HB2:=Km hb2;have HS2:=Km hs2;clear hb2 hs2;go_wp2
 go_ret2
 exact⟨HB2.out,_,rfl,HS2.out⟩
set_option maxRecDepth 20000 in
theorem fpdivide_any (hD:D.Ok)(hpq:∀ a∈pl,a<D.p ^ D.k)(hqq:∀ a∈ql,a<D.p ^ D.k)(h0:0<ql.length)(ht:FFld.Tz ql)(hpl:pl.length<=100000)(hqll:ql.length<=100000):
 Calls Tryz.prog 162 #[.pointer (some ⟨b,0,none⟩),vp,vq] w (fun e w' =>Below w.heap.size w w' /\ ∃ v v2,e= .returned (.tuple #[v,v2, .int .i64 0])/\Sl .i64 w' v (ints (FFld.quoF D ql (FFld.invT D hD.pre.pk ql) pl))/\Sl .i64 w' v2 (ints (FFld.rstF D ql (FFld.invT D hD.pre.pk ql) pl))):=by
 have HB:=Km (both_any vp vq pl ql w hf hp hq h1 h2);have HM:=Km (divide_any hD vp vq pl ql w hf hp hq hpq hqq h0 (ht.top (by omega)) hpl hqll);obtain⟨aq,cq,hvq,hcq,hmq⟩:=hq.form;subst hvq;rw[FFld.ints_len] at HB HM ⊢;obtain⟨nq,hnq⟩:∃ n,ql.length=n:=⟨_,rfl⟩;have HDE:=Km (fun qs rs inv h=>FFld.deRet_eq (D:=D) (ql:=ql) (pl:=pl) (qs:=qs) (rs:=rs) (inv:=inv) h0 h);rw[hnq] at HB h0 ⊢;have HM2:Kept (Calls Tryz.prog 216 #[.pointer (some ⟨b,0,none⟩),vp, .slice aq nq cq] w (DeRet D ql (FFld.invT D hD.pre.pk ql) pl w)):=⟨by have:=HM.out;rw[hnq] at this;unfold FFld.invT;rw[hnq];exact this⟩;have e0:((nq:Int)==0)=false:=by rw[beq_eq_false_iff_ne];omega
 clear hf hp hq h1 h2 hpq hqq hnq HM hcq ht
 go_enter Tryz.func162,Tryz.ntmps162
 go_wp2_with fail;refine HB.out.mono ?_;rintro e w1 ⟨rfl,rfl⟩;go_wp2_with fail;refine HM2.out.mono ?_;rintro e w2 ⟨hb2,v,v2,qs,rs,rfl,hs2,hs3,hc2⟩;obtain⟨e1,e2⟩:=HDE.out _ _ _ hc2;rw[e1] at hs2;rw[e2] at hs3;have HB2:=Km hb2;have HS2:=Km hs2;have HS3:=Km hs3;clear hb2 hs2 hs3 hc2 e1 e2;go_wp2
 go_ret3
 exact⟨HB2.out,_,_,rfl,HS2.out,HS3.out⟩
set_option maxRecDepth 20000 in
theorem fpdivide_zero (h0:ql.length=0):
 Calls Tryz.prog 162 #[.pointer (some ⟨b,0,none⟩),vp,vq] w (fun e w' =>w=w' /\e= .returned (.tuple #[.slice none 0 0, .slice none 0 0, .int .i64 6])):=by
 have HB:=Km (both_any vp vq pl ql w hf hp hq h1 h2);obtain⟨aq,cq,hvq,hcq,hmq⟩:=hq.form;subst hvq;rw[FFld.ints_len,h0] at HB ⊢;clear hf hp hq h1 h2 hcq
 go_enter Tryz.func162,Tryz.ntmps162
 go_wp2_with fail;refine HB.out.mono ?_;rintro e w1 ⟨rfl,rfl⟩;go_wp2
 go_ret3
 exact⟨rfl,rfl⟩
end
end
section
open Go Go.RowKit Go.Deep
open FFld (ints)
namespace FFld
theorem range_put {n:Nat}(f g:Nat->Nat){i:Nat}(h:∀ j,j<n->g j=if j=i then g i else f j):((List.range n).map f).set i (g i)=(List.range n).map g:=by
 refine ext_getD (by simp) fun j hj=> ?_
 have hj' :j<n:=by simpa using hj
 rw[set_get,range_get _ hj',range_get _ hj']
 by_cases e:i=j
 ·rw[if_pos ⟨e,by simpa using hj'⟩,e]
 ·rw[if_neg (by omega),h j hj',if_neg (by omega)]
def valsF (D:FD)(pl xs:List Nat)(i:Nat):List Nat:=(List.range xs.length).map fun j=>if j<i then hornF D (trm pl) (xs[j]?.getD 0) (trm pl).length else 0
theorem valsF_len (D:FD)(pl xs:List Nat)(i:Nat):(valsF D pl xs i).length=xs.length:=by simp[valsF]
theorem valsF_zero (D:FD)(pl xs:List Nat):valsF D pl xs 0=List.replicate xs.length 0:=by
 unfold valsF;refine ext_getD (by simp) fun j hj=> ?_
 have hj' :j<xs.length:=by simpa using hj
 rw[range_get _ hj',if_neg (by omega),List.getElem?_replicate,if_pos hj'];rfl
theorem valsF_next (D:FD)(pl xs:List Nat){i:Nat}(hi:i<xs.length):(valsF D pl xs i).set i (hornF D (trm pl) (xs[i]?.getD 0) (trm pl).length)=valsF D pl xs (i+1):=by
 have h:=range_put (n:=xs.length) (fun j=>if j<i then hornF D (trm pl) (xs[j]?.getD 0) (trm pl).length else 0) (fun j=>if j<i+1 then hornF D (trm pl) (xs[j]?.getD 0) (trm pl).length else 0) (i:=i) fun j hj=>by
  by_cases e:j=i
  ·rw[if_pos e,e]
  ·rw[if_neg e]
   by_cases e2:j<i
   ·rw[if_pos e2,if_pos (by omega)]
   ·rw[if_neg e2,if_neg (by omega)]
 rw[if_pos (by omega)] at h;exact h
end FFld
theorem sl_trm {w:World}{ap:Option Addr}{cp:Nat}{pl:List Nat}(h:Sl .i64 w (.slice ap pl.length cp) (ints pl)):Sl .i64 w (.slice ap (FFld.trm pl).length cp) (ints (FFld.trm pl)):=by
 obtain⟨ap',cp',e,hc,hm,hx⟩:=h;simp only[Value.slice.injEq] at e;obtain⟨rfl,e2,rfl⟩:=e;clear e2;have hl:=FFld.trm_len_le pl;rw[FFld.ints_len] at hc;refine⟨ap,cp,by rw[FFld.ints_len],by rw[FFld.ints_len];omega,hm,fun i hi=> ?_⟩;rw[FFld.ints_len] at hi;obtain⟨b,o,rfl,h1,h2⟩:=hx i (by rw[FFld.ints_len];omega);refine⟨b,o,rfl,h1,?_⟩;rw[h2,FFld.ints_get,FFld.ints_get];unfold FFld.trm;rw[FFld.take_getD (by rw[<- FFld.trm_len];exact hi)]
set_option maxRecDepth 20000 in
theorem cvalues_any {D:FFld.FD}{b:Nat}(hD:D.Ok)(ax ap:Option Addr)(cx cp:Nat)(xs pl:List Nat)(w:World)(hf:FldB D w b)(hx:Sl .i64 w (.slice ax xs.length cx) (ints xs))(hp:Sl .i64 w (.slice ap pl.length cp) (ints pl))(hxq:∀ a∈xs,a<D.p ^ D.k)(hpq:∀ a∈pl,a<D.p ^ D.k)(hxl:xs.length<=1000)(hpl:pl.length<=200):
 Calls Tryz.prog 87 #[.pointer (some ⟨b,0,none⟩), .slice ax xs.length cx, .slice ap pl.length cp] w (fun e w' =>Below w.heap.size w w' /\e= .returned (.slice (some ⟨w.heap.size,0,none⟩) xs.length xs.length)/\Wv w' w.heap.size (FFld.valsF D pl xs xs.length)):=by
 have hq6:D.p ^ D.k<=65536:=hD.pre.small;have hmk:=run_make_row' (P:=Tryz.prog) 22 3 (.int .i64 0) 8 Tryz.underlying22 info_i64 rfl .i64 .i64 xs.length (by omega) (by omega);have HT:=Km (ctrimmed_any pl ap cp w hp);obtain⟨T,hT⟩:∃ T,FFld.trm pl=T:=⟨_,rfl⟩;have hTl:T.length<=pl.length:=by rw[<- hT];exact FFld.trm_len_le pl
 have hTq:∀ a∈T,a<D.p ^ D.k:=by rw[<- hT];exact FFld.trm_lt hpq
 have hTz:FFld.Tz T:=by rw[<- hT];exact FFld.trm_tz pl
 have hST:Sl .i64 w (.slice ap T.length cp) (ints T):=by
  rw[<- hT];exact sl_trm hp
 have hcE:=cErr_poly hTq hTz (by omega);have HVN:=Km (fun i (hi:i<xs.length)=>FFld.valsF_next D pl xs hi);have HVL:=Km (FFld.valsF_len D pl xs);have HV:=Km (fun(W:World) (hW:Below w.heap.size w W) (x:Nat) (h1:x<D.p ^ D.k)=>fvalue_any (.slice ap T.length cp) T (x:Int) x W (hf.below hW) (hST.below hW) hcE hTq (by omega) (by omega) (md_nat h1) h1 (by omega));rw[hT] at HT HVN;have hrow:(w.alloc (.cells (madeCells #[.int .i64 0] xs.length) 3)).heap[w.heap.size]? =some (.cells ((ints (List.replicate xs.length 0)).map (Value.int .i64)).toArray 3 (0,0)):=by rw[<- made_zeros];exact heap_alloc_new w _
 have hal:Below w.heap.size w (w.alloc (.cells (madeCells #[.int .i64 0] xs.length) 3)):=(Below.refl _ _).alloc (Nat.le_refl _) _;have HW0:Kept (Wv (w.alloc (.cells (madeCells #[.int .i64 0] xs.length) 3)) w.heap.size (FFld.valsF D pl xs 0)):=⟨by rw[FFld.valsF_zero];exact Row.wv hrow⟩;have HB0:=Km hal;have HXS:=Km hx;have HXQ:=Km hxq;clear hT hTl hTq hTz hST hcE hrow hal hf hx hp hxq hpq;obtain⟨n,hn⟩:∃ n,xs.length=n:=⟨_,rfl⟩;rw[hn] at hmk HVN HVL HW0 HB0 HXS hxl ⊢;have HN:=Km hn;clear hn
 go_enter Tryz.func87,Tryz.ntmps87
 go_wp2_with fail;refine HT.out.mono ?_;rintro e w1 ⟨rfl,rfl⟩;go_wp2;obtain⟨g,hg⟩:∃ g,w.heap.size=g:=⟨_,rfl⟩;obtain⟨W1,hW1⟩:∃ W,w.alloc (.cells (madeCells #[.int .i64 0] n) 3)=W:=⟨_,rfl⟩;rw[hW1] at HW0 HB0
 try rw[hW1]
 rw[hg] at HW0
 try rw[hg]
 have hgw:w.heap.size<=g:=by omega
 have HGG:=Km hg;clear hW1 hg hmk HT
 go_loopw [18] (fun iv wr=> ∃ (i:Nat),i<=n/\iv= .int .i64 i/\Kept (Below w.heap.size w wr)/\Kept (Wv wr g (FFld.valsF D pl xs i))) (fun iv _=>n-(intOf iv).toNat)
 case atStart=>exact⟨0,Nat.zero_le _,rfl,HB0,HW0⟩
 case round=>
  obtain⟨i,hin,rfl,hbw,hwv⟩:=hrel
  by_cases hlt:i<n
  ·obtain⟨ax',cx',e,hcx,hmx,hcc⟩:=HXS.out.below hbw.out;simp only[Value.slice.injEq] at e;obtain⟨rfl,e2,rfl⟩:=e;clear e2;obtain⟨bx,ox,rfl,hbx,hcell⟩:=hcc i (by rw[FFld.ints_len,HN.out];exact hlt);rw[FFld.ints_get] at hcell;rw[FFld.ints_len,HN.out] at hcx;have hxlt:=FFld.getD_lt (Nat.pow_pos hD.pre.pk.p0) HXQ.out i;have HNX:=Km (HVN.out i hlt);obtain⟨x,hx⟩:∃ x,xs[i]?.getD 0=x:=⟨_,rfl⟩;rw[hx] at hcell hxlt HNX;have HC:=Km (HV.out wr hbw.out x hxlt);obtain⟨y,hy⟩:∃ y,FFld.hornF D T x T.length=y:=⟨_,rfl⟩;rw[hy] at HC HNX;have hgl:=hwv.out.lt;unfold maxLen at hmx;clear hx hy hcc hxlt;go_wp2_with fail;refine HC.out.mono ?_;rintro e w2 ⟨hb2,rfl⟩;have HB2:=Km (bstep hbw.out hb2);have HW2:=Km (hwv.out.below hb2);have c1:=HW2.out.cell (i:=i) (by rw[HVL.out];exact hlt);have z1:=HW2.out.free i;have HW3:Kept (Wv (w2.setCell ⟨g,i,none⟩ (.int .i64 (y:Nat))) g (FFld.valsF D pl xs (i+1))):=⟨by have:=HW2.out.set (i:=i) y;rw[HNX.out] at this;exact this⟩;have HB3:Kept (Below w.heap.size w (w2.setCell ⟨g,i,none⟩ (.int .i64 (y:Nat)))):=⟨HB2.out.setCell (p:=⟨g,i,none⟩) hgw _⟩;clear hb2;go_wp2;go_roundw
   case rel=>exact⟨i+1,by omega,by go_num,HB3,HW3⟩
   case measure=>simp[intOf]<;>omega
  ·obtain rfl:i=n:=by omega
   go_wp2
   go_ret
   rw[HGG.out];exact⟨HGG.out ▸ hbw.out,rfl,hwv.out⟩
end
end Go.Proofs.YtdnheaafcbihbaaGreat
