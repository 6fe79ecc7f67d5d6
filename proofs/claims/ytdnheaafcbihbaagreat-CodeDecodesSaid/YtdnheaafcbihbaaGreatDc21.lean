/-
  Texts of the proof, merged by program: Cpr Gao Cvn Cpl Mu2 Rtq Rtc1 Rtm Fth.
-/
import Derived.Test.YtdnheaafcbihbaaGreatDc20
set_option linter.unusedSectionVars false
set_option linter.unusedSimpArgs false
set_option linter.unusedVariables false
set_option maxHeartbeats 16000000
namespace Go.Proofs.YtdnheaafcbihbaaGreat
section
open Go Go.RowKit Go.Deep
open FFld (ints)
namespace FFld
def prodF (D:FD)(fs:List (List Nat)):Nat->List Nat
 |0=> [1]
 |i+1=>mulL D (prodF D fs i) (fs[i]?.getD [])
theorem prodF_lt {D:FD}(hk:PK D.p D.k D.m)(fs:List (List Nat)):∀ i,∀ a∈prodF D fs i,a<D.p ^ D.k
 |0=>fun a ha=>by rw[List.mem_singleton.1 ha];exact hk.one_lt
 |i+1=>mulL_lt hk _ _
theorem get_mem {α:Type}{l:List α}{i:Nat}{d:α}(h:i<l.length):l[i]?.getD d∈l:=by
 rw[List.getElem?_eq_getElem h];exact List.getElem_mem h
theorem prodF_tz {D:FD}(hD:D.Ok){fs:List (List Nat)}(hq:∀ l∈fs,∀ a∈l,a<D.p ^ D.k)(hz:∀ l∈fs,Tz l):∀ i,i<=fs.length->Tz (prodF D fs i)
 |0,_=> .inr (by show(1:Nat)≠0;decide)
 |i+1,hi=>mulL_tz hD (prodF_lt hD.pre.pk fs i) (hq _ (get_mem (by omega))) (prodF_tz hD hq hz i (by omega)) (hz _ (get_mem (by omega)))
end FFld
theorem cone_sl (W:World)(x:Int):Sl .i64 (W.alloc (.cells #[.int .i64 x] 3)) (.slice (some ⟨W.heap.size,0,none⟩) 1 1) [x]:=by
 refine⟨_,1,rfl,Nat.le_refl _,by unfold maxLen;omega,fun i hi=>⟨W.heap.size,0,rfl,by simp,?_⟩⟩;obtain rfl:i=0:=by simpa using hi
 exact(Row.new (E:=3) (K:= .i64) W [x]).cell (i:=0) (by simp)
set_option maxRecDepth 20000 in
theorem cproduct_any {D:FFld.FD}{b:Nat}(hD:D.Ok)(af:Option Addr)(cf:Nat)(fs:List (List Nat))(w:World)(hf:FldB D w b)(h:Sls w af (fs.map ints))(hc:fs.length<=cf)(hcm:cf<=maxLen)(hq:∀ l∈fs,∀ a∈l,a<D.p ^ D.k)(hz:∀ l∈fs,FFld.Tz l)(hl:∀ l∈fs,l.length<=200)(hpl:∀ i,i<=fs.length->(FFld.prodF D fs i).length<=200)(hfl:fs.length<=1000):
 Calls Tryz.prog 166 #[.pointer (some ⟨b,0,none⟩), .slice af fs.length cf] w (fun e w' =>Below w.heap.size w w' /\ ∃ v,e= .returned v/\Sl .i64 w' v (ints (FFld.prodF D fs fs.length))):=by
 have HP:=Km (fun(W:World) (hW:Below w.heap.size w W) (i:Nat) (hi:i<fs.length) (va vb:Value) (ha:Sl .i64 W va (ints (FFld.prodF D fs i))) (hb:Sl .i64 W vb (ints (fs[i]?.getD [])))=>
  fpproduct_any va vb (FFld.prodF D fs i) (fs[i]?.getD []) W (hf.below hW) ha hb (cErr_poly (FFld.prodF_lt hD.pre.pk fs i) (FFld.prodF_tz hD hq hz i (by omega)) (hpl i (by omega))) (cErr_poly (hq _ (FFld.get_mem hi)) (hz _ (FFld.get_mem hi)) (hl _ (FFld.get_mem hi))) hD (FFld.prodF_lt hD.pre.pk fs i) (hq _ (FFld.get_mem hi)) (by have:=hpl i (by omega);omega) (by have:=hl _ (FFld.get_mem (d:= []) hi);omega))
 have HS:=Km h;obtain⟨n,hn⟩:∃ n,fs.length=n:=⟨_,rfl⟩;rw[hn] at HP hc hfl ⊢;have HN:=Km hn;unfold maxLen at hcm;have h0:Below w.heap.size w (w.alloc (.cells #[.int .i64 1] 3)):=(Below.refl _ _).alloc (Nat.le_refl _) _;have HB0:=Km h0;have HS0:Kept (Sl .i64 (w.alloc (.cells #[.int .i64 1] 3)) (.slice (some ⟨w.heap.size,0,none⟩) 1 1) (ints (FFld.prodF D fs 0))):=⟨cone_sl w 1⟩;clear hf h hq hz hl hpl hn h0
 go_enter Tryz.func166,Tryz.ntmps166
 go_wp2
 go_loopw [5,11] (fun rv iv wr=> ∃ (i:Nat) (ra:Option Addr) (rn rc:Nat),i<=n/\iv= .int .i64 i/\rv= .slice ra rn rc/\Kept (Below w.heap.size w wr)/\Kept (Sl .i64 wr (.slice ra rn rc) (ints (FFld.prodF D fs i)))) (fun _ iv _=>n-(intOf iv).toNat)
 case atStart=>exact⟨0,_,_,_,Nat.zero_le _,rfl,rfl,HB0,HS0⟩
 case round=>
  obtain⟨i,ra,rn,rc,hin,rfl,rfl,hbw,hs⟩:=hrel
  by_cases hlt:i<n
  ·obtain⟨g,o,fv,rfl,hg,hcell,hfs⟩:=(HS.out.below hbw.out) i (by rw[List.length_map,HN.out];exact hlt)
   have e1:(fs.map ints)[i]?.getD []=ints (fs[i]?.getD []):=by
    rw[List.getElem?_map]
    cases fs[i]? with
    |none=>rfl
    |some l=>rfl
   rw[e1] at hfs;obtain⟨fa,fc,rfl,hfc,hfm⟩:=hfs.form;rw[FFld.ints_len] at hcell hfs hfc;have HC:=Km (HP.out wr hbw.out i hlt _ _ hs.out hfs);obtain⟨fl,hfl2⟩:∃ m,(fs[i]?.getD []).length=m:=⟨_,rfl⟩;rw[hfl2] at hcell HC;clear hfs hfc hfl2 e1;go_wp2_with fail;refine HC.out.mono ?_;rintro e w2 ⟨hb2,v2,rfl,hs2⟩;obtain⟨a2,c2,rfl,_,_⟩:=hs2.form;have HB2:=Km (bstep hbw.out hb2);have HS2:=Km hs2;clear hb2 hs2;go_wp2;go_roundw
   case rel=>exact⟨i+1,_,_,_,by omega,by go_num,rfl,HB2,HS2⟩
   case measure=>simp[intOf]<;>omega
  ·obtain rfl:i=n:=by omega
   go_wp2
   go_ret
   exact⟨hbw.out,_,rfl,hs.out⟩
end
section
namespace FFld
section
variable {D : FD} (hD : D.Ok)
structure GaoOk (xs ys:List Nat)(n:Nat)(bf nw el e:List Nat):Prop where
 blt:∀ a∈bf,a<D.p ^ D.k
 nlt:∀ a∈nw,a<D.p ^ D.k
 llt:∀ a∈el,a<D.p ^ D.k
 elt:∀ a∈e,a<D.p ^ D.k
 tb:Tz bf
 tn:Tz nw
 tl:Tz el
 te:Tz e
 len:e.length+bf.length=n+2
 low:nw.length<bf.length
 up:el.length<e.length
 ev1:∀ j,j<n->evE hD bf (plE hD xs j)=(FD.dom hD.nzd).mul (evE hD el (plE hD xs j)) (plE hD ys j)
 ev2:∀ j,j<n->evE hD nw (plE hD xs j)=(FD.dom hD.nzd).mul (evE hD e (plE hD xs j)) (plE hD ys j)
theorem evE_nil (x:El (D.p ^ D.k)):evE hD [] x=(FD.dom hD.nzd).zero:=rfl
theorem evE_one (x:El (D.p ^ D.k)):evE hD [1] x=(FD.dom hD.nzd).one:=thV_one hD (xs:= []) (fun a ha=>by cases ha) x
theorem GaoOk.start {xs ys nw:List Nat}{n:Nat}(hx:∀ a∈xs,a<D.p ^ D.k)(hn:∀ a∈nw,a<D.p ^ D.k)(tn:Tz nw)(ln:nw.length<=n)(hv:Tz (thV D xs n))(he:∀ j,j<n->evE hD nw (plE hD xs j)=plE hD ys j):GaoOk hD xs ys n (thV D xs n) nw [] [1]:=by
 have hk:=hD.pre.pk;refine⟨thV_lt hk xs n,hn,fun a ha=>(by cases ha),fun a ha=>(by rw[List.mem_singleton.1 ha];exact hk.one_lt),hv,tn, .inl rfl, .inr (by decide),by rw[thV_len];simp;omega,by rw[thV_len];omega,by decide,fun j hj=> ?_,fun j hj=> ?_⟩
 ·rw[evE_nil,Dom.zero_mul];exact thV_zero hD hx n j hj
 ·rw[evE_one,Dom.one_mul];exact he j hj
theorem GaoOk.next {xs ys bf nw el e:List Nat}{n mi:Nat}(h:GaoOk hD xs ys n bf nw el e)(h0:nw.length≠0)(hm:mi<D.p ^ D.k)(hmi:toE hD.pre.pk mi=(FD.dom hD.nzd).neg (FD.dom hD.nzd).one):
 GaoOk hD xs ys n nw (rstF D nw (invT D hD.pre.pk nw) bf) e (plusF D el (mulL D (quoF D nw (invT D hD.pre.pk nw) bf) e) mi 0):=by
 have hk:=hD.pre.pk
 have htop:nw[nw.length-1]?.getD 0≠0:=by
  rcases h.tn with h1|h1
  ·exact absurd h1 h0
  ·exact h1
 have hql:=quoF_lt (D:=D) hk nw (invT D hk nw) bf;have hqt:=quo_tz hD h.nlt h.blt (by omega) htop h.tb;have hqn:=quo_len_is (D:=D) (ql:=nw) (pl:=bf) (invT D hk nw) (by have:=h.low;omega);have hlow:=h.low;have hup:=h.up;have hpl:=mulL_len_is (D:=D) (pl:=quoF D nw (invT D hk nw) bf) (ql:=e) (by omega) (by omega);have hpt:=mulL_tz hD hql h.elt hqt h.te;have hp:=mulL_lt (D:=D) hk (quoF D nw (invT D hk nw) bf) e
 have hm0:mi≠0:=fun e0=>by
  rw[e0,toE_zero hD] at hmi;have h1:=(FD.dom hD.nzd).add_neg (FD.dom hD.nzd).one;rw[<- hmi,(FD.dom hD.nzd).add_zero] at h1;exact(FD.dom hD.nzd).one_ne h1
 have hlen:=plusF_len hD (p:=el) hp hpt hm hm0 (by omega);refine⟨h.nlt,rstF_lt hk _ _ h.blt,h.elt,plusF_lt hk h.llt,h.tn,rstF_tz D _ _ h.tb,h.te,plusF_tz _ _ _ _,?_,?_,?_,h.ev2,fun j hj=> ?_⟩
 ·rw[hlen,hpl,hqn];have:=h.len;omega
 ·have:=rst_short hD h.nlt h.blt (by omega) htop;omega
 ·rw[hlen,hpl,hqn];omega
 ·have e1:=div_ev hD (invT D hk nw) h.nlt h.blt (by omega) (plE hD xs j);rw[h.ev1 j hj,h.ev2 j hj] at e1;rw[plusF_ev hD h.llt hp hm,evE_mulL hD hql h.elt,hmi,Dom.pow_zero,Dom.one_mul,Dom.neg_mul,Dom.one_mul,Dom.add_mul,Dom.neg_mul,e1];generalize evE hD (quoF D nw (invT D hk nw) bf) (plE hD xs j)=q;generalize evE hD (rstF D nw (invT D hk nw) bf) (plE hD xs j)=r;generalize evE hD e (plE hD xs j)=ee;generalize plE hD ys j=y;rw[Dom.mul_assoc,Dom.add_assoc,Dom.add_neg,Dom.add_zero]
theorem near {xs ys Q E P:List Nat}{n t:Nat}(hQ:∀ a∈Q,a<D.p ^ D.k)(hE:∀ a∈E,a<D.p ^ D.k)(hP:∀ a∈P,a<D.p ^ D.k)(tQ:Tz Q)(tE:Tz E)(tP:Tz P)(hx:∀ a∈xs,a<D.p ^ D.k)(hE0:E.length≠0)
 (hd:∀ a b,a<n->b<n->a≠b->xs[a]?.getD 0≠xs[b]?.getD 0) (lQ:Q.length+t<=n) (lE:E.length+P.length+t<=n+1) (hev:∀ j,j<n->evE hD Q (plE hD xs j)=(FD.dom hD.nzd).mul (evE hD E (plE hD xs j)) (plE hD ys j))
 (G:List Nat) (hG:G.Nodup) (hGn:∀ j∈G,j<n) (hGl:n<=G.length+t) (hGe:∀ j∈G,evE hD P (plE hD xs j)=plE hD ys j):quoF D E (invT D hD.pre.pk E) Q=P/\rstF D E (invT D hD.pre.pk E) Q= []:=by
 have hk:=hD.pre.pk
 have htop:E[E.length-1]?.getD 0≠0:=by
  rcases tE with h1|h1
  ·exact absurd h1 hE0
  ·exact h1
 have hmlt:=mulL_lt (D:=D) hk E P
 have hlen:(mulL D E P).length+t<=n:=by
  by_cases hp0:P.length=0
  ·have e:mulL D E P= []:=by unfold mulL;rw[if_pos (.inr hp0)]
   rw[e];simp;omega
  ·rw[mulL_len_is hE0 hp0];omega
 have hinj:∀ a∈G,∀ b∈G,a≠b->plE hD xs a≠plE hD xs b:=fun a ha b hb hab e=>hd a b (hGn a ha) (hGn b hb) hab (toE_inj hk (at_lt hD hx a) (at_lt hD hx b) e)
 have hnd:(G.map (plE hD xs)).Nodup:=by
  clear hGl hGe hGn
  induction G with
  |nil=>exact List.nodup_nil
  | cons a G ih=>
    rw[List.map_cons,List.nodup_cons];obtain⟨h1,h2⟩:=List.nodup_cons.1 hG;refine⟨fun hm=> ?_,ih h2 fun c hc b hb=>hinj c (List.mem_cons_of_mem _ hc) b (List.mem_cons_of_mem _ hb)⟩;obtain⟨b,hb,e⟩:=List.mem_map.1 hm;exact hinj a (List.mem_cons_self ..) b (List.mem_cons_of_mem _ hb) (fun hab=>h1 (hab ▸ hb)) e.symm
 have hQE:Q=mulL D E P:=interp hD (n:=G.length) hQ hmlt tQ (mulL_tz hD hE hP tE tP) (by omega) (by omega) (G.map (plE hD xs)) hnd (by simp) fun r hr=>by
  obtain⟨j,hj,rfl⟩:=List.mem_map.1 hr;rw[hev j (hGn j hj),evE_mulL hD hE hP,hGe j hj]
 have hser:serL hD Q=(FD.dom hD.nzd).ser.mul (serL hD E) (serL hD P):=by rw[hQE,serL_mulL hD hE hP]
 have hrst:rstF D E (invT D hk E) Q= []:=by
  refine RemIs.uniq hD hE (by omega) htop (f:=serL hD Q) (RemIs.of hD hE (by omega) htop hQ tQ (Eqv.refl _)) ⟨fun a ha=>(by cases ha), .inl rfl,by simp;omega,?_⟩;rw[serL_nil hD (l:= []) rfl,hser];refine⟨serL hD P,serL_pl hD P,?_⟩;have hnz:(FD.dom hD.nzd).ser.neg (FD.dom hD.nzd).ser.zero=(FD.dom hD.nzd).ser.zero:=Dom.neg_zero _;rw[hnz,(FD.dom hD.nzd).ser.add_zero,(FD.dom hD.nzd).ser.mul_comm]
 refine⟨?_,hrst⟩;have h1:=div_ser hD (invT D hk E) hE hQ (by omega);rw[hrst,serL_nil hD (l:= []) rfl,Dom.zero_add,hser,(FD.dom hD.nzd).ser.mul_comm] at h1;have hEn:serL hD E≠(FD.dom hD.nzd).ser.zero:=(serL_dg hD hE hE0 tE).ne;rw[(FD.dom hD.nzd).ser.mul_comm,(FD.dom hD.nzd).ser.mul_comm _ (serL hD E)] at h1;have h2:=Dom.mul_left_cancel _ hEn h1;exact tz_ext (quo_tz hD hE hQ (by omega) htop tQ) tP (ser_get hD (quoF_lt hk _ _ _) hP h2.symm)
end
end FFld
end
section
open Go Go.RowKit Go.Deep
open FFld (ints)
namespace FFld
def linF (D:FD)(x:Nat):List Nat:= [padd D.p D.k 0 (pscl D.p D.k (D.p-1) x),1]
theorem linF_is {D:FD}(hk:PK D.p D.k D.m)(x:Nat):linF D x= [pscl D.p D.k (D.p-1) x,1]:=by
 unfold linF;rw[padd_comm hk,padd_zero hk _ (pscl_lt hk _ _)]
theorem prod_thV {D:FD}(hk:PK D.p D.k D.m)(xs:List Nat):∀ i,i<=xs.length->prodF D (xs.map (linF D)) i=thV D xs i
 |0,_=>rfl
 | i+1,hi=>by
   show mulL D (prodF D (xs.map (linF D)) i) ((xs.map (linF D))[i]?.getD [])=mulL D (thV D xs i) [pscl D.p D.k (D.p-1) (xs[i]?.getD 0),1]
   rw[prod_thV hk xs i (by omega),List.getElem?_map,List.getElem?_eq_getElem (by omega)]
   show mulL D _ (linF D xs[i])=mulL D _ [pscl D.p D.k (D.p-1) xs[i],1]
   rw[linF_is hk]
theorem linF_lt {D:FD}(hk:PK D.p D.k D.m)(x:Nat):∀ a∈linF D x,a<D.p ^ D.k:=by
 rw[linF_is hk];exact lin_lt hk x
theorem thV_tz {D:FD}(hD:D.Ok){xs:List Nat}{n:Nat}(hn:n<=xs.length):Tz (thV D xs n):=by
 have hk:=hD.pre.pk;rw[<- prod_thV hk xs n hn];exact prodF_tz hD (fun l hl=>by obtain⟨x,_,rfl⟩:=List.mem_map.1 hl;exact linF_lt hk x) (fun l hl=>by obtain⟨x,_,rfl⟩:=List.mem_map.1 hl;exact .inr (by simp[linF])) n (by simpa using hn)
end FFld
theorem crow_mine {E:TypeId}{K:IntKind}{w:World}{g B n:Nat}{xs:List Int}(h:Row E K w g xs)(hn:n=xs.length)(hm:n<=maxLen)(hB:B<=g):Mine E K B w (.slice (some ⟨g,0,none⟩) n n) xs:=by
 subst hn;refine .inr ⟨g,_,_,rfl,hB,h,Nat.le_refl _,by simp,hm,?_⟩;simp only[List.toList_toArray];exact List.take_of_length_le (by simp)
set_option maxRecDepth 20000 in
theorem cvanish_any {D:FFld.FD}{b:Nat}(hD:D.Ok)(ax:Option Addr)(cx:Nat)(xs:List Nat)(w:World)(hf:FldB D w b)(h:Sl .i64 w (.slice ax xs.length cx) (ints xs))(hxq:∀ a∈xs,a<D.p ^ D.k)(hl:xs.length<=100):
 Calls Tryz.prog 163 #[.pointer (some ⟨b,0,none⟩), .slice ax xs.length cx] w (fun e w' =>Below w.heap.size w w' /\ ∃ v,e= .returned v/\Sl .i64 w' v (ints (FFld.thV D xs xs.length))):=by
 have hq6:D.p ^ D.k<=65536:=hD.pre.small;have hk:=hD.pre.pk;have HSB:=Km (fun(W:World) (hW:Below w.heap.size w W) (x:Nat) (hx:x<D.p ^ D.k)=>fsub_any (0:Int) (x:Int) W (hf.below hW) (by omega) (by omega) (by omega) (by omega) 0 x (by simp) (md_nat hx) (Nat.pow_pos hk.p0) hx)
 have HPL:∀ i,i<=(xs.map (FFld.linF D)).length->(FFld.prodF D (xs.map (FFld.linF D)) i).length<=200:=fun i hi=>by
  have hi' :i<=xs.length:=by simpa using hi
  rw[FFld.prod_thV hk xs i hi',FFld.thV_len];omega
 have HPR:=Km (fun(W:World) (hW:Below w.heap.size w W) (af:Option Addr) (cf:Nat) (hs:Sls W af ((xs.map (FFld.linF D)).map ints)) (h1:xs.length<=cf) (h2:cf<=maxLen)=>cproduct_any hD af cf (xs.map (FFld.linF D)) W (hf.below hW) hs (by simpa using h1) h2 (fun l hl=>by obtain⟨x,_,rfl⟩:=List.mem_map.1 hl;exact FFld.linF_lt hk x) (fun l hl=>by obtain⟨x,_,rfl⟩:=List.mem_map.1 hl;exact .inr (by simp[FFld.linF])) (fun l hl=>by obtain⟨x,_,rfl⟩:=List.mem_map.1 hl;simp[FFld.linF]) (HPL) (by simp;omega));have HPV:Kept (FFld.prodF D (xs.map (FFld.linF D)) (xs.map (FFld.linF D)).length=FFld.thV D xs xs.length):=⟨by rw[List.length_map];exact FFld.prod_thV hk xs _ (Nat.le_refl _)⟩;have HXS:=Km h;have HXQ:=Km hxq;rw[HPV.out] at HPR;simp only[List.length_map] at HPR;obtain⟨n,hn⟩:∃ n,xs.length=n:=⟨_,rfl⟩;rw[hn] at HPR HXS hl ⊢;have HN:=Km hn;have HPK:=Km hk;clear hf h hxq hn hk HPL
 go_enter Tryz.func163,Tryz.ntmps163
 go_wp2
 go_loopw [5,10] (fun ov iv wr=> ∃ (i:Nat) (L:List (Value × List Int)) (ov0:Option Addr) (oc:Nat),i<=n/\iv= .int .i64 i/\ov= .slice ov0 i oc/\L.length=i/\Kept (L.map (·.2)=((xs.take i).map (FFld.linF D)).map ints)/\Kept (Rws w.heap.size wr (.slice ov0 i oc) L)/\Kept (Below w.heap.size w wr)) (fun _ iv _=>n-(intOf iv).toNat)
 case atStart=>exact⟨0,[],none,0,Nat.zero_le _,rfl,rfl,rfl,⟨rfl⟩,⟨Rws.nil _ _⟩,⟨Below.refl _ _⟩⟩
 case round=>
  obtain⟨i,L,ov0,oc,hin,rfl,rfl,hll,HL,hrw,hbw⟩:=hrel
  by_cases hlt:i<n
  ·obtain⟨ax',cx',e,hcx,hmx,hcc⟩:=HXS.out.below hbw.out;simp only[Value.slice.injEq] at e;obtain⟨rfl,e2,rfl⟩:=e;clear e2;obtain⟨bx,ox,rfl,hbx,hcell⟩:=hcc i (by rw[FFld.ints_len,HN.out];exact hlt);rw[FFld.ints_get] at hcell;rw[FFld.ints_len,HN.out] at hcx;have hxlt:=FFld.getD_lt (Nat.pow_pos HPK.out.p0) HXQ.out i;have HT:Kept (((xs.take (i+1)).map (FFld.linF D)).map ints=L.map (·.2)++ [ints (FFld.linF D (xs[i]?.getD 0))]):=⟨by rw[HL.out,map_take_next' (d:=0) (by rw[HN.out];exact hlt),List.map_append];rfl⟩;obtain⟨x,hx⟩:∃ x,xs[i]?.getD 0=x:=⟨_,rfl⟩;rw[hx] at hcell hxlt HT;have HC:=Km (HSB.out wr hbw.out x hxlt);have HLE:Kept (ints (FFld.linF D x)= [((FFld.padd D.p D.k 0 (FFld.pscl D.p D.k (D.p-1) x):Nat):Int),1]):=⟨rfl⟩;obtain⟨y,hy⟩:∃ y,FFld.padd D.p D.k 0 (FFld.pscl D.p D.k (D.p-1) x)=y:=⟨_,rfl⟩;rw[hy] at HC HLE;rw[HLE.out] at HT;clear hx hy hcc hxlt;go_wp2_with fail;refine HC.out.mono ?_;rintro e w3 ⟨hb3,rfl⟩;have HB3:=Km (bstep hbw.out hb3);have hsz:=hbw.out.size;have hsz3:=hb3.size;have hal:Below w3.heap.size w3 (w3.alloc (.cells #[.int .i64 (y:Nat), .int .i64 1] 3)):=(Below.refl _ _).alloc (Nat.le_refl _) _;have hrow:Mine 3 .i64 w.heap.size (w3.alloc (.cells #[.int .i64 (y:Nat), .int .i64 1] 3)) (.slice (some ⟨w3.heap.size,0,none⟩) 2 2) [((y:Nat):Int),1]:=crow_mine (Row.new w3 [((y:Nat):Int),1]) rfl (by decide) (by omega);have HW4:=Km ((hrw.out.below hb3).below hal);have HB4:=Km (bstep HB3.out hal);have HM4:=Km hrow
   have HNE:Kept (∀ k,(Value.slice (some ⟨w3.heap.size,0,none⟩) 2 2).ownBlock=some k->(Value.slice ov0 i oc).ownBlock≠some k):=⟨fun k hk e=>by
    have h2:=(hrw.out.own.own k e).2;simp[Value.ownBlock] at hk
    omega⟩
   have hal5:Below (w3.alloc (.cells #[.int .i64 (y:Nat), .int .i64 1] 3)).heap.size (w3.alloc (.cells #[.int .i64 (y:Nat), .int .i64 1] 3)) ((w3.alloc (.cells #[.int .i64 (y:Nat), .int .i64 1] 3)).alloc (.cells #[.slice (some ⟨w3.heap.size,0,none⟩) 2 2] 22)):=(Below.refl _ _).alloc (Nat.le_refl _) _;have HW5:=Km (HW4.out.below hal5);have HB5:=Km (bstep HB4.out hal5);have HM5:=Km (HM4.out.below hal5);have HON:=Km HW5.out.own
   have HNW:Kept (∀ j u,([Value.slice (some ⟨w3.heap.size,0,none⟩) 2 2])[j]? =some u->((w3.alloc (.cells #[.int .i64 (y:Nat), .int .i64 1] 3)).alloc (.cells #[.slice (some ⟨w3.heap.size,0,none⟩) 2 2] 22)).cell? ((⟨w3.heap.size+1,0,none⟩:Addr).add j)=some u):=⟨by
    have h:=rows_one (W:=(w3.alloc (.cells #[.int .i64 (y:Nat), .int .i64 1] 3))) (rv:=(.slice (some ⟨w3.heap.size,0,none⟩) 2 2));have e:(w3.alloc (.cells #[.int .i64 (y:Nat), .int .i64 1] 3)).heap.size=w3.heap.size+1:=by simp
    rw[e] at h
    exact h⟩
   have H0:=Km HM4.out.one;have H1:Kept ((L.map (·.1)).length=i):=⟨by rw[List.length_map,hll]⟩;have HBB:Kept (w.heap.size<=((w3.alloc (.cells #[.int .i64 (y:Nat), .int .i64 1] 3)).alloc (.cells #[.slice (some ⟨w3.heap.size,0,none⟩) 2 2] 22)).heap.size):=⟨by simp;omega⟩;clear hb3 hal hal5 hrow HW4 hcell hbw hrw HM4
   go_wp2_with (at_builtin;refine wpList_append_w _ rfl _ _ 39 (by rfl) 22 (.slice none 0 0) 24 Tryz.underlying39 info_rows (by rfl) w.heap.size (.slice ov0 i oc) (L.map (·.1)) (by rfl) HON.out HBB.out ⟨w3.heap.size+1,0,none⟩ 1 (.slice (some ⟨w3.heap.size,0,none⟩) 2 2) (by rfl) HNW.out H0.out i H1.out (by omega) (by omega) ?_)
   intro v' w5 ho5 hg5 hv5;have HR6:=Km (HW5.out.push HM5.out HNE.out ho5 hg5 (by simpa using hv5));have hown:=HON.out.own;have HB6:=Km (HB5.out.grown hg5 HBB.out (fun j hj=>(hown j hj).1));obtain⟨ao',cap',hv',_,_⟩:=HR6.out.sls;clear ho5 hg5 hv5 hown;go_wp2;go_roundw
   case rel=>exact⟨i+1,L++ [(.slice (some ⟨w3.heap.size,0,none⟩) 2 2,[((y:Nat):Int),1])],ao',cap',by omega,by go_num,by rw[hv'];simp[hll],by simp[hll],⟨by rw[HT.out,List.map_append];rfl⟩,by rw[hv'] at HR6;simpa[hll] using HR6,HB6⟩
   case measure=>simp[intOf]<;>omega
  ·obtain rfl:i=n:=by omega
   obtain⟨ao',cap',hv',h1,h2,hs⟩:=hrw.out.sls;have e3:L.map (·.2)=(xs.map (FFld.linF D)).map ints:=by rw[HL.out,List.take_of_length_le (by rw[HN.out];exact Nat.le_refl _)]
   rw[e3] at hs;rw[hll] at hv' h1;simp only[Value.slice.injEq] at hv';obtain⟨rfl,_,rfl⟩:=hv';have HC:=Km (HPR.out wr hbw.out _ _ hs h1 h2);clear hs h1 h2 e3;go_wp2_with fail;refine HC.out.mono ?_;rintro e w2 ⟨hb2,v2,rfl,hs2⟩;have HB2:=Km (bstep hbw.out hb2);have HS2:=Km hs2;clear hb2 hs2;go_wp2
   go_ret
   exact⟨HB2.out,_,rfl,HS2.out⟩
end
section
open Go Go.RowKit
open FFld (ints)
set_option maxRecDepth 20000 in
theorem cplus_any {D:FFld.FD}{b:Nat}(hD:D.Ok)(ap aq:Option Addr)(cp cq:Nat)(pl ql:List Nat)(c s:Nat)(w:World)(hf:FldB D w b)(hp:Sl .i64 w (.slice ap pl.length cp) (ints pl))(hq:Sl .i64 w (.slice aq ql.length cq) (ints ql))(hpq:∀ a∈pl,a<D.p ^ D.k)(hqq:∀ a∈ql,a<D.p ^ D.k)(hc:c<D.p ^ D.k)(hl:pl.length<=1000)(hl2:s+ql.length<=1000):
 Calls Tryz.prog 165 #[.pointer (some ⟨b,0,none⟩), .slice ap pl.length cp, .slice aq ql.length cq, .int .i64 c, .int .i64 s] w (fun e w' =>Below w.heap.size w w' /\e= .returned (.slice (some ⟨w.heap.size,0,none⟩) (FFld.plusF D pl ql c s).length (max pl.length (s+ql.length)))/\Wv w' w.heap.size (FFld.plusF D pl ql c s)):=by
 have hq6:D.p ^ D.k<=65536:=hD.pre.small;obtain⟨N,hN⟩:∃ N,max pl.length (s+ql.length)=N:=⟨_,rfl⟩;have hN1:pl.length<=N:=by omega
 have hN2:s+ql.length<=N:=by omega
 have hN3:N<=1000:=by omega
 have HPD:=Km (cpadded_any ap cp pl N w hp hN1 (by omega));have HNN:=Km hN;have eN1:(max (pl.length:Int) ((s:Int)+(ql.length:Int)))=N:=by omega
 have HAMB:=Km (fun(W:World) (hW:Below w.heap.size w W) (hr:Wv W w.heap.size (FFld.padF pl N))=>caddMultiple_any (s:=s) (n:=N-s) (cc:=N-s) (cap:=cq) w W hD hf hW (Nat.le_refl _) (FFld.padF pl N) hr (FFld.padF_lt (Nat.pow_pos hD.pre.pk.p0) hpq N) ql (qc_of hq hW (Nat.le_refl _)) hqq (by rw[FFld.padF_len hN1];exact hN2) (by omega) c hc (by omega));have HAMA:=Km (fun(hsN:s=N) (W:World) (hW:Below w.heap.size w W) (hr:Wv W w.heap.size (FFld.padF pl N))=>caddMultiple_any (s:=0) (n:=0) (cc:=0) (cap:=cq) w W hD hf hW (Nat.le_refl _) (FFld.padF pl N) hr (FFld.padF_lt (Nat.pow_pos hD.pre.pk.p0) hpq N) ql (qc_of hq hW (Nat.le_refl _)) hqq (by rw[FFld.padF_len hN1];omega) (by omega) c hc (by omega))
 have HAE:Kept (s=N->FFld.addm D (FFld.padF pl N) 0 ql c=FFld.addm D (FFld.padF pl N) s ql c):=⟨fun hsN=>by
  have e:ql= []:=List.eq_nil_of_length_eq_zero (by omega);rw[e]
  rfl⟩
 have HPF:Kept ((FFld.addm D (FFld.padF pl N) s ql c).length=N):=⟨by rw[FFld.addm_len,FFld.padF_len hN1]⟩;have HPE:Kept (FFld.plusF D pl ql c s=FFld.trm (FFld.addm D (FFld.padF pl N) s ql c)):=⟨by unfold FFld.plusF;rw[hN]⟩;obtain⟨np,hnp⟩:∃ n,pl.length=n:=⟨_,rfl⟩;obtain⟨nq,hnq⟩:∃ n,ql.length=n:=⟨_,rfl⟩;rw[hnp] at eN1 hN1 HPD ⊢;rw[hnq] at eN1 hN2 HAMA HAMB ⊢;rw[hnp,hnq] at hN;rw[hN];obtain⟨g,hg⟩:∃ g,w.heap.size=g:=⟨_,rfl⟩;have HGG:=Km hg;rw[hg] at HAMA HAMB HPD;have hc6:c<=65536:=by omega
 clear hf hp hq hpq hqq hc hnp hnq hl hl2 hN
 go_enter Tryz.func165,Tryz.ntmps165
 by_cases hsN:s=N
 ·obtain rfl:N=s:=hsN.symm
  rcases Nat.lt_or_ge np (N+nq) with hm|hm
  ·have hq0:nq=0:=by omega
   subst hq0;have dm:(np:Int)<N:=by omega
   clear eN1;go_wp2_with fail
   try rw[Int.max_eq_right (Int.le_of_lt dm)]
   (with_reducible refine HPD.out.mono ?_);rintro e w1 ⟨hb1,rfl,hr1⟩;have HB1:=Km hb1;have HAM1:=Km (HAMA.out (by first|rfl|trivial) w1 (HGG.out ▸ hb1) hr1);clear hb1 hr1 HAMA HAMB HPD;go_wp2_with fail;(with_reducible refine HAM1.out.mono ?_);rintro e w2 ⟨rfl,hgr,hw2⟩;rw[HAE.out (by first|rfl|trivial)] at hw2;have HB2:Kept (Below w.heap.size w w2):=⟨belowGrow hgr (by rw[HGG.out];exact HB1.out) (by rw[HGG.out];exact Nat.le_refl _)⟩;have HT:=Km (ctrimmed_any (FFld.addm D (FFld.padF pl N) N ql c) (some ⟨g,0,none⟩) N w2 (hw2.sl rfl (by rw[HPF.out];exact Nat.le_refl _) (by unfold maxLen;omega)));have HW2:=Km hw2;rw[HPF.out,<- HPE.out] at HT;clear hgr hw2;go_wp2_with fail;(with_reducible refine HT.out.mono ?_);rintro e w3 ⟨rfl,rfl⟩;go_wp2
   go_ret
   rw[HGG.out];refine⟨by rw[<- HGG.out];exact HB2.out,rfl,?_⟩;rw[HPE.out];exact HW2.out.take _
  ·have hq0:nq=0:=by omega
   subst hq0;obtain rfl:np=N:=by omega
   clear eN1;go_wp2_with fail;(with_reducible refine HPD.out.mono ?_);rintro e w1 ⟨hb1,rfl,hr1⟩;have HB1:=Km hb1;have HAM1:=Km (HAMA.out (by first|rfl|trivial) w1 (HGG.out ▸ hb1) hr1);clear hb1 hr1 HAMA HAMB HPD;go_wp2_with fail;(with_reducible refine HAM1.out.mono ?_);rintro e w2 ⟨rfl,hgr,hw2⟩;rw[HAE.out (by first|rfl|trivial)] at hw2;have HB2:Kept (Below w.heap.size w w2):=⟨belowGrow hgr (by rw[HGG.out];exact HB1.out) (by rw[HGG.out];exact Nat.le_refl _)⟩;have HT:=Km (ctrimmed_any (FFld.addm D (FFld.padF pl np) np ql c) (some ⟨g,0,none⟩) np w2 (hw2.sl rfl (by rw[HPF.out];exact Nat.le_refl _) (by unfold maxLen;omega)));have HW2:=Km hw2;rw[HPF.out,<- HPE.out] at HT;clear hgr hw2;go_wp2_with fail;(with_reducible refine HT.out.mono ?_);rintro e w3 ⟨rfl,rfl⟩;go_wp2
   go_ret
   rw[HGG.out];refine⟨by rw[<- HGG.out];exact HB2.out,rfl,?_⟩;rw[HPE.out];exact HW2.out.take _
 ·rcases Nat.lt_or_ge np (s+nq) with hm|hm
  ·have eN2:(s:Int)+(nq:Int)=N:=by omega
   have dm:(np:Int)<N:=by omega
   have hsn:s<N:=by omega
   clear eN1;go_wp2_with fail
   try rw[Int.max_eq_right (Int.le_of_lt dm)]
   (with_reducible refine HPD.out.mono ?_);rintro e w1 ⟨hb1,rfl,hr1⟩;have HB1:=Km hb1;have HAM1:=Km (HAMB.out w1 (HGG.out ▸ hb1) hr1);clear hb1 hr1 HAMA HAMB HPD;go_wp2_with fail;(with_reducible refine HAM1.out.mono ?_);rintro e w2 ⟨rfl,hgr,hw2⟩;have HB2:Kept (Below w.heap.size w w2):=⟨belowGrow hgr (by rw[HGG.out];exact HB1.out) (by rw[HGG.out];exact Nat.le_refl _)⟩;have HT:=Km (ctrimmed_any (FFld.addm D (FFld.padF pl N) s ql c) (some ⟨g,0,none⟩) N w2 (hw2.sl rfl (by rw[HPF.out];exact Nat.le_refl _) (by unfold maxLen;omega)));have HW2:=Km hw2;rw[HPF.out,<- HPE.out] at HT;clear hgr hw2;go_wp2_with fail;(with_reducible refine HT.out.mono ?_);rintro e w3 ⟨rfl,rfl⟩;go_wp2
   go_ret
   rw[HGG.out];refine⟨by rw[<- HGG.out];exact HB2.out,rfl,?_⟩;rw[HPE.out];exact HW2.out.take _
  ·obtain rfl:np=N:=by omega
   have dm:(s:Int)+(nq:Int)<=np:=by omega
   have hsn:s<np:=by omega
   clear eN1;go_wp2_with fail
   try rw[Int.max_eq_left dm]
   (with_reducible refine HPD.out.mono ?_);rintro e w1 ⟨hb1,rfl,hr1⟩;have HB1:=Km hb1;have HAM1:=Km (HAMB.out w1 (HGG.out ▸ hb1) hr1);clear hb1 hr1 HAMA HAMB HPD;go_wp2_with fail;(with_reducible refine HAM1.out.mono ?_);rintro e w2 ⟨rfl,hgr,hw2⟩;have HB2:Kept (Below w.heap.size w w2):=⟨belowGrow hgr (by rw[HGG.out];exact HB1.out) (by rw[HGG.out];exact Nat.le_refl _)⟩;have HT:=Km (ctrimmed_any (FFld.addm D (FFld.padF pl np) s ql c) (some ⟨g,0,none⟩) np w2 (hw2.sl rfl (by rw[HPF.out];exact Nat.le_refl _) (by unfold maxLen;omega)));have HW2:=Km hw2;rw[HPF.out,<- HPE.out] at HT;clear hgr hw2;go_wp2_with fail;(with_reducible refine HT.out.mono ?_);rintro e w3 ⟨rfl,rfl⟩;go_wp2
   go_ret
   rw[HGG.out];refine⟨by rw[<- HGG.out];exact HB2.out,rfl,?_⟩;rw[HPE.out];exact HW2.out.take _
set_option maxRecDepth 20000 in
theorem multiply_new {D:FFld.FD}{b:Nat}(hD:D.Ok)(vp vq:Value)(pl ql:List Nat)(w:World)(hf:FldB D w b)(hp:Sl .i64 w vp (ints pl))(hq:Sl .i64 w vq (ints ql))(hpq:∀ a∈pl,a<D.p ^ D.k)(hqq:∀ a∈ql,a<D.p ^ D.k)(hpl:pl.length<=100000)(hqll:ql.length<=100000)(h0: ¬ (pl.length=0\/ql.length=0)):
 Calls Tryz.prog 153 #[.pointer (some ⟨b,0,none⟩),vp,vq] w (fun e w' =>Below w.heap.size w w' /\e= .returned (.slice (some ⟨w.heap.size,0,none⟩) (FFld.mulL D pl ql).length (FFld.mulL D pl ql).length)/\Wv w' w.heap.size (FFld.mulL D pl ql)):=by
 obtain⟨ap,cp,rfl,hcp,hmp⟩:=hp.form;obtain⟨aq,cq,rfl,hcq,hmq⟩:=hq.form;rw[FFld.ints_len] at hcp hcq;have HPS:=Km hp;have HQS:=Km hq;have HF:=Km hf;have HPQ:=Km hpq;have HQQ:=Km hqq;clear hp hq hf hpq hqq;rw[FFld.ints_len,FFld.ints_len] at*
 ·have hL:FFld.mulL D pl ql=FFld.mulF D pl ql pl.length:=by unfold FFld.mulL;rw[if_neg h0]
  rw[hL];have e1:((pl.length:Int)==0)=false:=by rw[beq_eq_false_iff_ne];omega
  have e2:((ql.length:Int)==0)=false:=by rw[beq_eq_false_iff_ne];omega
  obtain⟨n,hn⟩:∃ n,pl.length+ql.length-1=n:=⟨_,rfl⟩;have en:(pl.length:Int)+ql.length-1=n:=by omega
  have HN:Kept (∀ i,(FFld.mulF D pl ql i).length=n):=⟨fun i=>by rw[FFld.mulF_len,hn]⟩;have hlen:pl.length+ql.length=n+1:=by omega
  have hn6:n<=200000:=by omega
  rw[FFld.mulF_len,hn];have HZ:Kept (FFld.mulF D pl ql 0=List.replicate n 0):=⟨by simp only[FFld.mulF];rw[hn]⟩;obtain⟨np,hnp⟩:∃ np,pl.length=np:=⟨_,rfl⟩;obtain⟨nq,hnq⟩:∃ nq,ql.length=nq:=⟨_,rfl⟩;have HNP:=Km hnp;have HNQ:=Km hnq;have HCP:=Km (HPS.out.cells (Nat.le_refl _));rw[hnp] at hcp hpl e1 en hlen h0 ⊢;rw[hnq] at hcq hqll e2 en hlen h0;rw[hnq];clear hL hn hnp hnq
  go_enter Tryz.func153,Tryz.ntmps153
  go_wp2_with (at_make;refine wpList_make_zeros _ rfl _ _ 22 rfl 3 .i64 Tryz.underlying22 info_i64 _ _ n rfl rfl (by omega) (by omega) (by omega) ?_)
  intro w3 hrow hbel;rw[FFld.ints_rep] at hrow;have HW3:=Km hrow.wv;have HB3:=Km hbel;clear hrow hbel;go_wp2
  go_loopw [27] (fun iv wr=> ∃ i:Nat,i<=np/\iv= .int .i64 i/\Kept (Wv wr w.heap.size (FFld.mulF D pl ql i))/\Kept (Below w.heap.size w wr)) (fun iv _=>np-(intOf iv).toNat)
  case atStart=>exact⟨0,Nat.zero_le _,rfl,⟨by rw[HZ.out];exact HW3.out⟩,HB3⟩
  case round=>
   obtain⟨i,hi,rfl,hwv,hbl⟩:=hrel
   by_cases hlt:i<np
   ·obtain⟨bp,op,rfl,hcell⟩:=HCP.out _ hbl.out i (by rw[HNP.out];exact hlt);obtain⟨c,hc⟩:∃ c,pl[i]?.getD 0=c:=⟨_,rfl⟩;have hcq2:c<D.p ^ D.k:=by rw[<- hc];exact FFld.getD_lt (Nat.pow_pos hD.pre.pk.p0) HPQ.out i
    rw[hc] at hcell;obtain⟨R,hR⟩:∃ R,FFld.mulF D pl ql i=R:=⟨_,rfl⟩;have hRl:R.length=n:=by rw[<- hR];exact HN.out i
    have HRQ:Kept (∀ a∈R,a<D.p ^ D.k):=⟨by rw[<- hR];exact FFld.mulF_lt hD.pre.pk pl ql i⟩;have HNX:Kept (FFld.mulF D pl ql (i+1)=FFld.addm D R i ql c):=⟨by simp only[FFld.mulF];rw[hR,hc]⟩;rw[hR] at hwv;have hAm:=Km (fun(n' cc:Nat) (hn' :ql.length<=n')=>addMultiple_any (s:=i) (n:=n') (cc:=cc) (cap:=cq) w wr HF.out hbl.out (Nat.le_refl _) R hwv.out HRQ.out ql (HQS.out.qc hbl.out (Nat.le_refl _)) HQQ.out (by rw[hRl,HNQ.out];omega) hn' c hcq2 (by rw[HNQ.out];omega));rw[HNQ.out] at hAm;have hs1:(i:Int)<=(n:Int):=by omega
    have hs2:i<=n:=by omega
    have hs3:(0:Int)<=(i:Int):=by omega
    have hs6:((i:Int)<0)=False:=by simp
    clear hc hR hcq2;go_wp2_with fail;refine(hAm.out _ _ (by omega)).mono ?_;rintro e w7 ⟨rfl,hg7,hw7⟩;have HW7:=Km hw7;have HB7:=Km (belowGrow hg7 hbl.out (Nat.le_refl _));clear hg7 hw7 hAm;go_wp2;go_roundw
    case rel=>exact⟨i+1,by omega,by go_num,⟨by rw[HNX.out];exact HW7.out⟩,HB7⟩
    case measure=>simp[intOf]<;>omega
   ·obtain rfl:i=np:=by omega
    have HS:=Km (hwv.out.sl (n:=n) (c:=n) (HN.out i).symm (Nat.le_refl _) (by unfold maxLen;omega));go_wp2
    go_ret
    exact⟨hbl.out,rfl,hwv.out⟩
end
section
open Go Go.RowKit Go.Deep
open FFld (ints)

def minF (D:FFld.FD)(h:FFld.PK D.p D.k D.m)(a:Nat):Nat->List Nat
 |0=> [1]
 |i+1=>FFld.mulL D (minF D h a i) [FFld.pscl D.p D.k (D.p-1) (cjg h a i),1]
def MinT {D:FFld.FD}(h:FFld.PK D.p D.k D.m)(a t:Nat):Prop:=1<=t/\t<=D.k/\(∀ i,0<i->i<t->cjg h a i≠a)/\(t<D.k->cjg h a t=a)
theorem two_sl (W:World)(x y:Int):Sl .i64 (W.alloc (.cells #[.int .i64 x, .int .i64 y] 3)) (.slice (some ⟨W.heap.size,0,none⟩) 2 2) [x,y]:=by
 refine⟨_,2,rfl,Nat.le_refl _,by unfold maxLen;omega,fun i hi=>⟨W.heap.size,0,rfl,by simp,?_⟩⟩;rw[Nat.zero_add];exact(Row.new (E:=3) (K:= .i64) W [x,y]).cell (i:=i) hi
def ThRet (D:FFld.FD)(h:FFld.PK D.p D.k D.m)(xs ys:List Nat)(n:Nat)(w:World)(e:Ending)(w' :World):Prop:=Below w.heap.size w w' /\
 ((∃ i j,j<i/\i<n/\xs[i]?.getD 0=xs[j]?.getD 0/\e= .returned (.tuple #[.slice none 0 0, .int .i64 1]))\/
  ((∀ a,a<n->FFld.thA D xs a≠0)/\ ∃ v,e= .returned (.tuple #[v, .int .i64 0])/\Sl .i64 w' v (ints (FFld.trm (FFld.thR D h xs ys n n)))))
def ThOwn (D:FFld.FD)(h:FFld.PK D.p D.k D.m)(xs ys:List Nat)(n:Nat)(w:World)(e:Ending)(w' :World):Prop:=Below w.heap.size w w' /\
 ((∃ i j,j<i/\i<n/\xs[i]?.getD 0=xs[j]?.getD 0/\e= .returned (.tuple #[.slice none 0 0, .int .i64 1]))\/
  ((∀ a,a<n->FFld.thA D xs a≠0)/\ ∃ v,e= .returned (.tuple #[v, .int .i64 0])/\Mine 3 .i64 w.heap.size w' v (ints (FFld.trm (FFld.thR D h xs ys n n)))))
theorem ThOwn.ret {D:FFld.FD}{h:FFld.PK D.p D.k D.m}{xs ys:List Nat}{n:Nat}{w:World}{e:Ending}{w' :World}(H:ThOwn D h xs ys n w e w'):ThRet D h xs ys n w e w' :=by
 obtain⟨hb,h|⟨hn,v,he,hm⟩⟩:=H
 ·exact⟨hb, .inl h⟩
 ·exact⟨hb, .inr ⟨hn,v,he,hm.sl⟩⟩
theorem Wv.mine {w:World}{g B n:Nat}{l:List Nat}(h:Wv w g l)(hB:B<=g)(hn:n=l.length)(hm:n<=maxLen):Mine 3 .i64 B w (.slice (some ⟨g,0,none⟩) n n) (ints l):=by
 obtain⟨cur,h1,h2,h3⟩:=h;subst hn;refine .inr ⟨g,_,cur,by rw[FFld.ints_len],hB,h1,by rw[FFld.ints_len];exact Nat.le_refl _,h2,hm,?_⟩;refine List.ext_getElem? fun i=> ?_
 rw[FFld.ints_len,List.getElem?_take]
 by_cases hi:i<l.length
 ·rw[if_pos hi,Array.getElem?_toList,h3 i hi];simp[ints,hi]
 ·rw[if_neg hi,List.getElem?_eq_none (by simp[ints];omega)]
set_option maxRecDepth 20000 in
theorem fthrough_own {D:FFld.FD}{b:Nat}(hD:D.Ok)(vx vy:Value)(xs ys:List Nat)(n:Nat)(w:World)(hf:FldB D w b)(hx:Sl .i64 w vx (ints xs))(hy:Sl .i64 w vy (ints ys))(hxq:∀ a∈xs,a<D.p ^ D.k)(hyq:∀ a∈ys,a<D.p ^ D.k)(lx:xs.length=n)(ly:ys.length=n)(hn:n<=200):
 Calls Tryz.prog 75 #[.pointer (some ⟨b,0,none⟩),vx,vy] w (ThOwn D hD.pre.pk xs ys n w):=by
 have hk:=hD.pre.pk;have H1:=Km (areElements_any vx (ints xs) w hf hx);have H2:=Km (areElements_any vy (ints ys) w hf hy);rw[elsB_ints hxq] at H1;rw[elsB_ints hyq] at H2;obtain⟨ax,cx,hvx,hcx,hmx⟩:=hx.form;obtain⟨ay,cy,hvy,hcy,hmy⟩:=hy.form;subst hvx hvy;rw[FFld.ints_len,lx] at hx hcx H1 ⊢;rw[FFld.ints_len,ly] at hy hcy H2 ⊢;obtain⟨h,T,xv,fs,fp,fw,ms,hb,ho,hna⟩:=hf.open2;have HF:=Km hf;have HX:=Km hx;have HY:=Km hy;have HXQ:=Km hxq;have HYQ:=Km hyq;have HLX:=Km lx;have HLY:=Km ly;have HO:=Km ho;have HHB:=Km hb;have hmp:=ho.mp;have hcp:=ho.cp;have hbl:b<w.heap.size:=hf.lt;have e200:decide ((200:Int)<n)=false:=by rw[decide_eq_false_iff_not];omega
 clear hf hx hy hxq hyq lx ly ho hb
 go_enter Tryz.func75,Tryz.ntmps75
 go_wp2_with fail;refine H1.out.mono ?_;rintro e w1 ⟨rfl,rfl⟩;go_wp2_with fail;refine H2.out.mono ?_;rintro e w1 ⟨rfl,rfl⟩
 go_wp2_with (at_make;refine wpList_make_zeros _ rfl _ _ 22 rfl 3 .i64 Tryz.underlying22 info_i64 _ _ n rfl rfl (by omega) (by omega) (by omega) ?_)
 intro w3 hrow hbel;rw[FFld.ints_rep] at hrow;have HW3:=Km hrow.wv;have HB3:=Km (show Below w.heap.size w w3 by simpa using hbel);obtain⟨g,hg⟩:∃ g,w.heap.size=g:=⟨_,rfl⟩;rw[hg] at HW3;have hg3:=HW3.out.lt;have hal:Below w3.heap.size w3 (w3.alloc (.cells #[.int .i64 1] 3)):=(Below.refl _ _).alloc (Nat.le_refl _) _;have HW4:Kept (Wv (w3.alloc (.cells #[.int .i64 1] 3)) g (FFld.thR D hk xs ys n 0)):=⟨HW3.out.below hal⟩;have HV4:Kept (Wv (w3.alloc (.cells #[.int .i64 1] 3)) w3.heap.size (FFld.thV D xs 0)):=⟨(Row.new (E:=3) (K:= .i64) w3 [(1:Int)]).wv (l:= [1])⟩;have HB4:=Km (bstep HB3.out hal);have HNG:=Km hg;have hbg:b≠g:=by omega
 rw[hg] at hbl;clear hrow hbel hal H1 H2 HW3 hg e200;go_wp2
 try rw[HNG.out]
 go_loopw [9,44] (fun vv iv wr=> ∃ (i gv cv:Nat),i<=n/\iv= .int .i64 i/\vv= .slice (some ⟨gv,0,none⟩) (i+1) cv/\g<gv/\i+1<=cv/\cv<=maxLen/\Kept (Wv wr gv (FFld.thV D xs i))/\Kept (Wv wr g (FFld.thR D hk xs ys n i))/\Kept (∀ a,a<i->FFld.thA D xs a≠0)/\Kept (Below w.heap.size w wr)) (fun _ iv _=>n-(intOf iv).toNat)
 case atStart=>exact⟨0,w3.heap.size,1,Nat.zero_le _,rfl,rfl,hg3,Nat.le_refl _,by unfold maxLen;omega,HV4,HW4,⟨fun a ha=>absurd ha (Nat.not_lt_zero _)⟩,HB4⟩
 case round=>
  clear HV4 HW4 HB4 hg3;obtain⟨i,gv,cv,hin,rfl,rfl,hgv,hcv,hmv,hwv,hwr,hnd,hbx⟩:=hrel
  by_cases hlt:i<n
  ·obtain⟨bx,ox,rfl,hbx0,cxx⟩:=(HX.out.below hbx.out).news_at i (by rw[FFld.ints_len,HLX.out];exact hlt);obtain⟨x,hxe⟩:∃ x,xs[i]?.getD 0=x:=⟨_,rfl⟩;rw[FFld.ints_get,hxe] at cxx;have hxq:x<D.p ^ D.k:=by rw[<- hxe];exact FFld.at_lt hD HXQ.out i
   obtain⟨c0,_⟩:=six_cells ((hbx.out.block b (by rw[HNG.out];exact hbl)).trans HHB.out);have HAT:Kept (FFld.hornF D (FFld.thV D xs i) x (FFld.thV D xs i).length=FFld.thA D xs i):=⟨by unfold FFld.thA;rw[hxe]⟩;have HV:=Km (gvalue_any h (.slice (some ⟨gv,0,none⟩) (i+1) cv) (FFld.thV D xs i) x w wr HO.out hna hbx.out (hwv.out.sl (FFld.thV_len D xs i).symm hcv hmv) (FFld.thV_lt hk xs i) hxq (by rw[FFld.thV_len];omega));rw[HAT.out] at HV;obtain⟨at_,hat⟩:∃ a,FFld.thA D xs i=a:=⟨_,rfl⟩;rw[hat] at HV;have HATE:=Km hat;have HXE:=Km hxe;have HXL:=Km hxq;have hatq:at_<D.p ^ D.k:=by rw[<- hat];exact FFld.thA_lt hD HXQ.out i
   have HATQ:=Km hatq;have hx6:x<=65536:=by have:D.p ^ D.k<=65536:=hD.pre.small;omega
   have ha6:at_<=65536:=by have:D.p ^ D.k<=65536:=hD.pre.small;omega
   clear hxe hxq hat hatq HAT;go_wp2_with fail;refine HV.out.mono ?_;rintro e w4 ⟨hb4,rfl⟩;have HB4:=Km (bstep hbx.out hb4);have HWV:=Km (hwv.out.below hb4);have HWR:=Km (hwr.out.below hb4);have d0:=belowCell hb4 c0;clear hb4 HV c0 cxx
   by_cases hA:at_=0
   ·subst hA;have HDU:=Km (FFld.thA_dup hD HXQ.out HATE.out);go_wp2
    go_ret2
    obtain⟨j,hj,e⟩:=HDU.out;exact⟨HB4.out, .inl ⟨i,j,hj,hlt,e,rfl⟩⟩
   ·have eA:((at_:Int)==0)=false:=by rw[beq_eq_false_iff_ne];omega
    obtain⟨by_,oy,rfl,hby,cyy⟩:=(HY.out.below HB4.out).news_at i (by rw[FFld.ints_len,HLY.out];exact hlt);obtain⟨y,hye⟩:∃ y,ys[i]?.getD 0=y:=⟨_,rfl⟩;rw[FFld.ints_get,hye] at cyy;have hyq:y<D.p ^ D.k:=by rw[<- hye];exact FFld.at_lt hD HYQ.out i
    obtain⟨R,hR⟩:∃ R,FFld.thR D hk xs ys n i=R:=⟨_,rfl⟩;have HRL:Kept (R.length=n):=⟨by rw[<- hR];exact FFld.thR_len D hk xs ys n i⟩;have HRQ:Kept (∀ a∈R,a<D.p ^ D.k):=⟨by rw[<- hR];exact FFld.thR_lt hk xs ys n i⟩;obtain⟨rv,hrv⟩:∃ r,FFld.hornF D R x R.length=r:=⟨_,rfl⟩;have hrvq:rv<D.p ^ D.k:=by rw[<- hrv];exact FFld.hornF_lt hk _ _ _
    obtain⟨mi,hmi⟩:∃ m,FFld.padd D.p D.k y (FFld.pscl D.p D.k (D.p-1) rv)=m:=⟨_,rfl⟩;have hmiq:mi<D.p ^ D.k:=by rw[<- hmi];exact FFld.padd_lt hk _ _
    obtain⟨iv,hiv⟩:∃ v,FFld.ppow hk at_ (D.q-2)=v:=⟨_,rfl⟩;have hivq:iv<D.p ^ D.k:=by rw[<- hiv];exact FFld.ppow_lt _ _ _
    obtain⟨co,hco⟩:∃ c,FFld.pmul D.p D.k D.m mi D.k iv=c:=⟨_,rfl⟩;have hcoq:co<D.p ^ D.k:=by rw[<- hco];exact FFld.pmul_lt hk _ _ _
    have HNX:Kept (FFld.thR D hk xs ys n (i+1)=FFld.addm D R 0 (FFld.thV D xs i) co):=⟨by simp only[FFld.thR];unfold FFld.misF;rw[hR,HXE.out,hye,hrv,hmi,HATE.out,hiv,hco]⟩
    have HND:Kept (∀ a,a<i+1->FFld.thA D xs a≠0):=⟨fun a ha=>by
     by_cases e:a=i
     ·rw[e,HATE.out];exact hA
     ·exact hnd.out a (by omega)⟩
    rw[hR] at HWR;have HG:=Km (fun W (hW:Below w4.heap.size w4 W)=>gvalue_any h (.slice (some ⟨g,0,none⟩) n n) R x w W HO.out hna (bstep HB4.out hW) ((HWR.out.below hW).sl HRL.out.symm (Nat.le_refl _) (by unfold maxLen;omega)) HRQ.out HXL.out (by rw[HRL.out];omega));rw[hrv] at HG;have HDF:=Km (fun W (hW:Below w4.heap.size w4 W)=>difference_any (b:=b) y rv W (HF.out.below (bstep HB4.out hW)) hyq hrvq);rw[hmi] at HDF;have hy6:y<=65536:=by have:D.p ^ D.k<=65536:=hD.pre.small;omega
    have hr6:rv<=65536:=by have:D.p ^ D.k<=65536:=hD.pre.small;omega
    have hm6:mi<=65536:=by have:D.p ^ D.k<=65536:=hD.pre.small;omega
    have HIV:=Km (fun W (hW:Below w.heap.size w W)=>inverse_any hD at_ W (HF.out.below hW) HATQ.out hA);rw[hiv] at HIV;have HPR:=Km (fun W (hW:Below w.heap.size w W)=>HO.out.product W hW mi iv hmiq hivq);rw[hco] at HPR;have HCQ:=Km hcoq;have HNE:=Km (FFld.thV_lt hk xs i);have HVL:=Km (FFld.thV_len D xs i);have HVN:Kept (FFld.thV D xs (i+1)=FFld.mulL D (FFld.thV D xs i) [FFld.pscl D.p D.k (D.p-1) x,1]):=⟨by simp only[FFld.thV];rw[HXE.out]⟩;have HVN2:Kept ((FFld.thV D xs (i+1)).length=i+1+1):=⟨FFld.thV_len D xs (i+1)⟩;obtain⟨V,hV⟩:∃ V,FFld.thV D xs i=V:=⟨_,rfl⟩;rw[hV] at HNX HWV HNE HVL HVN;have HLIN:=Km (FFld.lin_lt hk x);clear hye hyq hR hrv hrvq hmi hmiq hiv hivq hco hcoq hV hwv hwr hnd hbx hA;go_wp2
    go_region_held3 (fun w' =>w'.cell? ⟨b,0,none⟩=some (.iface T xv)/\w'.cell? ⟨by_,oy+i,none⟩=some (.int .i64 y))
     (first|exact⟨l0,ly⟩|exact⟨k0,ky⟩|exact⟨d0,cyy⟩|go_keep)
     ((first
       |(go_at_call 149;(with_reducible refine(HG.out _ (by repeat (first|(with_reducible exact Below.refl _ _)|(with_reducible exact HC3.out)|(with_reducible exact HC2.out)|(with_reducible exact HC1.out)|(with_reducible refine Below.drew ?_)))).mono ?_);rintro e v1 ⟨hb1,rfl⟩;have HC1:Kept (Below w4.heap.size w4 v1):=⟨bstep (by repeat (first|(with_reducible exact Below.refl _ _)|(with_reducible exact HC3.out)|(with_reducible exact HC2.out)|(with_reducible exact HC1.out)|(with_reducible refine Below.drew ?_))) hb1⟩;have k0:=belowCell HC1.out d0;have ky:=belowCell HC1.out cyy;clear hb1)
       |(go_at_call 150;(with_reducible refine(HDF.out _ (by repeat (first|(with_reducible exact Below.refl _ _)|(with_reducible exact HC3.out)|(with_reducible exact HC2.out)|(with_reducible exact HC1.out)|(with_reducible refine Below.drew ?_)))).mono ?_);rintro e v2 ⟨hb2,rfl⟩;have HC2:Kept (Below w4.heap.size w4 v2):=⟨bstep (by repeat (first|(with_reducible exact Below.refl _ _)|(with_reducible exact HC3.out)|(with_reducible exact HC2.out)|(with_reducible exact HC1.out)|(with_reducible refine Below.drew ?_))) hb2⟩;have l0:=belowCell HC2.out d0;have ly:=belowCell HC2.out cyy;clear hb2)))
    have HB5:=Km (bstep HB4.out HC2.out);have HWV5:=Km (HWV.out.below HC2.out);have HWR5:=Km (HWR.out.below HC2.out);have HIV5:=Km (fun W (hW:Below v2.heap.size v2 W)=>HIV.out W (bstep HB5.out hW));have HPR5:=Km (fun W (hW:Below v2.heap.size v2 W)=>HPR.out W (bstep HB5.out hW));have HAM:=Km (fun W (hW:Below v2.heap.size v2 W)=>addMultiple_any (D:=D) (b:=b) (g:=g) (s:=0) (n:=n) (cc:=n) (ao:=some ⟨gv,0,none⟩) (cap:=cv) w W HF.out (bstep HB5.out hW) (by rw[HNG.out];exact Nat.le_refl _) R (HWR5.out.below hW) HRQ.out V (fun j hj=>⟨gv,0,rfl,by omega,((HWV5.out.below hW).lt),by have:=(HWV5.out.below hW).cell (i:=j) hj;rw[Nat.zero_add];exact this⟩) HNE.out (by rw[HRL.out,HVL.out];omega) (by rw[HVL.out];omega) co HCQ.out (by rw[HVL.out];omega));rw[HVL.out] at HAM;have m0:=l0;clear HC1 HC2 HG HDF HIV HPR k0 ky l0 ly d0 cyy HB4 HWV HWR;go_wp2
    go_region_held3 (fun w' =>w'.cell? ⟨b,0,none⟩=some (.iface T xv))
     (first|exact q0|exact p0|exact n0|exact m0|go_keep)
     ((first
       |(go_at_call 152;(with_reducible refine(HIV5.out _ (by repeat (first|(with_reducible exact Below.refl _ _)|(with_reducible exact HD3.out)|(with_reducible exact HD2.out)|(with_reducible exact HD1.out)|(with_reducible refine Below.drew ?_)))).mono ?_);rintro e u1 ⟨hb1,rfl⟩;have HD1:Kept (Below v2.heap.size v2 u1):=⟨bstep (by repeat (first|(with_reducible exact Below.refl _ _)|(with_reducible exact HD3.out)|(with_reducible exact HD2.out)|(with_reducible exact HD1.out)|(with_reducible refine Below.drew ?_))) hb1⟩;have n0:=belowCell HD1.out m0;clear hb1)
       |(go_at_call 151;(with_reducible refine(HAM.out _ (by repeat (first|(with_reducible exact Below.refl _ _)|(with_reducible exact HD3.out)|(with_reducible exact HD2.out)|(with_reducible exact HD1.out)|(with_reducible refine Below.drew ?_)))).mono ?_);rintro e u3 ⟨rfl,hg3,hw3⟩;have q0:=hg3.cell p0 (by simpa using hbg))
       |((with_reducible refine(HPR5.out _ (by repeat (first|(with_reducible exact Below.refl _ _)|(with_reducible exact HD3.out)|(with_reducible exact HD2.out)|(with_reducible exact HD1.out)|(with_reducible refine Below.drew ?_)))).mono ?_);rintro e u2 ⟨hb2,rfl⟩;have HD2:Kept (Below v2.heap.size v2 u2):=⟨bstep (by repeat (first|(with_reducible exact Below.refl _ _)|(with_reducible exact HD3.out)|(with_reducible exact HD2.out)|(with_reducible exact HD1.out)|(with_reducible refine Below.drew ?_))) hb2⟩;have p0:=belowCell HD2.out m0;clear hb2)))
    rw[<- HNX.out] at hw3;have HW7:=Km hw3;have HB7:=Km (belowGrow hg3 (bstep HB5.out HD2.out) (by rw[HNG.out];exact Nat.le_refl _));have HV7:=Km ((HWV5.out.below HD2.out).other hg3 (by omega));have HNEG:=Km (fun W (hW:Below w.heap.size w W)=>negative_any x W (HF.out.below hW) HXL.out);clear HD1 HD2 hg3 hw3 HIV5 HPR5 HAM n0 p0 q0 m0 HWV5 HWR5 HB5;obtain⟨z,hz⟩:∃ z,FFld.pscl D.p D.k (D.p-1) x=z:=⟨_,rfl⟩;rw[hz] at HNEG HVN HLIN;have hz6:z<=65536:=by have:D.p ^ D.k<=65536:=hD.pre.small;have:=HLIN.out z List.mem_cons_self;omega
    clear hz;go_wp2_with fail;refine(HNEG.out _ HB7.out).mono ?_;rintro e w8 ⟨hb8,rfl⟩;have hal:Below w8.heap.size w8 (w8.alloc (.cells #[.int .i64 z, .int .i64 1] 3)):=(Below.refl _ _).alloc (Nat.le_refl _) _;have HB8:=Km (bstep (bstep HB7.out hb8) hal);have HW8:=Km ((HW7.out.below hb8).below hal);have HV8:=Km ((HV7.out.below hb8).below hal);have HS2:=Km (two_sl w8 (z:Int) 1);have HML:=Km (multiply_new hD (.slice (some ⟨gv,0,none⟩) (i+1) cv) (.slice (some ⟨w8.heap.size,0,none⟩) 2 2) V [z,1] (w8.alloc (.cells #[.int .i64 z, .int .i64 1] 3)) (HF.out.below HB8.out) (HV8.out.sl HVL.out.symm hcv hmv) HS2.out HNE.out HLIN.out (by rw[HVL.out];omega) (by simp) (by rw[HVL.out];simp));rw[<- HVN.out,HVN2.out] at HML;have hgs:g<(w8.alloc (.cells #[.int .i64 z, .int .i64 1] 3)).heap.size:=HW8.out.lt;clear hal hb8 HNEG HS2 HW7 HV7 HB7;go_wp2_with fail;refine HML.out.mono ?_;rintro e w9 ⟨hb9,rfl,hw9⟩;have HB9:=Km (bstep HB8.out hb9);have HW9:=Km (HW8.out.below hb9);have hsz:(w8.alloc (.cells #[.int .i64 z, .int .i64 1] 3)).heap.size=w8.heap.size+1:=by simp
    rw[hsz] at hw9 hgs;have HV9:=Km hw9;clear hb9 hw9 HML HB8 HW8 HV8;go_wp2;go_roundw
    case rel=>exact⟨i+1,_,i+1+1,by omega,by go_num,rfl,hgs,Nat.le_refl _,by unfold maxLen;omega,HV9,HW9,HND,HB9⟩
    case measure=>simp[intOf]<;>omega
  ·obtain rfl:i=n:=by omega
   obtain⟨R,hR⟩:∃ R,FFld.thR D hk xs ys i i=R:=⟨_,rfl⟩;have HRL:Kept (R.length=i):=⟨by rw[<- hR];exact FFld.thR_len D hk xs ys i i⟩;have HRE:=Km hR;rw[hR] at hwr;have HTR:=Km (trimmed_any R (some ⟨g,0,none⟩) i wr (by have:=hwr.out.sl (n:=i) (c:=i) HRL.out.symm (Nat.le_refl _) (by unfold maxLen;omega);rw[HRL.out];exact this));rw[HRL.out] at HTR;clear hR;go_wp2_with fail;refine HTR.out.mono ?_;rintro e w4 ⟨rfl,n',hn',rfl,hz,ht⟩;have HTE:=Km (FFld.trm_is (l:=R) (n:=n') (by rw[HRL.out];exact hn') hz ht);have HSL:Kept (Mine 3 .i64 w.heap.size wr (.slice (some ⟨g,0,none⟩) n' n') (ints (FFld.trm R))):=⟨by rw[HTE.out];exact(hwr.out.take n').mine (by rw[HNG.out];exact Nat.le_refl _) (by rw[List.length_take,HRL.out];omega) (by unfold maxLen;omega)⟩;clear hz ht;go_wp2
   go_ret2
   exact⟨hbx.out, .inr ⟨hnd.out,_,rfl,by rw[HRE.out];exact HSL.out⟩⟩
theorem fthrough_good {D:FFld.FD}{b:Nat}(hD:D.Ok)(vx vy:Value)(xs ys:List Nat)(n:Nat)(w:World)(hf:FldB D w b)(hx:Sl .i64 w vx (ints xs))(hy:Sl .i64 w vy (ints ys))(hxq:∀ a∈xs,a<D.p ^ D.k)(hyq:∀ a∈ys,a<D.p ^ D.k)(lx:xs.length=n)(ly:ys.length=n)(hn:n<=200):
 Calls Tryz.prog 75 #[.pointer (some ⟨b,0,none⟩),vx,vy] w (ThRet D hD.pre.pk xs ys n w):=(fthrough_own hD vx vy xs ys n w hf hx hy hxq hyq lx ly hn).mono fun _ _ h=>h.ret
end
end Go.Proofs.YtdnheaafcbihbaaGreat
