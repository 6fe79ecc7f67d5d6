/-
  Texts of the proof, merged by program: Rdc.
-/
import Derived.Test.YtdnheaafcbihbaaGreatDc32
set_option linter.unusedSimpArgs false
set_option linter.unusedVariables false
set_option maxHeartbeats 16000000
namespace Go.Proofs.YtdnheaafcbihbaaGreat
open Go Go.RowKit Go.Deep
open FFld (ints)
def RdcRet (D:FFld.FD)(P W X:List Nat)(k t:Nat)(w:World)(e:Ending)(w' :World):Prop:=Below w.heap.size w w' /\((∃ Po v,Near D P W k t Po/\e= .returned (.tuple #[v, .bool true])/\Sl .i64 w' v (ints (FFld.valsF D Po X X.length)))\/((∀ Po,¬ Near D P W k t Po)/\e= .returned (.tuple #[.slice none 0 0, .bool false])))
theorem kp_pre (es:List Int)(i:Nat):∀ d,∃ T,kpF es (i+d)=kpF es i++T
 |0=>⟨[],by simp⟩
 | d+1=>by
   obtain⟨T,hT⟩:=kp_pre es i d;rw[show i+(d+1)=(i+d)+1 by omega,kpF_next,hT]
   split
   ·exact⟨T++ [i+d],by rw[List.append_assoc]⟩
   ·exact⟨T,rfl⟩
theorem kp_out {es:List Int}{i:Nat}(h:hasB es (i:Int)=true):kpF es (i+1)=kpF es i:=by
 rw[kpF_next,has_kp,h];rfl
theorem kp_in {es:List Int}{i:Nat}(h:hasB es (i:Int)=false):kpF es (i+1)=kpF es i++ [i]:=by
 rw[kpF_next,has_kp,h];rfl
theorem kp_at {es:List Int}{i n:Nat}(h:hasB es (i:Int)=false)(hi:i<n):(kpF es i).length<(kpF es n).length/\ ∀ xs:List Nat,(kpL es n xs)[(kpF es i).length]?.getD 0=xs[i]?.getD 0:=by
 obtain⟨T,hT⟩:=kp_pre es (i+1) (n-(i+1));rw[show i+1+(n-(i+1))=n by omega,kp_in h] at hT;refine⟨by rw[hT];simp,fun xs=> ?_⟩;unfold kpL;rw[hT,List.getElem?_map,List.append_assoc,List.getElem?_append_right (Nat.le_refl _),Nat.sub_self];rfl
theorem sl_takeF {w:World}{g n k:Nat}{xs:List Nat}(h:Sl .i64 w (.slice (some ⟨g,0,none⟩) n n) (ints xs))(hk:(xs.take k).length=k)(hm:k<=1000):Sl .i64 w (.slice (some ⟨g,0,none⟩) k k) (ints (xs.take k)):=by
 obtain⟨ao',cap',e,hc,hm',hx⟩:=h;simp only[Value.slice.injEq] at e;obtain⟨rfl,_,rfl⟩:=e;have hkl:k<=xs.length:=by rw[List.length_take] at hk;omega
 refine⟨_,k,by rw[FFld.ints_len,hk],by rw[FFld.ints_len,hk];exact Nat.le_refl _,by unfold maxLen;omega,fun i hi=> ?_⟩;rw[FFld.ints_len,hk] at hi;obtain⟨b,o,e,hl,hcell⟩:=hx i (by rw[FFld.ints_len];omega);refine⟨b,o,e,hl,?_⟩;rw[hcell,FFld.ints_get,FFld.ints_get,List.getElem?_take,if_pos hi]
theorem add_at (g o j:Nat):(⟨g,o,none⟩:Addr).add j=⟨g,o+j,none⟩:=by
 unfold Addr.add
 split<;>simp_all
theorem drop_cell {w:World}{g n k:Nat}{xs:List Nat}(h:Sl .i64 w (.slice (some ⟨g,0,none⟩) n n) (ints xs)){j:Nat}{u:Value}(hu:((ints (xs.drop k)).map (Value.int .i64))[j]? =some u):w.cell? ⟨g,k+j,none⟩=some u:=by
 have hj:k+j<xs.length:=by
  apply Classical.byContradiction
  intro hc;rw[List.getElem?_eq_none (by rw[List.length_map,FFld.ints_len,List.length_drop];omega)] at hu
  cases hu
 obtain⟨b,o,e,hl,hcell⟩:=h.news_ (k+j) (by rw[FFld.ints_len];exact hj);simp only[Option.some.injEq,Addr.mk.injEq,and_true] at e;obtain⟨rfl,rfl⟩:=e;rw[Nat.zero_add,FFld.ints_get] at hcell;rw[hcell,<- hu,List.getElem?_map];unfold ints;rw[List.getElem?_map,List.getElem?_drop,List.getElem?_eq_getElem hj];rfl
def dcE (d k:Nat)(x:List Nat):List Nat:=x.drop (d+k)++ [1]
def dcQ (D:FFld.FD)(h:FFld.PK D.p D.k D.m)(d k:Nat)(x:List Nat):List Nat:=FFld.quoF D (dcE d k x) (FFld.invT D h (dcE d k x)) (FFld.trm (x.take (d+k)))
def dcR (D:FFld.FD)(h:FFld.PK D.p D.k D.m)(d k:Nat)(x:List Nat):List Nat:=FFld.rstF D (dcE d k x) (FFld.invT D h (dcE d k x)) (FFld.trm (x.take (d+k)))
section
variable {D : FFld.FD} (hD : D.Ok) {P W : List Nat} {n d k t : Nat} {x : List Nat} (h : DcSol hD (P := P) (W := W) (n := n) (d := d) (k := k) x)
include h
theorem dcE_len:(dcE d k x).length=d+1:=by
 unfold dcE;rw[List.length_append,List.length_drop,h.1];simp
theorem dcE_lt:∀ a∈dcE d k x,a<D.p ^ D.k:=fun a ha=>by
 rcases List.mem_append.1 ha with h1|h1
 ·exact h.2.1 a (List.mem_of_mem_drop h1)
 ·rw[List.mem_singleton.1 h1];exact hD.pre.pk.one_lt
theorem dcE_top:(dcE d k x)[d]?.getD 0=1:=by
 have e:(x.drop (d+k)).length=d:=by rw[List.length_drop,h.1];omega
 unfold dcE;rw[List.getElem?_append_right (by omega),e,Nat.sub_self];rfl
theorem dcQ_near (hq:(dcQ D hD.pre.pk d k x).length<=k)(ht:disF (ints (FFld.valsF D (dcQ D hD.pre.pk d k x) P P.length)) (ints W) P.length<=t):Near D P W k t (dcQ D hD.pre.pk d k x):=by
 have h1:=dcE_len hD h;have h2:=dcE_top hD h;refine⟨FFld.quoF_lt hD.pre.pk _ _ _,FFld.quo_tz hD (dcE_lt hD h) (FFld.trm_lt fun a ha=>h.2.1 a (List.mem_of_mem_take ha)) (by omega) (by rw[h1,show d+1-1=d by omega,h2];decide) (FFld.trm_tz _),hq,ht⟩
end
set_option maxRecDepth 20000 in
theorem rdecode_any {D:FFld.FD}(hD:D.Ok)(ax aw ae:Option Addr)(cx cw ce n m k:Nat)(xs ws:List Nat)(es:List Int)(w:World)(hx:Sl .i64 w (.slice ax n cx) (ints xs))(hw:Sl .i64 w (.slice aw n cw) (ints ws))(he:Sl .i64 w (.slice ae m ce) es)(hc:CodeV D xs n k)(lw:ws.length=n)(le:es.length=m)(hwq:∀ a∈ws,a<D.p ^ D.k)(hkm:m+k<=n)(hb:belB n es=true)(hd:difB es m=true):
 Calls Tryz.prog 39 #[cdv D.q ax n cx k, .slice aw n cw, .slice ae m ce] w (RdcRet D (kpL es n xs) (kpL es n ws) xs k ((n-m-k)/2) w):=by
 have hq6:D.p ^ D.k<=65536:=hD.pre.small;have hq0:D.q=D.p ^ D.k:=rfl;have hk:=hD.pre.pk;have h0:=Nat.pow_pos (n:=D.k) hk.p0;have n64:=hc.n64;have k1:=hc.k1;have HX0:Kept (Bxs w [rcdbox D.q ax n cx k] (w.alloc (rcdbox D.q ax n cx k))):=⟨(Bxs.start w).alloc (by simp) _⟩
 have HNW:Kept (∀ W,Calls Tryz.prog 31 #[.int .i64 D.q] W (RB W (.tuple #[rfv D.q D.p D.k D.m, .bool true]))):=⟨fun W=>(rnew_any (D.q:Int) W (by omega) (by omega)).mono fun e w' h=>by
  obtain⟨hb,⟨D',hD',hq',rfl⟩|⟨hno,rfl⟩⟩:=h
  ·obtain rfl:D' =D:=FFld.FD.uniq hD' hD (by omega);exact⟨hb,rfl⟩
  ·exact absurd ⟨D,hD,rfl⟩ hno⟩
 have HRA:=Km (fun W=>rradius_any (D.q:Int) ax n cx k m W hkm (by omega));have HPOW:=Km (fun W a c (ha:a<D.p ^ D.k) (hc:c<=70000)=>rpow_any D.q D.p D.k D.m a c W hk ha hq6 (md_ok hD) hc);have HMUL:=Km (fun W a b (ha:a<D.p ^ D.k) (hb:b<D.p ^ D.k)=>rmul_any D.q D.p D.k D.m a b W hk.p2 hk.k1 ha hb hq6 (md_ok hD));have HNEG:=Km (fun W x (hx:x<D.p ^ D.k)=>rneg_any D.q D.p D.k D.m x W hk.p2 hk.k1 hx hq6);have HHAS:=Km (fun W (hW:Below w.heap.size w W) (i:Nat)=>rhas_any (.slice ae m ce) es (i:Int) W (he.below hW));have HENC:Kept (∀ W (hW:Below w.heap.size w W) (am:Option Addr) (cm nm:Nat) (ms:List Nat),Sl .i64 W (.slice am nm cm) (ints ms)->ms.length=nm->(∀ a∈ms,a<D.p ^ D.k)->nm<=200->Calls Tryz.prog 33 #[cdv D.q ax n cx k, .slice am nm cm] W (RetM W (ints (FFld.valsF D ms xs n)))):=⟨fun W hW am cm nm ms hs hl hq h2=>rencode_any hD ax am cx cm n nm k xs ms W (hx.below hW) hs hc.len hl hc.lt hq n64 h2⟩;have HDIS:Kept (∀ W (hW:Below w.heap.size w W) (v:Value) (us:List Nat),Sl .i64 W v (ints us)->us.length=n->Calls Tryz.prog 106 #[v, .slice aw n cw, .slice ae m ce] W (RB W (.int .i64 (disK (ints us) (ints ws) es n:Nat)))):=⟨fun W hW v us hs hl=>rdistance_any v _ _ (ints us) (ints ws) es n W hs (hw.below hW) (he.below hW) (by rw[FFld.ints_len];exact hl) (by rw[FFld.ints_len];exact lw) (by omega)⟩;have hkl:=kp_len hb hd le;have hPl:=kpL_len es n xs;have hWl:=kpL_len es n ws;have hPq:=kpL_lt (es:=es) hc.len hc.lt;have hWq:=kpL_lt (es:=es) lw hwq;have hPd:=kpL_dif (es:=es) hc.dif;have HDS:=Km (fun(Po:List Nat)=>dis_same (D:=D) Po es ws hc.len);have HAT:=Km (fun(i:Nat) (h:hasB es (i:Int)=false) (hi:i<n)=>(kp_at h hi).1);have HATX:=Km (fun(i:Nat) (h:hasB es (i:Int)=false) (hi:i<n)=>(kp_at h hi).2 xs);have HATW:=Km (fun(i:Nat) (h:hasB es (i:Int)=false) (hi:i<n)=>(kp_at h hi).2 ws);obtain⟨P,hP⟩:∃ l,kpL es n xs=l:=⟨_,rfl⟩;obtain⟨Wd,hWd⟩:∃ l,kpL es n ws=l:=⟨_,rfl⟩;obtain⟨np,hnp⟩:∃ l,(kpF es n).length=l:=⟨_,rfl⟩;obtain⟨t,ht⟩:∃ r,(n-m-k)/2=r:=⟨_,rfl⟩;rw[hP] at hPl hPq hPd HDS HATX ⊢;rw[hWd] at hWl hWq HDS HATW ⊢;rw[hnp] at hkl hPl hWl HAT;rw[ht] at HRA ⊢;rw[hPl] at hPd HDS;have hr1:2*t+k<=np:=by omega
 -- what Solve answers
 have HSV:Kept (∀ (d:Nat) (W:World) (ma:Option Addr) (mc:Nat) (bv:Value),d<=t->Sls W ma ((FFld.dcM hk P Wd d k np).map ints)->np<=mc->mc<=maxLen->Sl .i64 W bv (ints (FFld.dcB hk P Wd d np))->Calls Tryz.prog 104 #[rfv D.q D.p D.k D.m, .slice ma np mc,bv] W (fun e w' =>Below W.heap.size W w' /\((∃ (g:Nat) (x:List Nat),DcSol hD (P:=P) (W:=Wd) (n:=np) (d:=d) (k:=k) x/\e= .returned (.tuple #[.slice (some ⟨g,0,none⟩) (d+k+d) (d+k+d), .bool true])/\Sl .i64 w' (.slice (some ⟨g,0,none⟩) (d+k+d) (d+k+d)) (ints x))\/((∀ x,¬ DcSol hD (P:=P) (W:=Wd) (n:=np) (d:=d) (k:=k) x)/\e= .returned (.tuple #[.slice none 0 0, .bool false]))))):=⟨fun d W ma mc bv hdt hm h1 h2 hb=>by
  refine(rsolve_own hD (FFld.dcM hk P Wd d k np) ma mc bv (FFld.dcB hk P Wd d np) (d+k+d) np (d+k+d+1) W hm h1 h2 hb (FFld.dcM_len _ _ _ _ _ _) (by omega) (FFld.dcM_wf _ _ _ _ _ _) (by omega) (fun h=>by omega) (FFld.dcB_len _ _ _ _ _) (FFld.dcB_lt _ _ _ _ _) (fun h=>by omega) (fun _=>rfl)).mono fun e w' h=> ?_
  obtain⟨hb',⟨i,hi,hil,rfl⟩|⟨hall,g,rfl,hs⟩⟩:=h
  ·refine⟨hb', .inr ⟨fun x hx=> ?_,rfl⟩⟩;have h3:=dc_no hD hPq hWq hx i hi;omega
  ·exact⟨hb', .inl ⟨g,_,dc_yes hD hPq hWq hall,rfl,hs⟩⟩⟩
 have HNEAR:=Km (fun(d:Nat) (Po:List Nat) (hN:Near D P Wd k t Po)=>dc_near hD (n:=np) (d:=d) (k:=k) hPl hWl hPq hWq hN.lt hN.tz hN.len);have HGOOD:=Km (fun(d:Nat) (x:List Nat) (hs:DcSol hD (P:=P) (W:=Wd) (n:=np) (d:=d) (k:=k) x) (hdt:d<=t) (Po:List Nat) (hN:Near D P Wd k t Po)=>dc_good hD hPl hWl hPq hWq hs hPd (by omega) hN.lt hN.tz hN.len);have HXS:=Km hx;have HWS:=Km hw;have HLX:=Km hc.len;have HLW:=Km lw;have HXQ:=Km hc.lt;have HWQ:=Km hwq;have HPL:=Km hPl;have HD:=Km hD;have HNP:=Km hnp
 have hcx:n<=cx/\cx<=9223372036854775807:=by
  obtain⟨_,_,e,h1,h2,_⟩:=hx;simp only[Value.slice.injEq] at e;obtain⟨_,e1,e2⟩:=e;unfold maxLen at h2;omega
 have hcw:n<=cw/\cw<=9223372036854775807:=by
  obtain⟨_,_,e,h1,h2,_⟩:=hw;simp only[Value.slice.injEq] at e;obtain⟨_,e1,e2⟩:=e;unfold maxLen at h2;omega
 have hce:m<=ce/\ce<=9223372036854775807:=by
  obtain⟨_,_,e,h1,h2,_⟩:=he;rw[le] at h1 e;simp only[Value.slice.injEq] at e;obtain⟨_,e1,e2⟩:=e;unfold maxLen at h2;omega
 obtain⟨hcx1,hcx2⟩:=hcx;obtain⟨hcw1,hcw2⟩:=hcw;obtain⟨hce1,hce2⟩:=hce;clear hq0 hx hw he lw le hwq hb hd hPl hWl hPq hWq hPd hP hWd hnp ht hc
 go_enter Tryz.func39,Tryz.ntmps39
 obtain⟨c0,c1,c2,_⟩:=three_cells HX0.out.b0;go_wp2_with fail;(with_reducible refine(HNW.out _).mono ?_);rintro e w1 ⟨hb1,rfl⟩;have hal:Below w1.heap.size w1 (w1.alloc (rbox D.q D.p D.k D.m)):=(Below.refl _ _).alloc (Nat.le_refl _) _;have hG:=heap_alloc_new w1 (rbox D.q D.p D.k D.m);have HX2:=Km ((HX0.out.below hb1).below hal);have hsz:=(HX0.out.below hb1).2.1;obtain⟨g8,hg⟩:∃ x,w1.heap.size=x:=⟨_,rfl⟩;obtain⟨W2,hW2⟩:∃ W,w1.alloc (rbox D.q D.p D.k D.m)=W:=⟨_,rfl⟩;rw[hW2,hg] at hG;rw[hW2] at HX2;have hg2:g8<W2.heap.size:=(Array.getElem?_eq_some_iff.1 hG).1;have hgw:w.heap.size+1<=g8:=by rw[<- hg];simpa using hsz
 have HG:=Km hG
 go_upto_region 2 with fail
 try rw[hW2]
 try rw[hg]
 clear hb1 hal hg hW2 HNW c0 c1 c2 hG hsz HX0;obtain⟨c0,c1,c2,_⟩:=three_cells HX2.out.b0;go_wp2_with fail;(with_reducible refine(HRA.out _).mono ?_);rintro e w3 ⟨hb3,rfl⟩;have HB3:=Km hb3;clear hb3 HRA c0 c1 c2;go_wp2
 go_loopw [11] (fun dv wr=> ∃ (d:Nat),d<=t+1/\dv= .int .i64 d/\Kept (∀ Po,Near D P Wd k t Po->d<=disF (ints (FFld.valsF D Po P np)) (ints Wd) np)/\Kept (Below W2.heap.size W2 wr)) (fun dv _=>t+1-(intOf dv).toNat)
 case atStart=>exact⟨0,Nat.zero_le _,rfl,⟨fun Po _=>Nat.zero_le _⟩,HB3⟩
 case round =>
  rename_i Qd Kd ad
  clear HB3;obtain⟨d,hdt,rfl,hnr,hbw⟩:=hrel
  by_cases hle:d<=t
  ·obtain ⟨dk,hdk⟩:∃ x,d+k=x:=⟨_,rfl⟩;have edk:(d:Int)+(k:Int)=(dk:Int):=by omega
   obtain⟨gw,hgws⟩:∃ x,w.heap.size=x:=⟨_,rfl⟩;have HGW:=Km hgws;have HX2b:=Km HX2.out.b0;have HX2l:=Km HX2.out.1;rw[hgws] at HX2b hgw
   try rw[hgws]
   obtain⟨M,hM⟩:∃ M,FFld.dcM hk P Wd d k np=M:=⟨_,rfl⟩;obtain⟨Bl,hBl⟩:∃ M,FFld.dcB hk P Wd d np=M:=⟨_,rfl⟩;have hMl:M.length=np:=by rw[<- hM];exact FFld.dcM_len _ _ _ _ _ _
   have hBll:Bl.length=np:=by rw[<- hBl];exact FFld.dcB_len _ _ _ _ _
   have HM:=Km hM;have HBl:=Km hBl;have HBD:=Km hbw.out;have HDK:=Km hdk;clear hM hBl hgws;go_wp2
   go_loopw [12,13,14] (fun mv bv iv wr=> ∃ (i jn:Nat) (L:List (Value × List Int)),i<=n/\jn<=i/\Kept ((kpF es i).length=jn)/\iv= .int .i64 i/\L.length=jn/\Kept (EqAt M Bl W2.heap.size jn mv bv L wr)/\Kept (Below W2.heap.size W2 wr)) (fun _ _ iv _=>n-(intOf iv).toNat)
   case atStart=>exact⟨0,0,[],Nat.zero_le _,Nat.le_refl _,⟨rfl⟩,rfl,rfl,⟨EqAt.start⟩,hbw⟩
   case round =>
    rename_i a3 Q1 K2 a2
    clear hbw HBD;obtain⟨i,jn,L,hin,hji,hkp,rfl,hLl,hla,hbw⟩:=hrel;obtain⟨ma,mc,rfl,hmc1,hmc2⟩:=hla.out.rw.own.form;obtain⟨ba2,bc2,rfl,hbc1,hbc2⟩:=hla.out.mb.sl.form;rw[List.length_map,hLl] at hmc1 hla ⊢
    have htb:(Bl.take jn).length=jn:=by
     rw[List.length_take,hBll,Nat.min_eq_left];obtain⟨T,hT⟩:=kp_pre es i (n-i);rw[show i+(n-i)=n by omega] at hT;have h1:=congrArg List.length hT;rw[List.length_append,hkp.out,HNP.out] at h1;omega
    rw[FFld.ints_len,htb] at hbc1 hla ⊢;have HTB:=Km htb
    by_cases hlt:i<n
    ·have HB9 :=Km (HX2l.out.trans (hbw.out.mono HX2l.out.size));have HHI:=Km (HHAS.out wr HB9.out i)
     cases hh:hasB es (i:Int) with
     | true=>
       rw[hh] at HHI;have HK1:Kept ((kpF es (i+1)).length=jn):=⟨by rw[kp_out hh];exact hkp.out⟩;clear hh;go_wp2_with fail;(with_reducible refine HHI.out.mono ?_);rintro e w9 ⟨rfl,rfl⟩;go_wp2;go_roundw
       case rel=>exact⟨i+1,jn,L,by omega,by omega,HK1,by go_num,hLl,hla,hbw⟩
       case measure=>simp[intOf]<;>omega
     | false=>
       rw[hh] at HHI;have hjl:jn<np:=by rw[<- hkp.out];exact HAT.out i hh hlt
       obtain⟨x,hx⟩:∃ x,xs[i]?.getD 0=x:=⟨_,rfl⟩;obtain⟨y,hy⟩:∃ x,ws[i]?.getD 0=x:=⟨_,rfl⟩;have HPX:Kept (P[jn]?.getD 0=x):=⟨by rw[<- hkp.out,HATX.out i hh hlt,hx]⟩;have HPW:Kept (Wd[jn]?.getD 0=y):=⟨by rw[<- hkp.out,HATW.out i hh hlt,hy]⟩;have hxq:x<D.p ^ D.k:=by rw[<- hx];exact FFld.getD_lt h0 HXQ.out i
       have hyq:y<D.p ^ D.k:=by rw[<- hy];exact FFld.getD_lt h0 HWQ.out i
       have HK1:Kept ((kpF es (i+1)).length=jn+1):=⟨by rw[kp_in hh,List.length_append,hkp.out];rfl⟩;obtain⟨R,hR⟩:∃ R,FFld.dcRow hk x y d k=R:=⟨_,rfl⟩;have HRW:=Km hR
       have HMR:Kept (M[jn]?.getD []=R):=⟨by
        rw[<- HM.out];unfold FFld.dcM;rw[List.getElem?_map,List.getElem?_range hjl]
        show FFld.dcRow hk (P[jn]?.getD 0) (Wd[jn]?.getD 0) d k=R
        rw[HPX.out,HPW.out,HRW.out]⟩
       have hRl:R.length=dk+d:=by rw[<- hR,FFld.dcRow_len,hdk]
       obtain⟨bx,ox,rfl,hbx,r5⟩:=(HXS.out.below HB9.out).news_ i (by rw[FFld.ints_len,HLX.out];exact hlt);rw[FFld.ints_get,hx] at r5;obtain⟨by_,oy,rfl,hby,r6⟩:=(HWS.out.below HB9.out).news_ i (by rw[FFld.ints_len,HLW.out];exact hlt);rw[FFld.ints_get,hy] at r6
       have hbxw:bx<W2.heap.size:=by
        obtain⟨_,_,e9,h9,_⟩:=(HXS.out.below HX2l.out).news_ i (by rw[FFld.ints_len,HLX.out];exact hlt);simp only[Option.some.injEq,Addr.mk.injEq,and_true] at e9;rw[e9.1];exact h9
       have hbyw:by_<W2.heap.size:=by
        obtain⟨_,_,e9,h9,_⟩:=(HWS.out.below HX2l.out).news_ i (by rw[FFld.ints_len,HLW.out];exact hlt);simp only[Option.some.injEq,Addr.mk.injEq,and_true] at e9;rw[e9.1];exact h9
       obtain⟨r0,r1,r2,r3⟩:=four_cells ((hbw.out.block _ (Array.getElem?_eq_some_iff.1 HG.out).1).trans HG.out);obtain⟨_,r4,r7,_⟩:=three_cells ((hbw.out.block _ (Array.getElem?_eq_some_iff.1 HX2b.out).1).trans HX2b.out);have HXI:=Km hx;have HYI:=Km hy;clear hh hx hy hR hbx hby hkp;go_wp2_with fail;(with_reducible refine HHI.out.mono ?_);rintro e w9 ⟨rfl,rfl⟩;have HLA0:=Km hla.out;have HBW0:=Km hbw.out;have hwsz:=hbw.out.size;obtain⟨WR,hWR⟩:∃ W,wr=W:=⟨_,rfl⟩;rw[hWR] at HLA0 HBW0 hwsz r0 r1 r2 r3 r4 r5 r6 r7;clear HHI HB9;go_wp2
       go_loopw [15,16] (fun rv cv wr=> ∃ (c:Nat) (rl:List Nat),c<=dk/\cv= .int .i64 c/\rl.length=c/\Kept (R.take c=rl)/\Kept (Mine 3 .i64 WR.heap.size wr rv (ints rl))/\Kept (Below WR.heap.size WR wr)) (fun _ cv _=>dk-(intOf cv).toNat)
       case atStart=>exact⟨0,[],Nat.zero_le _,rfl,rfl,⟨rfl⟩,⟨Mine.nil _ _ _ _⟩,⟨by rw[<- hWR];exact Below.refl _ _⟩⟩
       case round=>
        rename_i ax3 Qr Kr ar
        clear hla hbw;obtain⟨c,rl,hcd,rfl,hrl,hat,hmn,hbk⟩:=hrel;obtain⟨ra,rc,rfl,hrc1,hrc2⟩:=hmn.out.sl.form;rw[FFld.ints_len,hrl] at hrc1 hmn ⊢;have i7:=belowCell hbk.out r7
        by_cases hclt:c<dk
        ·clear ad Q1 a2 Qr ar;obtain⟨r,hr⟩:∃ r,FFld.ppow hk x c=r:=⟨_,rfl⟩;have HPC:Kept (∀ W,Calls Tryz.prog 102 #[rfv D.q D.p D.k D.m, .int .i64 x, .int .i64 c] W (RB W (.int .i64 (r:Nat)))):=⟨fun W=>by rw[<- hr];exact HPOW.out W x c hxq (by omega)⟩
         have HL:Kept (R.take (c+1)=rl++ [r]):=⟨by
          rw[take_next3 (d:=0) (by omega),hat.out,<- HRW.out,FFld.dcRow_l hk x y d k (by omega),hr]⟩
         have i0:=belowCell hbk.out r0;have i1:=belowCell hbk.out r1;have i2:=belowCell hbk.out r2;have i3:=belowCell hbk.out r3;have i4:=belowCell hbk.out r4;have i5:=belowCell hbk.out r5;have hsz:=hbk.out.size;clear hr;have H1:=Km (show((ints rl).length+ [(r:Int)].length)*8<=140737488355328 by rw[FFld.ints_len,hrl];simp;omega);have H2:=Km (show(ints rl).length+ [(r:Int)].length<=maxLen by rw[FFld.ints_len,hrl];unfold maxLen;simp;omega);have hal:∀ W:World,Below W.heap.size W (W.alloc (.cells #[.int .i64 (r:Int)] 3)):=fun W=>(Below.refl _ _).alloc (Nat.le_refl _) _
         go_wp2_with fail
         go_upto_region 16 with fail
         go_region_held3 (fun w' =>w'.cell? ⟨g8,0,none⟩=some (.int .i64 D.q)/\w'.cell? ⟨g8,1,none⟩=some (.int .i64 D.p)/\w'.cell? ⟨g8,2,none⟩=some (.int .i64 D.k)/\w'.cell? ⟨g8,3,none⟩=some (.int .i64 D.m)/\w'.cell? ⟨gw,1,none⟩=some (.slice (some ⟨bx,ox,none⟩) n cx)/\w'.cell? ⟨bx,ox+i,none⟩=some (.int .i64 (x:Nat)))
          (first|exact⟨m0,m1,m2,m3,m4,m5⟩|exact⟨k0,k1,k2,k3,k4,k5⟩|exact⟨q0_0,q0_1,q0_2,q0_3,q0_4,q0_5⟩|exact⟨i0,i1,i2,i3,i4,i5⟩|go_keep)
          ((first
            |(go_at_call 102;(with_reducible refine(HPC.out _).mono ?_);rintro e u0 ⟨hb3,rfl⟩;have HQ0:=Km (bstep (show Below wr.heap.size wr _ from(by first|exact Below.refl _ _|exact(Below.refl _ _).drew)) hb3);clear hb3;have q0_0:=belowCell HQ0.out i0;have q0_1:=belowCell HQ0.out i1;have q0_2:=belowCell HQ0.out i2;have q0_3:=belowCell HQ0.out i3;have q0_4:=belowCell HQ0.out i4;have q0_5:=belowCell HQ0.out i5;have k0:=belowCell (hal u0) q0_0;have k1:=belowCell (hal u0) q0_1;have k2:=belowCell (hal u0) q0_2;have k3:=belowCell (hal u0) q0_3;have k4:=belowCell (hal u0) q0_4;have k5:=belowCell (hal u0) q0_5;have hs3:=HQ0.out.size;have HM3:=Km ((hmn.out.below HQ0.out).alloc (.cells #[.int .i64 (r:Int)] 3));have HNW:=Km (new_one (K:= .i64) (x:=(r:Int)) (w:=u0.alloc (.cells #[.int .i64 (r:Int)] 3)) (b:=u0.heap.size) (o:=0) (by exact(Row.new (E:=3) (K:= .i64) u0 [(r:Int)]).cell (i:=0) (by simp)));have HBB:=Km (show WR.heap.size<=(u0.alloc (.cells #[.int .i64 (r:Int)] 3)).heap.size by simp;omega);have HBA:=Km (bstep HQ0.out (hal u0));have HOW:=Km HM3.out.own)
            |((refine step_append_mine (o:=⟨some 66,_,_,_,_,_⟩) _ (by rfl) _ _ 22 (by rfl) 3 .i64 8 Tryz.underlying22 info_i64 WR.heap.size (.slice ra c rc) (ints rl) (by rfl) HM3.out HBB.out ⟨u0.heap.size,0,none⟩ 1 1 [(r:Int)] (by rfl) (by rfl) HNW.out H1.out H2.out ?_);intro v' w5 hM5 hg5 hn5;have HM5:=Km hM5;have m0:=(hg5.cell (a:=⟨g8,0,none⟩) k0 (fun e=>by have:=HOW.out _ e.symm;simp at this;omega));have m1:=(hg5.cell (a:=⟨g8,1,none⟩) k1 (fun e=>by have:=HOW.out _ e.symm;simp at this;omega));have m2:=(hg5.cell (a:=⟨g8,2,none⟩) k2 (fun e=>by have:=HOW.out _ e.symm;simp at this;omega));have m3:=(hg5.cell (a:=⟨g8,3,none⟩) k3 (fun e=>by have:=HOW.out _ e.symm;simp at this;omega));have m4:=(hg5.cell (a:=⟨gw,1,none⟩) k4 (fun e=>by have:=HOW.out _ e.symm;simp at this;omega));have m5:=(hg5.cell (a:=⟨bx,ox+i,none⟩) k5 (fun e=>by have:=HOW.out _ e.symm;simp at this;omega)))))
         have HB5:=Km ((bstep hbk.out HBA.out).grown hg5 HBB.out (fun j hj=>(HOW.out j hj).1));go_wp2;go_roundw
         case rel=>exact⟨c+1,rl++ [r],by omega,by go_num,by simp[hrl],HL,⟨by rw[FFld.ints_append];exact HM5.out⟩,HB5⟩
         case measure=>simp[intOf]<;>omega
        ·obtain rfl:c=dk:=by omega
         have HMN:=hmn;have HBK:=hbk;have HAT2:=hat;clear hmn hbk hat;go_wp2
         go_loopw [15,17] (fun rv cv wr=> ∃ (b:Nat) (rl:List Nat),b<=d/\cv= .int .i64 b/\rl.length=c+b/\Kept (R.take (c+b)=rl)/\Kept (Mine 3 .i64 WR.heap.size wr rv (ints rl))/\Kept (Below WR.heap.size WR wr)) (fun _ cv _=>d-(intOf cv).toNat)
         case atStart=>exact⟨0,rl,Nat.zero_le _,rfl,hrl,HAT2,HMN,HBK⟩
         case round=>
          rename_i ar4
          clear HMN HBK HAT2 hrl hrc1 hrc2 i7;obtain⟨b,rl,hbd,rfl,hrl,hat,hmn,hbk⟩:=hrel;obtain⟨ra,rc,rfl,hrc1,hrc2⟩:=hmn.out.sl.form;rw[FFld.ints_len,hrl] at hrc1 hmn ⊢
          by_cases hblt:b<d
          ·clear ad Q1 a2 Qr ar4;obtain⟨ra1,hra1⟩:∃ r,FFld.ppow hk x b=r:=⟨_,rfl⟩;obtain⟨rb1,hrb1⟩:∃ r,FFld.pmul D.p D.k D.m y D.k ra1=r:=⟨_,rfl⟩;obtain⟨r,hr⟩:∃ r,FFld.pscl D.p D.k (D.p-1) rb1=r:=⟨_,rfl⟩;have HPC:Kept (∀ W,Calls Tryz.prog 102 #[rfv D.q D.p D.k D.m, .int .i64 x, .int .i64 b] W (RB W (.int .i64 (ra1:Nat)))):=⟨fun W=>by rw[<- hra1];exact HPOW.out W x b hxq (by omega)⟩;have HMC:Kept (∀ W,Calls Tryz.prog 103 #[rfv D.q D.p D.k D.m, .int .i64 y, .int .i64 ra1] W (RB W (.int .i64 (rb1:Nat)))):=⟨fun W=>by rw[<- hrb1];exact HMUL.out W y ra1 hyq (by rw[<- hra1];exact FFld.ppow_lt _ _ _)⟩;have HNC:Kept (∀ W,Calls Tryz.prog 46 #[rfv D.q D.p D.k D.m, .int .i64 rb1] W (RB W (.int .i64 (r:Nat)))):=⟨fun W=>by rw[<- hr];exact HNEG.out W rb1 (by rw[<- hrb1];exact FFld.pmul_lt hk _ _ _)⟩
           have HL:Kept (R.take (c+(b+1))=rl++ [r]):=⟨by
            rw[show c+(b+1)=(c+b)+1 by omega,take_next3 (d:=0) (by omega),hat.out,<- HRW.out,<- HDK.out,FFld.dcRow_r hk x y d k hblt,hra1,hrb1,hr]⟩
           have i0:=belowCell hbk.out r0;have i1:=belowCell hbk.out r1;have i2:=belowCell hbk.out r2;have i3:=belowCell hbk.out r3;have i4:=belowCell hbk.out r4;have i5:=belowCell hbk.out r5;have i6:=belowCell hbk.out r6;have hsz:=hbk.out.size;clear hr hra1 hrb1;have H1:=Km (show((ints rl).length+ [(r:Int)].length)*8<=140737488355328 by rw[FFld.ints_len,hrl];simp;omega);have H2:=Km (show(ints rl).length+ [(r:Int)].length<=maxLen by rw[FFld.ints_len,hrl];unfold maxLen;simp;omega);have hal:∀ W:World,Below W.heap.size W (W.alloc (.cells #[.int .i64 (r:Int)] 3)):=fun W=>(Below.refl _ _).alloc (Nat.le_refl _) _
           go_wp2_with fail
           go_upto_region 20 with fail
           go_region_held3 (fun w' =>w'.cell? ⟨g8,0,none⟩=some (.int .i64 D.q)/\w'.cell? ⟨g8,1,none⟩=some (.int .i64 D.p)/\w'.cell? ⟨g8,2,none⟩=some (.int .i64 D.k)/\w'.cell? ⟨g8,3,none⟩=some (.int .i64 D.m)/\w'.cell? ⟨gw,1,none⟩=some (.slice (some ⟨bx,ox,none⟩) n cx)/\w'.cell? ⟨bx,ox+i,none⟩=some (.int .i64 (x:Nat))/\w'.cell? ⟨by_,oy+i,none⟩=some (.int .i64 (y:Nat)))
            (first|exact⟨m0,m1,m2,m3,m4,m5,m6⟩|exact⟨k0,k1,k2,k3,k4,k5,k6⟩|exact⟨q2_0,q2_1,q2_2,q2_3,q2_4,q2_5,q2_6⟩|exact⟨q1_0,q1_1,q1_2,q1_3,q1_4,q1_5,q1_6⟩|exact⟨q0_0,q0_1,q0_2,q0_3,q0_4,q0_5,q0_6⟩|exact⟨i0,i1,i2,i3,i4,i5,i6⟩|go_keep)
            ((first
              |(go_at_call 102;(with_reducible refine(HPC.out _).mono ?_);rintro e u0 ⟨hb3,rfl⟩;have HQ0:=Km (bstep (show Below wr.heap.size wr _ from(by first|exact Below.refl _ _|exact(Below.refl _ _).drew)) hb3);clear hb3;have q0_0:=belowCell HQ0.out i0;have q0_1:=belowCell HQ0.out i1;have q0_2:=belowCell HQ0.out i2;have q0_3:=belowCell HQ0.out i3;have q0_4:=belowCell HQ0.out i4;have q0_5:=belowCell HQ0.out i5;have q0_6:=belowCell HQ0.out i6)
              |(go_at_call 103;(with_reducible refine(HMC.out _).mono ?_);rintro e u1 ⟨hb3,rfl⟩;have HQ1:=Km (bstep (show Below wr.heap.size wr _ from(by first|exact HQ0.out|exact(HQ0.out).drew)) hb3);clear hb3;have q1_0:=belowCell HQ1.out i0;have q1_1:=belowCell HQ1.out i1;have q1_2:=belowCell HQ1.out i2;have q1_3:=belowCell HQ1.out i3;have q1_4:=belowCell HQ1.out i4;have q1_5:=belowCell HQ1.out i5;have q1_6:=belowCell HQ1.out i6)
              |(go_at_call 46;(with_reducible refine(HNC.out _).mono ?_);rintro e u2 ⟨hb3,rfl⟩;have HQ2:=Km (bstep (show Below wr.heap.size wr _ from(by first|exact HQ1.out|exact(HQ1.out).drew)) hb3);clear hb3;have q2_0:=belowCell HQ2.out i0;have q2_1:=belowCell HQ2.out i1;have q2_2:=belowCell HQ2.out i2;have q2_3:=belowCell HQ2.out i3;have q2_4:=belowCell HQ2.out i4;have q2_5:=belowCell HQ2.out i5;have q2_6:=belowCell HQ2.out i6;have k0:=belowCell (hal u2) q2_0;have k1:=belowCell (hal u2) q2_1;have k2:=belowCell (hal u2) q2_2;have k3:=belowCell (hal u2) q2_3;have k4:=belowCell (hal u2) q2_4;have k5:=belowCell (hal u2) q2_5;have k6:=belowCell (hal u2) q2_6;have hs3:=HQ2.out.size;have HM3:=Km ((hmn.out.below HQ2.out).alloc (.cells #[.int .i64 (r:Int)] 3));have HNW:=Km (new_one (K:= .i64) (x:=(r:Int)) (w:=u2.alloc (.cells #[.int .i64 (r:Int)] 3)) (b:=u2.heap.size) (o:=0) (by exact(Row.new (E:=3) (K:= .i64) u2 [(r:Int)]).cell (i:=0) (by simp)));have HBB:=Km (show WR.heap.size<=(u2.alloc (.cells #[.int .i64 (r:Int)] 3)).heap.size by simp;omega);have HBA:=Km (bstep HQ2.out (hal u2));have HOW:=Km HM3.out.own)
              |((refine step_append_mine (o:=⟨some 90,_,_,_,_,_⟩) _ (by rfl) _ _ 22 (by rfl) 3 .i64 8 Tryz.underlying22 info_i64 WR.heap.size (.slice ra (c+b) rc) (ints rl) (by rfl) HM3.out HBB.out ⟨u2.heap.size,0,none⟩ 1 1 [(r:Int)] (by rfl) (by rfl) HNW.out H1.out H2.out ?_);intro v' w5 hM5 hg5 hn5;have HM5:=Km hM5;have m0:=(hg5.cell (a:=⟨g8,0,none⟩) k0 (fun e=>by have:=HOW.out _ e.symm;simp at this;omega));have m1:=(hg5.cell (a:=⟨g8,1,none⟩) k1 (fun e=>by have:=HOW.out _ e.symm;simp at this;omega));have m2:=(hg5.cell (a:=⟨g8,2,none⟩) k2 (fun e=>by have:=HOW.out _ e.symm;simp at this;omega));have m3:=(hg5.cell (a:=⟨g8,3,none⟩) k3 (fun e=>by have:=HOW.out _ e.symm;simp at this;omega));have m4:=(hg5.cell (a:=⟨gw,1,none⟩) k4 (fun e=>by have:=HOW.out _ e.symm;simp at this;omega));have m5:=(hg5.cell (a:=⟨bx,ox+i,none⟩) k5 (fun e=>by have:=HOW.out _ e.symm;simp at this;omega));have m6:=(hg5.cell (a:=⟨by_,oy+i,none⟩) k6 (fun e=>by have:=HOW.out _ e.symm;simp at this;omega)))))
           have HB5:=Km ((bstep hbk.out HBA.out).grown hg5 HBB.out (fun j hj=>(HOW.out j hj).1));go_wp2;go_roundw
           case rel=>exact⟨b+1,rl++ [r],by omega,by go_num,by simp[hrl];omega,HL,⟨by rw[FFld.ints_append];exact HM5.out⟩,HB5⟩
           case measure=>simp[intOf]<;>omega
          ·obtain rfl:b=d:=by omega
           clear ad Q1 a2;have HRL:Kept (rl=R):=⟨by rw[<- hat.out,List.take_of_length_le (by omega)]⟩;have HAK:=Km (HLA0.out.below hbk.out);have hal2:Below wr.heap.size wr (wr.alloc (.cells #[.slice ra (c+b) rc] 22)):=(Below.refl _ _).alloc (Nat.le_refl _) _;have hszk:=hbk.out.size;have HW4:=Km (HAK.out.below hal2);have HB4:=Km (bstep (HBW0.out.trans (hbk.out.mono hwsz)) hal2);have HM4:=Km ((hmn.out.below hal2).lower hwsz);have HMO:=Km hmn.out.own;have HON:=Km HW4.out.rw.own;have HNW:=Km (rows_one (W:=wr) (rv:= .slice ra (c+b) rc));have H0:=Km hmn.out.one;have H1:Kept ((L.map (·.1)).length=jn):=⟨by rw[List.length_map,hLl]⟩;have HBB:Kept (W2.heap.size<=(wr.alloc (.cells #[.slice ra (c+b) rc] 22)).heap.size):=⟨by simp;omega⟩;have HOLD:Kept ((∀ g,(Value.slice ma jn mc).ownBlock=some g->g<WR.heap.size)/\ ∀ g,(Value.slice ba2 jn bc2).ownBlock=some g->g<WR.heap.size):=⟨⟨fun g h=>(HLA0.out.rw.own.own g h).2,fun g h=>(HLA0.out.mb.own g h).2⟩⟩;clear hal2 hat hmn hbk
           go_wp2_with (at_builtin;refine wpList_append_w _ rfl _ _ 39 (by rfl) 22 (.slice none 0 0) 24 Tryz.underlying39 info_rows (by rfl) W2.heap.size (.slice ma jn mc) (L.map (·.1)) (by rfl) HON.out HBB.out ⟨wr.heap.size,0,none⟩ 1 (.slice ra (c+b) rc) (by rfl) HNW.out H0.out jn H1.out (by omega) (by omega) ?_)
           intro v' w5 ho5 hg5 hv5;have HLA1:=Km (HW4.out.pushRow (B0:=WR.heap.size) (rv:= .slice ra (c+b) rc) (r:=R) (by omega) HMR.out (by rw[<- HRL.out];exact HM4.out) (fun g h=>(HMO.out g h).1) HOLD.out ho5 hg5 (by simpa using hv5));have hown:=HON.out.own;have HBWA1:=Km (HB4.out.grown hg5 HBB.out (fun j hj=>(hown j hj).1));obtain⟨ma2,mc2,rfl,_,_⟩:=HLA1.out.rw.own.form;rw[List.length_map,List.length_append,hLl] at HLA1 ⊢;clear ho5 hg5 hv5 hown HW4 HB4 HM4 HMO HON HNW H0 H1 HBB HOLD HAK HLA0;obtain⟨WA,hWA⟩:∃ W,w5=W:=⟨_,rfl⟩;rw[hWA] at HLA1 HBWA1 ⊢;have HLA:=HLA1;have HBWA:=HBWA1;clear hWA HLA1 HBWA1;obtain⟨ra1,hra1⟩:∃ r,FFld.ppow hk x b=r:=⟨_,rfl⟩;obtain⟨r,hr⟩:∃ r,FFld.pmul D.p D.k D.m y D.k ra1=r:=⟨_,rfl⟩;have HPC:Kept (∀ W,Calls Tryz.prog 102 #[rfv D.q D.p D.k D.m, .int .i64 x, .int .i64 b] W (RB W (.int .i64 (ra1:Nat)))):=⟨fun W=>by rw[<- hra1];exact HPOW.out W x b hxq (by omega)⟩;have HMC:Kept (∀ W,Calls Tryz.prog 103 #[rfv D.q D.p D.k D.m, .int .i64 y, .int .i64 ra1] W (RB W (.int .i64 (r:Nat)))):=⟨fun W=>by rw[<- hr];exact HMUL.out W y ra1 hyq (by rw[<- hra1];exact FFld.ppow_lt _ _ _)⟩
           have HRR:Kept (Bl[jn]?.getD 0=r):=⟨by
            rw[<- HBl.out];unfold FFld.dcB;rw[List.getElem?_map,List.getElem?_range hjl]
            show FFld.pmul D.p D.k D.m (Wd[jn]?.getD 0) D.k (FFld.ppow hk (P[jn]?.getD 0) b)=r
            rw[HPX.out,HPW.out,hra1,hr]⟩
           have hwa:=HBWA.out.size;have HB9:=Km (HX2l.out.trans (HBWA.out.mono HX2l.out.size));obtain⟨i0,i1,i2,i3⟩:=four_cells ((HBWA.out.block _ (Array.getElem?_eq_some_iff.1 HG.out).1).trans HG.out);obtain⟨_,i4,_,_⟩:=three_cells ((HBWA.out.block _ (Array.getElem?_eq_some_iff.1 HX2b.out).1).trans HX2b.out)
           have i5:WA.cell? ⟨bx,ox+i,none⟩=some (.int .i64 (x:Nat)):=by
            obtain⟨b9,o9,e9,h9,h8⟩:=(HXS.out.below HB9.out).news_ i (by rw[FFld.ints_len,HLX.out];exact hlt);simp only[Option.some.injEq,Addr.mk.injEq,and_true] at e9;obtain⟨rfl,rfl⟩:=e9;rw[FFld.ints_get,HXI.out] at h8;exact h8
           have i6:WA.cell? ⟨by_,oy+i,none⟩=some (.int .i64 (y:Nat)):=by
            obtain⟨b9,o9,e9,h9,h8⟩:=(HWS.out.below HB9.out).news_ i (by rw[FFld.ints_len,HLW.out];exact hlt);simp only[Option.some.injEq,Addr.mk.injEq,and_true] at e9;obtain⟨rfl,rfl⟩:=e9;rw[FFld.ints_get,HYI.out] at h8;exact h8
           have HMB:=Km HLA.out.mb;clear hr hra1 r0 r1 r2 r3 r4 r5 r6 r7 HB9;have H1:=Km (show((ints (Bl.take jn)).length+ [(r:Int)].length)*8<=140737488355328 by rw[FFld.ints_len,HTB.out];simp;omega);have H2:=Km (show(ints (Bl.take jn)).length+ [(r:Int)].length<=maxLen by rw[FFld.ints_len,HTB.out];unfold maxLen;simp;omega);have hal:∀ W:World,Below W.heap.size W (W.alloc (.cells #[.int .i64 (r:Int)] 3)):=fun W=>(Below.refl _ _).alloc (Nat.le_refl _) _
           go_wp2_with fail
           go_upto_region 22 with fail
           go_region_held3 (fun w' =>w'.cell? ⟨g8,0,none⟩=some (.int .i64 D.q)/\w'.cell? ⟨g8,1,none⟩=some (.int .i64 D.p)/\w'.cell? ⟨g8,2,none⟩=some (.int .i64 D.k)/\w'.cell? ⟨g8,3,none⟩=some (.int .i64 D.m)/\w'.cell? ⟨gw,1,none⟩=some (.slice (some ⟨bx,ox,none⟩) n cx)/\w'.cell? ⟨bx,ox+i,none⟩=some (.int .i64 (x:Nat))/\w'.cell? ⟨by_,oy+i,none⟩=some (.int .i64 (y:Nat)))
            (first|exact⟨m0,m1,m2,m3,m4,m5,m6⟩|exact⟨k0,k1,k2,k3,k4,k5,k6⟩|exact⟨q1_0,q1_1,q1_2,q1_3,q1_4,q1_5,q1_6⟩|exact⟨q0_0,q0_1,q0_2,q0_3,q0_4,q0_5,q0_6⟩|exact⟨i0,i1,i2,i3,i4,i5,i6⟩|go_keep)
            ((first
              |(go_at_call 102;(with_reducible refine(HPC.out _).mono ?_);rintro e u0 ⟨hb3,rfl⟩;have HQ0:=Km (bstep (show Below WA.heap.size WA _ from(by first|exact Below.refl _ _|exact(Below.refl _ _).drew)) hb3);clear hb3;have q0_0:=belowCell HQ0.out i0;have q0_1:=belowCell HQ0.out i1;have q0_2:=belowCell HQ0.out i2;have q0_3:=belowCell HQ0.out i3;have q0_4:=belowCell HQ0.out i4;have q0_5:=belowCell HQ0.out i5;have q0_6:=belowCell HQ0.out i6)
              |(go_at_call 103;(with_reducible refine(HMC.out _).mono ?_);rintro e u1 ⟨hb3,rfl⟩;have HQ1:=Km (bstep (show Below WA.heap.size WA _ from(by first|exact HQ0.out|exact(HQ0.out).drew)) hb3);clear hb3;have q1_0:=belowCell HQ1.out i0;have q1_1:=belowCell HQ1.out i1;have q1_2:=belowCell HQ1.out i2;have q1_3:=belowCell HQ1.out i3;have q1_4:=belowCell HQ1.out i4;have q1_5:=belowCell HQ1.out i5;have q1_6:=belowCell HQ1.out i6;have k0:=belowCell (hal u1) q1_0;have k1:=belowCell (hal u1) q1_1;have k2:=belowCell (hal u1) q1_2;have k3:=belowCell (hal u1) q1_3;have k4:=belowCell (hal u1) q1_4;have k5:=belowCell (hal u1) q1_5;have k6:=belowCell (hal u1) q1_6;have hs3:=HQ1.out.size;have HM3:=Km ((HMB.out.below HQ1.out).alloc (.cells #[.int .i64 (r:Int)] 3));have HNW:=Km (new_one (K:= .i64) (x:=(r:Int)) (w:=u1.alloc (.cells #[.int .i64 (r:Int)] 3)) (b:=u1.heap.size) (o:=0) (by exact(Row.new (E:=3) (K:= .i64) u1 [(r:Int)]).cell (i:=0) (by simp)));have HBB:=Km (show W2.heap.size<=(u1.alloc (.cells #[.int .i64 (r:Int)] 3)).heap.size by simp;omega);have HBA:=Km (bstep HQ1.out (hal u1));have HOW:=Km HM3.out.own)
              |((refine step_append_mine (o:=⟨some 111,_,_,_,_,_⟩) _ (by rfl) _ _ 22 (by rfl) 3 .i64 8 Tryz.underlying22 info_i64 W2.heap.size (.slice ba2 jn bc2) (ints (Bl.take jn)) (by rfl) HM3.out HBB.out ⟨u1.heap.size,0,none⟩ 1 1 [(r:Int)] (by rfl) (by rfl) HNW.out H1.out H2.out ?_);intro v' w5 hM5 hg5 hn5;have HM5:=Km hM5;have m0:=(hg5.cell (a:=⟨g8,0,none⟩) k0 (fun e=>by have:=HOW.out _ e.symm;simp at this;omega));have m1:=(hg5.cell (a:=⟨g8,1,none⟩) k1 (fun e=>by have:=HOW.out _ e.symm;simp at this;omega));have m2:=(hg5.cell (a:=⟨g8,2,none⟩) k2 (fun e=>by have:=HOW.out _ e.symm;simp at this;omega));have m3:=(hg5.cell (a:=⟨g8,3,none⟩) k3 (fun e=>by have:=HOW.out _ e.symm;simp at this;omega));have m4:=(hg5.cell (a:=⟨gw,1,none⟩) k4 (fun e=>by have:=HOW.out _ e.symm;simp at this;omega));have m5:=(hg5.cell (a:=⟨bx,ox+i,none⟩) k5 (fun e=>by have:=HOW.out _ e.symm;simp at this;omega));have m6:=(hg5.cell (a:=⟨by_,oy+i,none⟩) k6 (fun e=>by have:=HOW.out _ e.symm;simp at this;omega)))))
           have HLQ:=Km ((HLA.out.below HQ1.out).below (hal u1));have HL5:=Km (HLQ.out.pushB (by omega) HRR.out HM5.out hg5 hn5);have HB5:=Km ((bstep HBWA.out HBA.out).grown hg5 HBB.out (fun j hj=>(HOW.out j hj).1));go_wp2;go_roundw
           case rel=>exact⟨i+1,jn+1,_,by omega,by omega,HK1,by go_num,by rw[List.length_append,hLl];rfl,HL5,HB5⟩
           case measure=>simp[intOf]<;>omega
    ·obtain rfl:i=n:=by omega
     have HJN:Kept (jn=np):=⟨by rw[<- hkp.out,HNP.out]⟩;obtain rfl:np=jn:=HJN.out.symm;obtain⟨ma',mc',he',hm1,hm2,hsl⟩:=hla.out.rw.sls;simp only[Value.slice.injEq] at he';obtain⟨rfl,h9,rfl⟩:=he';clear h9;have heq:=hla.out.eq;rw[List.take_of_length_le (by omega),<- HM.out] at heq;rw[heq] at hsl;have hmb:=hla.out.mb.sl;rw[List.take_of_length_le (by omega),<- HBl.out] at hmb;have hso:=HSV.out d _ ma mc (.slice ba2 np bc2) hle hsl (by omega) hmc2 hmb;rw[HDK.out] at hso;obtain⟨wd,hwd⟩:∃ x,dk+d=x:=⟨_,rfl⟩;rw[hwd] at hso;have HSO:=Km hso;have HBD:=Km hbw.out;clear hso heq hsl hmb hm1 hm2 hLl htb HTB hla hkp HJN hbw HM HBl hMl hBll;obtain⟨i0,i1,i2,i3⟩:=four_cells ((HBD.out.block _ (Array.getElem?_eq_some_iff.1 HG.out).1).trans HG.out);go_wp2_with fail;(with_reducible refine HSO.out.mono ?_);rintro e w6 ⟨hb6,⟨gx,sx,hsol,rfl,hsx⟩|⟨hnos,rfl⟩⟩
     ·have HB6:=Km (bstep HBD.out hb6);have HSX:=Km hsx;have HSOL:=Km hsol;have HSXL:Kept (sx.length=wd):=⟨by rw[hsol.1,<- hwd,<- HDK.out]⟩;clear hb6 hsx hsol HSO i0 i1 i2 i3;obtain⟨c0,c1,c2,_⟩:=three_cells ((HB6.out.block _ (Array.getElem?_eq_some_iff.1 HX2b.out).1).trans HX2b.out)
      by_cases hd0:d=0
      ·obtain rfl:dk=wd:=by omega
       have hd1:d<1:=by omega
       clear hd0;have HAL6:Below w6.heap.size w6 (w6.alloc (.cells #[.int .i64 1] 3)):=(Below.refl _ _).alloc (Nat.le_refl _) _;have HNW:=Km (new_one (K:= .i64) (x:=(1:Int)) (w:=w6.alloc (.cells #[.int .i64 1] 3)) (b:=w6.heap.size) (o:=0) (by exact(Row.new (E:=3) (K:= .i64) w6 [(1:Int)]).cell (i:=0) (by simp)))
       have HOLDS:Kept (∀ j u,((ints (sx.drop dk)).map (Value.int .i64))[j]? =some u->(w6.alloc (.cells #[.int .i64 1] 3)).cell? ((⟨gx,0,none⟩:Addr).add j)=some u):=⟨fun j u hu=>by
        have e:sx.drop dk= []:=List.eq_nil_of_length_eq_zero (by rw[List.length_drop,HSXL.out];omega);rw[e] at hu
        simp[ints] at hu⟩
       have HXLN:Kept ((ints (sx.drop dk)).length=0):=⟨by rw[FFld.ints_len,List.length_drop,HSXL.out];omega⟩;have H0' :=Km (show 0<(ints (sx.drop dk)).length+ [(1:Int)].length by rw[HXLN.out];simp);have H1' :=Km (show((ints (sx.drop dk)).length+ [(1:Int)].length)*8<=140737488355328 by rw[HXLN.out];simp<;>omega);have H2' :=Km (show(ints (sx.drop dk)).length+ [(1:Int)].length<=maxLen by rw[HXLN.out];unfold maxLen;simp<;>omega);have HAL:=Km HAL6;clear HAL6
       go_wp2_with (at_builtin;refine wpList_append_full _ rfl _ _ 22 (by rfl) 3 .i64 8 Tryz.underlying22 info_i64 ⟨gx,0,none⟩ 0 (ints (sx.drop dk)) 0 HXLN.out (by rfl) HOLDS.out ⟨w6.heap.size,0,none⟩ 1 1 [(1:Int)] (by rfl) rfl HNW.out H0'.out H1'.out H2'.out ?_)
       intro va nv vc w7 hlv hm7 hb7;have HB67:=Km (bstep HAL.out (by simpa using hb7));have HNV:Kept (nv=d+1):=⟨by rw[<- hlv];first|(rw[List.length_append,HXLN.out]<;>simp<;>omega)|(rw[HXLN.out]<;>omega)⟩
       have HE7:Kept (Sl .i64 w7 (.slice va nv vc) (ints (dcE d k sx))):=⟨by
        unfold dcE;rw[HDK.out,FFld.ints_append]
        exact hm7.sl⟩
       have HTK:Kept ((sx.take dk).length=dk):=⟨by rw[List.length_take,HSXL.out];omega⟩;have HS7:Kept (Sl .i64 w7 (.slice (some ⟨gx,0,none⟩) dk dk) (ints (sx.take dk))):=⟨sl_takeF (HSX.out.below HB67.out) HTK.out (by omega)⟩;obtain⟨nq,hnq⟩:∃ z,(FFld.trm (sx.take dk)).length=z:=⟨_,rfl⟩;have HNQ:=Km hnq;have hnqd:nq<=dk:=by rw[<- hnq];exact Nat.le_trans (FFld.trm_len_le _) (by rw[HTK.out];exact Nat.le_refl _)
       clear hlv hm7 hb7 hnq HAL HNW HOLDS H0' H1' H2' HXLN c0 c1 c2
       have HTR:Kept (∀ W,Below w7.heap.size w7 W->Calls Tryz.prog 43 #[.slice (some ⟨gx,0,none⟩) dk dk] W (fun e w' =>W=w' /\e= .returned (.slice (some ⟨gx,0,none⟩) nq dk))):=⟨fun W hW=>by
        have h:=rtrim_any (sx.take dk) (some ⟨gx,0,none⟩) dk W (by rw[HTK.out];exact HS7.out.below hW) (by rw[HTK.out];omega);rw[HTK.out,HNQ.out] at h
        exact h⟩
       have HDV:Kept (∀ W,Below w7.heap.size w7 W->Calls Tryz.prog 105 #[rfv D.q D.p D.k D.m, .slice (some ⟨gx,0,none⟩) nq dk, .slice va nv vc] W (RdRet D (dcE d k sx) (FFld.invT D hk (dcE d k sx)) (FFld.trm (sx.take dk)) W)):=⟨fun W hW=>by
        have hs:=sl_trm (pl:=sx.take dk) (ap:=some ⟨gx,0,none⟩) (cp:=dk) (w:=W) (by rw[HTK.out];exact HS7.out.below hW);rw[HNQ.out] at hs;have hl:=dcE_len HD.out HSOL.out;have htop:=dcE_top HD.out HSOL.out
        exact rpdivide_any HD.out _ _ (FFld.trm (sx.take dk)) (dcE d k sx) W hs (HE7.out.below hW) (FFld.trm_lt fun a ha=>HSOL.out.2.1 a (List.mem_of_mem_take ha)) (dcE_lt HD.out HSOL.out) (by omega) (by rw[hl,show d+1-1=d by omega,htop];decide) (by have:=FFld.trm_len_le (sx.take dk);rw[HTK.out] at this;omega) (by omega)⟩
       have HB7' :=Km (bstep HB6.out HB67.out);obtain⟨i0,i1,i2,i3⟩:=four_cells ((HB7'.out.block _ (Array.getElem?_eq_some_iff.1 HG.out).1).trans HG.out);obtain⟨c0,c1,i4,_⟩:=three_cells ((HB7'.out.block _ (Array.getElem?_eq_some_iff.1 HX2b.out).1).trans HX2b.out);clear HB67 HS7 HE7 HTK HNQ c0 c1;have ewr:IntKind.i64.wrap ((d:Int)+(k:Int))=(dk:Int):=by rw[edk,IntKind.wrap_i64];omega
       have n1:(0:Int)<=(dk:Int):=by omega
       have n2:(dk:Int)<=(dk:Int):=by omega
       have n3:dk<=dk:=by omega
       have n4:((dk:Int)).toNat=dk:=by omega
       clear edk;go_wp2_with fail
       go_upto_region 27 with fail
       go_region_held3 (fun w' =>w'.cell? ⟨g8,0,none⟩=some (.int .i64 D.q)/\w'.cell? ⟨g8,1,none⟩=some (.int .i64 D.p)/\w'.cell? ⟨g8,2,none⟩=some (.int .i64 D.k)/\w'.cell? ⟨g8,3,none⟩=some (.int .i64 D.m)/\w'.cell? ⟨gw,2,none⟩=some (.int .i64 (k:Nat)))
        (first|exact⟨k0,k1,k2,k3,k4⟩|exact⟨i0,i1,i2,i3,i4⟩|go_keep)
        ((first
          |(go_at_call 43;(with_reducible refine(HTR.out _ ?h1).mono ?_);(case h1=>first|exact Below.refl _ _|exact(Below.refl _ _).drew);rintro e u0 ⟨rfl,rfl⟩)
          |(go_at_call 105;(with_reducible refine(HDV.out _ ?h1).mono ?_);(case h1=>first|exact Below.refl _ _|exact(Below.refl _ _).drew);rintro e u1 ⟨hb3,vq,vr,rfl,hvq,hvr⟩;have HQ1:=Km (bstep (show Below w7.heap.size w7 _ from(by first|exact Below.refl _ _|exact(Below.refl _ _).drew)) hb3);have HVQ:=Km hvq;have HVR:=Km hvr;clear hb3 hvq hvr;have k0:=belowCell HQ1.out i0;have k1:=belowCell HQ1.out i1;have k2:=belowCell HQ1.out i2;have k3:=belowCell HQ1.out i3;have k4:=belowCell HQ1.out i4)))
       have HB8:=Km (bstep HB7'.out HQ1.out);obtain⟨aq,cq,rfl,hcq,hmq⟩:=HVQ.out.form;obtain⟨ar,cr,rfl,hcr,hmr⟩:=HVR.out.form;rw[FFld.ints_len] at hcq hcr ⊢
       try rw[FFld.ints_len]
       obtain⟨Qs,hQs⟩:∃ z,FFld.quoF D (dcE d k sx) (FFld.invT D hk (dcE d k sx)) (FFld.trm (sx.take dk))=z:=⟨_,rfl⟩;obtain⟨Rs,hRs⟩:∃ z,FFld.rstF D (dcE d k sx) (FFld.invT D hk (dcE d k sx)) (FFld.trm (sx.take dk))=z:=⟨_,rfl⟩;have HQS:Kept (dcQ D hk d k sx=Qs):=⟨by unfold dcQ;rw[HDK.out,hQs]⟩;have HRS:Kept (dcR D hk d k sx=Rs):=⟨by unfold dcR;rw[HDK.out,hRs]⟩;rw[hQs] at hcq HVQ;rw[hRs] at hcr HVR
       try rw[hQs]
       try rw[hRs]
       obtain⟨nqq,hnqq⟩:∃ z,Qs.length=z:=⟨_,rfl⟩;obtain⟨nrr,hnrr⟩:∃ z,Rs.length=z:=⟨_,rfl⟩;rw[FFld.ints_len,hnqq] at HVQ;rw[FFld.ints_len,hnrr] at HVR;rw[hnqq] at hcq;rw[hnrr] at hcr
       try rw[hnqq]
       try rw[hnrr]
       have HNQQ:=Km hnqq;have HNRR:=Km hnrr;unfold maxLen at hmq hmr
       -- where it does not return, no polynomial differs in d places
       have HGD:Kept (∀ Po,Near D P Wd k t Po-> ¬ (Qs=Po/\Rs= [])->d+1<=disF (ints (FFld.valsF D Po P np)) (ints Wd) np):=⟨fun Po hN hne=>by
        have h1:=hnr.out Po hN
        rcases Nat.lt_or_ge d (disF (ints (FFld.valsF D Po P np)) (ints Wd) np) with h2|h2
        ·omega
        ·have h3:=HGOOD.out d sx HSOL.out hle Po hN h2
         exact absurd ⟨HQS.out.symm.trans h3.1,HRS.out.symm.trans h3.2⟩ hne⟩
       clear hQs hRs hnqq hnrr i0 i1 i2 i3 i4 k0 k1 k2 k3 HTR HDV
       by_cases hr0:0<nrr
       ·have HN2:Kept (∀ Po,Near D P Wd k t Po->d+1<=disF (ints (FFld.valsF D Po P np)) (ints Wd) np):=⟨fun Po hN=>HGD.out Po hN fun h=>by
         have h1:=HNRR.out;rw[h.2] at h1;simp at h1
         omega⟩
        go_wp2;go_roundw
        case rel=>exact⟨d+1,by omega,by go_num,HN2,HB8⟩
        case measure=>simp[intOf]<;>omega
       ·by_cases hq0:k<nqq
        ·have HN2:Kept (∀ Po,Near D P Wd k t Po->d+1<=disF (ints (FFld.valsF D Po P np)) (ints Wd) np):=⟨fun Po hN=>HGD.out Po hN fun h=>by
          have h1:=HNQQ.out;rw[h.1] at h1;have h2:=hN.len
          omega⟩
         go_wp2;go_roundw
         case rel=>exact⟨d+1,by omega,by go_num,HN2,HB8⟩
         case measure=>simp[intOf]<;>omega
        ·have HQLT:Kept (∀ a∈Qs,a<D.p ^ D.k):=⟨by rw[<- HQS.out];exact FFld.quoF_lt hk _ _ _⟩;have HB8w:=Km (HX2l.out.trans (HB8.out.mono HX2l.out.size));obtain⟨c0,c1,c2,_⟩:=three_cells ((HB8.out.block _ (Array.getElem?_eq_some_iff.1 HX2b.out).1).trans HX2b.out);have HEC:=Km (HENC.out u1 HB8w.out aq cq nqq Qs HVQ.out HNQQ.out HQLT.out (by omega));clear k4;go_wp2_with fail;(with_reducible refine HEC.out.mono ?_);rintro e u2 ⟨hb9,vw,rfl,hvw⟩;have HB9:=Km (bstep HB8.out hb9);have HB9w:=Km (bstep HB8w.out hb9);have HVW:=Km hvw.sl;have HDI:=Km (HDIS.out u2 HB9w.out vw (FFld.valsF D Qs xs i) hvw.sl (by rw[FFld.valsF_len];exact HLX.out));have HDD:=Km (HDS.out Qs);obtain⟨dd,hdd⟩:∃ z,disK (ints (FFld.valsF D Qs xs i)) (ints ws) es i=z:=⟨_,rfl⟩;rw[hdd] at HDI HDD;obtain⟨awd,cwd,rfl,_,_⟩:=hvw.sl.form;clear hb9 hvw c0 c1 c2 HEC hdd;go_wp2_with fail;(with_reducible refine HDI.out.mono ?_);rintro e u3 ⟨hb10,rfl⟩;have HB10:=Km (bstep HB9.out hb10);have HB10w:=Km (bstep HB9w.out hb10);have HVW2:=Km (HVW.out.below hb10);clear hb10 HVW HDI
         by_cases hdt2:dd<=t
         ·have HNR:Kept (Near D P Wd k t Qs):=⟨by
           have h:=dcQ_near HD.out (t:=t) HSOL.out (by rw[HQS.out,HNQQ.out];omega) (by rw[HQS.out,HPL.out,HDD.out];exact hdt2);rw[HQS.out] at h
           exact h⟩
          go_wp2;exact bodyPost_ret (v:= .tuple #[.slice awd (ints (FFld.valsF D Qs xs i)).length cwd, .bool true]) (by simp[results,Tryz.results39,go_sem]) rfl ⟨HB10w.out, .inl ⟨Qs,_,HNR.out,rfl,by rw[HLX.out];exact HVW2.out⟩⟩
         ·have HN2:Kept (∀ Po,Near D P Wd k t Po->d+1<=disF (ints (FFld.valsF D Po P np)) (ints Wd) np):=⟨fun Po hN=>HGD.out Po hN fun h=>by
           have h1:=hN.dis;rw[HPL.out,<- h.1,HDD.out] at h1
           omega⟩
          go_wp2;go_roundw
          case rel=>exact⟨d+1,by omega,by go_num,HN2,HB10⟩
          case measure=>simp[intOf]<;>omega
      ·have hw1:dk<wd:=by omega
       have ew1:wd-dk=d:=by omega
       have ew2:(wd:Int)-(dk:Int)=(d:Int):=by omega
       have HAL6:Below w6.heap.size w6 (w6.alloc (.cells #[.int .i64 1] 3)):=(Below.refl _ _).alloc (Nat.le_refl _) _;have HNW:=Km (new_one (K:= .i64) (x:=(1:Int)) (w:=w6.alloc (.cells #[.int .i64 1] 3)) (b:=w6.heap.size) (o:=0) (by exact(Row.new (E:=3) (K:= .i64) w6 [(1:Int)]).cell (i:=0) (by simp)))
       have HOLDS:Kept (∀ j u,((ints (sx.drop dk)).map (Value.int .i64))[j]? =some u->(w6.alloc (.cells #[.int .i64 1] 3)).cell? ((⟨gx,dk,none⟩:Addr).add j)=some u):=⟨fun j u hu=>by
        rw[add_at]
        exact drop_cell (HSX.out.below ((Below.refl w6.heap.size w6).alloc (Nat.le_refl _) _)) hu⟩
       have HXLN:Kept ((ints (sx.drop dk)).length=d):=⟨by rw[FFld.ints_len,List.length_drop,HSXL.out];omega⟩;have H0' :=Km (show d<(ints (sx.drop dk)).length+ [(1:Int)].length by rw[HXLN.out];simp);have H1' :=Km (show((ints (sx.drop dk)).length+ [(1:Int)].length)*8<=140737488355328 by rw[HXLN.out];simp<;>omega);have H2' :=Km (show(ints (sx.drop dk)).length+ [(1:Int)].length<=maxLen by rw[HXLN.out];unfold maxLen;simp<;>omega);have HAL:=Km HAL6;clear HAL6
       go_wp2_with (at_builtin;refine wpList_append_full _ rfl _ _ 22 (by rfl) 3 .i64 8 Tryz.underlying22 info_i64 ⟨gx,dk,none⟩ d (ints (sx.drop dk)) d HXLN.out (by rfl) HOLDS.out ⟨w6.heap.size,0,none⟩ 1 1 [(1:Int)] (by rfl) rfl HNW.out H0'.out H1'.out H2'.out ?_)
       intro va nv vc w7 hlv hm7 hb7;have HB67:=Km (bstep HAL.out (by simpa using hb7));have HNV:Kept (nv=d+1):=⟨by rw[<- hlv];first|(rw[List.length_append,HXLN.out]<;>simp<;>omega)|(rw[HXLN.out]<;>omega)⟩
       have HE7:Kept (Sl .i64 w7 (.slice va nv vc) (ints (dcE d k sx))):=⟨by
        unfold dcE;rw[HDK.out,FFld.ints_append]
        exact hm7.sl⟩
       have HTK:Kept ((sx.take dk).length=dk):=⟨by rw[List.length_take,HSXL.out];omega⟩;have HS7:Kept (Sl .i64 w7 (.slice (some ⟨gx,0,none⟩) dk dk) (ints (sx.take dk))):=⟨sl_takeF (HSX.out.below HB67.out) HTK.out (by omega)⟩;obtain⟨nq,hnq⟩:∃ z,(FFld.trm (sx.take dk)).length=z:=⟨_,rfl⟩;have HNQ:=Km hnq;have hnqd:nq<=dk:=by rw[<- hnq];exact Nat.le_trans (FFld.trm_len_le _) (by rw[HTK.out];exact Nat.le_refl _)
       clear hlv hm7 hb7 hnq HAL HNW HOLDS H0' H1' H2' HXLN c0 c1 c2
       have HTR:Kept (∀ W,Below w7.heap.size w7 W->Calls Tryz.prog 43 #[.slice (some ⟨gx,0,none⟩) dk dk] W (fun e w' =>W=w' /\e= .returned (.slice (some ⟨gx,0,none⟩) nq dk))):=⟨fun W hW=>by
        have h:=rtrim_any (sx.take dk) (some ⟨gx,0,none⟩) dk W (by rw[HTK.out];exact HS7.out.below hW) (by rw[HTK.out];omega);rw[HTK.out,HNQ.out] at h
        exact h⟩
       have HDV:Kept (∀ W,Below w7.heap.size w7 W->Calls Tryz.prog 105 #[rfv D.q D.p D.k D.m, .slice (some ⟨gx,0,none⟩) nq dk, .slice va nv vc] W (RdRet D (dcE d k sx) (FFld.invT D hk (dcE d k sx)) (FFld.trm (sx.take dk)) W)):=⟨fun W hW=>by
        have hs:=sl_trm (pl:=sx.take dk) (ap:=some ⟨gx,0,none⟩) (cp:=dk) (w:=W) (by rw[HTK.out];exact HS7.out.below hW);rw[HNQ.out] at hs;have hl:=dcE_len HD.out HSOL.out;have htop:=dcE_top HD.out HSOL.out
        exact rpdivide_any HD.out _ _ (FFld.trm (sx.take dk)) (dcE d k sx) W hs (HE7.out.below hW) (FFld.trm_lt fun a ha=>HSOL.out.2.1 a (List.mem_of_mem_take ha)) (dcE_lt HD.out HSOL.out) (by omega) (by rw[hl,show d+1-1=d by omega,htop];decide) (by have:=FFld.trm_len_le (sx.take dk);rw[HTK.out] at this;omega) (by omega)⟩
       have HB7' :=Km (bstep HB6.out HB67.out);obtain⟨i0,i1,i2,i3⟩:=four_cells ((HB7'.out.block _ (Array.getElem?_eq_some_iff.1 HG.out).1).trans HG.out);obtain⟨c0,c1,i4,_⟩:=three_cells ((HB7'.out.block _ (Array.getElem?_eq_some_iff.1 HX2b.out).1).trans HX2b.out);clear HB67 HS7 HE7 HTK HNQ c0 c1;have ewr:IntKind.i64.wrap ((d:Int)+(k:Int))=(dk:Int):=by rw[edk,IntKind.wrap_i64];omega
       have n1:(0:Int)<=(dk:Int):=by omega
       have n2:(dk:Int)<=(wd:Int):=by omega
       have n3:dk<=wd:=by omega
       have n4:((dk:Int)).toNat=dk:=by omega
       clear edk;go_wp2_with fail
       go_upto_region 27 with fail
       go_region_held3 (fun w' =>w'.cell? ⟨g8,0,none⟩=some (.int .i64 D.q)/\w'.cell? ⟨g8,1,none⟩=some (.int .i64 D.p)/\w'.cell? ⟨g8,2,none⟩=some (.int .i64 D.k)/\w'.cell? ⟨g8,3,none⟩=some (.int .i64 D.m)/\w'.cell? ⟨gw,2,none⟩=some (.int .i64 (k:Nat)))
        (first|exact⟨k0,k1,k2,k3,k4⟩|exact⟨i0,i1,i2,i3,i4⟩|go_keep)
        ((first
          |(go_at_call 43;(with_reducible refine(HTR.out _ ?h1).mono ?_);(case h1=>first|exact Below.refl _ _|exact(Below.refl _ _).drew);rintro e u0 ⟨rfl,rfl⟩)
          |(go_at_call 105;(with_reducible refine(HDV.out _ ?h1).mono ?_);(case h1=>first|exact Below.refl _ _|exact(Below.refl _ _).drew);rintro e u1 ⟨hb3,vq,vr,rfl,hvq,hvr⟩;have HQ1:=Km (bstep (show Below w7.heap.size w7 _ from(by first|exact Below.refl _ _|exact(Below.refl _ _).drew)) hb3);have HVQ:=Km hvq;have HVR:=Km hvr;clear hb3 hvq hvr;have k0:=belowCell HQ1.out i0;have k1:=belowCell HQ1.out i1;have k2:=belowCell HQ1.out i2;have k3:=belowCell HQ1.out i3;have k4:=belowCell HQ1.out i4)))
       have HB8:=Km (bstep HB7'.out HQ1.out);obtain⟨aq,cq,rfl,hcq,hmq⟩:=HVQ.out.form;obtain⟨ar,cr,rfl,hcr,hmr⟩:=HVR.out.form;rw[FFld.ints_len] at hcq hcr ⊢
       try rw[FFld.ints_len]
       obtain⟨Qs,hQs⟩:∃ z,FFld.quoF D (dcE d k sx) (FFld.invT D hk (dcE d k sx)) (FFld.trm (sx.take dk))=z:=⟨_,rfl⟩;obtain⟨Rs,hRs⟩:∃ z,FFld.rstF D (dcE d k sx) (FFld.invT D hk (dcE d k sx)) (FFld.trm (sx.take dk))=z:=⟨_,rfl⟩;have HQS:Kept (dcQ D hk d k sx=Qs):=⟨by unfold dcQ;rw[HDK.out,hQs]⟩;have HRS:Kept (dcR D hk d k sx=Rs):=⟨by unfold dcR;rw[HDK.out,hRs]⟩;rw[hQs] at hcq HVQ;rw[hRs] at hcr HVR
       try rw[hQs]
       try rw[hRs]
       obtain⟨nqq,hnqq⟩:∃ z,Qs.length=z:=⟨_,rfl⟩;obtain⟨nrr,hnrr⟩:∃ z,Rs.length=z:=⟨_,rfl⟩;rw[FFld.ints_len,hnqq] at HVQ;rw[FFld.ints_len,hnrr] at HVR;rw[hnqq] at hcq;rw[hnrr] at hcr
       try rw[hnqq]
       try rw[hnrr]
       have HNQQ:=Km hnqq;have HNRR:=Km hnrr;unfold maxLen at hmq hmr
       -- where it does not return, no polynomial differs in d places
       have HGD:Kept (∀ Po,Near D P Wd k t Po-> ¬ (Qs=Po/\Rs= [])->d+1<=disF (ints (FFld.valsF D Po P np)) (ints Wd) np):=⟨fun Po hN hne=>by
        have h1:=hnr.out Po hN
        rcases Nat.lt_or_ge d (disF (ints (FFld.valsF D Po P np)) (ints Wd) np) with h2|h2
        ·omega
        ·have h3:=HGOOD.out d sx HSOL.out hle Po hN h2
         exact absurd ⟨HQS.out.symm.trans h3.1,HRS.out.symm.trans h3.2⟩ hne⟩
       clear hQs hRs hnqq hnrr i0 i1 i2 i3 i4 k0 k1 k2 k3 HTR HDV
       by_cases hr0:0<nrr
       ·have HN2:Kept (∀ Po,Near D P Wd k t Po->d+1<=disF (ints (FFld.valsF D Po P np)) (ints Wd) np):=⟨fun Po hN=>HGD.out Po hN fun h=>by
         have h1:=HNRR.out;rw[h.2] at h1;simp at h1
         omega⟩
        go_wp2;go_roundw
        case rel=>exact⟨d+1,by omega,by go_num,HN2,HB8⟩
        case measure=>simp[intOf]<;>omega
       ·by_cases hq0:k<nqq
        ·have HN2:Kept (∀ Po,Near D P Wd k t Po->d+1<=disF (ints (FFld.valsF D Po P np)) (ints Wd) np):=⟨fun Po hN=>HGD.out Po hN fun h=>by
          have h1:=HNQQ.out;rw[h.1] at h1;have h2:=hN.len
          omega⟩
         go_wp2;go_roundw
         case rel=>exact⟨d+1,by omega,by go_num,HN2,HB8⟩
         case measure=>simp[intOf]<;>omega
        ·have HQLT:Kept (∀ a∈Qs,a<D.p ^ D.k):=⟨by rw[<- HQS.out];exact FFld.quoF_lt hk _ _ _⟩;have HB8w:=Km (HX2l.out.trans (HB8.out.mono HX2l.out.size));obtain⟨c0,c1,c2,_⟩:=three_cells ((HB8.out.block _ (Array.getElem?_eq_some_iff.1 HX2b.out).1).trans HX2b.out);have HEC:=Km (HENC.out u1 HB8w.out aq cq nqq Qs HVQ.out HNQQ.out HQLT.out (by omega));clear k4;go_wp2_with fail;(with_reducible refine HEC.out.mono ?_);rintro e u2 ⟨hb9,vw,rfl,hvw⟩;have HB9:=Km (bstep HB8.out hb9);have HB9w:=Km (bstep HB8w.out hb9);have HVW:=Km hvw.sl;have HDI:=Km (HDIS.out u2 HB9w.out vw (FFld.valsF D Qs xs i) hvw.sl (by rw[FFld.valsF_len];exact HLX.out));have HDD:=Km (HDS.out Qs);obtain⟨dd,hdd⟩:∃ z,disK (ints (FFld.valsF D Qs xs i)) (ints ws) es i=z:=⟨_,rfl⟩;rw[hdd] at HDI HDD;obtain⟨awd,cwd,rfl,_,_⟩:=hvw.sl.form;clear hb9 hvw c0 c1 c2 HEC hdd;go_wp2_with fail;(with_reducible refine HDI.out.mono ?_);rintro e u3 ⟨hb10,rfl⟩;have HB10:=Km (bstep HB9.out hb10);have HB10w:=Km (bstep HB9w.out hb10);have HVW2:=Km (HVW.out.below hb10);clear hb10 HVW HDI
         by_cases hdt2:dd<=t
         ·have HNR:Kept (Near D P Wd k t Qs):=⟨by
           have h:=dcQ_near HD.out (t:=t) HSOL.out (by rw[HQS.out,HNQQ.out];omega) (by rw[HQS.out,HPL.out,HDD.out];exact hdt2);rw[HQS.out] at h
           exact h⟩
          go_wp2;exact bodyPost_ret (v:= .tuple #[.slice awd (ints (FFld.valsF D Qs xs i)).length cwd, .bool true]) (by simp[results,Tryz.results39,go_sem]) rfl ⟨HB10w.out, .inl ⟨Qs,_,HNR.out,rfl,by rw[HLX.out];exact HVW2.out⟩⟩
         ·have HN2:Kept (∀ Po,Near D P Wd k t Po->d+1<=disF (ints (FFld.valsF D Po P np)) (ints Wd) np):=⟨fun Po hN=>HGD.out Po hN fun h=>by
           have h1:=hN.dis;rw[HPL.out,<- h.1,HDD.out] at h1
           omega⟩
          go_wp2;go_roundw
          case rel=>exact⟨d+1,by omega,by go_num,HN2,HB10⟩
          case measure=>simp[intOf]<;>omega
     ·have HB6:=Km (bstep HBD.out hb6)
      have HN2:Kept (∀ Po,Near D P Wd k t Po->d+1<=disF (ints (FFld.valsF D Po P np)) (ints Wd) np):=⟨fun Po hN=>by
       have h1:=hnr.out Po hN
       rcases Nat.lt_or_ge d (disF (ints (FFld.valsF D Po P np)) (ints Wd) np) with h2|h2
       ·omega
       ·obtain⟨x,hx⟩:=HNEAR.out d Po hN (by omega)
        exact absurd hx (hnos x)⟩
      clear hb6 hnos HSO;go_wp2;go_roundw
      case rel=>exact⟨d+1,by omega,by go_num,HN2,HB6⟩
      case measure=>simp[intOf]<;>omega
  ·have hd1:d=t+1:=by omega
   have HNO:Kept (∀ Po,¬ Near D P Wd k t Po):=⟨fun Po hN=>by
    have h1:=hnr.out Po hN;have h2:=hN.dis;rw[HPL.out] at h2
    omega⟩
   have HBZ:=Km (HX2.out.1.trans (hbw.out.mono HX2.out.1.size));go_wp2;exact bodyPost_ret (v:= .tuple #[.slice none 0 0, .bool false]) (by simp[results,Tryz.results39,go_sem]) rfl ⟨HBZ.out, .inr ⟨HNO.out,rfl⟩⟩
end Go.Proofs.YtdnheaafcbihbaaGreat
