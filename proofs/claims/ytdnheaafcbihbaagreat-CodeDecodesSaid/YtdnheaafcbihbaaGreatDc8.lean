/-
  Texts of the proof, merged by program: Opc Un Frb Md Mf Mg Mh Mj Mk Mm Mn Gt Mo Mq Mr Ms Fx Fz Lm Ex Fnw Mu Sd Fpo Cj Tr.
-/
import Derived.Test.YtdnheaafcbihbaaGreatDc7
import Derived.BigRegion
import Derived.WalkMore
import Derived.BigQuiet
set_option linter.unusedSectionVars false
set_option linter.unusedSimpArgs false
set_option linter.unusedVariables false
set_option maxHeartbeats 16000000
namespace Go.Proofs.YtdnheaafcbihbaaGreat
section
open Go Go.ChangeShapes Go.WideShapes Go.RowKit Go.Deep
variable {H : Type} {enc : TypeId × Value -> H} {P : Program} {w : World} {base : Nat} {spare : Nat -> Bool} {held : Bool}
theorem list_three {α:Type} :∀ (l:List α),l.length=3-> ∃ a b c,l= [a,b,c]
 | [a,b,c],_=>⟨a,b,c,rfl⟩
theorem trod_three {t:TypeId}{f0 f1 f2:Field}{fuel:Nat}{c0 c1 c2:Value}{x:DataW H × List MemPlace}(ht:P.underlying t=some (.struct #[f0,f1,f2]))(h0:f0.offset=0)(h1:f1.offset=1)(h2:f2.offset=2)(k0:P.cellsOf f0.type=1)(k1:P.cellsOf f1.type=1)(k2:P.cellsOf f2.type=1)
 (h:DataW.trod enc P w base spare held fuel t [c0,c1,c2]=some x):
 ∃ y0 y1 y2 n,DataW.trod enc P w base spare held n f0.type [c0]=some y0/\DataW.trod enc P w base spare held n f1.type [c1]=some y1/\DataW.trod enc P w base spare held n f2.type [c2]=some y2:=by
 cases fuel with
 |zero=>simp[DataW.trod] at h
 | succ n=>
   unfold DataW.trod at h;rw[ht] at h;simp[h0,h1,h2,k0,k1,k2] at h;obtain⟨_,h⟩:=h
   cases e0:DataW.trod enc P w base spare held n f0.type [c0] with
   |none=>simp[e0] at h
   | some y0=>
     cases e1:DataW.trod enc P w base spare held n f1.type [c1] with
     |none=>simp[e0,e1] at h
     | some y1=>
       cases e2:DataW.trod enc P w base spare held n f2.type [c2] with
       |none=>simp[e0,e1,e2] at h
       |some y2=>exact⟨y0,y1,y2,n,e0,e1,e2⟩
theorem open_code {r:Reach}{b0:Nat}{t q:TypeId}{f0 f1 f2:Field}{v:Value}{d:DataW H}{ps:List MemPlace}(ht:P.underlying t=some (.struct #[f0,f1,f2]))(h0:f0.offset=0)(h1:f1.offset=1)(h2:f2.offset=2)(k0:P.cellsOf f0.type=1)(k1:P.cellsOf f1.type=1)(k2:P.cellsOf f2.type=1)
 (u0:P.underlying f0.type=some (.int .i64)) (u1:P.underlying f1.type=some (.slice q)) (u2:P.underlying f2.type=some (.int .i64)) (uq:P.underlying q=some (.int .i64)) (hct:P.cellsOf t=3) (hcq:P.cellsOf q=1)
 (hval:Value.okWide P w r b0 t v) (hd:DataW.Trod enc P w base (fun _=>true) held t v d ps):
 ∃ (o:Int) (ao:Option Addr) (n cap:Nat) (k:Int) (xs:List Int),v= .agg #[.int .i64 o, .slice ao n cap, .int .i64 k]/\xs.length=n/\Sl .i64 w (.slice ao n cap) xs/\I64s xs/\(Lit.int .i64 o).wf=true/\(Lit.int .i64 k).wf=true:=by
 obtain⟨cs,rfl,hsz,_⟩:∃ cs,v= .agg cs/\cs.size=P.cellsOf t/\Row.okWide P w r b0 t cs:=by
  simpa[Value.okWide,ht] using hval
 rw[hct] at hsz;obtain⟨l⟩:=cs;obtain⟨c0,c1,c2,rfl⟩:=list_three l hsz;obtain⟨fuel,hf⟩:=hd;obtain⟨y0,y1,y2,m,hy0,hy1,hy2⟩:=trod_three ht h0 h1 h2 k0 k1 k2 hf;obtain⟨o,ho,_,wo⟩:=DataW.trod_int u0 hy0;obtain⟨k,hk,_,wk⟩:=DataW.trod_int u2 hy2;obtain⟨xs,hs,hi⟩:=open_slw u1 uq hcq hy1
 obtain⟨ao,cap,e,_,_⟩:∃ ao cap,c1= .slice ao xs.length cap/\xs.length<=cap/\cap<=maxLen:=by
  obtain⟨ao,cap,e,h1,h2,_⟩:=hs;exact⟨ao,cap,e,h1,h2⟩
 simp only[List.cons.injEq,and_true] at ho hk;subst ho hk e;exact⟨o,ao,xs.length,cap,k,xs,rfl,rfl,hs,hi,wo,wk⟩
end
section
namespace FFld
theorem FD.gen_le {p k m g g' :Nat}(h:FD.Ok ⟨p,k,m,g⟩)(h' :FD.Ok ⟨p,k,m,g'⟩):g' <=g:=by
 rcases Nat.lt_or_ge g g' with hlt|hge
 ·exact absurd h.ord (h'.least g h.gq h.g1 hlt)
 ·exact hge
theorem FD.uniq {D D' :FD}(h:D.Ok)(h' :D'.Ok)(e:D.q=D'.q):D=D' :=by
 obtain⟨p,k,m,g⟩:=D;obtain⟨p',k',m',g'⟩:=D';have e1:p ^ k=p' ^ k' :=e;have hk:=h.pre.k1;have hp2:=h.pre.prime.1;simp only at hk hp2;have ep:p=p' :=prime_pow_eq h.pre.prime h'.pre.prime (K:=k') (by rw[<- e1];exact⟨p ^ (k-1),by rw[<- Nat.pow_succ'];congr 1;omega⟩);subst ep;have ek:k=k' :=Nat.le_antisymm ((Nat.pow_le_pow_iff_right hp2).1 (Nat.le_of_eq e1)) ((Nat.pow_le_pow_iff_right hp2).1 (Nat.le_of_eq e1.symm));subst ek
 have em:m=m' :=by
  by_cases h1:k=1
  ·exact(h.pre.mod1 h1).trans (h'.pre.mod1 h1).symm
  ·have a:=h.pre.mod2 (show 2<=k by omega);have a' :=h'.pre.mod2 (show 2<=k by omega)
   rcases Nat.lt_or_ge m m' with hl|hl
   ·exact absurd a.2.2.1 (a'.2.2.2 m a.1 hl)
   ·rcases Nat.lt_or_ge m' m with hl' |hl'
    ·exact absurd a'.2.2.1 (a.2.2.2 m' a'.1 hl')
    ·exact Nat.le_antisymm hl' hl
 subst em;have eg:g=g' :=Nat.le_antisymm (FD.gen_le h' h) (FD.gen_le h h');subst eg;rfl
end FFld
end
section
namespace FFld
namespace Dom
variable {α : Type} (F : Dom α)
def psum (F:Dom α):List α->List α->List α
 | [],m=>m
 |a::l,[]=>a::l
 |a::l,b::m=>F.add a b::psum F l m
theorem add4 (a b c d:α):F.add (F.add a b) (F.add c d)=F.add (F.add a c) (F.add b d):=by
 rw[F.add_assoc,<- F.add_assoc b c d,F.add_comm b c,F.add_assoc c b d,<- F.add_assoc]
def Pol (F:Dom α)(n:Nat)(f:α->α):Prop:= ∃ l:List α,l.length<=n/\ ∀ x,F.eval l x=f x
end Dom
theorem FD.Ok.fermat {D:FD}(h:D.Ok){a:Nat}(ha:a<D.p ^ D.k)(h0:a≠0):ppow h.pre.pk a (D.p ^ D.k-1)=1:=by
 have e:=(FD.dom h.nzd).fermat (nzl_all h.nzd) (a:=⟨a,ha⟩) (fun e=>h0 (congrArg Subtype.val e));rw[nzl_len] at e;rw[ppow_of _ _ _ ha,<- dom_pow h.nzd,e];rfl
theorem nodup_map_on {α β:Type}{f:α->β} :∀ {l:List α},l.Nodup->(∀ a∈l,∀ b∈l,f a=f b->a=b)->(l.map f).Nodup
 | [],_,_=>List.nodup_nil
 | a::l,h,hf=>by
   obtain⟨h1,h2⟩:=List.nodup_cons.1 h;refine List.nodup_cons.2 ⟨fun hm=> ?_,nodup_map_on h2 (fun x hx y hy=>hf x (List.mem_cons_of_mem _ hx) y (List.mem_cons_of_mem _ hy))⟩;obtain⟨c,hc,e⟩:=List.mem_map.1 hm;have:=hf a List.mem_cons_self c (List.mem_cons_of_mem _ hc) e.symm;subst this;exact h1 hc
theorem FD.Ok.div_mul {D:FD}(h:D.Ok){a b:Nat}(ha:a<D.p ^ D.k)(hb:b<D.p ^ D.k)(h0:b≠0):pmul D.p D.k D.m (pmul D.p D.k D.m a D.k b) D.k (ppow h.pre.pk b (D.q-2))=a:=by
 have hk:=h.pre.pk;have h1:=hk.one_lt;have e:=h.fermat hb h0;have hq:D.p ^ D.k-1=D.q-2+1:=by unfold FD.q;omega
 rw[hq,ppow_succ hk _ _ hb] at e;rw[pmul_assoc hk _ _ _ ha hb (ppow_lt _ _ _),pmul_comm hk b _ hb (ppow_lt _ _ _),e,pmul_by_one hk a ha]
end FFld
end
section
open Go Go.RowKit Go.Deep
open FFld (ints)


structure Chg (B hi:Nat)(w w' :World):Prop where
 os:w'.os=w.os
 tape:w'.tape=w.tape
 output:w'.output=w.output
 size:w.heap.size<=w'.heap.size
 block:∀ k,k<w.heap.size->(k<B\/hi<=k)->w'.heap[k]? =w.heap[k]?
abbrev prv (b G1 G2 n:Nat):Value:= .agg #[.pointer (some ⟨b,0,none⟩), .slice (some ⟨G1,0,none⟩) n n, .pointer (some ⟨b,0,none⟩), .slice (some ⟨G2,0,none⟩) n n]
abbrev prbox (b G1 G2 n:Nat):Obj:= .cells #[.pointer (some ⟨b,0,none⟩), .slice (some ⟨G1,0,none⟩) n n, .pointer (some ⟨b,0,none⟩), .slice (some ⟨G2,0,none⟩) n n] 197
def wid (A:List (List Nat)):Nat:=(FFld.rowAt A 0).length
def unitR (n i:Nat):List Nat:=(List.replicate n 0).set i 1
def idM (n:Nat):List (List Nat):=(List.range n).map (unitR n)
structure ReAt (w:World)(b g5 G1 G2 n i:Nat)(L1 L2:List RH)(W:World):Prop where
 bel:Below w.heap.size w W
 b4:W.heap[w.heap.size]? =some (.cells #[.pointer none, .slice none 0 0, .pointer none, .slice none 0 0] 197 (0,0))
 b5:W.heap[g5]? =some (prbox b G1 G2 n)
 o1:w.heap.size<G1
 o2:G1<G2
 o3:G2<g5
 d1:dis L1
 d2:dis L2
 r1:∀ r∈L1,∀ g,r.blk=some g->G1<g/\g<G2
 r2:∀ r∈L2,∀ g,r.blk=some g->g5<g
 m1:Mx W G1 L1
 m2:Mx W G2 L2
 len:L2.length=n
 val:∀ j,(rowH L2 j).xs=if j<i then unitR n j else []
theorem made_zeros (n:Nat):madeCells #[.int .i64 0] n=((ints (List.replicate n 0)).map (Value.int .i64)).toArray:=made_row .i64 n
def RcRet (b:Nat)(rows:List (List Nat))(w:World)(e:Ending)(w' :World):Prop:=Below w.heap.size w w' /\ ∃ G1 G2 L1 L2 hi,e= .returned (prv b G1 G2 rows.length)/\hi<=w'.heap.size/\Pr w.heap.size hi w' G1 G2 L1 L2/\L1.map RH.xs=rows/\L2.map RH.xs=idM rows.length
structure ElAt (B hi b G1 G2 n:Nat)(w:World)(sv:Value)(cols:List Nat)(A R:List (List Nat))(L1 L2:List RH)(W:World):Prop where
 hhi:hi<=w.heap.size
 chg:Chg B hi w W
 box:W.heap[w.heap.size]? =some (prbox b G1 G2 n)
 pr:Pr B hi W G1 G2 L1 L2
 a:L1.map RH.xs=A
 r:L2.map RH.xs=R
 cols:Mine 3 .i64 (w.heap.size+1) W sv (ints cols)
 la:L1.length=n
 lr:L2.length=n
def ElS (B hi b G1 G2 n:Nat)(w:World)(sv:Value)(cols:List Nat)(A R:List (List Nat))(W:World):Prop:= ∃ L1 L2,ElAt B hi b G1 G2 n w sv cols A R L1 L2 W
section
variable {B hi b G1 G2 n : Nat} {w W W' : World} {sv : Value} {cols : List Nat} {A R : List (List Nat)} {L1 L2 : List RH}
variable {D : FFld.FD} {w0 : World} {wd m : Nat}
end
def ElRet (B hi b G1 G2 n:Nat)(s:FFld.ESt)(w:World)(e:Ending)(w' :World):Prop:= ∃ v,e= .returned v/\ElS B hi b G1 G2 n w v s.cols s.A s.R w'
end
section
open Go Go.RowKit
open FFld (ints)
set_option maxRecDepth 20000 in
theorem isElement_any {D:FFld.FD}{b:Nat}(a:Int)(w:World)(hf:FldB D w b):
 Calls Tryz.prog 212 #[.pointer (some ⟨b,0,none⟩), .int .i64 a] w (fun e w' =>w=w' /\e= .returned (.bool (decide (0<=a/\a<D.q)))):=by
 obtain⟨h,T,x,fs,fp,fw,ms,ml,hb,_,_,_⟩:=hf.open;obtain⟨c0,c1,c2,c3,c4,c5⟩:=six_cells hb
 by_cases h0:0<=a
 ·have hd:decide (a≥0)=true:=by simp[h0]
  rw[show decide (0<=a/\a<(D.q:Int))=decide (a<(D.q:Int)) by simp[h0]]
  go_enter Tryz.func212,Tryz.ntmps212
  go_wp2
  go_ret
  exact⟨rfl,rfl⟩
 ·have hd:decide (a≥0)=false:=by simp;omega
  rw[show decide (0<=a/\a<(D.q:Int))=false by simp[h0]]
  go_enter Tryz.func212,Tryz.ntmps212
  go_wp2
  go_ret
  exact⟨rfl,rfl⟩
end
section
open Go Go.RowKit Go.Deep
open FFld (ints)
def sopF (D:FFld.FD)(al bl:List Nat):Nat->Nat
 |0=>0
 |i+1=>FFld.padd D.p D.k (sopF D al bl i) (FFld.pmul D.p D.k D.m (al[i]?.getD 0) D.k (bl[i]?.getD 0))
def elsB (D:FFld.FD)(xs:List Int):Bool:=xs.all fun a=>decide (0<=a/\a<D.q)
set_option maxRecDepth 20000 in
theorem areElements_any {D:FFld.FD}{b:Nat}(v:Value)(xs:List Int)(w:World)(hf:FldB D w b)(h:Sl .i64 w v xs):
 Calls Tryz.prog 148 #[.pointer (some ⟨b,0,none⟩),v] w (fun e w' =>w=w' /\e= .returned (.bool (elsB D xs))):=by
 obtain⟨ao,cap,rfl,hcap,hmax,hc⟩:=h;obtain⟨n,hN⟩:∃ n,xs.length=n:=⟨_,rfl⟩;have HI:=Km (fun a=>isElement_any a w hf);have HC:=Km hc;rw[hN] at hcap ⊢;have HN:=Km hN;unfold maxLen at hmax;clear hf hc hN
 go_enter Tryz.func148,Tryz.ntmps148
 go_wp2
 go_loopw [9] (fun iv wr=> ∃ (i:Nat),i<=n/\iv= .int .i64 i/\Kept (elsB D (xs.take i)=true)/\w=wr) (fun iv _=>n-(intOf iv).toNat)
 case atStart=>exact⟨0,Nat.zero_le _,rfl,⟨rfl⟩,rfl⟩
 case round=>
  obtain⟨i,hin,rfl,hat,rfl⟩:=hrel
  by_cases hlt:i<n
  ·obtain⟨g,o,rfl,hg,hcell⟩:=HC.out i (by rw[HN.out];exact hlt);obtain⟨a,ha⟩:∃ a,xs[i]?.getD 0=a:=⟨_,rfl⟩;rw[ha] at hcell;have hI:=Km (HI.out a)
   have hT:xs.take (i+1)=xs.take i++ [a]:=by
    rw[List.take_add_one]
    congr 1
    rw[<- ha,List.getElem?_eq_getElem (by rw[HN.out];exact hlt)];rfl
   obtain⟨t,ht⟩:∃ t,decide (0<=a/\a<(D.q:Int))=t:=⟨_,rfl⟩;rw[ht] at hI
   have HT:Kept (elsB D (xs.take (i+1))=t):=⟨by
    have:=hat.out;unfold elsB at this ⊢;rw[hT,List.all_append,this];simp only[List.all_cons,List.all_nil,Bool.and_true,Bool.true_and]
    exact ht⟩
   clear ha hT ht
   cases t with
   | true=>
     go_wp2_with fail;refine hI.out.mono ?_;rintro e w2 ⟨rfl,rfl⟩;go_wp2;go_roundw
     case rel=>exact⟨i+1,by omega,by go_num,HT,trivial⟩
     case measure=>simp[intOf]<;>omega
   | false=>
     have HE:Kept (elsB D xs=false):=⟨by
      have h1:=HT.out;unfold elsB at h1 ⊢;rw[<- List.take_append_drop (i+1) xs,List.all_append,h1]
      rfl⟩
     go_wp2_with fail;refine hI.out.mono ?_;rintro e w2 ⟨rfl,rfl⟩;go_wp2
     go_ret
     exact⟨rfl,by rw[HE.out];rfl⟩
  ·obtain rfl:i=n:=by omega
   have HE:Kept (elsB D xs=true):=⟨by have:=hat.out;rw[<- HN.out,List.take_length] at this;exact this⟩;go_wp2
   go_ret
   exact⟨rfl,by rw[HE.out];rfl⟩
def rlen (rows:List (List Int))(i:Nat):Nat:=(rows[i]?.getD []).length
def mErr (D:FFld.FD)(rows:List (List Int)):Nat:=
 if rows.length=0 then 0 else if 64<rows.length\/64<rlen rows 0 then 2 else if rows.all (fun r=>r.length==rlen rows 0) then(if rows.all (elsB D) then 0 else 1) else 7
def qErr (D:FFld.FD)(rows:List (List Int))(bl:List Int):Nat:=if mErr D rows=0 then(if bl.length=rows.length then(if elsB D bl then 0 else 1) else 7) else mErr D rows
theorem Sl.news_at {K:IntKind}{w:World}{ao:Option Addr}{n cap:Nat}{xs:List Int}(h:Sl K w (.slice ao n cap) xs)(i:Nat)(hi:i<xs.length):∃ g o,ao=some ⟨g,o,none⟩/\g<w.heap.size/\w.cell? ⟨g,o+i,none⟩=some (.int K (xs[i]?.getD 0)):=by
 obtain⟨ao',cap',e,hc,hm,hx⟩:=h;simp only[Value.slice.injEq] at e;obtain⟨rfl,_,_⟩:=e;obtain⟨b,o,e2,h1,h2⟩:=hx i hi;exact⟨b,o,e2,h1,h2⟩
def sopV (D:FFld.FD)(s:FFld.ESt)(bl:List Nat)(j:Nat):Nat:=sopF D (FFld.rowAt s.R j) bl (FFld.rowAt s.R j).length
def solF (D:FFld.FD)(s:FFld.ESt)(bl:List Nat)(wd:Nat):Nat->List Nat
 |0=>List.replicate wd 0
 |i+1=>(solF D s bl wd i).set (s.cols[i]?.getD 0) (sopV D s bl i)
def SvRet (D:FFld.FD)(s:FFld.ESt)(bl:List Nat)(wd n:Nat)(w:World)(e:Ending)(w' :World):Prop:=Below w.heap.size w w' /\ ∃ vx vd,e= .returned (.tuple #[vx,vd])/\
 ((∃ i,s.cols.length<=i/\i<n/\(∀ j,s.cols.length<=j->j<i->sopV D s bl j=0)/\sopV D s bl i≠0/\vx= .slice none 0 0/\(∃ g c,vd= .slice (some ⟨g,0,none⟩) n c)/\Sl .i64 w' vd (ints (FFld.rowAt s.R i)))\/
  ((∀ j,s.cols.length<=j->j<n->sopV D s bl j=0)/\vd= .slice none 0 0/\(∃ g c,vx= .slice (some ⟨g,0,none⟩) wd c)/\Sl .i64 w' vx (ints (solF D s bl wd s.cols.length))))
theorem elsB_ints {D:FFld.FD}{l:List Nat}(h:∀ a∈l,a<D.p ^ D.k):elsB D (ints l)=true:=by
 unfold elsB ints;rw[List.all_map,List.all_eq_true];intro a ha;have:=h a ha;have hq:D.q=D.p ^ D.k:=rfl;simp only[Function.comp,decide_eq_true_eq];rw[hq];omega
def DnRet (D:FFld.FD)(s:FFld.ESt)(bl:List Nat)(wd n:Nat)(w:World)(e:Ending)(w' :World):Prop:=Below w.heap.size w w' /\
 ((∃ i vd,s.cols.length<=i/\i<n/\sopV D s bl i≠0/\e= .returned (.tuple #[vd, .bool true])/\Sl .i64 w' vd (ints (FFld.rowAt s.R i))/\ ∃ ao c,vd= .slice ao n c)\/
  ((∀ j,s.cols.length<=j->j<n->sopV D s bl j=0)/\e= .returned (.tuple #[.slice none 0 0, .bool false])))
end
section
namespace FFld
theorem addm_top {D:FD}(xs:List Nat)(s:Nat)(q:List Nat)(c:Nat)(hq:1<=q.length)(hs:s+q.length<=xs.length):(addm D xs s q c)[s+(q.length-1)]?.getD 0=padd D.p D.k (xs[s+(q.length-1)]?.getD 0) (pmul D.p D.k D.m (q[q.length-1]?.getD 0) D.k c):=by
 obtain⟨j,hj⟩:∃ j,q.length=j+1:=⟨q.length-1,by omega⟩;unfold addm;rw[hj];simp only[addmF,Nat.add_sub_cancel];rw[List.getElem?_set_self (by rw[addmF_len];omega),Option.getD_some,addmF_old D xs s q c j (s+j) (by omega)]
theorem addmF_evl {D:FD}(hD:D.Ok)(hk1:D.k=1){d y:Nat}(hy:PK D.p d y){xs:List Nat}(s:Nat)(q:List Nat)(c:Nat)(hx:∀ a∈xs,a<D.p ^ D.k)(hq:∀ a∈q,a<D.p ^ D.k)(hc:c<D.p ^ D.k)(hs:s+q.length<=xs.length):
 ∀ j,j<=q.length->evl D.p d y 1 (addmF D xs s q c j)=padd D.p d (evl D.p d y 1 xs) (pscl D.p d c (shn D.p d y (evl D.p d y 1 (q.take j)) s)):=by
 have hpk:=hD.pre.pk;have hm:D.m=D.p:=hD.pre.mod1 hk1;have hpk1:PK D.p 1 D.p:=⟨hpk.p2,Nat.le_refl _⟩;have hlt:∀ a,a<D.p ^ D.k->a<D.p:=fun a ha=>by rw[hk1,Nat.pow_one] at ha;exact ha
 intro j
 induction j with
 | zero=>
   intro _;simp only[addmF,List.take_zero,evl];rw[shn_zero hy,pscl_nil hy,padd_zero hy _ (evl_lt hy _ _)]
 | succ j ih=>
   intro hj;have ih:=ih (by omega);have hu:(addmF D xs s q c j)[s+j]?.getD 0<D.p:=hlt _ (getD_lt (Nat.pow_pos hpk.p0) (addmF_lt hpk s q c j hx) _);have hz:q[j]?.getD 0<D.p:=hlt _ (getD_lt (Nat.pow_pos hpk.p0) hq _)
   have e:padd D.p D.k ((addmF D xs s q c j)[s+j]?.getD 0) (pmul D.p D.k D.m (q[j]?.getD 0) D.k c)=((addmF D xs s q c j)[s+j]?.getD 0+c*q[j]?.getD 0)%D.p:=by
    rw[hm,hk1,pmul_k1 hpk1 _ _ hz (hlt _ hc),padd_k1 hpk1 _ _ hu (Nat.mod_lt _ hpk.p0),Nat.add_mod_mod,Nat.mul_comm c]
   simp only[addmF];rw[e];exact evl_row hy 1 c s _ q _ j (by omega) (by rw[addmF_len];omega) ih
theorem addm_evl {D:FD}(hD:D.Ok)(hk1:D.k=1){d y:Nat}(hy:PK D.p d y){xs:List Nat}(s:Nat)(q:List Nat)(c:Nat)(hx:∀ a∈xs,a<D.p ^ D.k)(hm:Mon D.p d y q)(hc:c<D.p ^ D.k)(hs:s+q.length<=xs.length):
 evl D.p d y 1 (addm D xs s q c)=evl D.p d y 1 xs:=by
 unfold addm;rw[addmF_evl hD hk1 hy s q c hx (fun a ha=>by rw[hk1,Nat.pow_one];exact hm.lt a ha) hc hs q.length (Nat.le_refl _),List.take_length,hm.zero,shn_zero hy,pscl_nil hy,padd_zero hy _ (evl_lt hy _ _)]
theorem ppow_1 {p k m:Nat}(h:PK p k m)(n:Nat):ppow h 1 n=1:=by
 rw[ppow_of h 1 n h.one_lt];exact congrArg Subtype.val ((rng h).one_pow n)
theorem divF_ok {D:FD}(hD:D.Ok)(hk1:D.k=1){d y:Nat}(hy:PK D.p d y){pl ql:List Nat}(hx:∀ a∈pl,a<D.p ^ D.k)(hm:Mon D.p d y ql)(n:Nat)(hn:n+ql.length=pl.length+1):
 ∀ t,t<=n->evl D.p d y 1 (divF D ql 1 n pl t)=evl D.p d y 1 pl/\ ∀ j,n-t+(ql.length-1)<=j->(divF D ql 1 n pl t)[j]?.getD 0=0:=by
 have hpk:=hD.pre.pk;have hql:=hm.len;intro t
 induction t with
 | zero=>
   intro _;refine⟨rfl,fun j hj=> ?_⟩;simp only[divF];rw[List.getElem?_eq_none (by omega)];rfl
 | succ t ih=>
   intro ht;obtain⟨h1,h2⟩:=ih (by omega);have hR:=divF_lt hpk ql 1 n t hx;have hRl:=divF_len D ql 1 n pl t;simp only[divF];generalize divF D ql 1 n pl t=R at*;have hc:pscl D.p D.k (D.p-1) (pmul D.p D.k D.m (R[n-1-t+(ql.length-1)]?.getD 0) D.k 1)<D.p ^ D.k:=pscl_lt hpk _ _;refine⟨by rw[addm_evl hD hk1 hy _ ql _ hR hm hc (by omega),h1],fun j hj=> ?_⟩
   by_cases e:j=n-1-t+(ql.length-1)
   ·subst e;rw[addm_top R _ ql _ (by omega) (by omega),hm.top];have hr:R[n-1-t+(ql.length-1)]?.getD 0<D.p ^ D.k:=getD_lt (Nat.pow_pos hpk.p0) hR _;rw[pmul_by_one hpk _ hr,pmul_one hpk _ (Nat.le_refl _) _ (pscl_lt hpk _ _)];exact padd_neg hpk _
   ·unfold addm;rw[addmF_old D R _ ql _ _ j (by omega)];exact h2 j (by omega)
theorem evl_cut {p k m:Nat}(h:PK p k m)(a:Nat)(l:List Nat):∀ (r n:Nat),n+r=l.length->(∀ i,n<=i->l[i]?.getD 0=0)->evl p k m a (l.take n)=evl p k m a l:=by
 intro r
 induction r with
 |zero=>intro n hn _;rw[List.take_of_length_le (by omega)]
 | succ r ih=>
   intro n hn hz;rw[<- ih (n+1) (by omega) (fun i hi=>hz i (by omega)),take_snoc h l n (by omega),hz n (Nat.le_refl _),evl_trim h]
end FFld
end
section
namespace FFld
theorem Digs.len_ge {p n k:Nat}{l:List Nat}(h:Digs p n l)(hp:2<=p)(hn:p ^ k<=n):k+1<=l.length:=by
 have h1:=num_lt (p:=p) (by omega) l h.lt;rw[h.val] at h1
 rcases Nat.lt_or_ge k l.length with h2|h2
 ·exact h2
 ·have:=Nat.pow_le_pow_right (n:=p) (by omega) h2;omega
theorem rest_nil {D:FD}(hD:D.Ok)(hk1:D.k=1){d y c k:Nat}(hd:1<=d)(hdk:d<=k){pl ql rs:List Nat}(hp:Digs D.p c pl)(hq:Digs D.p y ql)(h1:D.p ^ d<=y)(h2:y<2*D.p ^ d)(hc0:D.p ^ k<=c)(hc:c<D.p ^ (k+1)){n:Nat}(hn:n<=pl.length)
 (hrs:rs=(divF D ql 1 (pl.length+1-ql.length) pl (pl.length+1-ql.length)).take n)
 (hz:∀ i,n<=i->(divF D ql 1 (pl.length+1-ql.length) pl (pl.length+1-ql.length))[i]?.getD 0=0)
 (ht:n=0\/(divF D ql 1 (pl.length+1-ql.length) pl (pl.length+1-ql.length))[n-1]?.getD 0≠0):
 rs.length=0↔pmul D.p d y 1 (k+1) c=0:=by
 have hpk:=hD.pre.pk;have hy:PK D.p d y:=⟨hpk.p2,hd⟩;have hm:=hq.mon hy h1 h2;have hql:=hm.len;have hpl:=hp.len_ge hpk.p2 hc0;have hx:∀ a∈pl,a<D.p ^ D.k:=fun a ha=>by rw[hk1,Nat.pow_one];exact hp.lt a ha
 obtain⟨e1,e2⟩:=divF_ok hD hk1 hy hx hm (pl.length+1-ql.length) (by omega) (pl.length+1-ql.length) (Nat.le_refl _);have hl:=divF_len D ql 1 (pl.length+1-ql.length) pl (pl.length+1-ql.length);have hlt:=divF_lt hpk ql 1 (pl.length+1-ql.length) (pl.length+1-ql.length) hx;generalize divF D ql 1 (pl.length+1-ql.length) pl (pl.length+1-ql.length)=R at*
 have hnd:n<=d:=by
  rcases ht with h|h
  ·omega
  ·rcases Nat.lt_or_ge d n with h3|h3
   ·exact absurd (e2 (n-1) (by omega)) h
   ·exact h3
 have e3:=evl_cut hy 1 R (R.length-n) n (by omega) hz;rw[<- hrs,e1,<- evl_pmul hy 1 pl (k+1) hp.lt (hp.len hpk.p2 hc),hp.val] at e3;have hrl:rs.length=n:=by rw[hrs,List.length_take,hl];omega
 have hrlt:∀ a∈rs,a<D.p:=fun a ha=>by
  have:=hlt a (by rw[hrs] at ha;exact List.mem_of_mem_take ha);rw[hk1,Nat.pow_one] at this;exact this
 rw[evl_one hy rs hrlt (by omega)] at e3;rw[<- e3];constructor
 ·intro h;rw[List.eq_nil_of_length_eq_zero h];rfl
 ·intro h
  rcases ht with h3|h3
  ·omega
  ·by_cases hn0:n=0
   ·omega
   ·exfalso;have hne:rs≠ []:=fun e=>by rw[e] at hrl;simp at hrl;omega
    have hlast:rs.getLast? ≠some 0:=by
     rw[List.getLast?_eq_getElem?,hrl,hrs,List.getElem?_take,if_pos (by omega)];intro e;rw[e] at h3;exact h3 rfl
    have h4:=num_ge (p:=D.p) hlast hne;have h5:0<D.p ^ (rs.length-1):=Nat.pow_pos hpk.p0;omega
end FFld
end
section
open Go Go.RowKit
open FFld (ints)
theorem meas_lt {q a b:Nat}{x y:Value}(hx:x= .int .i64 (a:Int))(hy:y= .int .i64 (b:Int))(h:q+1-a<q+1-b):q+1-(intOf x).toNat<q+1-(intOf y).toNat:=by subst hx;subst hy;exact h
set_option maxRecDepth 20000 in
theorem leastModulus_any {P D:FFld.FD}{b:Nat}(hP:P.Ok)(hPk:P.k=1)(hD:D.Ok)(hk2:2<=D.k)(hpp:P.p=D.p)(w:World)(hf:FldB P w b):
 Calls Tryz.prog 206 #[.pointer (some ⟨b,0,none⟩), .int .i64 D.q] w (RB w (.int .i64 D.m)):=by
 obtain⟨p,hp⟩:∃ p,D.p=p:=⟨_,rfl⟩;obtain⟨k,hk⟩:∃ k,D.k=k:=⟨_,rfl⟩;obtain⟨m,hm⟩:∃ m,D.m=m:=⟨_,rfl⟩;obtain⟨q,hq⟩:∃ q,D.q=q:=⟨_,rfl⟩;have hqk:p ^ k=q:=by rw[<- hp,<- hk,<- hq];rfl
 have hp2:2<=p:=by have:=hP.pre.pk.p2;rw[hpp,hp] at this;exact this
 have hq6:q<=65536:=by have:=hD.pre.small;rw[hq] at this;exact this
 obtain⟨hqm,hm2,_,_⟩:=hD.pre.mod2 hk2;rw[hq,hm] at hqm hm2;have hk2' :2<=k:=by rw[<- hk];exact hk2
 have HF:=Km hf
 have HIS:=Km (fun(c:Nat) (h1:q<=c) (hc:c<=m) (hi:FFld.Irr p k c)=>show c=m from by
  have:=FFld.FD.Ok.mod_is hD hk2 (c:=c) (by rw[hq];exact h1) (by rw[hm];exact hc) (by rw[hp,hk];exact hi)
  rw[hm] at this;exact this)
 have HNOT:=Km (fun(c:Nat) (hc:c<=m) (hi: ¬ FFld.Irr p k c)=>show c+1<=m from by
  have:=FFld.FD.Ok.mod_not hD hk2 (c:=c) (by rw[hm];exact hc) (by rw[hp,hk];exact hi)
  rw[hm] at this;exact this)
 have hp256:p<=256:=by
  rcases Nat.lt_or_ge 256 p with h|h
  ·have h3:p ^ 2<=p ^ k:=Nat.pow_le_pow_right (by omega) hk2';have h4:=nmul_le (A:=p) (B:=p) (a:=257) (b:=257) h h;rw[Nat.pow_two] at h3;omega
  ·exact h
 have hPp:P.p=p:=by rw[hpp,hp]
 have hbl:b<w.heap.size:=hf.lt;obtain⟨_,T,xx,fs,fp,fw,ms,ml,hbb,_,_,_⟩:=hf.open;obtain⟨_,_,c2,_,_,_⟩:=six_cells hbb;rw[hPp] at c2;have HQK:=Km hqk;have hpk1:2*q<=p ^ (k+1):=by rw[Nat.pow_succ',HQK.out];exact Nat.mul_le_mul_right _ hp2
 have HK1:=Km hpk1
 have hk16:k<=16:=by
  rcases Nat.lt_or_ge 16 k with h|h
  ·have h4:2 ^ 17<=p ^ k:=Nat.le_trans (Nat.pow_le_pow_right (by omega) h) (Nat.pow_le_pow_left hp2 _);rw[HQK.out,show(2:Nat) ^ 17=131072 from rfl] at h4;omega
  ·exact h
 -- the division of a candidate by a factor
 have hDiv:=Km (fun W (hW:Below w.heap.size w W) (vc vx:Value) (pl ql:List Nat) (c x d:Nat) (hd:1<=d) (hdk:2*d<=k) (hc0:q<=c) (hc:c<=m) (hx0:p ^ d<=x) (hx1:x<2*p ^ d) (hpl:FFld.Digs p c pl) (hql:FFld.Digs p x ql) (hsp:Sl .i64 W vc (ints pl)) (hsq:Sl .i64 W vx (ints ql))=>
  show Calls Tryz.prog 216 #[.pointer (some ⟨b,0,none⟩),vc,vx] W (fun e w' =>Below W.heap.size W w' /\ ∃ (vq vr:Value) (rs:List Nat),e= .returned (.tuple #[vq,vr])/\Sl .i64 w' vr (ints rs)/\(rs.length=0↔FFld.pmul p d x 1 (k+1) c=0)) from by
   have hd1:FFld.PK p d x:=⟨hp2,hd⟩;have hmon:=hql.mon hd1 hx0 hx1;have hck:c<p ^ (k+1):=by omega
   have hpl1:=hpl.len hp2 hck;have hpl2:=hpl.len_ge hp2 (k:=k) (by rw[hqk];exact hc0);have hk17:k<=40:=FFld.len_of_pow (Nat.pow_le_pow_left hp2 _) (show p ^ k<=1099511627776 by omega);have hlen:=hmon.len;refine(divide_any hP vc vx pl ql W (HF.out.below hW) hsp hsq (fun a ha=>by rw[hPk,Nat.pow_one,hPp];exact hpl.lt a ha) (fun a ha=>by rw[hPk,Nat.pow_one,hPp];exact hql.lt a ha) (by omega) (by rw[hmon.top];omega) (by omega) (by omega)).mono ?_;rintro e w' ⟨hb,vq,vr,qs,rs,rfl,_,hr,h⟩;rw[if_neg (by omega)] at h;obtain⟨h1,_,n,hn,hrs,hz,ht⟩:=h;rw[hmon.top,FFld.ppow_1,h1] at hrs hz ht;have hres:=FFld.rest_nil hP hPk (k:=k) hd (by omega) (by rw[hPp];exact hpl) (by rw[hPp];exact hql) (by rw[hPp];exact hx0) (by rw[hPp];exact hx1) (by rw[hPp,hqk];exact hc0) (by rw[hPp];exact hck) hn hrs hz ht;rw[hPp] at hres
   exact⟨hb,vq,vr,rs,rfl,hr,hres⟩)
 have hpd:=Km (fun(d:Nat) (hd:2*d<=k)=>show p ^ d<=256 from by
  rcases Nat.lt_or_ge 256 (p ^ d) with h|h
  ·have h3:p ^ (2*d)<=p ^ k:=Nat.pow_le_pow_right (by omega) hd;have h4:=nmul_le (A:=p ^ d) (B:=p ^ d) (a:=257) (b:=257) h h;rw[Nat.two_mul,Nat.pow_add] at h3;generalize p ^ d*p ^ d=z at*;omega
  ·exact h)
 rw[hq,hm];clear hbb hf hP hD hPk hk2 hPp hpp hp hk hm hq hqk hpk1
 go_enter Tryz.func206,Tryz.ntmps206
 go_wp2
 go_step3
 go_wp2
 go_step3
 go_wp2
 go_loopw [5] (fun mv wr=> ∃ (c:Nat),q<=c/\c<=m/\mv= .int .i64 c/\Kept (Below w.heap.size w wr)) (fun mv _=>m-(intOf mv).toNat)
 case atStart=>exact⟨q,Nat.le_refl _,hqm,rfl,⟨Below.refl _ _⟩⟩
 case round=>
  obtain⟨c,hc0,hcm,rfl,hbx⟩:=hrel;have d2:=(hbx.out.cell (p:=⟨b,2,none⟩) hbl).trans c2;go_wp2_with fail;refine(fdigits_any c p _ hp2 (by omega) (by omega)).mono ?_;rintro e w1 ⟨hb1,v1,pl,rfl,hm1,hd1⟩;have HC1:=Km (hbx.out.trans (hb1.mono hbx.out.size));have HS1:=Km hm1.sl;have HD1:=Km hd1;obtain⟨a1,c1,rfl,hcap1,hmx1⟩:=hm1.sl.form;rw[FFld.ints_len] at hcap1 HS1 ⊢;have d3:=(HC1.out.cell (p:=⟨b,2,none⟩) hbl).trans c2;have hs1:=HC1.out.size;have hbl1:b<w1.heap.size:=by omega
  clear hb1 hm1 hd1 d2;go_wp2
  go_loopw [7] (fun fv wr=> ∃ (f d:Nat),fv= .int .i64 f/\1<=d/\d<=17/\f<=65536/\Kept (f=p ^ d)/\Kept (FFld.DvAt_ p k c d (p ^ d) true)/\Kept (Below w1.heap.size w1 wr)) (fun fv _=>q+1-(intOf fv).toNat)
  case atStart=>exact⟨p,1,rfl,Nat.le_refl _,by omega,by omega,⟨(Nat.pow_one p).symm⟩,⟨FFld.DvAt_.start p k c⟩,⟨Below.refl _ _⟩⟩
  case round=>
   obtain⟨f,d,rfl,hd1,hd17,hf6,hfe,hat,hbx1⟩:=hrel;obtain⟨ff,hff⟩:∃ ff,f*f=ff:=⟨_,rfl⟩;have eff:wrap64 ((f:Int)*f)=ff:=wmul hff (by rw[<- hff];exact Nat.le_trans (nmul_le hf6 hf6) (by omega))
   have hffe:ff<=q↔2*d<=k:=by
    rw[<- hff,hfe.out,<- HQK.out,<- Nat.pow_add,<- Nat.two_mul];exact⟨fun h=>(Nat.pow_le_pow_iff_right hp2).1 h,fun h=>(Nat.pow_le_pow_iff_right hp2).2 h⟩
   have d4:=(hbx1.out.cell (p:=⟨b,2,none⟩) hbl1).trans d3
   by_cases hlt:2*d<=k
   ·have hle:ff<=q:=hffe.2 hlt;have hf256:f<=256:=by rw[hfe.out];exact hpd.out d hlt
    obtain⟨f',hf'⟩:∃ f',f*p=f' :=⟨_,rfl⟩;have hf'e:f' =p ^ (d+1):=by rw[<- hf',hfe.out,Nat.pow_succ]
    have hf'6:f' <=65536:=by rw[<- hf'];exact Nat.le_trans (nmul_le hf256 hp256) (by omega)
    have hff1:f+1<=f' :=by
     rw[<- hf'];have h1:0<f:=by rw[hfe.out];exact Nat.pow_pos (by omega)
     have h2:f*2<=f*p:=Nat.mul_le_mul_left _ hp2;omega
    have ef:wrap64 ((f:Int)*p)=f' :=wmul hf' (by omega);have HF' :=Km hf'e;have hfq:f<q+1:=Nat.lt_succ_of_le (Nat.le_trans (by rw[<- hff];exact Nat.le_mul_self f) hle);have hmeas:q+1-f' <q+1-f:=Nat.sub_lt_sub_left hfq hff1;clear hff hffe hf' hf'e;go_wp2;rw[eff]
    go_loopw [8] (fun xv wr=> ∃ (x:Nat),xv= .int .i64 x/\f<=x/\x<=2*f/\Kept (FFld.DvAt_ p k c d x true)/\Kept (Below w1.heap.size w1 wr)) (fun xv _=>601-(intOf xv).toNat)
    case atStart=>exact⟨f,rfl,Nat.le_refl _,by omega,by rw[hfe.out];exact hat,hbx1⟩
    case round=>
     obtain⟨x,rfl,hfx,hx2,hat,hbx1⟩:=hrel;have d4:=(hbx1.out.cell (p:=⟨b,2,none⟩) hbl1).trans d3
     by_cases hxl:x<2*f
     ·have hfac:=Km (fun W=>fdigits_any x p W hp2 (by omega) (by omega));have HX0:Kept (p ^ d<=x/\x<2*p ^ d):=⟨by rw[<- hfe.out];exact⟨hfx,hxl⟩⟩;obtain⟨v,hv⟩:∃ v,FFld.pmul p d x 1 (k+1) c=v:=⟨_,rfl⟩;go_wp2_with fail;refine(hfac.out _).mono ?_;rintro e w2 ⟨hb2,v2,ql,rfl,hm2,hdx⟩;have HX2:=Km (hbx1.out.trans (hb2.mono hbx1.out.size));have hsz2:=HX2.out.size;have hD:=hDiv.out w2 (HC1.out.trans (HX2.out.mono HC1.out.size)) _ v2 pl ql c x d hd1 hlt hc0 hcm HX0.out.1 HX0.out.2 HD1.out hdx (HS1.out.below HX2.out) hm2.sl;rw[hv] at hD;have HDV:=Km hD;obtain⟨a2,c2',rfl,hcap2,hmx2⟩:=hm2.sl.form;rw[FFld.ints_len] at hcap2 HDV ⊢;clear hb2 hm2 hdx hD d4 hfac
      by_cases hv0:v=0
      ·subst hv0;have hN:=HNOT.out c hcm (FFld.DvAt_.fail hd1 hlt HX0.out.1 HX0.out.2 hv (x+1));clear hv;go_wp2_with fail;refine HDV.out.mono ?_;rintro e w3 ⟨hb3,vq,vr,rs,rfl,hsr,hz⟩;obtain⟨a3,c3,rfl,hcap3,hmx3⟩:=hsr.form;have hz0:rs.length=0:=by simpa using hz
       rw[FFld.ints_len,hz0] at hcap3 ⊢;have HX3:=Km (HC1.out.trans ((HX2.out.trans (hb3.mono HX2.out.size)).mono HC1.out.size));clear hb3 hz hsr;go_wp2;go_roundw
       case rel=>exact⟨c+1,by omega,hN,by go_num,HX3⟩
       case measure=>simp[intOf]<;>omega
      ·have HD2:=Km (hat.out.next (by rw[hv];exact hv0));clear hv;go_wp2_with fail;refine HDV.out.mono ?_;rintro e w3 ⟨hb3,vq,vr,rs,rfl,hsr,hz⟩;obtain⟨a3,c3,rfl,hcap3,hmx3⟩:=hsr.form;have hz0: ¬ rs.length=0:=fun h=>hv0 (hz.1 h)
       have ez:((rs.length:Int)==0)=false:=by rw[beq_eq_false_iff_ne];omega
       rw[FFld.ints_len] at hcap3 ⊢;have HX3:=Km (HX2.out.trans (hb3.mono HX2.out.size));clear hb3 hz hsr;go_wp2;go_roundw
       case rel=>exact⟨x+1,by go_num,by omega,by omega,HD2,HX3⟩
       case measure=>simp[intOf]<;>omega
     ·obtain rfl:x=2*f:=by omega
      have HD2:Kept (FFld.DvAt_ p k c (d+1) (p ^ (d+1)) true):=⟨by have:=hat.out;rw[hfe.out] at this;exact this.row⟩;go_wp2;go_roundw
      case rel=>exact⟨f',d+1,congrArg (Value.int .i64) ef,by omega,by omega,hf'6,HF',HD2,hbx1⟩
      case measure=>exact meas_lt (congrArg (Value.int .i64) ef) rfl hmeas
   ·have hI:=HIS.out c hc0 hcm (hat.out.done (by omega));have hle: ¬ ff<=q:=fun h=>hlt (hffe.1 h)
    clear hff hffe;go_wp2
    go_ret
    exact⟨HC1.out.trans (hbx1.out.mono HC1.out.size),by rw[<- hI];rfl⟩
set_option maxRecDepth 20000 in
theorem extension_any {P D:FFld.FD}{b:Nat}(hP:P.Ok)(hPk:P.k=1)(hD:D.Ok)(hk2:2<=D.k)(hpp:P.p=D.p)(w:World)(hf:FldB P w b):
 Calls Tryz.prog 147 #[.pointer (some ⟨b,0,none⟩), .int .i64 D.q, .int .i64 D.k] w (FldRet D w):=by
 have hLm:=Km (leastModulus_any hP hPk hD hk2 hpp w hf);have hbl:=hf.lt;have hpk:=hD.pre.pk;have hq6:D.p ^ D.k<=65536:=hD.pre.small;obtain⟨hqm,hm2,_,_⟩:=hD.pre.mod2 hk2;have hNr:=Km (fun W=>newResidues_any D.p D.k D.m D.q W hpk rfl hq6 hqm hm2);have hp6:D.p<=65536:=Nat.le_trans (p_le_q hD) hq6;have hp2:=hpk.p2;have hm40:D.m<1099511627776:=by unfold FFld.FD.q at hm2;omega
 have hgq:=hD.gq;obtain⟨_,T,xx,fs,fp,fw,ms,ml,hbb,_,_,_⟩:=hf.open;obtain⟨_,_,c2,_,_,_⟩:=six_cells hbb;rw[hpp] at c2;have HD:=Km hD;clear hbb hf hP hPk hqm hm2 hD
 go_enter Tryz.func147,Tryz.ntmps147
 go_wp2_with fail;refine hLm.out.mono ?_;rintro e w1 ⟨hb1,rfl⟩;have HB1:=Km hb1;have c21:=belowCell hb1 c2;clear hb1 hLm;go_wp2_with fail;refine(hNr.out _).mono ?_;rintro e w2 ⟨hb2,l,o,rfl,hR⟩;have HB2:=Km (HB1.out.trans (hb2.mono HB1.out.size));have c22:=belowCell hb2 c21;have hs2:=HB2.out.size;have HR:=Km hR;have HX:=Km (show(w2.alloc (.cells #[.int .i64 D.p, .int .i64 l, .int .i64 o] 217 (0,0))).heap[w2.heap.size]? =some (.cells #[.int .i64 D.p, .int .i64 l, .int .i64 o] 217 (0,0)) from heap_alloc_new w2 _);have hLg:=Km (fun W=>leastgen_res D HD.out (rsv D.p l o) W (fun W x y hx hy=>rproduct_any D.p D.k D.m l o HR.out x y W hx hy));obtain⟨e0,e1,e2,_⟩:=three_cells HX.out;clear hb2 hR hNr;go_wp2_with fail;refine(hLg.out _).mono ?_;rintro e w3 ⟨hb3,rfl⟩;have HB3:=Km hb3;clear hb3 hLg;have hs3:=HB3.out.size;have hsa:(w2.alloc (.cells #[.int .i64 D.p, .int .i64 l, .int .i64 o] 217 (0,0))).heap.size=w2.heap.size+1:=by simp
 have HA0:Kept (Below w2.heap.size w2 (w2.alloc (.cells #[.int .i64 D.p, .int .i64 l, .int .i64 o] 217 (0,0)))):=⟨(Below.refl _ _).alloc (Nat.le_refl _) _⟩;have h83:=(HB3.out.block w2.heap.size (by omega)).trans HX.out;have hB23:Below w2.heap.size w2 w3:=HA0.out.trans (HB3.out.mono (by omega));have hs23:=hB23.size;have c23:=belowCell hB23 c22;have hBw3:Below w.heap.size w w3:=HB2.out.trans (hB23.mono hs2);clear e0 e1 e2 c2 c21 c22;go_wp2;obtain⟨W0,hW0⟩:∃ W,w3.alloc (.cells #[.int .i64 D.g] 3 (0,0))=W:=⟨_,rfl⟩;have hbA:Below w3.heap.size w3 W0:=by rw[<- hW0];exact(Below.refl _ _).alloc (Nat.le_refl _) _
 have h90:W0.cell? ⟨w3.heap.size,0,none⟩=some (.int .i64 D.g):=by
  rw[<- hW0,cell_of_row _ _ 0 _ _ (0,0) (heap_alloc_new w3 _)];rfl
 have h80:=(hbA.block w2.heap.size (by omega)).trans h83;have d0:=belowCell hbA c23;have hBW:=Km (hBw3.trans (hbA.mono hBw3.size));have hsW:w3.heap.size<W0.heap.size:=by rw[<- hW0];simp
 have hNt:=Km (fun W (hW:Below W0.heap.size W0 W)=>newTables_any D HD.out w2.heap.size w3.heap.size W (fun W' hW' a ha=>ext1_any D.p D.k D.m l o D.g a w2.heap.size w3.heap.size W' HR.out ha hgq (((hW.trans (hW'.mono hW.size)).block w2.heap.size (by omega)).trans h80) (belowCell (hW.trans (hW'.mono hW.size)) h90)));have hDg:=Km (fun W=>fdigits_any D.m D.p W hp2 hp6 hm40);have H80:=Km h80;rw[hW0];clear hbA h80 h83 c23 hB23 hBw3 HX HA0 HB3;clear HR H80
 go_region_held3 (fun w' =>w'.cell? ⟨b,2,none⟩=some (.int .i64 D.p)/\w'.cell? ⟨w3.heap.size,0,none⟩=some (.int .i64 D.g))
  (first|exact⟨d0,h90⟩|exact⟨k0,k1⟩|exact⟨l0,l1⟩|go_keep)
  ((first
    |(go_at_call 209;have HP5:=HB5.out;(with_reducible refine(hNt.out _ ?_).mono ?_);(exact(by first|exact HP5|exact HP5.drew));clear HP5;rintro e w4 ⟨hb4,gP,gL,q1,q,PP,L,rfl,r1,r2,r3,r4,r5⟩;have HB54:=Km (show Below w5.heap.size w5 w4 from(by first|exact hb4|exact(Below.refl _ _).drew.trans hb4));have HT:=Km (And.intro r1 (And.intro r2 (And.intro r3 (And.intro r4 r5))));have l0:=belowCell HB54.out k0;have l1:=belowCell HB54.out k1;clear hb4 r1 r2 r3 r4 r5)
    |(go_at_call 209;(with_reducible refine(hNt.out _ ?_).mono ?_);(exact(by first|exact Below.refl _ _|exact(Below.refl _ _).drew));rintro e w4 ⟨hb4,gP,gL,q1,q,PP,L,rfl,r1,r2,r3,r4,r5⟩;have HB4:=Km (show Below W0.heap.size W0 w4 from(by first|exact hb4|exact(Below.refl _ _).drew.trans hb4));have HT:=Km (And.intro r1 (And.intro r2 (And.intro r3 (And.intro r4 r5))));have k0:=belowCell HB4.out d0;have k1:=belowCell HB4.out h90;clear hb4 r1 r2 r3 r4 r5)
    |(go_at_call 211;have HP4:=HB4.out;clear HP4;(with_reducible refine(hDg.out _).mono ?_);rintro e w5 ⟨hb5,v5,ml5,rfl,hm5,hd5⟩;obtain⟨a5,c5,rfl,hc5,hx5⟩:=hm5.sl.form;rw[FFld.ints_len] at hc5 hm5 ⊢;have HB45:=Km (show Below w4.heap.size w4 w5 from(by first|exact hb5|exact(Below.refl _ _).drew.trans hb5));have HS:=Km (And.intro hm5.sl hd5);have l0:=belowCell HB45.out k0;have l1:=belowCell HB45.out k1;clear hb5 hm5 hd5)
    |(go_at_call 211;(with_reducible refine(hDg.out _).mono ?_);rintro e w5 ⟨hb5,v5,ml5,rfl,hm5,hd5⟩;obtain⟨a5,c5,rfl,hc5,hx5⟩:=hm5.sl.form;rw[FFld.ints_len] at hc5 hm5 ⊢;have HB5:=Km (show Below W0.heap.size W0 w5 from(by first|exact hb5|exact(Below.refl _ _).drew.trans hb5));have HS:=Km (And.intro hm5.sl hd5);have k0:=belowCell HB5.out d0;have k1:=belowCell HB5.out h90;clear hb5 hm5 hd5)))
 go_wp2
 go_ret
 have hb5:=bstep (bstep hBW.out HB4.out) HB45.out;obtain⟨r1,r2,r3,r4,r5⟩:=HT.out;have hal:Below w5.heap.size w5 (w5.alloc (.cells #[.iface 221 (tbv D.p (some ⟨gP,0,none⟩) q1 q1 (some ⟨gL,0,none⟩) q q), .int .i64 D.q, .int .i64 D.p, .int .i64 D.k, .int .i64 D.g, .slice a5 ml5.length c5] 179 (0,0))):=(Below.refl _ _).alloc (Nat.le_refl _) _;exact⟨bstep hb5 hal,w5.heap.size,hb5.size,rfl,HD.out,_,_,ml5,heap_alloc_new w5 _, .inr ⟨hk2,gP,gL,q1,q,PP,L,rfl,(r1.below HB45.out).below hal,(r2.below HB45.out).below hal,r3,r4,r5⟩,HS.out.1.below hal,HS.out.2⟩
def FnRet (q:Int)(w:World)(e:Ending)(w' :World):Prop:=Below w.heap.size w w' /\((∃ (D:FFld.FD) (b:Nat),q=D.q/\w.heap.size<=b/\e= .returned (.tuple #[.pointer (some ⟨b,0,none⟩), .int .i64 0])/\FldB D w' b)\/(¬ FFld.Fit q/\e= .returned (.tuple #[.pointer none, .int .i64 20])))
set_option maxRecDepth 20000 in
theorem fnew_any (q:Int)(w:World)(hr0: -9223372036854775808<=q)(hr1:q<=9223372036854775807):
 Calls Tryz.prog 73 #[.int .i64 q] w (FnRet q w):=by
 have hPp:=Km (primePower_any q w hr0 hr1)
 go_enter Tryz.func73,Tryz.ntmps73
 go_wp2_with fail;refine hPp.out.mono ?_;rintro e w1 ⟨hb1,h⟩;have HB1:=Km hb1;clear hb1 hPp
 rcases h with⟨p,k,hp,hk1,hq,hq6,rfl⟩|⟨hn,rfl⟩
 ·obtain⟨m,g,hD⟩:=FFld.FD.exists p k hp hk1 hq6
  have hp6:p ^ 1<=65536:=by
   have:=Nat.pow_le_pow_right (n:=p) (by have:=hp.1;omega) hk1;omega
  obtain⟨m',g',hP⟩:=FFld.FD.exists p 1 hp (Nat.le_refl _) hp6;have hqD:q=(((⟨p,k,m,g⟩:FFld.FD).q:Nat):Int):=hq;have HD:=Km hD;have HP:=Km hP;have HQ:=Km hqD;have hPf:=Km (fun W=>show Calls Tryz.prog 146 #[.int .i64 p] W (FldRet ⟨p,1,m',g'⟩ W) from primeField_any ⟨p,1,m',g'⟩ HP.out rfl W)
  by_cases hk:k=1
  ·subst hk;have hPf' :=Km (fun W=>show Calls Tryz.prog 146 #[.int .i64 p] W (FldRet ⟨p,1,m,g⟩ W) from primeField_any ⟨p,1,m,g⟩ HD.out rfl W);clear hp hk1 hq hq6 hD hp6 hP hqD hPf;go_wp2_with fail;refine(hPf'.out _).mono ?_;rintro e w2 ⟨hb2,b,hb,rfl,hf⟩;have HB2:=Km (bstep HB1.out hb2);have HF:=Km hf;have HS:=HB1.out.size;clear hb2 hf;go_wp2
   go_ret2
   exact⟨HB2.out, .inl ⟨_,b,HQ.out,by omega,rfl,HF.out⟩⟩
  ·have hk2:2<=k:=by omega
   have ek:decide ((k:Int)>1)=true:=by simp;omega
   have hEx:=Km (fun W b (hf:FldB ⟨p,1,m',g'⟩ W b)=>show Calls Tryz.prog 147 #[.pointer (some ⟨b,0,none⟩), .int .i64 q, .int .i64 k] W (FldRet ⟨p,k,m,g⟩ W) from by
    rw[HQ.out]
    exact extension_any HP.out rfl HD.out hk2 rfl W hf)
   have hk1' :(1:Int)<k:=by omega
   clear hp hq hq6 hD hp6 hP hqD;go_wp2_with fail;refine(hPf.out _).mono ?_;rintro e w2 ⟨hb2,b,hb,rfl,hf⟩;have HB2:=Km (bstep HB1.out hb2);have HF:=Km hf;clear hb2 hf;go_wp2_with fail;refine(hEx.out _ _ HF.out).mono ?_;rintro e w3 ⟨hb3,b',hb',rfl,hf⟩;have HB3:=Km (bstep HB2.out hb3);have HF3:=Km hf;have HS:=HB2.out.size;clear hb3 hf;go_wp2
   go_ret2
   exact⟨HB3.out, .inl ⟨_,b',HQ.out,by omega,rfl,HF3.out⟩⟩
 ·have HN:=Km hn;clear hn;go_wp2
  go_ret2
  exact⟨HB1.out, .inr ⟨HN.out,rfl⟩⟩
set_option maxRecDepth 20000 in
theorem fmul_any {D:FFld.FD}{b:Nat}(x y:Int)(w:World)(hf:FldB D w b)(hx0: -9223372036854775808<=x)(hx1:x<=9223372036854775807)(hy0: -9223372036854775808<=y)(hy1:y<=9223372036854775807)(r s:Nat)(hr:x%D.q=r)(hs:y%D.q=s)(hr1:r<D.p ^ D.k)(hs1:s<D.p ^ D.k):
 Calls Tryz.prog 82 #[.pointer (some ⟨b,0,none⟩), .int .i64 x, .int .i64 y] w (RB w (.int .i64 (FFld.pmul D.p D.k D.m r D.k s:Nat))):=by
 obtain⟨h,T,xx,fs,fp,fw,ms,ml,hb,ho,_,_⟩:=hf.open;obtain⟨c0,_⟩:=six_cells hb;have hP:=Km (fun W (hW:Below w.heap.size w W)=>ho.product W hW r s hr1 hs1);have hA:=Km (fun W (hW:Below w.heap.size w W)=>reduced_any x W (hf.below hW) hx0 hx1);have hB:=Km (fun W (hW:Below w.heap.size w W)=>reduced_any y W (hf.below hW) hy0 hy1);rw[hr] at hA;rw[hs] at hB;have hmp:=ho.mp;have hcp:=ho.cp;clear ho hb hf hx0 hx1 hy0 hy1 hr hs hr1 hs1
 go_enter Tryz.func82,Tryz.ntmps82
 go_wp2
 go_region_held3 (fun w' =>w'.cell? ⟨b,0,none⟩=some (.iface T xx))
  (first|exact c0|exact k0|go_keep)
  ((first
    |((with_reducible refine(hA.out _ ?_).mono ?_);(exact(by first|exact Below.refl _ _|exact(Below.refl _ _).drew|exact(Below.refl _ _).drew.drew));rintro e w2 ⟨rfl,rfl⟩)
    |((with_reducible refine(hB.out _ ?_).mono ?_);(exact(by first|exact Below.refl _ _|exact(Below.refl _ _).drew|exact(Below.refl _ _).drew.drew));rintro e w2 ⟨rfl,rfl⟩)
    |((with_reducible refine(hP.out _ ?_).mono ?_);(exact(by first|exact Below.refl _ _|exact(Below.refl _ _).drew|exact(Below.refl _ _).drew.drew));rintro e w2 ⟨hb2,rfl⟩;have HB2:=Km (show Below w.heap.size w w2 from(by first|exact hb2|exact(Below.refl _ _).drew.trans hb2));have k0:=belowCell HB2.out c0;clear hb2)))
 go_wp2
 go_ret
 exact⟨HB2.out,rfl⟩
set_option maxRecDepth 20000 in
theorem fadd_any {D:FFld.FD}{b:Nat}(x y:Int)(w:World)(hf:FldB D w b)(hx0: -9223372036854775808<=x)(hx1:x<=9223372036854775807)(hy0: -9223372036854775808<=y)(hy1:y<=9223372036854775807)(r s:Nat)(hr:x%D.q=r)(hs:y%D.q=s)(hr1:r<D.p ^ D.k)(hs1:s<D.p ^ D.k):
 Calls Tryz.prog 188 #[.pointer (some ⟨b,0,none⟩), .int .i64 x, .int .i64 y] w (RB w (.int .i64 (FFld.padd D.p D.k r s:Nat))):=by
 obtain⟨h,T,xx,fs,fp,fw,ms,ml,hb,ho,_,_⟩:=hf.open;obtain⟨c0,_⟩:=six_cells hb;have hP:=Km (fun W (hW:Below w.heap.size w W)=>ho.sum W hW r s hr1 hs1);have hA:=Km (fun W (hW:Below w.heap.size w W)=>reduced_any x W (hf.below hW) hx0 hx1);have hB:=Km (fun W (hW:Below w.heap.size w W)=>reduced_any y W (hf.below hW) hy0 hy1);rw[hr] at hA;rw[hs] at hB;have hmp:=ho.ms;have hcp:=ho.cs;clear ho hb hf hx0 hx1 hy0 hy1 hr hs hr1 hs1
 go_enter Tryz.func188,Tryz.ntmps188
 go_wp2
 go_region_held3 (fun w' =>w'.cell? ⟨b,0,none⟩=some (.iface T xx))
  (first|exact c0|exact k0|go_keep)
  ((first
    |((with_reducible refine(hA.out _ ?_).mono ?_);(exact(by first|exact Below.refl _ _|exact(Below.refl _ _).drew|exact(Below.refl _ _).drew.drew));rintro e w2 ⟨rfl,rfl⟩)
    |((with_reducible refine(hB.out _ ?_).mono ?_);(exact(by first|exact Below.refl _ _|exact(Below.refl _ _).drew|exact(Below.refl _ _).drew.drew));rintro e w2 ⟨rfl,rfl⟩)
    |((with_reducible refine(hP.out _ ?_).mono ?_);(exact(by first|exact Below.refl _ _|exact(Below.refl _ _).drew|exact(Below.refl _ _).drew.drew));rintro e w2 ⟨hb2,rfl⟩;have HB2:=Km (show Below w.heap.size w w2 from(by first|exact hb2|exact(Below.refl _ _).drew.trans hb2));have k0:=belowCell HB2.out c0;clear hb2)))
 go_wp2
 go_ret
 exact⟨HB2.out,rfl⟩
set_option maxRecDepth 20000 in
theorem fsub_any {D:FFld.FD}{b:Nat}(x y:Int)(w:World)(hf:FldB D w b)(hx0: -9223372036854775808<=x)(hx1:x<=9223372036854775807)(hy0: -9223372036854775808<=y)(hy1:y<=9223372036854775807)(r s:Nat)(hr:x%D.q=r)(hs:y%D.q=s)(hr1:r<D.p ^ D.k)(hs1:s<D.p ^ D.k):
 Calls Tryz.prog 115 #[.pointer (some ⟨b,0,none⟩), .int .i64 x, .int .i64 y] w (RB w (.int .i64 (FFld.padd D.p D.k r (FFld.pscl D.p D.k (D.p-1) s):Nat))):=by
 have hP:=Km (difference_any r s w hf hr1 hs1);have hA:=Km (reduced_any x w hf hx0 hx1);have hB:=Km (reduced_any y w hf hy0 hy1);rw[hr] at hA;rw[hs] at hB;clear hf hx0 hx1 hy0 hy1 hr hs hr1 hs1
 go_enter Tryz.func115,Tryz.ntmps115
 go_wp2_with fail;refine hA.out.mono ?_;rintro e w2 ⟨rfl,rfl⟩;go_wp2_with fail;refine hB.out.mono ?_;rintro e w2 ⟨rfl,rfl⟩;go_wp2_with fail;refine hP.out.mono ?_;rintro e w2 ⟨hb2,rfl⟩;have HB2:=Km hb2;clear hb2;go_wp2
 go_ret
 exact⟨HB2.out,rfl⟩
set_option maxRecDepth 20000 in
theorem fdiv_any {D:FFld.FD}{b:Nat}(hD:D.Ok)(x y:Int)(w:World)(hf:FldB D w b)(hx0: -9223372036854775808<=x)(hx1:x<=9223372036854775807)(hy0: -9223372036854775808<=y)(hy1:y<=9223372036854775807)(r s:Nat)(hr:x%D.q=r)(hs:y%D.q=s)(hr1:r<D.p ^ D.k)(hs1:s<D.p ^ D.k)(h0:s≠0):
 Calls Tryz.prog 230 #[.pointer (some ⟨b,0,none⟩), .int .i64 x, .int .i64 y] w (RB w (.tuple #[.int .i64 (FFld.pmul D.p D.k D.m r D.k (FFld.ppow hD.pre.pk s (D.q-2)):Nat), .int .i64 0])):=by
 obtain⟨h,T,xx,fs,fp,fw,ms,ml,hb,ho,_,_⟩:=hf.open;obtain⟨c0,_⟩:=six_cells hb;obtain⟨v,hv⟩:∃ v,FFld.ppow hD.pre.pk s (D.q-2)=v:=⟨_,rfl⟩;have hv1:v<D.p ^ D.k:=by rw[<- hv];exact FFld.ppow_lt _ _ _
 have hP:=Km (fun W (hW:Below w.heap.size w W)=>ho.product W hW r v hr1 hv1);have hA:=Km (fun W (hW:Below w.heap.size w W)=>reduced_any x W (hf.below hW) hx0 hx1);have hB:=Km (reduced_any y w hf hy0 hy1);have hI:=Km (fun W (hW:Below w.heap.size w W)=>inverse_any hD s W (hf.below hW) hs1 h0);rw[hr] at hA;rw[hs] at hB;rw[hv] at hI;rw[hv];have hmp:=ho.mp;have hcp:=ho.cp;have es:((s:Int)==0)=false:=by rw[beq_eq_false_iff_ne];omega
 clear ho hb hf hx0 hx1 hy0 hy1 hr hs hr1 hs1 hv hv1
 go_enter Tryz.func230,Tryz.ntmps230
 go_wp2_with fail;refine hB.out.mono ?_;rintro e w2 ⟨rfl,rfl⟩;go_wp2
 go_region_held3 (fun w' =>w'.cell? ⟨b,0,none⟩=some (.iface T xx))
  (first|exact c0|exact k0|exact l0|go_keep)
  ((first
    |((with_reducible refine(hA.out _ ?_).mono ?_);(exact(by first|exact Below.refl _ _|exact(Below.refl _ _).drew|exact HB2.out|exact HB2.out.drew));rintro e w3 ⟨rfl,rfl⟩)
    |(go_at_call 152;(with_reducible refine(hI.out _ ?_).mono ?_);(exact(by first|exact Below.refl _ _|exact(Below.refl _ _).drew));rintro e w2 ⟨hb2,rfl⟩;have HB2:=Km (show Below w.heap.size w w2 from(by first|exact hb2|exact(Below.refl _ _).drew.trans hb2));have k0:=belowCell HB2.out c0;clear hb2)
    |((with_reducible refine(hP.out _ ?_).mono ?_);(exact(by first|exact HB2.out|exact HB2.out.drew));rintro e w4 ⟨hb4,rfl⟩;have HB4:=Km (bstep (show Below w.heap.size w _ from(by first|exact HB2.out|exact HB2.out.drew)) hb4);have l0:=belowCell HB4.out c0;clear hb4)))
 go_wp2
 go_ret2
 exact⟨HB4.out,rfl⟩

def cjg {p k m:Nat}(h:FFld.PK p k m)(a:Nat):Nat->Nat
 |0=>a
 |i+1=>FFld.ppow h (cjg h a i) p
def CjRet (D:FFld.FD)(h:FFld.PK D.p D.k D.m)(a:Nat)(w:World)(e:Ending)(w' :World):Prop:=Below w.heap.size w w' /\ ∃ (v:Value) (xs:List Nat),e= .returned v/\Sl .i64 w' v (ints xs)/\xs.length=D.k/\ ∀ j,j<D.k->xs[j]?.getD 0=cjg h a j
def cjf {p k m:Nat}(h:FFld.PK p k m)(a:Nat)(f:Nat->Nat->Nat)(z:Nat):Nat->Nat
 |0=>z
 |i+1=>f (cjf h a f z i) (cjg h a i)
end
end Go.Proofs.YtdnheaafcbihbaaGreat
