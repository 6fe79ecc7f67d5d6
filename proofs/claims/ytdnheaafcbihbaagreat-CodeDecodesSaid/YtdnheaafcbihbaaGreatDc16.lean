/-
  Texts of the proof, merged by program: Mro Ech Rea Shp Tam Fmx Dna Sva Svb Plp.
-/
import Derived.Test.YtdnheaafcbihbaaGreatDc15
set_option linter.unusedSimpArgs false
set_option linter.unusedVariables false
set_option maxHeartbeats 16000000
namespace Go.Proofs.YtdnheaafcbihbaaGreat
section
open Go Go.RowKit Go.Deep
open FFld (ints)
def OwnV (E:TypeId)(B:Nat)(w:World)(v:Value)(xs:List Value):Prop:=
 (v= .slice none 0 0/\xs= [])\/
   ∃ g cap cur,v= .slice (some ⟨g,0,none⟩) xs.length cap/\B<=g/\w.heap[g]? =some (.cells cur E (0,0))/\xs.length<=cap/\cap<=cur.size/\cap<=maxLen/\cur.toList.take xs.length=xs
section
variable {E : TypeId} {B : Nat} {w w' : World} {v : Value} {xs : List Value}
theorem OwnV.nil (E:TypeId)(B:Nat)(w:World):OwnV E B w (.slice none 0 0) []:= .inl ⟨rfl,rfl⟩
theorem OwnV.own (h:OwnV E B w v xs):∀ k,v.ownBlock=some k->B<=k/\k<w.heap.size:=by
 intro k hk
 rcases h with⟨rfl,rfl⟩|⟨g,cap,cur,rfl,hB,hg,hn,hc,hm,ht⟩
 ·simp[Value.ownBlock] at hk
 ·simp[Value.ownBlock] at hk;subst hk;exact⟨hB,(Array.getElem?_eq_some_iff.1 hg).1⟩
theorem OwnV.kept {row:Option Nat}(h:OwnV E B w v xs)(hg:w.grownBy w' row)(hne:v.ownBlock=none\/v.ownBlock≠row):OwnV E B w' v xs:=by
 rcases h with h|⟨g,cap,cur,rfl,hB,hgg,rest⟩
 ·exact .inl h
 ·refine .inr ⟨g,cap,cur,rfl,hB,?_,rest⟩;rw[hg.block g (Array.getElem?_eq_some_iff.1 hgg).1 (by simpa[Value.ownBlock] using hne)];exact hgg
theorem OwnV.below (h:OwnV E B w v xs)(hb:Below w.heap.size w w'):OwnV E B w' v xs:=
 h.kept (row:=none) (growBelow hb) (by cases hv:v.ownBlock<;>simp)
theorem OwnV.lower {B' :Nat}(h:OwnV E B w v xs)(hB:B' <=B):OwnV E B' w v xs:=by
 rcases h with h|⟨g,cap,cur,rfl,hb,rest⟩
 ·exact .inl h
 ·exact .inr ⟨g,cap,cur,rfl,by omega,rest⟩
theorem OwnV.of_owns {n:Nat}(h:w.ownsRow B E 1 v n xs):OwnV E B w v xs:=by
 have hl:xs.length=n:=by simpa using h.1
 rcases h.2 with⟨rfl,h0⟩|⟨g,cap,cur,rfl,hg,hh,hn,hm,hc,ht⟩
 ·have:xs= []:=by cases xs with|nil=>rfl|cons=>simp at hl;omega
  exact .inl ⟨rfl,this⟩
 ·exact .inr ⟨g,cap,cur,by rw[hl],hg,hh,by omega,by omega,hm,by rw[hl];simpa using ht⟩
theorem OwnV.cell (h:OwnV E B w v xs){i:Nat}(hi:i<xs.length):∃ g cap,v= .slice (some ⟨g,0,none⟩) xs.length cap/\g<w.heap.size/\w.cell? ⟨g,i,none⟩=some (xs[i]?.getD (.int .i64 0)):=by
 rcases h with⟨rfl,rfl⟩|⟨g,cap,cur,rfl,hB,hg,hn,hc,hm,ht⟩
 ·simp at hi
 ·refine⟨g,cap,rfl,(Array.getElem?_eq_some_iff.1 hg).1,?_⟩;rw[cell_of_row w g i cur E (0,0) hg];have:(cur.toList.take xs.length)[i]? =cur[i]? :=by rw[List.getElem?_take,if_pos hi];simp
  rw[<- this,ht];simp[hi]
theorem OwnV.form (h:OwnV E B w v xs):∃ ao cap,v= .slice ao xs.length cap/\xs.length<=cap/\cap<=maxLen:=by
 rcases h with⟨rfl,rfl⟩|⟨g,cap,cur,rfl,hB,hg,hn,hc,hm,ht⟩
 ·exact⟨none,0,rfl,Nat.le_refl _,Nat.zero_le _⟩
 ·exact⟨_,cap,rfl,hn,hm⟩
end
theorem add_zero' (g j:Nat):(⟨g,0,none⟩:Addr).add j=⟨g,j,none⟩:=by unfold Addr.add;split<;>simp_all
theorem run_append_v {P:Program}(w:World)(t ty E:TypeId)(z:Value)(bytes:Nat)(ht:P.underlying t=some (.slice E))
 (hinfo:(P.info? E).map (fun i=>(i.zero,i.size,i.bytes))=some (some z,1,bytes)) (hz1:z.cells.size=1) (B:Nat) (v:Value) (xs:List Value) (hM:OwnV E B w v xs) (hB:B<=w.heap.size)
 (a:Addr) (c:Nat) (news:List Value) (hnews:∀ j u,news[j]? =some u->w.cell? (a.add j)=some u) (hone:∀ u∈news,u.oneCell' =true)
 (hb:(xs.length+news.length)*bytes<=140737488355328) (hm:xs.length+news.length<=maxLen):
 ∃ v' w',(Builtin.append_ #[t,t] ty #[v, .slice (some a) news.length c]).run P w= .ok v' w' /\OwnV E B w' v' (xs++news)/\w.grownBy w' v.ownBlock/\(v'.ownBlock=v.ownBlock\/Frm w.heap.size v'):=by
 obtain⟨i,hi,hz,hs,hby⟩:=info_parts hinfo;have hl:news.length=news.length*1:=by simp
 rcases hM with⟨rfl,rfl⟩|⟨g,cap,cur,rfl,hBg,hg,hn,hc,hcm,htk⟩
 ·obtain⟨v',w',hr,h2,h3,_⟩:=run_append_own (P:=P) w w.heap.size t ty E i z 1 bytes ht hi hz hs hby hz1 (by decide) (.slice none 0 0) 0 [] (World.ownsRow_nil w w.heap.size E 1) a news.length c news hl hnews hone (by simpa using hm) (by simpa using hb) (Nat.le_refl _);exact⟨v',w',hr,(OwnV.of_owns (n:=0+news.length) (by simpa using h2)).lower hB,h3, .inr (fun k hk=>(h2.lt k hk).1)⟩
 ·by_cases hroom:xs.length+news.length<=cap
  ·have hfit:xs.length*i.size+news.length<=cur.size:=by rw[hs];simp;omega
   have hr:=run_append_room (P:=P) w t ty E i ht hi g xs.length cap cur hg a news.length c news (by rw[hs];exact hl) hnews hone hroom hfit;rw[hs,Nat.mul_one] at hr;refine⟨_,_,hr, .inr ⟨g,cap,_,by simp,hBg,setRow_heap w g cur _ E _ hg,by simpa using hroom,?_,hcm,?_⟩,⟨rfl,rfl,rfl,by simp,fun k _ hk=>setRow_other w g k _ (fun e=>hk (by simp[Value.ownBlock,e]))⟩, .inl rfl⟩
   ·simp only[List.size_toArray,List.length_append,List.length_take,List.length_drop,Array.length_toList];omega
   ·rw[htk,List.length_append];have:(xs++news).length=xs.length+news.length:=by simp
    rw[<- this];exact List.take_left
  ·have holds:∀ j u,xs[j]? =some u->w.cell? ((⟨g,0,none⟩:Addr).add j)=some u:=by
    intro j u hu;have e:(⟨g,0,none⟩:Addr).add j=⟨g,j,none⟩:=add_zero' g j;rw[e,cell_of_row w g j cur E (0,0) hg]
    have hj:j<xs.length:=by
     apply Classical.byContradiction
     intro hc';simp[hc'] at hu
    rw[<- htk,List.getElem?_take,if_pos hj] at hu
    simpa using hu
   obtain⟨v',w',hr,h2,h3⟩:=run_append_arg_grows (P:=P) w t ty E i z 1 bytes ht hi hz hs hby hz1 (by decide) ⟨g,0,none⟩ xs.length cap xs (by simp) holds a news.length c news hl hnews (by omega) hm hb;refine⟨v',w',hr,?_,⟨h3.os,h3.tape,h3.output,h3.size,fun k hk _=>h3.block k hk (by simp)⟩, .inr (fun k hk=>(h2.lt k hk).1)⟩;exact(OwnV.of_owns (n:=xs.length+news.length) (by simpa using h2)).lower hB
theorem wpList_append_v {P:Program}(w:World){ops:Array Oper}{rest:List Oper}{o:Oper}{a:Act}{Q:Exit->Act->World->Prop}(hgd:o.guard=none)(s x:Operand)(t:TypeId)
 (ho:o.op= .call {callee:= .builtin .append,args:= #[s,x],argTypes:= #[t,t]}) (E:TypeId) (z:Value) (bytes:Nat) (ht:P.underlying t=some (.slice E))
 (hinfo:(P.info? E).map (fun i=>(i.zero,i.size,i.bytes))=some (some z,1,bytes)) (hz1:z.cells.size=1) (B:Nat) (v:Value) (xs:List Value) (hs:a.eval s=v) (hM:OwnV E B w v xs) (hB:B<=w.heap.size)
 (ad:Addr) (m c:Nat) (news:List Value) (hx:a.eval x= .slice (some ad) m c) (hl:news.length=m) (hnews:∀ j u,news[j]? =some u->w.cell? (ad.add j)=some u) (hone:∀ u∈news,u.oneCell' =true)
 (hb:(xs.length+news.length)*bytes<=140737488355328) (hm:xs.length+news.length<=maxLen)
 (h:∀ v' w',OwnV E B w' v' (xs++news)->w.grownBy w' v.ownBlock->(v'.ownBlock=v.ownBlock\/Frm w.heap.size v')->wpList P ops Q rest (a.put o.dst v') w'):wpList P ops Q (o::rest) a w:=by
 refine wpList_plain hgd fun K' hK=> ?_
 subst hl;obtain⟨v',w',hrun,r1,r2,r3⟩:=run_append_v (P:=P) w t o.type E z bytes ht hinfo hz1 B v xs hM hB ad c news hnews hone hb hm;unfold Oper.wp;simp[execOp,ho,resolve,invoke,builtin,hs,hx,hrun,Result.andThen];exact hK _ _ (h v' w' r1 r2 r3)
theorem wpList_append_w {P:Program}(w:World){ops:Array Oper}{rest:List Oper}{o:Oper}{a:Act}{Q:Exit->Act->World->Prop}(hgd:o.guard=none)(s x:Operand)(t:TypeId)
 (ho:o.op= .call {callee:= .builtin .append,args:= #[s,x],argTypes:= #[t,t]}) (E:TypeId) (z:Value) (bytes:Nat) (ht:P.underlying t=some (.slice E))
 (hinfo:(P.info? E).map (fun i=>(i.zero,i.size,i.bytes))=some (some z,1,bytes)) (hz1:z.cells.size=1) (B:Nat) (v:Value) (xs:List Value) (hs:a.eval s=v) (hM:OwnV E B w v xs) (hB:B<=w.heap.size)
 (ad:Addr) (c:Nat) (nv:Value) (hx:a.eval x= .slice (some ad) 1 c) (hnews:∀ j u,([nv])[j]? =some u->w.cell? (ad.add j)=some u) (hone:nv.oneCell' =true)
 (n:Nat) (hn:xs.length=n) (hb:(n+1)*bytes<=140737488355328) (hm:n+1<=1000000)
 (h:∀ v' w',OwnV E B w' v' (xs++ [nv])->w.grownBy w' v.ownBlock->(v'.ownBlock=v.ownBlock\/Frm w.heap.size v')->wpList P ops Q rest (a.put o.dst v') w'):wpList P ops Q (o::rest) a w:=
 wpList_append_v w hgd s x t ho E z bytes ht hinfo hz1 B v xs hs hM hB ad 1 c [nv] hx rfl hnews (fun u hu=>by obtain rfl:=List.mem_singleton.1 hu;exact hone) (by rw[hn];exact hb) (by rw[hn];unfold maxLen;simp;omega) h
structure Rws (B:Nat)(w:World)(v:Value)(L:List (Value × List Int)):Prop where
 own:OwnV 22 B w v (L.map (·.1))
 ok:∀ r∈L,Mine 3 .i64 B w r.1 r.2
 ne:∀ r∈L,∀ g,r.1.ownBlock=some g->v.ownBlock≠some g
theorem Rws.nil (B:Nat)(w:World):Rws B w (.slice none 0 0) []:=⟨OwnV.nil _ _ _,by simp,by simp⟩
theorem Rws.below {B:Nat}{w w' :World}{v:Value}{L:List (Value × List Int)}(h:Rws B w v L)(hb:Below w.heap.size w w'):Rws B w' v L:=
 ⟨h.own.below hb,fun r hr=>(h.ok r hr).below hb,h.ne⟩
theorem Mine.one {E:TypeId}{K:IntKind}{B:Nat}{w:World}{v:Value}{xs:List Int}(h:Mine E K B w v xs):v.oneCell' =true:=by
 obtain⟨ao,c,rfl,_⟩:=h.sl;rfl
theorem Rws.push {B:Nat}{w w' :World}{v v' rv:Value}{L:List (Value × List Int)}{xs:List Int}(h:Rws B w v L)(hr:Mine 3 .i64 B w rv xs)(hne:∀ g,rv.ownBlock=some g->v.ownBlock≠some g)
 (ho:OwnV 22 B w' v' (L.map (·.1)++ [rv])) (hg:w.grownBy w' v.ownBlock) (hv:v'.ownBlock=v.ownBlock\/Frm w.heap.size v'):Rws B w' v' (L++ [(rv,xs)]):=by
 have all:∀ s∈L++ [(rv,xs)],Mine 3 .i64 B w s.1 s.2/\ ∀ g,s.1.ownBlock=some g->v.ownBlock≠some g:=fun s hs=>by
  rcases List.mem_append.1 hs with h1|h1
  ·exact⟨h.ok s h1,h.ne s h1⟩
  ·obtain rfl:=List.mem_singleton.1 h1;exact⟨hr,hne⟩
 refine⟨by rw[List.map_append];exact ho,fun s hs=>(all s hs).1.kept hg ?_,fun s hs g hgb e=> ?_⟩
 ·cases hb:s.1.ownBlock with
  |none=>exact .inl rfl
  |some g=>exact .inr (fun e=>(all s hs).2 g hb e.symm)
 ·rcases hv with h1|h1
  ·rw[h1] at e;exact(all s hs).2 g hgb e
  ·have:=h1 g e;have:=((all s hs).1.own g hgb).2;omega
theorem Rws.sls {B:Nat}{w:World}{v:Value}{L:List (Value × List Int)}(h:Rws B w v L):∃ ao cap,v= .slice ao L.length cap/\L.length<=cap/\cap<=maxLen/\Sls w ao (L.map (·.2)):=by
 obtain⟨ao,cap,e,h1,h2⟩:=h.own.form;rw[List.length_map] at e h1;refine⟨ao,cap,e,h1,h2,fun i hi=> ?_⟩;have hi' :i<L.length:=by simpa using hi
 obtain⟨g,c,e2,hg,hcell⟩:=h.own.cell (i:=i) (by simpa using hi');rw[e] at e2;simp only[Value.slice.injEq] at e2;obtain⟨rfl,_,_⟩:=e2;refine⟨g,0,(L[i]'hi').1,rfl,hg,?_,?_⟩
 ·rw[Nat.zero_add,hcell];simp[hi']
 ·have:=(h.ok _ (List.getElem_mem hi')).sl
  simpa[hi'] using this
theorem rows_one {W:World}{rv:Value} :∀ j u,([rv])[j]? =some u->(W.alloc (.cells #[rv] 22)).cell? ((⟨W.heap.size,0,none⟩:Addr).add j)=some u:=by
 intro j u hu
 cases j with
 | zero=>
   simp at hu;subst hu;have e:(⟨W.heap.size,0,none⟩:Addr).add 0=⟨W.heap.size,0,none⟩:=by simp[Addr.add]
   rw[e,cell_of_row _ W.heap.size 0 _ _ (0,0) (heap_alloc_new W _)];rfl
 |succ j=>simp at hu
def RetR (w:World)(rows:List (List Int))(e:Ending)(w' :World):Prop:=Below w.heap.size w w' /\ ∃ v L,e= .returned v/\Rws w.heap.size w' v L/\L.map (·.2)=rows
def cutR (rows:List (List Int))(most:Nat):List (List Int):=(rows.take most).map (·.take most)
theorem map_take_next' {α β:Type}{f:α->β}{xs:List α}{i:Nat}{d:α}(h:i<xs.length):(xs.take (i+1)).map f=(xs.take i).map f++ [f (xs[i]?.getD d)]:=by
 rw[List.take_add_one,List.map_append,List.getElem?_eq_getElem h];rfl
def EcRet (s:FFld.ESt)(w:World)(e:Ending)(w' :World):Prop:=Below w.heap.size w w' /\ ∃ G,e= .returned (.tuple #[.slice (some ⟨G,0,none⟩) s.cols.length s.cols.length, .int .i64 0])/\Sls w' (some ⟨G,0,none⟩) ((s.A.take s.cols.length).map ints)
def SlRet (D:FFld.FD)(s:FFld.ESt)(bl:List Nat)(wd n:Nat)(w:World)(e:Ending)(w' :World):Prop:=Below w.heap.size w w' /\
 ((∃ i,s.cols.length<=i/\i<n/\sopV D s bl i≠0/\e= .returned (.tuple #[.slice none 0 0, .int .i64 4]))\/
  ((∀ j,s.cols.length<=j->j<n->sopV D s bl j=0)/\ ∃ vx,e= .returned (.tuple #[vx, .int .i64 0])/\Sl .i64 w' vx (ints (solF D s bl wd s.cols.length))))
end
section
namespace FFld
theorem take_off {D:FD}(h:PK D.p D.k D.m){t y:Nat}(ht:t<D.p ^ D.k)(hy:y<D.p ^ D.k):pscl D.p D.k (D.p-1) (pmul D.p D.k D.m t D.k y)=pmul D.p D.k D.m y D.k (negF D t):=by
 unfold negF;rw[pmul_comm h _ _ hy (pscl_lt h _ _),pmul_scl h]
theorem negF_zero {D:FD}(h:PK D.p D.k D.m):negF D 0=0:=pscl_nil h _
theorem addmF_none {D:FD}(h:PK D.p D.k D.m){xs:List Nat}(q:List Nat)(hx:∀ a∈xs,a<D.p ^ D.k)(hq:∀ a∈q,a<D.p ^ D.k)(hl:q.length<=xs.length):∀ j,j<=q.length->addmF D xs 0 q 0 j=xs
 |0,_=>rfl
 | j+1,hj=>by
   simp only[addmF];rw[addmF_none h q hx hq hl j (by omega),Nat.zero_add];rw[pmul_zero_right h,padd_zero h _ (getD_lt (Nat.pow_pos h.p0) hx j)]
   apply List.ext_getElem?
   intro i
   by_cases e:j=i
   ·subst e;rw[List.getElem?_set_self (by omega),List.getElem?_eq_getElem (by omega)];rfl
   ·rw[List.getElem?_set_ne e]
theorem rowAt_set_self {A:List (List Nat)}{i:Nat}(hi:i<A.length):A.set i (rowAt A i)=A:=by
 unfold rowAt
 apply List.ext_getElem?
 intro k
 by_cases e:i=k
 ·subst e;rw[List.getElem?_set_self hi,List.getElem?_eq_getElem hi];rfl
 ·rw[List.getElem?_set_ne e]
theorem rowAt_put {A:List (List Nat)}{i:Nat}(hi:i<A.length)(r:List Nat):rowAt (A.set i r) i=r:=by
 unfold rowAt;rw[List.getElem?_set_self hi];rfl
theorem rowAt_put_ne {A:List (List Nat)}{i j:Nat}(h:i≠j)(r:List Nat):rowAt (A.set i r) j=rowAt A j:=by
 unfold rowAt;rw[List.getElem?_set_ne h]
theorem subAt_none {D:FD}(h:PK D.p D.k D.m){n:Nat}{A:List (List Nat)}(hw:Wfm D n A){i j:Nat}(hi:i<A.length)(hj:j<A.length):subAt D A i j 0=A:=by
 unfold subAt addm;rw[negF_zero h,addmF_none h (rowAt A j) (rowAt_lt hw i) (rowAt_lt hw j) (by rw[(hw.row hi).1,(hw.row hj).1];exact Nat.le_refl _) _ (Nat.le_refl _),rowAt_set_self hi]
theorem stepF_full {D:FD}(h:PK D.p D.k D.m)(c:Nat){s:ESt}(hs:s.cols.length=s.A.length):stepF D h c s=s:=by
 unfold stepF;simp only;rw[hs,Nat.sub_self];simp only[piv];rw[if_pos trivial]
theorem elimF_full {D:FD}(h:PK D.p D.k D.m)(s:ESt)(c:Nat)(hs:(elimF D h s c).cols.length=(elimF D h s c).A.length):∀ d,elimF D h s (c+d)=elimF D h s c
 |0=>rfl
 | d+1=>by
   show stepF D h (c+d) (elimF D h s (c+d))=_
   rw[elimF_full h s c hs d,stepF_full h _ hs]
theorem subsF_fst (D:FD)(top c:Nat)(A R R' :List (List Nat)):∀ i,(subsF D top c (A,R) i).1=(subsF D top c (A,R') i).1
 |0=>rfl
 | i+1=>by
   simp only[subsF]
   split
   ·exact subsF_fst D top c A R R' i
   ·simp only[subsF_fst D top c A R R' i]
end FFld
open Go Go.RowKit Go.Deep
open FFld (ints)
def DisR (L:List (Value × List Int)):Prop:= ∀ (i j g:Nat),L[i]?.bind (fun r=>r.1.ownBlock)=some g->L[j]?.bind (fun r=>r.1.ownBlock)=some g->i=j
theorem DisR.nil:DisR []:=fun i j g h=>by simp at h
theorem DisR.push {L:List (Value × List Int)}(h:DisR L){r:Value × List Int}(hr:∀ g,r.1.ownBlock=some g-> ∀ s∈L,s.1.ownBlock≠some g):DisR (L++ [r]):=by
 have key:∀ i g,(L++ [r])[i]?.bind (fun r=>r.1.ownBlock)=some g->(i<L.length/\L[i]?.bind (fun r=>r.1.ownBlock)=some g)\/(i=L.length/\r.1.ownBlock=some g):=fun i g e=>by
  by_cases hi:i<L.length
  ·rw[List.getElem?_append_left hi] at e;exact .inl ⟨hi,e⟩
  ·by_cases he:i=L.length
   ·subst he;rw[List.getElem?_append_right (Nat.le_refl _),Nat.sub_self] at e;exact .inr ⟨rfl,e⟩
   ·rw[List.getElem?_eq_none (by simp;omega)] at e
    cases e
 have old:∀ i g,i<L.length->L[i]?.bind (fun r=>r.1.ownBlock)=some g->r.1.ownBlock≠some g:=fun i g hi e e2=>by
  rw[List.getElem?_eq_getElem hi] at e;exact hr g e2 _ (List.getElem_mem hi) e
 intro i j g h1 h2
 rcases key i g h1 with⟨a1,b1⟩|⟨a1,b1⟩<;>rcases key j g h2 with⟨a2,b2⟩|⟨a2,b2⟩
 ·exact h i j g b1 b2
 ·exact absurd b2 (old i g a1 b1)
 ·exact absurd b1 (old j g a2 b2)
 ·omega
structure Mat (B:Nat)(w:World)(G n wd:Nat)(H C:Nat->Nat)(A:List (List Nat)):Prop where
 len:A.length=n
 hdr:∃ cur,w.heap[G]? =some (.cells cur 22 (0,0))/\ ∀ i,i<n->cur[i]? =some (.slice (some ⟨H i,0,none⟩) wd (C i))
 row:∀ i,i<n->Wv w (H i) (FFld.rowAt A i)
 wid:∀ i,i<n->(FFld.rowAt A i).length=wd
 cap:∀ i,i<n->wd<=C i/\C i<=maxLen
 low:∀ i,i<n->B<=H i/\H i≠G
 dis:∀ i j,i<n->j<n->H i=H j->i=j
 gB:B<=G
section
variable {B : Nat} {w w' : World} {G n wd : Nat} {H C : Nat -> Nat} {A : List (List Nat)}
theorem Mat.lt (h:Mat B w G n wd H C A):G<w.heap.size:=by
 obtain⟨cur,h1,_⟩:=h.hdr;exact(Array.getElem?_eq_some_iff.1 h1).1
theorem Mat.cell (h:Mat B w G n wd H C A){i:Nat}(hi:i<n):w.cell? ⟨G,i,none⟩=some (.slice (some ⟨H i,0,none⟩) wd (C i)):=by
 obtain⟨cur,h1,h2⟩:=h.hdr;rw[cell_of_row w G i cur _ (0,0) h1];exact h2 i hi
theorem Mat.free (h:Mat B w G n wd H C A)(i:Nat):w.frozen? ⟨G,i,none⟩=false:=by
 obtain⟨cur,h1,_⟩:=h.hdr;exact frozen_of_row w G i cur _ h1
theorem Mat.el (h:Mat B w G n wd H C A){i j:Nat}(hi:i<n)(hj:j<wd):w.cell? ⟨H i,j,none⟩=some (.int .i64 (FFld.cellAt A i j:Nat)):=(h.row i hi).cell (by rw[h.wid i hi];exact hj)
theorem Mat.below (h:Mat B w G n wd H C A)(hb:Below w.heap.size w w'):Mat B w' G n wd H C A:=by
 have hl:=h.lt;obtain⟨cur,h1,h2⟩:=h.hdr;exact⟨h.len,⟨cur,(hb.block _ hl).trans h1,h2⟩,fun i hi=>(h.row i hi).below hb,h.wid,h.cap,h.low,h.dis,h.gB⟩
theorem grow_set (w:World)(g i:Nat)(v:Value):w.grownBy (w.setCell ⟨g,i,none⟩ v) (some g):=growSet (growRefl _ _) _ _
theorem Mat.put (h:Mat B w G n wd H C A){i:Nat}(hi:i<n)(j v:Nat):Mat B (w.setCell ⟨H i,j,none⟩ (.int .i64 v)) G n wd H C (A.set i ((FFld.rowAt A i).set j v)):=by
 have hl:=h.lt;have hil:i<A.length:=by rw[h.len];exact hi
 obtain⟨cur,h1,h2⟩:=h.hdr;have hg:=grow_set w (H i) j (.int .i64 (v:Nat));refine⟨by rw[List.length_set];exact h.len,⟨cur,(hg.block _ hl (fun e=>(h.low i hi).2 (Option.some.inj e).symm)).trans h1,h2⟩,fun k hk=> ?_,fun k hk=> ?_,h.cap,h.low,h.dis,h.gB⟩
 ·by_cases e:i=k
  ·subst e;rw[FFld.rowAt_put hil];exact(h.row i hi).set v
  ·rw[FFld.rowAt_put_ne e];exact(h.row k hk).other hg (fun e2=>e (h.dis k i hk hi e2).symm)
 ·by_cases e:i=k
  ·subst e;rw[FFld.rowAt_put hil,List.length_set];exact h.wid i hi
  ·rw[FFld.rowAt_put_ne e];exact h.wid k hk
def swapN (i j k:Nat):Nat:=if k=j then i else if k=i then j else k
theorem rowAt_ex {A:List (List Nat)}{i j:Nat}(hi:i<A.length)(hj:j<A.length)(k:Nat):FFld.rowAt (FFld.exch [] A i j) k=FFld.rowAt A (swapN i j k):=by
 unfold FFld.rowAt;rw[FFld.exch_get [] A hi hj];rfl
theorem swapN_lt {i j k n:Nat}(hi:i<n)(hj:j<n)(hk:k<n):swapN i j k<n:=by
 unfold swapN
 split
 ·exact hi
 ·split
  ·exact hj
  ·exact hk
theorem swapN_inj {i j k l:Nat}(h:swapN i j k=swapN i j l):k=l:=by
 unfold swapN at h
 (repeat' split at h)<;>omega
theorem Mat.swap (h:Mat B w G n wd H C A){i j:Nat}(hi:i<n)(hj:j<n):Mat B ((w.setCell ⟨G,j,none⟩ (.slice (some ⟨H i,0,none⟩) wd (C i))).setCell ⟨G,i,none⟩ (.slice (some ⟨H j,0,none⟩) wd (C j))) G n wd (fun k=>H (swapN i j k)) (fun k=>C (swapN i j k)) (FFld.exch [] A i j):=by
 have hil:i<A.length:=by rw[h.len];exact hi
 have hjl:j<A.length:=by rw[h.len];exact hj
 obtain⟨cur,h1,h2⟩:=h.hdr;have hci:i<cur.size:=(Array.getElem?_eq_some_iff.1 (h2 i hi)).1;have hcj:j<cur.size:=(Array.getElem?_eq_some_iff.1 (h2 j hj)).1;have g1:=grow_set w G j (.slice (some ⟨H i,0,none⟩) wd (C i));have hg:=growTrans g1 (grow_set _ G i (.slice (some ⟨H j,0,none⟩) wd (C j)));have k1:=heap_setCell_same w G j cur _ (.slice (some ⟨H i,0,none⟩) wd (C i)) h1;have k2:=heap_setCell_same _ G i _ _ (.slice (some ⟨H j,0,none⟩) wd (C j)) k1;refine⟨by rw[FFld.exch_len];exact h.len,⟨_,k2,fun k hk=> ?_⟩,fun k hk=> ?_,fun k hk=> ?_,fun k hk=>h.cap _ (swapN_lt hi hj hk),fun k hk=>h.low _ (swapN_lt hi hj hk),fun k l hk hl e=>swapN_inj (h.dis _ _ (swapN_lt hi hj hk) (swapN_lt hi hj hl) e),h.gB⟩
 ·rw[Array.getElem?_setIfInBounds]
  by_cases e:i=k
  ·subst e;rw[if_pos rfl,if_pos (by simpa using hci)];unfold swapN
   by_cases e2:i=j
   ·subst e2;rw[if_pos rfl]
   ·rw[if_neg e2,if_pos rfl]
  ·rw[if_neg e,Array.getElem?_setIfInBounds]
   by_cases e2:j=k
   ·subst e2;rw[if_pos rfl,if_pos hcj];unfold swapN;rw[if_pos rfl]
   ·rw[if_neg e2,h2 k hk];unfold swapN;rw[if_neg (fun e=>e2 e.symm),if_neg (fun e2=>e e2.symm)]
 ·rw[rowAt_ex hil hjl];exact(h.row _ (swapN_lt hi hj hk)).other hg (h.low _ (swapN_lt hi hj hk)).2
 ·rw[rowAt_ex hil hjl];exact h.wid _ (swapN_lt hi hj hk)
theorem Mat.sls (h:Mat B w G n wd H C A){k:Nat}(hk:k<=n):Sls w (some ⟨G,0,none⟩) ((A.take k).map ints):=fun i hi=>by
 have hi' :i<k:=by rw[List.length_map,List.length_take] at hi;omega
 have hr:((A.take k).map ints)[i]?.getD []=ints (FFld.rowAt A i):=by
  rw[List.getElem?_map,List.getElem?_take,if_pos hi'];unfold FFld.rowAt
  cases A[i]? <;>rfl
 rw[hr];refine⟨G,0, .slice (some ⟨H i,0,none⟩) wd (C i),rfl,h.lt,?_,(h.row i (by omega)).sl (h.wid i (by omega)).symm (h.cap i (by omega)).1 (h.cap i (by omega)).2⟩;rw[Nat.zero_add];exact h.cell (by omega)
end
def hdB (v:Value):Nat:=v.ownBlock.getD 0
def hdC:Value->Nat| .slice _ _ c=>c|_=>0
def valAt (L:List (Value × List Int))(i:Nat):Value:=(L[i]?.getD (.slice none 0 0,[])).1
theorem Rws.mat {D:FFld.FD}{B:Nat}{w:World}{v:Value}{L:List (Value × List Int)}{rows:List (List Nat)}{n wd:Nat}(h:Rws B w v L)(hd:DisR L)(he:L.map (·.2)=rows.map ints)(hw:FFld.Wfm D wd rows)(hn:rows.length=n)(h1:0<n)(h2:0<wd):
 ∃ G cap H C,v= .slice (some ⟨G,0,none⟩) n cap/\n<=cap/\cap<=maxLen/\Mat B w G n wd H C rows:=by
 have hLn:L.length=n:=by
  have e:=congrArg List.length he;rw[List.length_map,List.length_map] at e;rw[e,hn]
 have row:∀ i,i<n-> ∃ g c,L[i]? =some (.slice (some ⟨g,0,none⟩) wd c,ints (FFld.rowAt rows i))/\B<=g/\g<w.heap.size/\wd<=c/\c<=maxLen/\Mine 3 .i64 B w (.slice (some ⟨g,0,none⟩) wd c) (ints (FFld.rowAt rows i)):=fun i hi=>by
  have hi' :i<L.length:=by omega
  have hm:=h.ok _ (List.getElem_mem hi')
  have e2:(L[i]'hi').2=ints (FFld.rowAt rows i):=by
   have e:=congrArg (fun l=>l[i]?) he;simp only[List.getElem?_map] at e;rw[List.getElem?_eq_getElem hi',List.getElem?_eq_getElem (by omega)] at e;unfold FFld.rowAt;rw[List.getElem?_eq_getElem (by omega)];exact Option.some.inj e
  rw[e2] at hm;have hl:(ints (FFld.rowAt rows i)).length=wd:=by rw[FFld.ints_len];exact(hw.row (by omega)).1
  obtain⟨g,c,ev,hB,hg,hc1,hc2,_⟩:=hm.at (i:=0) (by rw[hl];exact h2);rw[hl] at ev hc1;refine⟨g,c,?_,hB,hg,hc1,hc2,?_⟩
  ·rw[List.getElem?_eq_getElem hi',<- e2,<- ev]
  ·rw[<- ev];exact hm
 rcases h.own with⟨_,e⟩|⟨G,cap,cur,rfl,hBG,hG,hc1,hc2,hc3,ht⟩
 ·have:L.length=0:=by have:=congrArg List.length e;simpa using this
  omega
 ·have hml:(L.map (·.1)).length=n:=by rw[List.length_map,hLn]
  rw[hml] at hc1 ht ⊢;refine⟨G,cap,fun i=>hdB (valAt L i),fun i=>hdC (valAt L i),rfl,hc1,hc3,?_⟩
  have hv:∀ i,i<n-> ∃ g c,valAt L i= .slice (some ⟨g,0,none⟩) wd c/\hdB (valAt L i)=g/\hdC (valAt L i)=c:=fun i hi=>by
   obtain⟨g,c,e,_⟩:=row i hi;refine⟨g,c,?_,?_,?_⟩<;>(unfold valAt;rw[e];rfl)
  have hown:∀ i,i<n->L[i]?.bind (fun r=>r.1.ownBlock)=some (hdB (valAt L i)):=fun i hi=>by
   obtain⟨g,c,e,_⟩:=row i hi;unfold valAt;rw[e];rfl
  refine⟨hn,⟨cur,hG,fun i hi=> ?_⟩,fun i hi=> ?_,fun i hi=>(hw.row (by omega)).1,fun i hi=> ?_,fun i hi=> ?_,fun i j hi hj e=>hd i j _ (hown i hi) (by rw[hown j hj];exact congrArg some e.symm),hBG⟩
  ·obtain⟨g,c,e,r1,r2⟩:=hv i hi;have h3:(cur.toList.take n)[i]? =cur[i]? :=by rw[List.getElem?_take,if_pos hi];simp
   rw[<- h3,ht,List.getElem?_map];obtain⟨g2,c2,e2,_⟩:=row i hi;rw[e2];unfold valAt;rw[e2];rfl
  ·obtain⟨g,c,e,r1,r2,r3,r4,r5⟩:=row i hi;have:hdB (valAt L i)=g:=by unfold valAt;rw[e];rfl
   rw[this];exact r5.wv
  ·obtain⟨g,c,e,r1,r2,r3,r4,r5⟩:=row i hi;have:hdC (valAt L i)=c:=by unfold valAt;rw[e];rfl
   rw[this];exact⟨r3,r4⟩
  ·obtain⟨g,c,e,r1,r2,r3,r4,r5⟩:=row i hi;have e3:hdB (valAt L i)=g:=by unfold valAt;rw[e];rfl
   rw[e3];refine⟨r1,fun e4=> ?_⟩;subst e4;have:=h.ne (.slice (some ⟨g,0,none⟩) wd c,ints (FFld.rowAt rows i)) (List.mem_iff_getElem?.2 ⟨i,e⟩) g rfl;exact this rfl
end
section
open Go Go.RowKit Go.Deep
open FFld (ints)
theorem rlen_zero {rows:List (List Int)}(h:rows.length=0):rlen rows 0=0:=by
 unfold rlen;rw[List.getElem?_eq_none (by omega)];rfl
set_option maxRecDepth 20000 in
theorem rcolumns_any (ao:Option Addr)(rows:List (List Int))(cap:Nat)(w:World)(hcap:rows.length<=cap)(hmax:cap<=maxLen)(h:Sls w ao rows):
 Calls Tryz.prog 118 #[.slice ao rows.length cap] w (fun e w' =>w=w' /\e= .returned (.int .i64 (rlen rows 0:Nat))):=by
 obtain⟨n,hN⟩:∃ n,rows.length=n:=⟨_,rfl⟩;unfold maxLen at hmax
 by_cases h0:n=0
 ·subst h0;have HE:=Km (rlen_zero hN);rw[hN] at hcap ⊢;rw[HE.out];clear h hN
  go_enter Tryz.func118,Tryz.ntmps118
  go_wp2
  go_ret
  exact⟨rfl,rfl⟩
 ·obtain⟨g,o,rv,rfl,hg,hcell,hsl⟩:=h 0 (by omega);obtain⟨a0,c0,rfl,hc0,hm0⟩:=hsl.form;obtain⟨r0,hr0⟩:∃ r,(rows[0]?.getD []).length=r:=⟨_,rfl⟩;have hr:rlen rows 0=r0:=hr0;rw[hr0,Nat.add_zero] at hcell;rw[hr,hN];have e0:((n:Int)==0)=false:=by rw[beq_eq_false_iff_ne];omega
  have hn0:0<n:=by omega
  clear hr hr0 hsl h0 h hc0 hm0 hN
  go_enter Tryz.func118,Tryz.ntmps118
  go_wp2
  go_ret
  exact⟨rfl,rfl⟩
def tamE (D:FFld.FD)(r:List Int)(c:Nat):Nat:=if c<r.length then redN D (r[c]?.getD 0) else 0
def tamR (D:FFld.FD)(r:List Int)(wd:Nat):List Nat:=(List.range wd).map (tamE D r)
def tamM (D:FFld.FD)(rows:List (List Int))(most:Nat):List (List Nat):=(rows.take most).map fun r=>tamR D r (min (rlen rows 0) most)
end
section
open Go Go.RowKit Go.Deep
open FFld (ints)
namespace FFld
theorem addmF_at {D:FD}(xs:List Nat)(s:Nat)(q:List Nat)(c:Nat):∀ (j i:Nat),i<j->s+j<=xs.length->(addmF D xs s q c j)[s+i]?.getD 0=padd D.p D.k (xs[s+i]?.getD 0) (pmul D.p D.k D.m (q[i]?.getD 0) D.k c)
 |0,i,h,_=>by omega
 | j+1,i,h,hl=>by
   simp only[addmF]
   by_cases e:i=j
   ·subst e;rw[List.getElem?_set_self (by rw[addmF_len];omega),addmF_old D xs s q c i (s+i) (.inr (Nat.le_refl _))];rfl
   ·rw[List.getElem?_set_ne (by omega)];exact addmF_at xs s q c j i (by omega) (by omega)
end FFld
def totF (D:FFld.FD)(rows:List (List Nat))(ul:List Nat)(wd:Nat):Nat->List Nat
 |0=>List.replicate wd 0
 |i+1=>FFld.addm D (totF D rows ul wd i) 0 (FFld.rowAt rows i) (ul[i]?.getD 0)
def colS (D:FFld.FD)(rows:List (List Nat))(ul:List Nat)(c:Nat):Nat->Nat
 |0=>0
 |i+1=>FFld.padd D.p D.k (colS D rows ul c i) (FFld.pmul D.p D.k D.m (ul[i]?.getD 0) D.k (FFld.cellAt rows i c))
def dnB (D:FFld.FD)(rows:List (List Nat))(ul bl:List Nat)(wd n:Nat):Bool:=decide ((∀ c,c<wd->colS D rows ul c n=0)/\sopF D ul bl n≠0)
theorem rows_cell {rows:List (List Nat)}{i:Nat} :(rows.map ints)[i]?.getD []=ints (FFld.rowAt rows i):=by
 unfold FFld.rowAt;rw[List.getElem?_map]
 cases rows[i]? <;>rfl
theorem rlen_wd {D:FFld.FD}{wd n:Nat}{rows:List (List Nat)}(hw:FFld.Wfm D wd rows)(hN:rows.length=n)(h0:n=0->wd=0):rlen (rows.map ints) 0=wd:=by
 by_cases hn:n=0
 ·rw[h0 hn];exact rlen_zero (by rw[List.length_map];omega)
 ·unfold rlen;rw[rows_cell,FFld.ints_len];exact(hw.row (i:=0) (by omega)).1
end
section
namespace FFld
theorem cell_exch {A:List (List Nat)}{i j:Nat}(hi:i<A.length)(hj:j<A.length)(k c:Nat):cellAt (exch [] A i j) k c=cellAt A (swapN i j k) c:=by
 unfold cellAt;rw[rowAt_ex hi hj]
theorem cell_mul {D:FD}{n:Nat}{A:List (List Nat)}(hw:Wfm D n A){i:Nat}(hi:i<A.length)(t k:Nat){c:Nat}(hc:c<n):cellAt (mulAt D A i t) k c=if k=i then pmul D.p D.k D.m (cellAt A i c) D.k t else cellAt A k c:=by
 unfold mulAt cellAt
 by_cases e:k=i
 ·subst e;rw[if_pos rfl,rowAt_put hi,rowMul_get _ _ _ _ (by rw[(hw.row hi).1];exact hc)]
 ·rw[if_neg e,rowAt_put_ne (fun h=>e h.symm)]
theorem cell_sub {D:FD}{n:Nat}{A:List (List Nat)}(hw:Wfm D n A){i j:Nat}(hi:i<A.length)(hj:j<A.length)(t k:Nat){c:Nat}(hc:c<n):cellAt (subAt D A i j t) k c=if k=i then padd D.p D.k (cellAt A i c) (pmul D.p D.k D.m (cellAt A j c) D.k (negF D t)) else cellAt A k c:=by
 unfold subAt cellAt
 by_cases e:k=i
 ·subst e;rw[if_pos rfl,rowAt_put hi];unfold addm;have:=addmF_at (D:=D) (rowAt A k) 0 (rowAt A j) (negF D t) (rowAt A j).length c (by rw[(hw.row hj).1];exact hc) (by rw[(hw.row hi).1,(hw.row hj).1];omega);rw[Nat.zero_add] at this;exact this
 ·rw[if_neg e,rowAt_put_ne (fun h=>e h.symm)]
section
variable {D : FD} (hk : PK D.p D.k D.m)
include hk
theorem mul_swap {a b c:Nat}(ha:a<D.p ^ D.k)(hb:b<D.p ^ D.k)(hc:c<D.p ^ D.k):pmul D.p D.k D.m (pmul D.p D.k D.m a D.k c) D.k b=pmul D.p D.k D.m (pmul D.p D.k D.m a D.k b) D.k c:=by
 rw[pmul_assoc hk _ _ _ ha hc hb,pmul_comm hk _ _ hc hb,<- pmul_assoc hk _ _ _ ha hb hc]
def Trk (D:FD)(N n c:Nat)(bl:List Nat)(A R:List (List Nat)):Prop:= ∀ i,i<N->cellAt A i c=sopF D (rowAt R i) bl n
end
section
variable {D : FD} {N n W c : Nat} {bl : List Nat} {A R : List (List Nat)}
end
end FFld
end
section
namespace FFld
theorem ext_getD {l m:List Nat}(h:l.length=m.length)(he:∀ i,i<l.length->l[i]?.getD 0=m[i]?.getD 0):l=m:=by
 apply List.ext_getElem h
 intro i h1 h2;have:=he i h1;rw[List.getElem?_eq_getElem h1,List.getElem?_eq_getElem h2] at this;exact this
theorem take_getD {l:List Nat}{wd i:Nat}(hi:i<wd):(l.take wd)[i]?.getD 0=l[i]?.getD 0:=by rw[List.getElem?_take,if_pos hi]
structure Tru (wd:Nat)(s s' :ESt):Prop where
 cols:s'.cols=s.cols
 rcd:s'.R=s.R
 len:s'.A.length=s.A.length
 row:∀ i,rowAt s.A i=(rowAt s'.A i).take wd
theorem cell_subs {D:FD}(hk:PK D.p D.k D.m){W N n:Nat}{A R:List (List Nat)}(hN:A.length=N)(wa:Wfm D W A)(wr:Wfm D n R){top c:Nat}(hc:c<W)(ht:top<N):∀ i,i<=N-> ∀ k c',k<N->c' <W->
 cellAt (subsF D top c (A,R) i).1 k c' =if k<i/\k≠top then padd D.p D.k (cellAt A k c') (pmul D.p D.k D.m (cellAt A top c') D.k (negF D (cellAt A k c))) else cellAt A k c'
 |0,_,k,c',_,_=>by rw[if_neg (by omega)];rfl
 | i +1,hi,k,c',hkN,hcW=>by
   have ih:=cell_subs hk hN wa wr hc ht i (by omega);have l1:=(subsF_len D top c (A,R) i).1;have w1:=(subsF_wf hk top c (s:=(A,R)) wa wr i).1;simp only[subsF]
   split
   ·rename_i e
    rw[ih k c' hkN hcW]
    by_cases h1:k<i/\k≠top
    ·rw[if_pos h1,if_pos ⟨by omega,h1.2⟩]
    ·rw[if_neg h1,if_neg (fun h2=>h1 ⟨by omega,h2.2⟩)]
   ·rename_i e
    have et:=ih top c' ht hcW;rw[if_neg (fun h=>h.2 rfl)] at et;simp only;rw[cell_sub w1 (by rw[l1];simp only;omega) (by rw[l1];simp only;omega) _ k hcW]
    by_cases h1:k=i
    ·subst h1;have e1:=ih k c' hkN hcW;have e2:=ih k c hkN hc;rw[if_neg (by omega)] at e1 e2;rw[if_pos rfl,if_pos ⟨by omega,e⟩,e1,e2,et]
    ·rw[if_neg h1,ih k c' hkN hcW]
     by_cases h2:k<i/\k≠top
     ·rw[if_pos h2,if_pos ⟨by omega,h2.2⟩]
     ·rw[if_neg h2,if_neg (fun h3=>h2 ⟨by omega,h3.2⟩)]
theorem piv_found {A:List (List Nat)}{c:Nat} :∀ f r,piv A c f r<r+f->cellAt A (piv A c f r) c≠0
 |0,r,h=>by simp[piv] at h
 | f+1,r,h=>by
   simp only[piv] at h ⊢
   split at h
   ·rename_i e
    rw[if_pos e];exact piv_found f (r+1) (by omega)
   ·rename_i e
    rw[if_neg e];exact e
theorem piv_zero {A:List (List Nat)}{c:Nat} :∀ f r,piv A c f r=r+f-> ∀ k,r<=k->k<r+f->cellAt A k c=0
 |0,r,_,k,h1,h2=>by omega
 | f+1,r,h,k,h1,h2=>by
   simp only[piv] at h
   split at h
   ·rename_i e
    by_cases e2:k=r
    ·rw[e2];exact e
    ·exact piv_zero f (r+1) (by omega) k (by omega) (by omega)
   ·omega
structure Ecf (N c:Nat)(s:ESt):Prop where
 low:∀ i,i<s.cols.length->s.cols[i]?.getD 0<c/\cellAt s.A i (s.cols[i]?.getD 0)=1/\ ∀ c',c' <s.cols[i]?.getD 0->cellAt s.A i c' =0
 zero:∀ i,s.cols.length<=i->i<N-> ∀ c',c' <c->cellAt s.A i c' =0
theorem Ecf.step {D:FD}(hD:D.Ok){W N n:Nat}{s:ESt}{c:Nat}(h:Ecf N c s)(ho:EOk D W n N s)(hc:c<W):Ecf N (c+1) (stepF D hD.pre.pk c s):=by
 have hk:=hD.pre.pk;have hp:=piv_le s.A c (s.A.length-s.cols.length) s.cols.length;have hla:=ho.la;have hlr:=ho.lr;have hcl:=ho.cl;have hfd:=piv_found (A:=s.A) (c:=c) (s.A.length-s.cols.length) s.cols.length;have hzr:=piv_zero (A:=s.A) (c:=c) (s.A.length-s.cols.length) s.cols.length;unfold stepF;simp only
 split
 ·rename_i he
  refine⟨fun i hi=> ?_,fun i h1 h2 c' hc' => ?_⟩
  ·obtain⟨a1,a2,a3⟩:=h.low i hi;exact⟨by omega,a2,a3⟩
  ·by_cases e:c' =c
   ·rw[e];exact hzr (by omega) i h1 (by omega)
   ·exact h.zero i h1 h2 c' (by omega)
 ·rename_i hne
  have htop:s.cols.length<N:=by omega
  have hrow:piv s.A c (s.A.length-s.cols.length) s.cols.length<N:=by omega
  have hge:=hp.1;have hx0:=hfd (by omega);clear hfd hzr;generalize piv s.A c (s.A.length-s.cols.length) s.cols.length=row at*;generalize hT:s.cols.length=top at*;have c1:∀ k c',cellAt (exch [] s.A top row) k c' =cellAt s.A (swapN top row k) c' :=fun k c' =>cell_exch (by omega) (by omega) k c'
  have la1:(exch [] s.A top row).length=N:=by rw[exch_len];exact hla
  have w1:=ho.wa.exch (i:=top) (j:=row) (by omega) (by omega);have wr1:=ho.wr.exch (i:=top) (j:=row) (by omega) (by omega)
  have hxe:cellAt (exch [] s.A top row) top c=cellAt s.A row c:=by
   rw[c1]
   congr 1
   unfold swapN
   by_cases e:top=row
   ·rw[if_pos e];exact e
   ·rw[if_neg e,if_pos rfl]
  rw[<- hxe] at hx0
  have hz1:∀ k,top<=k->k<N-> ∀ c',c' <c->cellAt (exch [] s.A top row) k c' =0:=fun k h1 h2 c' hc' =>by
   rw[c1];refine h.zero _ ?_ (swapN_lt htop hrow h2) c' hc';unfold swapN
   split
   ·omega
   ·split<;>omega
  have hl1:∀ k,k<top-> ∀ c',cellAt (exch [] s.A top row) k c' =cellAt s.A k c' :=fun k h1 c' =>by
   rw[c1]
   congr 1
   unfold swapN;rw[if_neg (by omega),if_neg (by omega)]
  generalize exch [] s.A top row=A1 at*;generalize exch [] s.R top row=R1 at*;have hxq:=w1.cell hk top c;have hix:=hD.div_mul (a:=1) (b:=cellAt A1 top c) hk.one_lt hxq hx0;rw[pmul_comm hk _ _ hk.one_lt hxq,pmul_by_one hk _ hxq] at hix;generalize hinv:ppow hk (cellAt A1 top c) (D.q-2)=inv at*;have c2:=fun k c' (hc' :c' <W)=>cell_mul w1 (i:=top) (by omega) inv k hc'
  have la2:(mulAt D A1 top inv).length=N:=by rw[mulAt_len];exact la1
  have w2:=w1.mul hk top inv;have wr2:=wr1.mul hk top inv;have ht2:cellAt (mulAt D A1 top inv) top c=1:=by rw[c2 top c hc,if_pos rfl];exact hix
  have hz2:∀ k,top<=k->k<N-> ∀ c',c' <c->cellAt (mulAt D A1 top inv) k c' =0:=fun k h1 h2 c' hc' =>by
   rw[c2 k c' (by omega)]
   split
   ·rw[hz1 top (Nat.le_refl _) htop c' hc',pmul_comm hk _ _ (Nat.pow_pos hk.p0) (by rw[<- hinv];exact ppow_lt hk _ _),pmul_zero_right hk]
   ·exact hz1 k h1 h2 c' hc'
  have hl2:∀ k,k<top-> ∀ c',c' <W->cellAt (mulAt D A1 top inv) k c' =cellAt s.A k c' :=fun k h1 c' hc' =>by
   rw[c2 k c' hc',if_neg (by omega)];exact hl1 k h1 c'
  generalize mulAt D A1 top inv=A2 at*;generalize mulAt D R1 top inv=R2 at*;have c3:=cell_subs hk la2 w2 wr2 hc htop N (Nat.le_refl _);have hzz:∀ t,t<D.p ^ D.k->pmul D.p D.k D.m 0 D.k t=0:=fun t ht=>by rw[pmul_comm hk _ _ (Nat.pow_pos hk.p0) ht,pmul_zero_right hk]
  have old:∀ k,k<N-> ∀ c',c' <c->cellAt (subsF D top c (A2,R2) N).1 k c' =cellAt A2 k c' :=fun k h1 c' hc' =>by
   rw[c3 k c' h1 (by omega)]
   split
   ·rw[hz2 top (Nat.le_refl _) htop c' hc',hzz (negF D (cellAt A2 k c)) (pscl_lt hk _ _),padd_zero hk _ (w2.cell hk k c')]
   ·rfl
  rw[hla];refine⟨fun i hi=> ?_,fun i h1 h2 c' hc' => ?_⟩
  ·simp only[List.length_append,List.length_singleton] at hi
   by_cases e:i=top
   ·subst e;have ec:(s.cols++ [c])[s.cols.length]?.getD 0=c:=by simp
    rw[<- hT] at*;rw[ec];refine⟨Nat.lt_succ_self _,?_,fun c' hc' => ?_⟩
    ·rw[c3 _ c htop hc,if_neg (fun h=>h.2 rfl)];exact ht2
    ·rw[old _ htop c' hc'];exact hz2 _ (Nat.le_refl _) htop c' hc'
   ·have hi' :i<s.cols.length:=by omega
    obtain⟨a1,a2,a3⟩:=h.low i (by omega);have ec:(s.cols++ [c])[i]?.getD 0=s.cols[i]?.getD 0:=by rw[List.getElem?_append_left hi']
    rw[ec];refine⟨by omega,?_,fun c' hc' => ?_⟩
    ·rw[old i (by omega) _ a1,hl2 i (by omega) _ (by omega)];exact a2
    ·rw[old i (by omega) _ (by omega),hl2 i (by omega) _ (by omega)];exact a3 c' hc'
  ·simp only[List.length_append,List.length_singleton] at h1
   by_cases e:c' =c
   ·subst e;rw[c3 i c' h2 hc,if_pos ⟨h2,by omega⟩,ht2,pmul_comm hk 1 (negF D (cellAt A2 i c')) hk.one_lt (pscl_lt hk _ _),pmul_by_one hk (negF D (cellAt A2 i c')) (pscl_lt hk _ _)];exact padd_neg hk _
   ·rw[old i h2 c' (by omega)];exact hz2 i (by omega) h2 c' (by omega)
theorem Ecf.elim {D:FD}(hD:D.Ok){W N n:Nat}{s:ESt}(h0:s.cols= [])(ho:EOk D W n N s):∀ c,c<=W->Ecf N c (elimF D hD.pre.pk s c)
 |0,_=>⟨fun i hi=>by simp only[elimF] at hi;rw[h0] at hi;simp at hi,fun _ _ _ _ h=>by omega⟩
 |c+1,hc=>(Ecf.elim hD h0 ho c (by omega)).step hD (ho.elim hD.pre.pk c) (by omega)
end FFld
end
section
namespace FFld
def trmN (l:List Nat):Nat->Nat
 |0=>0
 |n+1=>if l[n]?.getD 0=0 then trmN l n else n+1
def trm (l:List Nat):List Nat:=l.take (trmN l l.length)
theorem trmN_le (l:List Nat):∀ n,trmN l n<=n
 |0=>Nat.le_refl _
 | n+1=>by
   simp only[trmN]
   split
   ·have:=trmN_le l n;omega
   ·omega
theorem trmN_is {l:List Nat}{n:Nat}(hz:∀ i,n<=i->l[i]?.getD 0=0)(ht:n=0\/l[n-1]?.getD 0≠0):∀ d,trmN l (n+d)=n
 | 0=>by
   rcases ht with rfl|ht
   ·rfl
   ·cases n with
    |zero=>rfl
    | succ m=>
      simp only[Nat.add_zero,trmN];rw[if_neg (by simpa using ht)]
 | d+1=>by
   rw[<- Nat.add_assoc];simp only[trmN];rw[if_pos (hz _ (by omega))];exact trmN_is hz ht d
theorem trm_is {l:List Nat}{n:Nat}(hn:n<=l.length)(hz:∀ i,n<=i->l[i]?.getD 0=0)(ht:n=0\/l[n-1]?.getD 0≠0):trm l=l.take n:=by
 unfold trm;obtain⟨d,hd⟩:∃ d,l.length=n+d:=⟨l.length-n,by omega⟩;rw[hd,trmN_is hz ht d]
theorem trmN_top (l:List Nat):∀ n,trmN l n=0\/l[trmN l n-1]?.getD 0≠0
 |0=> .inl rfl
 | n+1=>by
   simp only[trmN]
   split
   ·exact trmN_top l n
   ·rename_i h
    exact .inr (by simpa using h)
theorem trmN_zero (l:List Nat):∀ n i,trmN l n<=i->i<n->l[i]?.getD 0=0
 |0,i,_,h=>by omega
 | n+1,i,h1,h2=>by
   simp only[trmN] at h1
   split at h1
   ·rename_i e
    by_cases e2:i=n
    ·rw[e2];exact e
    ·exact trmN_zero l n i h1 (by omega)
   ·omega
def Tz (l:List Nat):Prop:=l.length=0\/l[l.length-1]?.getD 0≠0
theorem trm_len (l:List Nat):(trm l).length=trmN l l.length:=by
 unfold trm;rw[List.length_take];have:=trmN_le l l.length;omega
theorem trm_tz (l:List Nat):Tz (trm l):=by
 unfold Tz;rw[trm_len]
 rcases trmN_top l l.length with h|h
 ·exact .inl h
 ·by_cases h0:trmN l l.length=0
  ·exact .inl h0
  ·right;unfold trm;rw[take_getD (by omega)];exact h
theorem trm_self {l:List Nat}(h:Tz l):trm l=l:=by
 rw[trm_is (n:=l.length) (Nat.le_refl _) (fun i hi=>by rw[List.getElem?_eq_none hi];rfl) h,List.take_of_length_le (Nat.le_refl _)]
theorem trm_lt {q:Nat}{l:List Nat}(h:∀ a∈l,a<q):∀ a∈trm l,a<q:=fun a ha=>h a (List.mem_of_mem_take ha)
def quoF (D:FD)(ql:List Nat)(inv:Nat)(pl:List Nat):List Nat:=if pl.length<ql.length then [] else(List.range (pl.length+1-ql.length)).map fun i=>divQ D ql inv (pl.length+1-ql.length) pl (pl.length+1-ql.length-1-i)
def rstF (D:FD)(ql:List Nat)(inv:Nat)(pl:List Nat):List Nat:=if pl.length<ql.length then pl else trm (divF D ql inv (pl.length+1-ql.length) pl (pl.length+1-ql.length))
theorem quoF_len (D:FD)(ql:List Nat)(inv:Nat)(pl:List Nat):(quoF D ql inv pl).length<=pl.length+1-ql.length:=by
 unfold quoF
 split
 ·exact Nat.zero_le _
 ·simp
theorem rstF_lt {D:FD}(hk:PK D.p D.k D.m)(ql:List Nat)(inv:Nat){pl:List Nat}(hp:∀ a∈pl,a<D.p ^ D.k):∀ a∈rstF D ql inv pl,a<D.p ^ D.k:=by
 unfold rstF
 split
 ·exact hp
 ·exact trm_lt (divF_lt hk _ _ _ _ hp)
theorem rstF_tz (D:FD)(ql:List Nat)(inv:Nat){pl:List Nat}(hp:Tz pl):Tz (rstF D ql inv pl):=by
 unfold rstF
 split
 ·exact hp
 ·exact trm_tz _
theorem addm_at (D:FD)(xs:List Nat)(s:Nat)(q:List Nat)(c:Nat){i:Nat}(hi:i<q.length)(hl:s+q.length<=xs.length):(addm D xs s q c)[s+i]?.getD 0=padd D.p D.k (xs[s+i]?.getD 0) (pmul D.p D.k D.m (q[i]?.getD 0) D.k c):=by
 unfold addm;exact addmF_at (D:=D) xs s q c q.length i hi hl
section
variable {D : FD} (hD : D.Ok) {ql pl : List Nat} {inv n : Nat}
include hD
theorem div_skip (hq:∀ a∈ql,a<D.p ^ D.k)(hp:∀ a∈pl,a<D.p ^ D.k)(hi:inv<D.p ^ D.k)(hn:n+ql.length=pl.length+1)(h1:1<=ql.length){t l:Nat}(hz:∀ j,l<=j->(divF D ql inv n pl t)[j]?.getD 0=0):
 ∀ d,t+d<=n->(∀ s,t<=s->s<t+d->l<=n-1-s+(ql.length-1))->divF D ql inv n pl (t+d)=divF D ql inv n pl t/\ ∀ s,t<=s->s<t+d->divQ D ql inv n pl s=0
 |0,_,_=>⟨rfl,fun s h1 h2=>by omega⟩
 | d+1,hd,hs=>by
   have hk:=hD.pre.pk;obtain⟨e1,e2⟩:=div_skip hq hp hi hn h1 hz d (by omega) fun s q1 q2=>hs s q1 (by omega)
   have hzz:pmul D.p D.k D.m 0 D.k inv=0:=by rw[pmul_comm hk _ _ (Nat.pow_pos hk.p0) hi,pmul_zero_right hk]
   have q0:divQ D ql inv n pl (t+d)=0:=by
    unfold divQ;rw[e1,hz _ (hs (t+d) (by omega) (by omega)),hzz]
   refine⟨?_,fun s q1 q2=> ?_⟩
   ·show addm D (divF D ql inv n pl (t+d)) (n-1-(t+d)) ql (pscl D.p D.k (D.p-1) (divQ D ql inv n pl (t+d)))=_
    rw[q0,pscl_nil hk,e1];exact addmF_zero hk _ _ _ (divF_lt hk _ _ _ _ hp) (by rw[divF_len];omega)
   ·by_cases e:s=t+d
    ·rw[e];exact q0
    ·exact e2 s q1 (by omega)
theorem div_top (hq:∀ a∈ql,a<D.p ^ D.k)(hp:∀ a∈pl,a<D.p ^ D.k)(hn:n+ql.length=pl.length+1)(h1:1<=ql.length)(h0:ql[ql.length-1]?.getD 0≠0)(hi:inv=ppow hD.pre.pk (ql[ql.length-1]?.getD 0) (D.q-2)){t:Nat}(ht:t<n)
 (hz:∀ j,n-1-t+ql.length<=j->(divF D ql inv n pl t)[j]?.getD 0=0):∀ j,n-1-t+(ql.length-1)<=j->(divF D ql inv n pl (t+1))[j]?.getD 0=0:=fun j hj=>by
 have hk:=hD.pre.pk;have hx:=divF_lt hk ql inv n t hp;have hl:=divF_len D ql inv n pl t;have hiq:inv<D.p ^ D.k:=by rw[hi];exact ppow_lt hk _ _
 show(addm D (divF D ql inv n pl t) (n-1-t) ql (pscl D.p D.k (D.p-1) (divQ D ql inv n pl t)))[j]?.getD 0=0
 by_cases e:j=n-1-t+(ql.length-1)
 ·subst e;rw[addm_at D _ _ _ _ (by omega) (by omega)];have htop:(divF D ql inv n pl t)[n-1-t+(ql.length-1)]?.getD 0<D.p ^ D.k:=getD_lt (Nat.pow_pos hk.p0) hx _;have hqt:ql[ql.length-1]?.getD 0<D.p ^ D.k:=getD_lt (Nat.pow_pos hk.p0) hq _;unfold divQ;generalize(divF D ql inv n pl t)[n-1-t+(ql.length-1)]?.getD 0=x at*;generalize ql[ql.length-1]?.getD 0=y at*
  have e1:pmul D.p D.k D.m y D.k (pscl D.p D.k (D.p-1) (pmul D.p D.k D.m x D.k inv))=pscl D.p D.k (D.p-1) (pmul D.p D.k D.m (pmul D.p D.k D.m x D.k y) D.k inv):=by
   have:=take_off hk (t:=pmul D.p D.k D.m x D.k inv) (y:=y) (pmul_lt hk _ _ _) hqt;unfold negF at this;rw[<- this,mul_swap hk htop hqt hiq]
  rw[e1,hi,hD.div_mul htop hqt h0];exact padd_neg hk x
 ·have:=addmF_old D (divF D ql inv n pl t) (n-1-t) ql (pscl D.p D.k (D.p-1) (divQ D ql inv n pl t)) ql.length j (.inr (by omega));unfold addm;rw[this];exact hz j (by omega)
end
end FFld
end
end Go.Proofs.YtdnheaafcbihbaaGreat
