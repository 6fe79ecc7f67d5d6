/-
  Texts of the proof, merged by program: Mine Bas Rdg Rti Rre Rad.
-/
import Derived.Test.YtdnheaafcbihbaaGreatDc3
import Derived.Test.YtdnheaafcbihbaaGreatProg
import Derived.Deep.LoopGhost
import Derived.Deep.DeepCutAuto
import Derived.Deep.DeepMust
import Derived.Deep.DeepFit
import Derived.Deep.RegionHeld3
import Derived.Deep.RegionWith
import Derived.Deep.QuietTactic
import Derived.BigQuiet
import Derived.Deep.Upon
set_option linter.unusedSimpArgs false
set_option linter.unusedVariables false
set_option maxHeartbeats 16000000
namespace Go.Proofs.YtdnheaafcbihbaaGreat
section
open Go Go.RowKit
def Mine (E:TypeId)(K:IntKind)(B:Nat)(w:World)(v:Value)(xs:List Int):Prop:=
 (v= .slice none 0 0/\xs= [])\/
   ∃ g cap cur,v= .slice (some ⟨g,0,none⟩) xs.length cap/\B<=g/\w.heap[g]? =some (.cells cur E (0,0))/\xs.length<=cap/\cap<=cur.size/\cap<=maxLen/\cur.toList.take xs.length=xs.map (Value.int K)
section
variable {E : TypeId} {K : IntKind} {B : Nat} {w w' : World} {v : Value} {xs : List Int}
theorem Mine.nil (E:TypeId)(K:IntKind)(B:Nat)(w:World):Mine E K B w (.slice none 0 0) []:= .inl ⟨rfl,rfl⟩
theorem Mine.sl (h:Mine E K B w v xs):Sl K w v xs:=by
 rcases h with⟨rfl,rfl⟩|⟨g,cap,cur,rfl,hB,hg,hn,hc,hm,ht⟩
 ·exact Sl.nil _ _
 ·refine⟨_,cap,rfl,hn,hm,fun i hi=>⟨g,0,rfl,(Array.getElem?_eq_some_iff.1 hg).1,?_⟩⟩;rw[Nat.zero_add,cell_of_row w g i cur E (0,0) hg];have:(cur.toList.take xs.length)[i]? =cur[i]? :=by rw[List.getElem?_take,if_pos hi];simp
  rw[<- this,ht];simp[hi]
theorem Mine.own (h:Mine E K B w v xs):∀ k,v.ownBlock=some k->B<=k/\k<w.heap.size:=by
 intro k hk
 rcases h with⟨rfl,rfl⟩|⟨g,cap,cur,rfl,hB,hg,hn,hc,hm,ht⟩
 ·simp[Value.ownBlock] at hk
 ·simp[Value.ownBlock] at hk;subst hk;exact⟨hB,(Array.getElem?_eq_some_iff.1 hg).1⟩
theorem Mine.kept {row:Option Nat}(h:Mine E K B w v xs)(hg:w.grownBy w' row)(hne:v.ownBlock=none\/v.ownBlock≠row):Mine E K B w' v xs:=by
 rcases h with h|⟨g,cap,cur,rfl,hB,hgg,rest⟩
 ·exact .inl h
 ·refine .inr ⟨g,cap,cur,rfl,hB,?_,rest⟩;rw[hg.block g (Array.getElem?_eq_some_iff.1 hgg).1 (by simpa[Value.ownBlock] using hne)];exact hgg
theorem Mine.below (h:Mine E K B w v xs)(hb:Below w.heap.size w w'):Mine E K B w' v xs:=
 h.kept (row:=none) ⟨hb.os,hb.tape,hb.output,hb.size,fun i hi _=>hb.block i hi⟩ (by cases hv:v.ownBlock<;>simp)
theorem Mine.alloc (h:Mine E K B w v xs)(o:Obj):Mine E K B (w.alloc o) v xs:=h.kept (World.grownBy_alloc w o none) (by cases hv:v.ownBlock<;>simp)
theorem Mine.lower {B' :Nat}(h:Mine E K B w v xs)(hB:B' <=B):Mine E K B' w v xs:=by
 rcases h with h|⟨g,cap,cur,rfl,hb,rest⟩
 ·exact .inl h
 ·exact .inr ⟨g,cap,cur,rfl,by omega,rest⟩
theorem Mine.at (h:Mine E K B w v xs){i:Nat}(hi:i<xs.length):∃ g cap,v= .slice (some ⟨g,0,none⟩) xs.length cap/\B<=g/\g<w.heap.size/\xs.length<=cap/\cap<=maxLen/\w.cell? ⟨g,i,none⟩=some (.int K (xs[i]?.getD 0))/\w.frozen? ⟨g,i,none⟩=false/\
 (∀ x,Mine E K B (w.setCell ⟨g,i,none⟩ (.int K x)) v (xs.set i x)):=by
 rcases h with⟨rfl,rfl⟩|⟨g,cap,cur,rfl,hB,hg,hn,hc,hm,ht⟩
 ·simp at hi
 ·have hcell:w.cell? ⟨g,i,none⟩=some (.int K (xs[i]?.getD 0)):=by
   rw[cell_of_row w g i cur E (0,0) hg];have:(cur.toList.take xs.length)[i]? =cur[i]? :=by rw[List.getElem?_take,if_pos hi];simp
   rw[<- this,ht];simp[hi]
  refine⟨g,cap,rfl,hB,(Array.getElem?_eq_some_iff.1 hg).1,hn,hm,hcell,frozen_of_row w g i cur E hg,fun x=> .inr ⟨g,cap,cur.setIfInBounds i (.int K x),by simp,hB,heap_setCell_same w g i cur E _ hg,by simpa using hn,by simpa using hc,hm,?_⟩⟩;rw[Array.toList_setIfInBounds,List.length_set,List.take_set,ht,List.map_set]
theorem Mine.of_owns {n:Nat}(h:w.ownsRow B E 1 v n (xs.map (Value.int K))):Mine E K B w v xs:=by
 have hl:xs.length=n:=by simpa using h.1
 rcases h.2 with⟨rfl,h0⟩|⟨g,cap,cur,rfl,hg,hh,hn,hm,hc,ht⟩
 ·have:xs= []:=by cases xs with|nil=>rfl|cons=>simp at hl;omega
  exact .inl ⟨rfl,this⟩
 ·exact .inr ⟨g,cap,cur,by rw[hl],hg,hh,by omega,by omega,hm,by rw[hl];simpa using ht⟩
end
theorem run_append_mine {P:Program}(w:World)(t ty E:TypeId)(K:IntKind)(bytes:Nat)(ht:P.underlying t=some (.slice E))
 (hinfo:(P.info? E).map (fun i=>(i.zero,i.size,i.bytes))=some (some (.int K 0),1,bytes)) (B:Nat) (v:Value) (xs:List Int) (hM:Mine E K B w v xs) (hB:B<=w.heap.size)
 (a:Addr) (c:Nat) (news:List Int) (hnews:∀ j u,(news.map (Value.int K))[j]? =some u->w.cell? (a.add j)=some u)
 (hb:(xs.length+news.length)*bytes<=140737488355328) (hm:xs.length+news.length<=maxLen):
 ∃ v' w',(Builtin.append_ #[t,t] ty #[v, .slice (some a) news.length c]).run P w= .ok v' w' /\Mine E K B w' v' (xs++news)/\w.grownBy w' v.ownBlock/\(v'.ownBlock=v.ownBlock\/Frm w.heap.size v'):=by
 obtain⟨i,hi,hz,hs,hby⟩:=info_parts hinfo
 have hone:∀ u∈news.map (Value.int K),u.oneCell' =true:=by
  intro u hu;obtain⟨a,_,rfl⟩:=List.mem_map.1 hu;rfl
 have hl:(news.map (Value.int K)).length=news.length*1:=by simp
 rcases hM with⟨rfl,rfl⟩|⟨g,cap,cur,rfl,hBg,hg,hn,hc,hcm,htk⟩
 ·obtain⟨v',w',hr,h2,h3,_⟩:=run_append_own (P:=P) w w.heap.size t ty E i (.int K 0) 1 bytes ht hi hz hs hby rfl (by decide) (.slice none 0 0) 0 [] (World.ownsRow_nil w w.heap.size E 1) a news.length c (news.map (Value.int K)) hl hnews hone (by simpa using hm) (by simpa using hb) (Nat.le_refl _);exact⟨v',w',hr,(Mine.of_owns (n:=0+news.length) (by simpa using h2)).lower hB,h3, .inr (fun k hk=>(h2.lt k hk).1)⟩
 ·by_cases hroom:xs.length+news.length<=cap
  ·have hfit:xs.length*i.size+(news.map (Value.int K)).length<=cur.size:=by rw[hs];simp;omega
   have hr:=run_append_room (P:=P) w t ty E i ht hi g xs.length cap cur hg a news.length c (news.map (Value.int K)) (by rw[hs];exact hl) hnews hone hroom hfit;rw[hs,Nat.mul_one] at hr;refine⟨_,_,hr, .inr ⟨g,cap,_,by simp,hBg,setRow_heap w g cur _ E _ hg,by simpa using hroom,?_,hcm,?_⟩,⟨rfl,rfl,rfl,by simp,fun k _ hk=>setRow_other w g k _ (fun e=>hk (by simp[Value.ownBlock,e]))⟩, .inl rfl⟩
   ·simp only[List.size_toArray,List.length_append,List.length_take,List.length_drop,Array.length_toList,List.length_map];omega
   ·rw[htk,List.length_append,List.map_append];have:(xs.map (Value.int K)++news.map (Value.int K)).length=xs.length+news.length:=by simp
    rw[<- this];exact List.take_left
  ·have holds:∀ j u,(xs.map (Value.int K))[j]? =some u->w.cell? ((⟨g,0,none⟩:Addr).add j)=some u:=by
    intro j u hu;have e:(⟨g,0,none⟩:Addr).add j=⟨g,j,none⟩:=by unfold Addr.add;split<;>simp_all
    rw[e,cell_of_row w g j cur E (0,0) hg]
    have hj:j<xs.length:=by
     apply Classical.byContradiction
     intro hc';simp[hc'] at hu
    rw[<- htk,List.getElem?_take,if_pos hj] at hu
    simpa using hu
   obtain⟨v',w',hr,h2,h3⟩:=run_append_arg_grows (P:=P) w t ty E i (.int K 0) 1 bytes ht hi hz hs hby rfl (by decide) ⟨g,0,none⟩ xs.length cap (xs.map (Value.int K)) (by simp) holds a news.length c (news.map (Value.int K)) hl hnews (by omega) hm hb;refine⟨v',w',hr,?_,⟨h3.os,h3.tape,h3.output,h3.size,fun k hk _=>h3.block k hk (by simp)⟩, .inr (fun k hk=>(h2.lt k hk).1)⟩;exact(Mine.of_owns (n:=xs.length+news.length) (by simpa using h2)).lower hB
theorem wpList_append_mine {P:Program}(w:World){ops:Array Oper}{rest:List Oper}{o:Oper}{a:Act}{Q:Exit->Act->World->Prop}(hgd:o.guard=none)(s x:Operand)(t:TypeId)
 (ho:o.op= .call {callee:= .builtin .append,args:= #[s,x],argTypes:= #[t,t]}) (E:TypeId) (K:IntKind) (bytes:Nat) (ht:P.underlying t=some (.slice E))
 (hinfo:(P.info? E).map (fun i=>(i.zero,i.size,i.bytes))=some (some (.int K 0),1,bytes)) (B:Nat) (v:Value) (xs:List Int) (hs:a.eval s=v) (hM:Mine E K B w v xs) (hB:B<=w.heap.size)
 (ad:Addr) (m c:Nat) (news:List Int) (hx:a.eval x= .slice (some ad) m c) (hl:news.length=m) (hnews:∀ j u,(news.map (Value.int K))[j]? =some u->w.cell? (ad.add j)=some u)
 (hb:(xs.length+news.length)*bytes<=140737488355328) (hm:xs.length+news.length<=maxLen)
 (h:∀ v' w',Mine E K B w' v' (xs++news)->w.grownBy w' v.ownBlock->(v'.ownBlock=v.ownBlock\/Frm w.heap.size v')->wpList P ops Q rest (a.put o.dst v') w'):wpList P ops Q (o::rest) a w:=by
 refine wpList_plain hgd fun K' hK=> ?_
 subst hl;obtain⟨v',w',hrun,r1,r2,r3⟩:=run_append_mine (P:=P) w t o.type E K bytes ht hinfo B v xs hM hB ad c news hnews hb hm;unfold Oper.wp;simp[execOp,ho,resolve,invoke,builtin,hs,hx,hrun,Result.andThen];exact hK _ _ (h v' w' r1 r2 r3)
theorem new_one {K:IntKind}{w:World}{b o:Nat}{x:Int}(h:w.cell? ⟨b,o,none⟩=some (.int K x)):∀ j u,([x].map (Value.int K))[j]? =some u->w.cell? ((⟨b,o,none⟩:Addr).add j)=some u:=by
 intro j u hu
 cases j with
 |zero=>simp at hu;subst hu;rw[<- h];congr 1
 |succ j=>simp at hu
structure Kept (p:Prop):Prop where
 out:p
theorem sA {α:Type}:(∀ (xs:List α)(i:Nat)(h:i<xs.toArray.size),xs.toArray[i]=xs[i]'(by simpa using h))/\(∀ (a:α)(l:List α)(i:Nat)(h:i+1<(a::l).length),(a::l)[i+1]=l[i]'(by simpa using h))/\(∀ (a:α)(l:List α)(h:0<(a::l).length),(a::l)[0]=a)/\(∀ (l:List α)(i:Nat)(a:α),l.toArray.setIfInBounds i a=(l.set i a).toArray)/\(∀ (a b:α)(l:List α),(a::l).set 0 b=b::l)/\(∀ (a b:α)(l:List α)(n:Nat),(a::l).set (n+1) b=a::l.set n b):=⟨fun _ _ _=>List.getElem_toArray _,fun _ _ _ _=>rfl,fun _ _ _=>rfl,fun _ _ _=>by simp,fun _ _ _=>rfl,fun _ _ _ _=>rfl⟩
theorem Km {P:Prop}(h:P):Kept P:=⟨h⟩
theorem growRefl (w:World)(r:Option Nat):w.grownBy w r:=⟨rfl,rfl,rfl,Nat.le_refl _,fun _ _ _=>rfl⟩
theorem growTrans {a b c:World}{r:Option Nat}(h:a.grownBy b r)(k:b.grownBy c r):a.grownBy c r:=
 ⟨k.os.trans h.os,k.tape.trans h.tape,k.output.trans h.output,Nat.le_trans h.size k.size,fun i hi hne=>(k.block i (Nat.lt_of_lt_of_le hi h.size) hne).trans (h.block i hi hne)⟩
theorem growSet {w w' :World}{g:Nat}(h:w.grownBy w' (some g))(i:Nat)(v:Value):w.grownBy (w'.setCell ⟨g,i,none⟩ v) (some g):=
 growTrans h ⟨rfl,rfl,rfl,by simp[World.setCell],fun k _ hk=>heap_setCell_other w' ⟨g,i,none⟩ k v (fun e=>hk (by rw[e]))⟩
theorem growBelow {w w' :World}{r:Option Nat}(h:Below w.heap.size w w'):w.grownBy w' r:=⟨h.os,h.tape,h.output,h.size,fun i hi _=>h.block i hi⟩
theorem belowGrow {w0 w w' :World}{g:Nat}(h:w.grownBy w' (some g))(hb:Below w0.heap.size w0 w)(hg:w0.heap.size<=g):Below w0.heap.size w0 w' :=
 hb.grown h hb.size (fun k hk=>by cases hk;exact hg)
theorem belowCell {w w' :World}{b o:Nat}{v:Value}(h:Below w.heap.size w w')(hc:w.cell? ⟨b,o,none⟩=some v):w'.cell? ⟨b,o,none⟩=some v:=
 (h.cell (p:=⟨b,o,none⟩) (World.block_lt_of_cell? w _ hc)).trans hc
theorem belowDrew (w:World):Below w.heap.size w w.drew:=⟨rfl,rfl,rfl,Nat.le_refl _,fun _ _=>rfl⟩
theorem heap_last (W:World)(o:Obj)(n:Nat)(h:W.heap.size=n):(W.alloc o).heap[n]? =some o:=by subst h;exact heap_alloc_new W o
theorem two_cells {w:World}{g:Nat}{a b:Value}{T:TypeId}(h:w.heap[g]? =some (.cells #[a,b] T (0,0))):
 w.cell? ⟨g,0,none⟩=some a/\w.cell? ⟨g,1,none⟩=some b/\w.frozen? ⟨g,0,none⟩=false/\w.frozen? ⟨g,1,none⟩=false:=
 ⟨by rw[cell_of_row w g 0 _ T (0,0) h];rfl,by rw[cell_of_row w g 1 _ T (0,0) h];rfl,frozen_of_row w g 0 _ T h,frozen_of_row w g 1 _ T h⟩
theorem two_set {w:World}{g:Nat}{a b:Value}{T:TypeId}(h:w.heap[g]? =some (.cells #[a,b] T (0,0)))(u v:Value):
 ((w.setCell ⟨g,0,none⟩ u).setCell ⟨g,1,none⟩ v).heap[g]? =some (.cells #[u,v] T (0,0)):=by
 have h1:=heap_setCell_same w g 0 #[a,b] T u h;have h2:=heap_setCell_same _ g 1 _ T v h1
 simpa using h2
theorem three_cells {w:World}{g:Nat}{a b c:Value}{T:TypeId}(h:w.heap[g]? =some (.cells #[a,b,c] T (0,0))):
 w.cell? ⟨g,0,none⟩=some a/\w.cell? ⟨g,1,none⟩=some b/\w.cell? ⟨g,2,none⟩=some c/\w.frozen? ⟨g,0,none⟩=false/\w.frozen? ⟨g,1,none⟩=false/\w.frozen? ⟨g,2,none⟩=false:=
 ⟨by rw[cell_of_row w g 0 _ T (0,0) h];rfl,by rw[cell_of_row w g 1 _ T (0,0) h];rfl,by rw[cell_of_row w g 2 _ T (0,0) h];rfl,frozen_of_row w g 0 _ T h,frozen_of_row w g 1 _ T h,frozen_of_row w g 2 _ T h⟩
def Bxs (w0:World)(os:List Obj)(W:World):Prop:=Below w0.heap.size w0 W/\w0.heap.size+os.length<=W.heap.size/\ ∀ i o,os[i]? =some o->W.heap[w0.heap.size+i]? =some o
theorem Bxs.start (w:World):Bxs w [] w:=⟨Below.refl _ _,by simp,fun i o h=>by simp at h⟩
theorem Bxs.alloc {w0 W:World}{os:List Obj}(h:Bxs w0 os W)(hs:W.heap.size=w0.heap.size+os.length)(o:Obj):Bxs w0 (os++ [o]) (W.alloc o):=by
 refine⟨h.1.alloc h.1.size _,by simp;omega,fun i o' hi=> ?_⟩
 by_cases hl:i<os.length
 ·rw[List.getElem?_append_left hl] at hi;exact(heap_alloc_old _ _ (by omega)).trans (h.2.2 i o' hi)
 ·rw[List.getElem?_append_right (by omega)] at hi
  have:i-os.length=0:=by
   apply Classical.byContradiction
   intro hc;rw[List.getElem?_eq_none (by simp;omega)] at hi
   cases hi
  rw[this] at hi;simp only[List.getElem?_cons_zero,Option.some.injEq] at hi;subst hi;have e:w0.heap.size+i=W.heap.size:=by omega
  rw[e];exact heap_alloc_new W _
theorem Bxs.below {w0 W W' :World}{os:List Obj}(h:Bxs w0 os W)(hb:Below W.heap.size W W'):Bxs w0 os W' :=
 ⟨h.1.trans (hb.mono h.1.size),Nat.le_trans h.2.1 hb.size,fun i o hi=>(hb.block _ (Array.getElem?_eq_some_iff.1 (h.2.2 i o hi)).1).trans (h.2.2 i o hi)⟩
theorem Bxs.drew {w0 W:World}{os:List Obj}(h:Bxs w0 os W):Bxs w0 os W.drew:=h.below (belowDrew W)
theorem Bxs.b0 {w0 W:World}{o:Obj}{os:List Obj}(h:Bxs w0 (o::os) W):W.heap[w0.heap.size]? =some o:=h.2.2 0 o rfl
theorem Bxs.b1 {w0 W:World}{o o1:Obj}{os:List Obj}(h:Bxs w0 (o::o1::os) W):W.heap[w0.heap.size+1]? =some o1:=h.2.2 1 o1 rfl
theorem Bxs.l1 {w0 W:World}{o:Obj}{os:List Obj}(h:Bxs w0 (o::os) W):w0.heap.size<W.heap.size:=(Array.getElem?_eq_some_iff.1 h.b0).1
theorem Bxs.grown {w0 W W' :World}{os:List Obj}{row:Option Nat}(h:Bxs w0 os W)(hg:W.grownBy W' row)(hr:∀ k,row=some k->w0.heap.size+os.length<=k):Bxs w0 os W' :=
 ⟨h.1.grown hg h.1.size (fun k hk=>by have:=hr k hk;omega),Nat.le_trans h.2.1 hg.size,fun i o hi=>by
  have hl:=h.2.1;have hi' :i<os.length:=(List.getElem?_eq_some_iff.1 hi).1;rw[hg.block (w0.heap.size+i) (by omega) (fun e=>by have:=hr _ e.symm;omega)]
  exact h.2.2 i o hi⟩
theorem info_i64:(Tryz.prog.info? 3).map (fun i=>(i.zero,i.size,i.bytes))=some (some (.int .i64 0),1,8):=by kernel_rfl
def RB (w:World)(v:Value)(e:Ending)(w' :World):Prop:=Below w.heap.size w w' /\e= .returned v
def RQ (w:World)(v:Value)(e:Ending)(w' :World):Prop:=e= .returned v/\ ∃ m,w' =w.drewN m
theorem Mine.upto {E:TypeId}{K:IntKind}{B:Nat}{w:World}{g n cap:Nat}{xs:List Int}(h:Mine E K B w (.slice (some ⟨g,0,none⟩) xs.length cap) xs)(hn:n<=xs.length):Mine E K B w (.slice (some ⟨g,0,none⟩) n cap) (xs.take n):=by
 rcases h with⟨e,_⟩|⟨g',cap',cur,e,hB,hg,h1,h2,h3,h4⟩
 ·cases e
 ·simp only[Value.slice.injEq,Option.some.injEq,Addr.mk.injEq,and_true,true_and] at e;obtain⟨rfl,rfl⟩:=e;have hl:(xs.take n).length=n:=by simp;omega
  refine .inr ⟨g,cap,cur,by rw[hl],hB,hg,by omega,h2,h3,?_⟩;rw[hl,List.map_take,<- h4,List.take_take,Nat.min_eq_left hn]
def sliceLen:Value->Nat| .slice _ k _=>k|_=>0
theorem w64 {n:Int}(h0:0<=n)(h1:n<=4611686018427387904):wrap64 n=n:=by unfold wrap64;omega
theorem wi {n:Int}(h0:0<=n)(h1:n<=4611686018427387904):IntKind.i64.wrap n=n:=by rw[IntKind.wrap_i64];omega
theorem wmul {a b c:Nat}(h:a*b=c)(hc:c<=1152921504606846976):wrap64 ((a:Int)*b)=c:=by rw[<- Int.natCast_mul,h];exact w64 (by omega) (by omega)
theorem wimul {a b c:Nat}(h:a*b=c)(hc:c<=1152921504606846976):IntKind.i64.wrap ((a:Int)*b)=c:=by rw[<- Int.natCast_mul,h];exact wi (by omega) (by omega)
theorem nmul_le {a b A B:Nat}(h1:a<=A)(h2:b<=B):a*b<=A*B:=Nat.mul_le_mul h1 h2
theorem imul_le {a b A B:Int}(h0:0<=a)(h1:a<=A)(h2:0<=b)(h3:b<=B):a*b<=A*B:=Int.mul_le_mul h1 h3 h2 (Int.le_trans h0 h1)
theorem imul_nn {a b:Int}(h0:0<=a)(h2:0<=b):0<=a*b:=Int.mul_nonneg h0 h2
end
section
open Go Go.RowKit
open FFld (ints)
def DigRet (p n:Nat)(w:World)(e:Ending)(w' :World):Prop:=Below w.heap.size w w' /\ ∃ v l,e= .returned v/\Mine 3 .i64 w.heap.size w' v (ints l)/\FFld.Digs p n l
set_option maxRecDepth 20000 in
theorem rdigits_any (n p:Nat)(w:World)(hp:2<=p)(hp1:p<=65536)(hn:n<1099511627776):
 Calls Tryz.prog 170 #[.int .i64 n, .int .i64 p] w (DigRet p n w):=by
 go_enter Tryz.func170,Tryz.ntmps170
 go_wp2
 go_loopw [0,5] (fun c o wr=> ∃ (cur:Nat) (l:List Nat),c= .int .i64 cur/\cur<=n/\l.length<=41/\Kept (FFld.DgAt p n l cur)/\Kept (Mine 3 .i64 w.heap.size wr o (ints l))/\Kept (Below w.heap.size w wr)) (fun c _ _=>(intOf c).toNat)
 case atStart=>exact⟨n,[],rfl,by omega,by simp,⟨FFld.DgAt.start p n⟩,⟨Mine.nil _ _ _ _⟩,⟨Below.refl _ _⟩⟩
 case round=>
  obtain⟨cur,l,rfl,hc,hl,hat,hm,hbl⟩:=hrel
  by_cases h0:0<cur
  ·have hlen:l.length<=40:=FFld.len_of_pow (hat.out.len hp h0) (Nat.le_of_lt hn);have HNX:=Km (hat.out.next hp h0);obtain⟨d,hd⟩:∃ d,cur%p=d:=⟨_,rfl⟩;obtain⟨q,hq⟩:∃ q,cur/p=q:=⟨_,rfl⟩;have hql:q<cur:=by rw[<- hq];exact Nat.div_lt_self h0 hp
   have hdz:(cur:Int)%p=(d:Int):=by rw[<- hd];rfl
   have hqz:(cur:Int)/p=(q:Int):=by rw[<- hq];rfl
   rw[hd,hq] at HNX;clear hd hq;have HMa:=Lib.hid (hm.out.alloc (.cells #[.int .i64 d] 3));have HNW:=Lib.hid (new_one (K:= .i64) (x:=(d:Int)) (w:=wr.alloc (.cells #[.int .i64 d] 3)) (b:=wr.heap.size) (o:=0) (by exact(Row.new (E:=3) (K:= .i64) wr [(d:Int)]).cell (i:=0) (by simp)));have HBB:=Lib.hid (show w.heap.size<=(wr.alloc (.cells #[.int .i64 d] 3)).heap.size by have:=hbl.out.size;simp;omega);have H1:=Lib.hid (show((ints l).length+ [(d:Int)].length)*8<=140737488355328 by rw[FFld.ints_len];simp;omega);have H2:=Lib.hid (show(ints l).length+ [(d:Int)].length<=maxLen by rw[FFld.ints_len];unfold maxLen;simp;omega);have hOwn:=Km hm.out.own
   go_wp2_with (at_builtin;refine wpList_append_mine _ rfl _ _ 22 rfl 3 .i64 8 Tryz.underlying22 info_i64 w.heap.size _ (ints l) rfl HMa.out HBB.out ⟨wr.heap.size,0,none⟩ 1 1 [(d:Int)] rfl rfl HNW.out H1.out H2.out ?_)
   intro v' w5 hm5 hg5 hn5;have HM5:=Km hm5;have HB5:=Km (hbl.out.grown (growTrans (World.grownBy_alloc wr (.cells #[.int .i64 d] 3) _) hg5) hbl.out.size (fun j hj=>(hOwn.out j hj).1));clear hm5 hg5 hn5;go_wp2;go_roundw
   case rel=>exact⟨q,l++ [d],rfl,by omega,by simp;omega,HNX,by rw[FFld.ints_append];exact HM5,HB5⟩
   case measure=>simp[intOf]<;>omega
  ·have:cur=0:=by omega
   subst this;go_wp2
   go_ret
   exact⟨hbl.out,_,_,rfl,hm.out,hat.out.done⟩
set_option maxRecDepth 20000 in
theorem rnumber_any (v:Value)(l:List Nat)(p:Nat)(w:World)(hs:Sl .i64 w v (ints l))(hlt:∀ c∈l,c<p)(hp:2<=p)(hp1:p<=65536)(hb:p ^ l.length<=1099511627776):
 Calls Tryz.prog 171 #[v, .int .i64 p] w (fun e w' =>w=w' /\e= .returned (.int .i64 (FFld.num p l:Nat))):=by
 obtain⟨ao,cap,rfl,hcap,hmax,hcell⟩:=hs;rw[FFld.ints_len] at hcap hcell;rw[FFld.ints_len];have hll:l.length<=40:=FFld.len_of_pow (Nat.pow_le_pow_left hp _) hb;have HC:=Km hcell;have HL:=Km hlt;have HB:=Km hb;clear hcell hlt hb hmax
 go_enter Tryz.func171,Tryz.ntmps171
 go_wp2
 go_loopw [5,6] (fun nv iv wr=> ∃ (i:Nat) (z:Int) (m:Nat),i<=l.length/\iv= .int .i64 z/\Hid (z+1=i)/\nv= .int .i64 m/\Kept (m=FFld.num p (l.drop i))/\w=wr) (fun _ iv _=>(intOf iv+1).toNat)
 case atStart=>exact⟨l.length,(l.length:Int)-1,0,Nat.le_refl _,rfl,by show(_:Int)-1+1=_;omega,rfl,⟨by simp[FFld.num]⟩,rfl⟩
 case round=>
  obtain⟨i,z,m,hi,rfl,hz,rfl,hm,rfl⟩:=hrel
  by_cases h0:0<i
  ·obtain⟨i,rfl⟩:∃ j,i=j+1:=⟨i-1,by omega⟩;obtain rfl:z=(i:Int):=by have:=hz.out;omega
   clear hz;obtain⟨b,o,rfl,hbs,hcl⟩:=HC.out i (by omega);rw[FFld.ints_get] at hcl;have HN:=FFld.num_drop (p:=p) (l:=l) (i:=i) (by omega)
   have hlt2:FFld.num p (l.drop i)<1099511627776:=by
    refine Nat.lt_of_lt_of_le (FFld.num_drop_lt (by omega) HL.out i) (Nat.le_trans (Nat.pow_le_pow_right (by omega) (by omega)) HB.out)
   rw[<- hm.out] at HN;obtain⟨d,hd⟩:∃ d,l[i]?.getD 0=d:=⟨_,rfl⟩;obtain⟨m',hm'⟩:∃ m',FFld.num p (l.drop i)=m' :=⟨_,rfl⟩;rw[hd] at hcl HN;rw[hm'] at HN hlt2;have hmp0:(0:Int)<=(m:Int)*p:=imul_nn (by omega) (by omega);have e1:(m' :Int)=d+(m:Int)*p:=by rw[HN,Nat.mul_comm];simp
   have HM' :=Km hm'.symm;have e2:wrap64 ((m:Int)*p)=(m:Int)*p:=w64 (by omega) (by omega);have e4:(m:Int)*p+d=m' :=by omega
   have e3:Kept (wrap64 ((m:Int)*p+d)=m'):=⟨by rw[e4];exact w64 (by omega) (by omega)⟩;clear e4;clear hd hm' HN;clear e1 hmp0;go_wp2;go_roundw
   case rel=>exact⟨i,(i:Int)-1,m',by omega,by go_num,by show(_:Int)-1+1=_;omega,congrArg (Value.int .i64) e3.out,HM',trivial⟩
   case measure=>simp[intOf]<;>omega
  ·have:i=0:=by omega
   subst this;obtain rfl:z= -1:=by have:=hz.out;omega
   have hme:=hm.out;rw[List.drop_zero] at hme;clear hz hm;go_wp2
   go_ret
   exact⟨rfl,by rw[hme];rfl⟩
def Cells (B:Nat)(ao:Option Addr)(l:List Nat)(w:World):Prop:= ∀ w',Below B w w' -> ∀ i,i<l.length-> ∃ b o,ao=some ⟨b,o,none⟩/\w'.cell? ⟨b,o+i,none⟩=some (.int .i64 ((l[i]?.getD 0:Nat):Int))
theorem Sl.cells {w:World}{ao:Option Addr}{k cap B:Nat}{l:List Nat}(h:Sl .i64 w (.slice ao k cap) (ints l))(hB:w.heap.size<=B):Cells B ao l w:=by
 obtain⟨ao',cap',e,hc,hm,hx⟩:=h;simp only[Value.slice.injEq] at e;obtain⟨rfl,e2,rfl⟩:=e;intro w' hb i hi;obtain⟨b,o,e,hl,hcell⟩:=hx i (by rw[FFld.ints_len];exact hi);rw[FFld.ints_get] at hcell;exact⟨b,o,e,(hb.cell (p:=⟨b,o+i,none⟩) (Nat.lt_of_lt_of_le hl hB)).trans hcell⟩
theorem Sl.form {w:World}{v:Value}{xs:List Int}(h:Sl .i64 w v xs):∃ ao cap,v= .slice ao xs.length cap/\xs.length<=cap/\cap<=maxLen:=by
 obtain⟨ao',cap',e,hc,hm,hx⟩:=h;exact⟨ao',cap',e,hc,hm⟩
def RN (w:World)(P:Nat->Prop)(e:Ending)(w' :World):Prop:=Below w.heap.size w w' /\ ∃ c:Nat,e= .returned (.int .i64 c)/\P c
set_option maxRecDepth 20000 in
theorem rtimes2_any (a b p k:Nat)(w:World)(hp:2<=p)(hp1:p<=65536)(hk:1<=k)(ha:a<p ^ k)(hb:b<p ^ k)(hq:p ^ (2*k)<=1099511627776):
 Calls Tryz.prog 173 #[.int .i64 a, .int .i64 b, .int .i64 p] w (RN w fun c=>FFld.Tms p a b c (2*k)):=by
 have hk40:2*k<=40:=FFld.len_of_pow (Nat.pow_le_pow_left hp _) hq;have hkq:p ^ k<=1099511627776:=Nat.le_trans (Nat.pow_le_pow_right (by omega) (by omega)) hq;have ha40:a<1099511627776:=Nat.lt_of_lt_of_le ha hkq;have hb40:b<1099511627776:=Nat.lt_of_lt_of_le hb hkq;have HA:=Km ha;have HB:=Km hb;have HQ:=Km hq;clear ha hb hq hkq
 go_enter Tryz.func173,Tryz.ntmps173
 go_wp2_with fail;refine(rdigits_any a p _ hp hp1 ha40).mono ?_;rintro e w1 ⟨hb1,v1,x,rfl,hm1,hd1⟩;obtain⟨ax,cx,rfl,hcx,hmx⟩:=hm1.sl.form;rw[FFld.ints_len] at hcx hm1 ⊢;have HM1:=Km hm1;have HD1:=Km hd1;have HB1:=Km hb1;clear hm1 hd1 hb1;go_wp2_with fail;refine(rdigits_any b p _ hp hp1 hb40).mono ?_;rintro e w2 ⟨hb2,v2,y,rfl,hm2,hd2⟩;obtain⟨ay,cy,rfl,hcy,hmy⟩:=hm2.sl.form;rw[FFld.ints_len] at hcy hm2 ⊢;have HX:=Km ((HM1.out.below hb2).sl.cells (Nat.le_refl _));have HY:=Km (hm2.sl.cells (Nat.le_refl _));have HD2:=Km hd2;have HB2:=Km (HB1.out.trans (hb2.mono HB1.out.size));have hxl:x.length<=k:=HD1.out.len hp HA.out;have hyl:y.length<=k:=HD2.out.len hp HB.out;clear hm2 hd2 hb2 HM1
 by_cases hx0:x.length=0
 ·have h1:((x.length:Int)==0)=true:=by rw[hx0];rfl
  have HZ:=Km (FFld.Tms.zero (p:=p) (a:=a) (b:=b) (n:=2*k) hp (.inl ((HD1.out.nil_iff hp).1 (List.eq_nil_of_length_eq_zero hx0))));clear hx0;go_wp2
  go_ret
  exact⟨HB2.out,0,rfl,HZ.out⟩
 ·have h1:((x.length:Int)==0)=false:=by rw[beq_eq_false_iff_ne];omega
  by_cases hy0:y.length=0
  ·have h2:((y.length:Int)==0)=true:=by rw[hy0];rfl
   have HZ:=Km (FFld.Tms.zero (p:=p) (a:=a) (b:=b) (n:=2*k) hp (.inr ((HD2.out.nil_iff hp).1 (List.eq_nil_of_length_eq_zero hy0))));clear hy0;go_wp2
   go_ret
   exact⟨HB2.out,0,rfl,HZ.out⟩
  ·have h2:((y.length:Int)==0)=false:=by rw[beq_eq_false_iff_ne];omega
   go_wp2_with (at_make;refine wpList_make_zeros _ rfl _ _ 22 rfl 3 .i64 Tryz.underlying22 info_i64 _ _ (x.length+y.length-1) rfl rfl (by omega) (by omega) (by omega) ?_)
   intro w3 hrow hbel;rw[FFld.ints_rep] at hrow;have HROW:=Km hrow;have HBEL:=Km hbel;have hwl:w.heap.size<=w2.heap.size:=HB2.out.size;clear hrow hbel;go_wp2
   go_loopw [10] (fun iv wr=> ∃ (i:Nat) (o:List Nat),i<=x.length/\iv= .int .i64 i/\Kept (FFld.TmAt p x y o i 0)/\Kept (Row 3 .i64 wr w2.heap.size (ints o))/\Kept (Below w2.heap.size w2 wr)) (fun iv _=>x.length-(intOf iv).toNat)
   case atStart=>exact⟨0,_,Nat.zero_le _,rfl,⟨FFld.TmAt.start hp x y⟩,HROW,HBEL⟩
   case round=>
    obtain⟨i,o,hi,rfl,hat,hr,hbl⟩:=hrel
    by_cases hlt:i<x.length
    ·go_wp2
     go_loopw [11] (fun jv wr=> ∃ (j:Nat) (o:List Nat),j<=y.length/\jv= .int .i64 j/\Kept (FFld.TmAt p x y o i j)/\Kept (Row 3 .i64 wr w2.heap.size (ints o))/\Kept (Below w2.heap.size w2 wr)) (fun jv _=>y.length-(intOf jv).toNat)
     case atStart=>exact⟨0,o,Nat.zero_le _,rfl,hat,hr,hbl⟩
     case round=>
      obtain⟨j,o,hj,rfl,hat,hr,hbl⟩:=hrel
      by_cases hjt:j<y.length
      ·obtain⟨bx,ox,rfl,hcx⟩:=HX.out _ hbl.out i hlt;obtain⟨by_,oy,rfl,hcy⟩:=HY.out _ hbl.out j hjt;have hco:=hr.out.cell (i:=i+j) (by rw[FFld.ints_len,hat.out.len];omega);rw[FFld.ints_get] at hco;have hfz:=hr.out.free (i+j);have hxb:=FFld.getD_lt (by omega) HD1.out.lt i;have hyb:=FFld.getD_lt (by omega) HD2.out.lt j;have hob:=FFld.getD_lt (by omega) hat.out.lt (i+j);obtain⟨u,hu⟩:∃ u,o[i+j]?.getD 0=u:=⟨_,rfl⟩;obtain⟨s,hs⟩:∃ s,x[i]?.getD 0=s:=⟨_,rfl⟩;obtain⟨t,ht⟩:∃ t,y[j]?.getD 0=t:=⟨_,rfl⟩;obtain⟨d,hd⟩:∃ d,(u+s*t)%p=d:=⟨_,rfl⟩;have HNX:=Km (hat.out.next (d:=d) hp hlt hjt (by rw[hu,hs,ht];exact hd));have hol:i+j<x.length+y.length-1:=by omega
       have HSET:=Km (fun W (hW:Row 3 .i64 W w2.heap.size (ints o))=>by have:=hW.set (i+j) (d:Int);rw[FFld.ints_set] at this;exact this);rw[hu] at hco hob;rw[hs] at hcx hxb;rw[ht] at hcy hyb;have hol2:=hat.out.len;clear hu hs ht;have hst0:(0:Int)<=(s:Int)*t:=imul_nn (by omega) (by omega);have hst1:(s:Int)*t<=4294967296:=imul_le (A:=65536) (B:=65536) (by omega) (by omega) (by omega) (by omega);have hij:IntKind.i64.wrap ((i:Int)+j)=(i:Int)+j:=wi (by omega) (by omega);have hi1:0<=(i:Int)+j:=by omega
       have hi2:(i:Int)+j<((x.length+y.length-1:Nat):Int):=by omega
       have hi3:((i:Int)+j).toNat=i+j:=by omega
       have e1:IntKind.i64.wrap ((s:Int)*t)=(s:Int)*t:=wi (by omega) (by omega);have e2:IntKind.i64.wrap ((u:Int)+(s:Int)*t)=(u:Int)+(s:Int)*t:=wi (by omega) (by omega);have e3:((u:Int)+(s:Int)*t)%p=d:=by rw[<- hd];simp
       clear hd;go_wp2
       go_region
       go_wp2;go_roundw
       case rel=>exact⟨j+1,_,by omega,by go_num,HNX,⟨(HSET.out _ hr.out.drew).drew⟩,⟨(hbl.out.setCell (Nat.le_refl _) _).drew⟩⟩
       case measure=>simp[intOf]<;>omega
      ·obtain rfl:j=y.length:=by omega
       have HNX:=Km (hat.out.row hlt);go_wp2;go_roundw
       case rel=>exact⟨i+1,o,by omega,by go_num,HNX,hr,hbl⟩
       case measure=>simp[intOf]<;>omega
    ·obtain rfl:i=x.length:=by omega
     have HTM:=Km (hat.out.tms hp HD1.out HD2.out (n:=2*k) (by omega));have hol:=hat.out.len;have HSL:=Km (hr.out.slAll (n:=x.length+y.length-1) (cap:=x.length+y.length-1) (by rw[FFld.ints_len,hol]) (Nat.le_refl _) (by unfold maxLen;omega));have HLT:=Km hat.out.lt;have HPW:=Km (show p ^ o.length<=1099511627776 from Nat.le_trans (Nat.pow_le_pow_right (by omega) (by omega)) HQ.out);have HEND:=Km (HB2.out.trans (hbl.out.mono HB2.out.size));clear hat hr hbl HROW HBEL;go_wp2_with fail;refine(rnumber_any _ o p _ HSL.out HLT.out hp hp1 HPW.out).mono ?_;rintro e w9 ⟨rfl,rfl⟩;go_wp2
     go_ret
     exact⟨HEND.out,_,rfl,HTM.out⟩
def Yc (B:Nat)(ao:Option Addr)(l:List Nat)(w:World):Prop:= ∀ i,i<l.length-> ∃ b o,ao=some ⟨b,o,none⟩/\B<=b/\b<w.heap.size/\w.cell? ⟨b,o+i,none⟩=some (.int .i64 ((l[i]?.getD 0:Nat):Int))
theorem Yc.set {B:Nat}{ao:Option Addr}{l:List Nat}{w:World}(h:Yc B ao l w){g:Nat}(hg:g<B)(i:Nat)(v:Value):Yc B ao l (w.setCell ⟨g,i,none⟩ v):=fun j hj=>by
 obtain⟨b,o,e,h1,h2,h3⟩:=h j hj;refine⟨b,o,e,h1,by simpa[World.setCell] using h2,?_⟩;rw[<- h3];exact World.cell?_of_block (heap_setCell_other w ⟨g,i,none⟩ b v (by simp;omega))
theorem Yc.drew {B:Nat}{ao:Option Addr}{l:List Nat}{w:World}(h:Yc B ao l w):Yc B ao l w.drew:=h
theorem Mine.yc {E:TypeId}{B:Nat}{w:World}{ao:Option Addr}{k cap:Nat}{l:List Nat}(h:Mine E .i64 B w (.slice ao k cap) (ints l)):Yc B ao l w:=fun i hi=>by
 obtain⟨g,cap',e,hB,hg,_,_,hc,_,_⟩:=h.at (i:=i) (by rw[FFld.ints_len];exact hi);simp only[Value.slice.injEq] at e;rw[FFld.ints_get] at hc;exact⟨g,0,e.1,hB,hg,by rw[Nat.zero_add];exact hc⟩
set_option maxRecDepth 20000 in
theorem rrest_any (a m p k n:Nat)(w:World)(hp:2<=p)(hp1:p<=65536)(hk:1<=k)(ha:a<p ^ n)(hm0:p ^ k<=m)(hm1:m<2*p ^ k)(hq:p ^ n<=1099511627776)(hq2:p ^ k<=524288):
 Calls Tryz.prog 99 #[.int .i64 a, .int .i64 m, .int .i64 p] w (RB w (.int .i64 (FFld.pmul p k m 1 n a:Nat))):=by
 have hpk:FFld.PK p k m:=⟨hp,hk⟩;have ha40:a<1099511627776:=Nat.lt_of_lt_of_le ha hq;have hm40:m<1099511627776:=by omega
 have HA:=Km ha;have HM0:=Km hm0;have HM1:=Km hm1;have HQ:=Km hq;have hk20:k<=40:=FFld.len_of_pow (Nat.pow_le_pow_left hp _) (Nat.le_trans hq2 (by omega));clear ha hm0 hm1 hq hq2
 go_enter Tryz.func99,Tryz.ntmps99
 go_wp2_with fail;refine(rdigits_any a p _ hp hp1 ha40).mono ?_;rintro e w1 ⟨hb1,v1,x0,rfl,hmi1,hd1⟩;obtain⟨ax,cx,rfl,hcx,hmx⟩:=hmi1.sl.form;rw[FFld.ints_len] at hcx hmi1 ⊢;have HI1:=Km hmi1;have HD1:=Km hd1;have HB1:=Km hb1;clear hmi1 hd1 hb1;go_wp2_with fail;refine(rdigits_any m p _ hp hp1 hm40).mono ?_;rintro e w2 ⟨hb2,v2,y,rfl,hmi2,hd2⟩;obtain⟨ay,cy,rfl,hcy,hmy⟩:=hmi2.sl.form;rw[FFld.ints_len] at hcy hmi2 ⊢;have HI2:=Km (HI1.out.below hb2);have HYC:=Km hmi2.yc;have HMON:=Km (hd2.mon hpk HM0.out HM1.out);have HB2:=Km (HB1.out.trans (hb2.mono HB1.out.size));have HOWN:=Km HI1.out.own;have hyl0:1<=y.length:=by rw[HMON.out.len];omega
 have hyl9:y.length<=41:=by rw[HMON.out.len];omega
 have HRS:=Km (FFld.Digs.rs (n:=n) hpk HD1.out HA.out);obtain⟨V,hV⟩:∃ V,FFld.pmul p k m 1 n a=V:=⟨_,rfl⟩;have hVl:V<p ^ k:=by rw[<- hV];exact FFld.pmul_lt hpk _ _ _
 have HVL:=Km hVl;rw[hV] at HRS;have HVV:=Km hV;have hwl:w1.heap.size<=w2.heap.size:=hb2.size;have hn40:n<=40:=FFld.len_of_pow (Nat.pow_le_pow_left hp _) HQ.out;have hx0l:x0.length<=40:=Nat.le_trans (HD1.out.len hp HA.out) hn40;clear hmi2 hd2 hb2 hV hVl HI1 HB1;go_wp2
 go_loopw [7] (fun s wr=> ∃ (x:List Nat) (ao:Option Addr) (cap:Nat),x.length<=x0.length/\s= .slice ao x.length cap/\cap<=maxLen/\Kept (Mine 3 .i64 w.heap.size wr (.slice ao x.length cap) (ints x))/\Kept (FFld.RsAt p k m V x)/\Kept (Yc w1.heap.size ay y wr)/\Kept (Below w.heap.size w wr)/\Kept (∀ k,(Value.slice ao x.length cap).ownBlock=some k->w.heap.size<=k/\k<w1.heap.size)) (fun s _=>sliceLen s)
 case atStart=>exact⟨x0,ax,cx,Nat.le_refl _,rfl,hmx,HI2,HRS,HYC,HB2,HOWN⟩
 case round=>
  obtain⟨x,ao,cap,hxl,rfl,hcap,hmi,hrs,hyc,hbl,hown⟩:=hrel
  by_cases hlt:y.length<=x.length
  ·obtain⟨g,cap',ev,hgB,hgl,hncap,_,hctop,_,_⟩:=hmi.out.at (i:=x.length-1) (by rw[FFld.ints_len];omega);rw[FFld.ints_len] at ev hncap;simp only[Value.slice.injEq,true_and] at ev;obtain⟨rfl,rfl⟩:=ev;rw[FFld.ints_get] at hctop;have hgw1:g<w1.heap.size:=(hown.out g (by simp[Value.ownBlock])).2;have htl:=FFld.getD_lt (by omega) hrs.out.lt (x.length-1);obtain⟨top,htop⟩:∃ top,x[x.length-1]?.getD 0=top:=⟨_,rfl⟩;rw[htop] at hctop htl;obtain⟨at_,hat⟩:∃ at_,x.length-y.length=at_:=⟨_,rfl⟩;obtain⟨c,hc⟩:∃ c,p-top=c:=⟨_,rfl⟩;have HRW:=Km (FFld.RwAt.start hpk hrs.out at_ c y hyl0);have HTOP:=Km htop;have HC:=Km hc;have hatz:(x.length:Int)-y.length=at_:=by omega
   have hatl:at_+y.length=x.length:=by omega
   have hcp:c<=p:=by omega
   have hcz:(p:Int)-top=c:=by omega
   have HCT:=Km (show x[x.length-1]?.getD 0+c=p by rw[htop];omega);clear htop hat hc;go_wp2
   go_loopw [11] (fun iv wr=> ∃ (i:Nat) (z:List Nat),i<=y.length/\iv= .int .i64 i/\Kept (Mine 3 .i64 w.heap.size wr (.slice (some ⟨g,0,none⟩) x.length cap) (ints z))/\Kept (FFld.RwAt p k m at_ c V y x z i)/\Kept (Yc w1.heap.size ay y wr)/\Kept (Below w.heap.size w wr)) (fun iv _=>y.length-(intOf iv).toNat)
   case atStart=>exact⟨0,x,Nat.zero_le _,rfl,hmi,HRW,hyc,hbl⟩
   case round=>
    obtain⟨i,z,hi,rfl,hmi,hrw,hyc,hbl⟩:=hrel
    by_cases hit:i<y.length
    ·obtain⟨by_,oy,rfl,hyB,hyl2,hcy2⟩:=hyc.out i hit;have hzl:z.length=x.length:=hrw.out.len;obtain⟨g',cap',ev,_,_,_,_,hcz2,hfz,hset⟩:=hmi.out.at (i:=at_+i) (by rw[FFld.ints_len,hzl];omega);rw[FFld.ints_len,hzl] at ev;simp only[Value.slice.injEq,Option.some.injEq,Addr.mk.injEq,true_and,and_true] at ev;obtain⟨rfl,rfl⟩:=ev;rw[FFld.ints_get] at hcz2;have hub:=FFld.getD_lt (by omega) hrw.out.lt (at_+i);have htb:=FFld.getD_lt (by omega) HMON.out.lt i;obtain⟨u,hu⟩:∃ u,z[at_+i]?.getD 0=u:=⟨_,rfl⟩;obtain⟨t,ht⟩:∃ t,y[i]?.getD 0=t:=⟨_,rfl⟩;obtain⟨d,hd⟩:∃ d,(u+c*t)%p=d:=⟨_,rfl⟩;have HNX:=Km (hrw.out.next (d:=d) hpk hit hatl HCT.out HMON.out.top (by rw[hu,ht];exact hd));have HSET:=Km (show Mine 3 .i64 w.heap.size (wr.setCell ⟨g,at_+i,none⟩ (.int .i64 d)) (.slice (some ⟨g,0,none⟩) x.length cap) (ints (z.set (at_+i) d)) by have:=hset (d:Int);rw[FFld.ints_set] at this;exact this);rw[hu] at hcz2 hub;rw[ht] at hcy2 htb;clear hu ht hset;have hst0:(0:Int)<=(c:Int)*t:=imul_nn (by omega) (by omega);have hst1:(c:Int)*t<=4294967296:=imul_le (A:=65536) (B:=65536) (by omega) (by omega) (by omega) (by omega);have hij:IntKind.i64.wrap ((at_:Int)+i)=(at_:Int)+i:=wi (by omega) (by omega);have hi1:0<=(at_:Int)+i:=by omega
     have hi2:(at_:Int)+i<((x.length:Nat):Int):=by omega
     have hi3:((at_:Int)+i).toNat=at_+i:=by omega
     have e0:IntKind.i64.wrap ((p:Int)-top)=(c:Int):=by rw[hcz];exact wi (by omega) (by omega)
     have e1:IntKind.i64.wrap ((c:Int)*t)=(c:Int)*t:=wi (by omega) (by omega);have e2:IntKind.i64.wrap ((u:Int)+(c:Int)*t)=(u:Int)+(c:Int)*t:=wi (by omega) (by omega);have e3:((u:Int)+(c:Int)*t)%p=d:=by rw[<- hd];simp
     clear hd hcz hatz hzl hctop;go_wp2
     go_region
     go_wp2;go_roundw
     case rel=>exact⟨i+1,_,by omega,by go_num,⟨HSET.out.below (belowDrew _)⟩,HNX,⟨(hyc.out.set hgw1 _ _).drew⟩,⟨(hbl.out.setCell (p:=⟨g,at_+i,none⟩) hgB _).drew⟩⟩
     case measure=>simp[intOf]<;>omega
    ·obtain rfl:i=y.length:=by omega
     have HRS2:=Km (hrw.out.done hpk HMON.out.zero HVL.out);have hzl:z.length=x.length:=hrw.out.len;have HZ0:=Km (hrw.out.top rfl);clear hatz hcz hctop;go_wp2
     go_loopw [7] (fun s wr' => ∃ (j:Nat),j<=x.length/\s= .slice (some ⟨g,0,none⟩) j cap/\Kept (FFld.RsAt p k m V (z.take j))/\Kept (∀ i,j<=i->z[i]?.getD 0=0)/\wr=wr') (fun s _=>sliceLen s)
     case atStart=>exact⟨x.length,Nat.le_refl _,rfl,⟨by rw[<- hzl,List.take_length];exact HRS2.out⟩,⟨fun i hi=>by simp[show z.length<=i by omega]⟩,rfl⟩
     case round=>
      obtain⟨j,hj,rfl,hrj,hzj,rfl⟩:=hrel
      by_cases h0:0<j
      ·obtain⟨j,rfl⟩:∃ j',j=j' +1:=⟨j-1,by omega⟩;obtain⟨g',cap',ev,_,_,_,_,hcj,_,_⟩:=hmi.out.at (i:=j) (by rw[FFld.ints_len,hzl];omega);rw[FFld.ints_len,hzl] at ev;simp only[Value.slice.injEq,Option.some.injEq,Addr.mk.injEq,true_and,and_true] at ev;obtain⟨rfl,rfl⟩:=ev;rw[FFld.ints_get] at hcj;obtain⟨u,hu⟩:∃ u,z[j]?.getD 0=u:=⟨_,rfl⟩;rw[hu] at hcj
       by_cases hu0:u=0
       ·subst hu0;have HR:=Km (hrj.out.cut hpk (n:=j) (by rw[List.length_take];omega) (by rw[List.getElem?_take,if_pos (by omega)];exact hu))
        have HZ:=Km (show ∀ i,j<=i->z[i]?.getD 0=0 from fun i hi=>by
         by_cases e:i=j
         ·subst e;exact hu
         ·exact hzj.out i (by omega))
        clear hu hzl;go_wp2;go_roundw
        case rel=>exact⟨j,by omega,rfl,⟨by have:=HR.out;rw[List.take_take,Nat.min_eq_left (by omega)] at this;exact this⟩,HZ,trivial⟩
        case measure=>simp[sliceLen]<;>omega
       ·have hub:((u:Int)==0)=false:=by rw[beq_eq_false_iff_ne];omega
        have hjx:j+1<x.length:=by
         rcases Nat.lt_or_ge (j+1) x.length with h|h
         ·exact h
         ·exact absurd (by rw[<- hu,show j=x.length-1 from by omega];exact HZ0.out) hu0
        have HMI:=Km (Mine.upto (n:=j+1) (xs:=ints z) (by rw[FFld.ints_len,hzl];exact hmi.out) (by rw[FFld.ints_len];omega));rw[FFld.ints_take] at HMI;have hlj:(z.take (j+1)).length=j+1:=by rw[List.length_take];omega
        have HLJ:=Km hlj;clear hu hzl hlj;go_wp2;go_roundw
        case rel=>exact⟨z.take (j+1),some ⟨g,0,none⟩,cap,by rw[HLJ.out];omega,by rw[HLJ.out],hcap,⟨by rw[HLJ.out];exact HMI.out⟩,hrj,hyc,hbl,⟨fun k hk=>hown.out k (by simpa[Value.ownBlock] using hk)⟩⟩
        case measure=>simp[sliceLen]<;>omega
      ·obtain rfl:j=0:=by omega
       have HMI:=Km (Mine.upto (n:=0) (xs:=ints z) (by rw[FFld.ints_len,hzl];exact hmi.out) (by omega));rw[FFld.ints_take] at HMI;clear hzl;go_wp2;go_roundw
       case rel=>exact⟨[],some ⟨g,0,none⟩,cap,by simp,rfl,hcap,HMI,⟨by have:=hrj.out;rw[List.take_zero] at this;exact this⟩,hyc,hbl,⟨fun k hk=>hown.out k (by simpa[Value.ownBlock] using hk)⟩⟩
       case measure=>simp[sliceLen]<;>omega
  ·have HN:=Km (hrs.out.done hpk (by have:=HMON.out.len;omega));have HSL:=Km hmi.out.sl;have HLT:=Km hrs.out.lt;have HPW:=Km (show p ^ x.length<=1099511627776 from Nat.le_trans (Nat.pow_le_pow_right (by omega) (Nat.le_trans hxl (HD1.out.len hp HA.out))) HQ.out);go_wp2_with fail;refine(rnumber_any _ x p _ HSL.out HLT.out hp hp1 HPW.out).mono ?_;rintro e w9 ⟨rfl,rfl⟩;go_wp2
   go_ret
   exact⟨hbl.out,by rw[HN.out,HVV.out];rfl⟩
theorem four_cells {w:World}{g:Nat}{a b c d:Value}{T:TypeId}(h:w.heap[g]? =some (.cells #[a,b,c,d] T (0,0))):
 w.cell? ⟨g,0,none⟩=some a/\w.cell? ⟨g,1,none⟩=some b/\w.cell? ⟨g,2,none⟩=some c/\w.cell? ⟨g,3,none⟩=some d:=
 ⟨by rw[cell_of_row w g 0 _ T (0,0) h];rfl,by rw[cell_of_row w g 1 _ T (0,0) h];rfl,by rw[cell_of_row w g 2 _ T (0,0) h];rfl,by rw[cell_of_row w g 3 _ T (0,0) h];rfl⟩
abbrev rfv (q p k m:Nat):Value:= .agg #[.int .i64 q, .int .i64 p, .int .i64 k, .int .i64 m]
set_option maxRecDepth 20000 in
theorem radd_any (q p k m a b:Nat)(w:World)(hp:2<=p)(hk:1<=k)(ha:a<p ^ k)(hb:b<p ^ k)(hq:p ^ k<=65536):
 Calls Tryz.prog 108 #[rfv q p k m, .int .i64 a, .int .i64 b] w (RB w (.int .i64 (FFld.padd p k a b:Nat))):=by
 have hp1:p<=65536:=Nat.le_trans (by have:=Nat.pow_le_pow_right (n:=p) (by omega) hk;rw[Nat.pow_one] at this;exact this) hq;have HA:=Km ha;have HB:=Km hb;have HQ:=Km hq;have ha1:a<=65536:=by omega
 have hb1:b<=65536:=by omega
 clear ha hb hq;obtain⟨f,hf⟩:∃ f:Nat->Nat,(fun i=>(FFld.dig p a i+FFld.dig p b i)%p)=f:=⟨_,rfl⟩;have HF:=Km hf;have HFL:=Km (show ∀ i,f i<p from fun i=>by rw[<- hf];exact Nat.mod_lt _ (by omega));have hres:FFld.padd p k a b=FFld.ofd p f k:=by rw[<- hf];rfl
 rw[hres];clear hf hres;have HX0:Kept (Bxs w [.cells #[.int .i64 q, .int .i64 p, .int .i64 k, .int .i64 m] 47] (w.alloc (.cells #[.int .i64 q, .int .i64 p, .int .i64 k, .int .i64 m] 47))):=⟨(Bxs.start w).alloc (by simp) _⟩
 go_enter Tryz.func108,Tryz.ntmps108
 go_wp2
 go_loopw [1,2,7,8] (fun av bv nv uv wr=> ∃ (j x y n u:Nat),x<=65536/\y<=65536/\av= .int .i64 x/\bv= .int .i64 y/\nv= .int .i64 n/\uv= .int .i64 u/\Kept (x=a/p ^ j)/\Kept (y=b/p ^ j)/\Kept (FFld.DlAt p f k j n u)/\Kept (Bxs w [.cells #[.int .i64 q, .int .i64 p, .int .i64 k, .int .i64 m] 47] wr)) (fun av bv _ _ _=>(intOf av).toNat+(intOf bv).toNat)
 case atStart=>exact⟨0,a,b,0,1,ha1,hb1,rfl,rfl,rfl,rfl,⟨by simp⟩,⟨by simp⟩,⟨FFld.DlAt.start p f k⟩,HX0⟩
 case round=>
  obtain⟨j,x,y,n,u,hx,hy,rfl,rfl,rfl,rfl,hxa,hyb,hat,hbx⟩:=hrel
  by_cases hpos:0<x\/0<y
  ·have hjk:j<k:=by
    rcases hpos with h|h
    ·exact FFld.cur_pos HA.out (by rw[<- hxa.out];exact h) hp
    ·exact FFld.cur_pos HB.out (by rw[<- hyb.out];exact h) hp
   have HNX:=Km (hat.out.next hjk);have hul:u<=65536:=Nat.le_trans (hat.out.u_le hp) HQ.out;have hupl:u*p<=65536:=Nat.le_trans (hat.out.up_le hp hjk) HQ.out;have hnl:n<=65536:=by have:=hat.out.n_lt hp HFL.out;have:=HQ.out;omega
   have hfj:f j<p:=HFL.out j;obtain⟨z,hz⟩:∃ z,f j=z:=⟨_,rfl⟩;rw[hz] at hfj HNX;have hzv:(x%p+y%p)%p=z:=by rw[<- hz,<- HF.out,hxa.out,hyb.out];rfl
   obtain⟨r,hr⟩:∃ r,x%p=r:=⟨_,rfl⟩;obtain⟨s,hs⟩:∃ s,y%p=s:=⟨_,rfl⟩;obtain⟨x',hx'⟩:∃ x',x/p=x' :=⟨_,rfl⟩;obtain⟨y',hy'⟩:∃ y',y/p=y' :=⟨_,rfl⟩;have HXA:Kept (x' =a/p ^ (j+1)):=⟨by rw[<- hx',hxa.out,FFld.cur_next]⟩;have HYB:Kept (y' =b/p ^ (j+1)):=⟨by rw[<- hy',hyb.out,FFld.cur_next]⟩
   have hdec:x' +y' <x+y:=by
    have h1:x' <=x:=by rw[<- hx'];exact Nat.div_le_self _ _
    have h2:y' <=y:=by rw[<- hy'];exact Nat.div_le_self _ _
    rcases hpos with h|h
    ·have:x' <x:=by rw[<- hx'];exact Nat.div_lt_self h hp
     omega
    ·have:y' <y:=by rw[<- hy'];exact Nat.div_lt_self h hp
     omega
   have hx'l:x' <=65536:=Nat.le_trans (by rw[<- hx'];exact Nat.div_le_self _ _) hx;have hy'l:y' <=65536:=Nat.le_trans (by rw[<- hy'];exact Nat.div_le_self _ _) hy;have hrp:r<p:=by rw[<- hr];exact Nat.mod_lt _ (by omega)
   have hsp:s<p:=by rw[<- hs];exact Nat.mod_lt _ (by omega)
   have er:(x:Int)%p=r:=by rw[<- hr];rfl
   have es:(y:Int)%p=s:=by rw[<- hs];rfl
   have e1:IntKind.i64.wrap ((r:Int)+s)=(r:Int)+s:=wi (by omega) (by omega);have ez:((r:Int)+s)%p=z:=by rw[<- hzv,hr,hs];rfl
   obtain⟨v,hv⟩:∃ v,z*u=v:=⟨_,rfl⟩;obtain⟨u',hu'⟩:∃ u',u*p=u' :=⟨_,rfl⟩;have hvl:v<=4294967296:=by rw[<- hv];exact nmul_le (A:=65536) (B:=65536) (by omega) (by omega)
   have hul' :u' <=65536:=by rw[<- hu'];exact hupl
   have e2:IntKind.i64.wrap ((z:Int)*u)=v:=wimul hv (by omega);have e3:IntKind.i64.wrap ((n:Int)+v)=(n:Int)+v:=wi (by omega) (by omega);have e4:wrap64 ((u:Int)*p)=u' :=wmul hu' (by omega);rw[hv,hu'] at HNX;have ex:(x:Int)/p=x' :=by rw[<- hx'];rfl
   have ey:(y:Int)/p=y' :=by rw[<- hy'];rfl
   obtain⟨c0,c1,c2,c3⟩:=four_cells hbx.out.b0;have HPOS:=Km hpos;clear hr hs hx' hy' hz hzv hupl hv hu';have htest:0<x\/(¬ 0<x/\0<y):=by omega
   clear hpos
   rcases htest with h|⟨h,h'⟩
   all_goals
    go_wp2
    go_quiet (fail)
    go_wp2
    go_quiet (fail)
    go_wp2;go_roundw
    case rel=>exact⟨j+1,x',y',n+v,u',hx'l,hy'l,rfl,rfl,by simp,congrArg (Value.int .i64) e4,HXA,HYB,HNX,⟨hbx.out.below (below_drewN (Below.refl _ _) _)⟩⟩
    case measure=>simp[intOf]<;>omega
  ·obtain⟨rfl,rfl⟩:x=0/\y=0:=by omega
   have HN:=Km (hat.out.done (fun i hi=>by
    rw[<- HF.out]
    show(FFld.dig p a i+FFld.dig p b i)%p=0
    rw[FFld.cur_zero hxa.out.symm hp hi,FFld.cur_zero hyb.out.symm hp hi]
    exact Nat.zero_mod _))
   go_wp2
   go_ret
   exact⟨hbx.out.1,by rw[HN.out];rfl⟩
set_option maxRecDepth 20000 in
theorem rneg_any (q p k m a:Nat)(w:World)(hp:2<=p)(hk:1<=k)(ha:a<p ^ k)(hq:p ^ k<=65536):
 Calls Tryz.prog 46 #[rfv q p k m, .int .i64 a] w (RB w (.int .i64 (FFld.pscl p k (p-1) a:Nat))):=by
 have hpk:FFld.PK p k m:=⟨hp,hk⟩;have hp1:p<=65536:=Nat.le_trans (by have:=Nat.pow_le_pow_right (n:=p) (by omega) hk;rw[Nat.pow_one] at this;exact this) hq;have HA:=Km ha;have HQ:=Km hq;have ha1:a<=65536:=by omega
 clear ha hq;obtain⟨f,hf⟩:∃ f:Nat->Nat,(fun i=>(p-FFld.dig p a i)%p)=f:=⟨_,rfl⟩;have HF:=Km hf;have HFL:=Km (show ∀ i,f i<p from fun i=>by rw[<- hf];exact Nat.mod_lt _ (by omega));have hres:FFld.pscl p k (p-1) a=FFld.ofd p f k:=by rw[<- hf];exact FFld.neg_dig hpk a
 rw[hres];clear hf hres;have HX0:Kept (Bxs w [.cells #[.int .i64 q, .int .i64 p, .int .i64 k, .int .i64 m] 47] (w.alloc (.cells #[.int .i64 q, .int .i64 p, .int .i64 k, .int .i64 m] 47))):=⟨(Bxs.start w).alloc (by simp) _⟩
 go_enter Tryz.func46,Tryz.ntmps46
 go_wp2
 go_loopw [1,5,6] (fun av nv uv wr=> ∃ (j x n u:Nat),x<=65536/\av= .int .i64 x/\nv= .int .i64 n/\uv= .int .i64 u/\Kept (x=a/p ^ j)/\Kept (FFld.DlAt p f k j n u)/\Kept (Bxs w [.cells #[.int .i64 q, .int .i64 p, .int .i64 k, .int .i64 m] 47] wr)) (fun av _ _ _=>(intOf av).toNat)
 case atStart=>exact⟨0,a,0,1,ha1,rfl,rfl,rfl,⟨by simp⟩,⟨FFld.DlAt.start p f k⟩,HX0⟩
 case round=>
  obtain⟨j,x,n,u,hx,rfl,rfl,rfl,hxa,hat,hbx⟩:=hrel
  by_cases hpos:0<x
  ·have hjk:j<k:=FFld.cur_pos HA.out (by rw[<- hxa.out];exact hpos) hp;have HNX:=Km (hat.out.next hjk);have hul:u<=65536:=Nat.le_trans (hat.out.u_le hp) HQ.out;have hupl:u*p<=65536:=Nat.le_trans (hat.out.up_le hp hjk) HQ.out;have hnl:n<=65536:=by have:=hat.out.n_lt hp HFL.out;have:=HQ.out;omega
   have hfj:f j<p:=HFL.out j;obtain⟨z,hz⟩:∃ z,f j=z:=⟨_,rfl⟩;rw[hz] at hfj HNX;have hzv:(p-x%p)%p=z:=by rw[<- hz,<- HF.out,hxa.out];rfl
   obtain⟨r,hr⟩:∃ r,x%p=r:=⟨_,rfl⟩;obtain⟨x',hx'⟩:∃ x',x/p=x' :=⟨_,rfl⟩;have HXA:Kept (x' =a/p ^ (j+1)):=⟨by rw[<- hx',hxa.out,FFld.cur_next]⟩;have hdec:x' <x:=by rw[<- hx'];exact Nat.div_lt_self hpos hp
   have hx'l:x' <=65536:=Nat.le_trans (by rw[<- hx'];exact Nat.div_le_self _ _) hx;have hrp:r<p:=by rw[<- hr];exact Nat.mod_lt _ (by omega)
   obtain⟨s,hs⟩:∃ s,p-r=s:=⟨_,rfl⟩;have er:(x:Int)%p=r:=by rw[<- hr];rfl
   have hsp:s<=p:=by omega
   have e1:IntKind.i64.wrap ((p:Int)-r)=(s:Int):=by rw[show(p:Int)-r=(s:Int) from by omega];exact wi (by omega) (by omega)
   have ez:(s:Int)%p=z:=by rw[<- hzv,hr,hs];rfl
   obtain⟨v,hv⟩:∃ v,z*u=v:=⟨_,rfl⟩;obtain⟨u',hu'⟩:∃ u',u*p=u' :=⟨_,rfl⟩;have hvl:v<=4294967296:=by rw[<- hv];exact nmul_le (A:=65536) (B:=65536) (by omega) (by omega)
   have hul' :u' <=65536:=by rw[<- hu'];exact hupl
   have e2:IntKind.i64.wrap ((z:Int)*u)=v:=wimul hv (by omega);have e3:IntKind.i64.wrap ((n:Int)+v)=(n:Int)+v:=wi (by omega) (by omega);have e4:wrap64 ((u:Int)*p)=u' :=wmul hu' (by omega);rw[hv,hu'] at HNX;have ex:(x:Int)/p=x' :=by rw[<- hx'];rfl
   obtain⟨c0,c1,c2,c3⟩:=four_cells hbx.out.b0;clear hr hs hx' hz hzv hupl hv hu';go_wp2
   go_quiet (fail)
   go_wp2;go_roundw
   case rel=>exact⟨j+1,x',n+v,u',hx'l,rfl,by simp,congrArg (Value.int .i64) e4,HXA,HNX,⟨hbx.out.below (below_drewN (Below.refl _ _) _)⟩⟩
   case measure=>simp[intOf]<;>omega
  ·obtain rfl:x=0:=by omega
   have HN:=Km (hat.out.done (fun i hi=>by
    rw[<- HF.out]
    show(p-FFld.dig p a i)%p=0
    rw[FFld.cur_zero hxa.out.symm hp hi,Nat.sub_zero,Nat.mod_self]))
   go_wp2
   go_ret
   exact⟨hbx.out.1,by rw[HN.out];rfl⟩
end
end Go.Proofs.YtdnheaafcbihbaaGreat
