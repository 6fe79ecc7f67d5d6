/-
  Texts of the proof, merged by program: Em Wv Am Mb De Mc Opl Opd.
-/
import Derived.Test.YtdnheaafcbihbaaGreatDc6
import Derived.Lib.SliceRun
import Derived.Deep.OwnRows
import Derived.Deep.Matrix
import Derived.Carry
set_option linter.unusedSimpArgs false
set_option linter.unusedVariables false
set_option maxHeartbeats 16000000
namespace Go.Proofs.YtdnheaafcbihbaaGreat
section
open Go Go.RowKit
open FFld (ints)
theorem bstep {w W w' :World}(h1:Below w.heap.size w W)(h2:Below W.heap.size W w'):Below w.heap.size w w' :=h1.trans (h2.mono h1.size)
set_option maxRecDepth 20000 in
theorem inverse_any {D:FFld.FD}{b:Nat}(hD:D.Ok)(a:Nat)(w:World)(hf:FldB D w b)(ha:a<D.p ^ D.k)(a0:a≠0):
 Calls Tryz.prog 152 #[.pointer (some ⟨b,0,none⟩), .int .i64 a] w (RB w (.int .i64 (FFld.ppow hD.pre.pk a (D.q-2):Nat))):=by
 obtain⟨h,T,x,fs,fp,fw,ms,ml,hb,ho,_,_⟩:=hf.open;obtain⟨c0,c1,c2,c3,c4,c5⟩:=six_cells hb;have hp2:=h.pre.prime.1;have hq6:=h.pre.small;unfold FFld.FD.q at hq6;have h1:=h.pre.pk.one_lt;have hqd:D.q=D.p ^ D.k:=rfl;obtain⟨n,hn⟩:∃ n,D.q-2=n:=⟨_,rfl⟩;have ep:IntKind.i64.wrap ((D.q:Int)-2)=n:=by rw[show(D.q:Int)-2=n from by omega];exact wi (by omega) (by omega)
 have hP:=Km (fun W (hW:Below w.heap.size w W)=>ho.power W hW a n ha (.inl a0) (by omega));rw[hn];have hmp:=ho.mw;have hcp:=ho.cw;clear ho hb hn ha a0 hqd h1
 go_enter Tryz.func152,Tryz.ntmps152
 go_wp2
 go_region_held3 (fun w' =>w'.cell? ⟨b,0,none⟩=some (.iface T x)/\w'.cell? ⟨b,1,none⟩=some (.int .i64 D.q))
  (first|exact⟨c0,c1⟩|exact⟨k0,k1⟩|go_keep)
  ((first
    |((with_reducible refine(hP.out _ (by repeat (first|(with_reducible exact Below.refl _ _)|(with_reducible exact HB2.out)|(with_reducible exact HB3.out)|(with_reducible exact HB4.out)|(with_reducible refine Below.drew ?_)))).mono ?_);rintro e w2 ⟨hb2,rfl⟩;have HB2:Kept (Below w.heap.size w w2):=⟨bstep (by repeat (first|(with_reducible exact Below.refl _ _)|(with_reducible exact HB2.out)|(with_reducible exact HB3.out)|(with_reducible exact HB4.out)|(with_reducible refine Below.drew ?_))) hb2⟩;have k0:=belowCell HB2.out c0;have k1:=belowCell HB2.out c1;clear hb2)))
 go_wp2
 go_ret
 exact⟨HB2.out,rfl⟩
set_option maxRecDepth 20000 in
theorem difference_any {D:FFld.FD}{b:Nat}(a a' :Nat)(w:World)(hf:FldB D w b)(ha:a<D.p ^ D.k)(ha' :a' <D.p ^ D.k):
 Calls Tryz.prog 150 #[.pointer (some ⟨b,0,none⟩), .int .i64 a, .int .i64 a'] w (RB w (.int .i64 (FFld.padd D.p D.k a (FFld.pscl D.p D.k (D.p-1) a'):Nat))):=by
 obtain⟨h,T,x,fs,fp,fw,ms,ml,hb,ho,_,_⟩:=hf.open;obtain⟨c0,c1,c2,c3,c4,c5⟩:=six_cells hb;have hp2:=h.pre.prime.1;have hq6:=h.pre.small;unfold FFld.FD.q at hq6;have hP:=Km (fun W (hW:Below w.heap.size w W)=>ho.sum W hW a (FFld.pscl D.p D.k (D.p-1) a') ha (FFld.pscl_lt h.pre.pk _ _));have hN:=Km (fun W (hW:Below w.heap.size w W)=>negative_any a' W (hf.below hW) ha');have hmp:=ho.ms;have hcp:=ho.cs;clear ho hb ha ha' hf
 go_enter Tryz.func150,Tryz.ntmps150
 go_wp2
 go_region_held3 (fun w' =>w'.cell? ⟨b,0,none⟩=some (.iface T x))
  (first|exact c0|exact k0|exact l0|go_keep)
  ((first
    |(go_at_call 154;(with_reducible refine(hN.out _ (by repeat (first|(with_reducible exact Below.refl _ _)|(with_reducible exact HB2.out)|(with_reducible exact HB3.out)|(with_reducible exact HB4.out)|(with_reducible refine Below.drew ?_)))).mono ?_);rintro e w2 ⟨hb2,rfl⟩;have HB2:Kept (Below w.heap.size w w2):=⟨bstep (by repeat (first|(with_reducible exact Below.refl _ _)|(with_reducible exact HB2.out)|(with_reducible exact HB3.out)|(with_reducible exact HB4.out)|(with_reducible refine Below.drew ?_))) hb2⟩;have k0:=belowCell HB2.out c0;clear hb2)
    |((with_reducible refine(hP.out _ (by repeat (first|(with_reducible exact Below.refl _ _)|(with_reducible exact HB2.out)|(with_reducible exact HB3.out)|(with_reducible exact HB4.out)|(with_reducible refine Below.drew ?_)))).mono ?_);rintro e w3 ⟨hb3,rfl⟩;have HB3:Kept (Below w.heap.size w w3):=⟨bstep (by repeat (first|(with_reducible exact Below.refl _ _)|(with_reducible exact HB2.out)|(with_reducible exact HB3.out)|(with_reducible exact HB4.out)|(with_reducible refine Below.drew ?_))) hb3⟩;have l0:=belowCell HB3.out c0;clear hb3)))
 go_wp2
 go_ret
 exact⟨HB3.out,rfl⟩
set_option maxRecDepth 20000 in
theorem reduced_any {D:FFld.FD}{b:Nat}(a:Int)(w:World)(hf:FldB D w b)(h0: -9223372036854775808<=a)(h1:a<=9223372036854775807):
 Calls Tryz.prog 158 #[.pointer (some ⟨b,0,none⟩), .int .i64 a] w (fun e w' =>w=w' /\e= .returned (.int .i64 (a%D.q))):=by
 obtain⟨h,T,x,fs,fp,fw,ms,ml,hb,ho,_,_⟩:=hf.open;obtain⟨c0,c1,c2,c3,c4,c5⟩:=six_cells hb;have hp2:=h.pre.prime.1;have hq6:=h.pre.small;unfold FFld.FD.q at hq6;have h12:=h.pre.pk.one_lt;have hqd:D.q=D.p ^ D.k:=rfl;have hq2:2<=D.q:=by omega
 have hq7:D.q<=65536:=hq6;obtain⟨q,hq⟩:∃ q,D.q=q:=⟨_,rfl⟩;rw[hq] at c1 hq2 hq7 ⊢;have e:=Int.mul_tdiv_add_tmod a q;have e1:=Int.tmod_lt_of_pos a (show(0:Int)<q by omega)
 have e2: -(q:Int)<a.tmod q:=by
  have:=Int.tmod_lt_of_pos (-a) (show(0:Int)<q by omega);rw[Int.neg_tmod] at this;omega
 obtain⟨r,hr⟩:∃ r,a.tmod q=r:=⟨_,rfl⟩
 have hres:a%q=if r<0 then r+q else r:=by
  rw[<- hr]
  split
  ·rw[<- Int.add_emod_right,show a.tmod q+q=(a.tmod q+q) from rfl]
   conv=>lhs;rw[<- e,Int.add_comm ((q:Int)*a.tdiv q),Int.add_right_comm,Int.add_mul_emod_self_left]
   exact Int.emod_eq_of_lt (by omega) (by omega)
  ·conv=>lhs;rw[<- e,Int.add_comm,Int.add_mul_emod_self_left]
   exact Int.emod_eq_of_lt (by omega) (by omega)
 have HR:=Km hres;rw[hr] at e1 e2;clear ho hb hres e h12 hqd hq hf hq6 hp2
 by_cases hneg:r<0
 ·have HV:Kept (a%q=r+q):=⟨by rw[HR.out,if_pos hneg]⟩
  go_enter Tryz.func158,Tryz.ntmps158
  go_wp2
  go_ret
  exact⟨rfl,by rw[HV.out];rfl⟩
 ·have HV:Kept (a%q=r):=⟨by rw[HR.out,if_neg hneg]⟩
  go_enter Tryz.func158,Tryz.ntmps158
  go_wp2
  go_ret
  exact⟨rfl,by rw[HV.out];rfl⟩
def Wv (w:World)(g:Nat)(l:List Nat):Prop:= ∃ cur,w.heap[g]? =some (.cells cur 3 (0,0))/\l.length<=cur.size/\ ∀ i,i<l.length->cur[i]? =some (.int .i64 ((l[i]?.getD 0:Nat):Int))
theorem Wv.cell {w:World}{g i:Nat}{l:List Nat}(h:Wv w g l)(hi:i<l.length):w.cell? ⟨g,i,none⟩=some (.int .i64 ((l[i]?.getD 0:Nat):Int)):=by
 obtain⟨cur,h1,h2,h3⟩:=h;rw[cell_of_row w g i cur _ (0,0) h1];exact h3 i hi
theorem Wv.free {w:World}{g:Nat}{l:List Nat}(h:Wv w g l)(i:Nat):w.frozen? ⟨g,i,none⟩=false:=by
 obtain⟨cur,h1,h2,h3⟩:=h;exact frozen_of_row w g i cur _ h1
theorem Wv.set {w:World}{g i:Nat}{l:List Nat}(h:Wv w g l)(v:Nat):Wv (w.setCell ⟨g,i,none⟩ (.int .i64 v)) g (l.set i v):=by
 obtain⟨cur,h1,h2,h3⟩:=h;refine⟨cur.setIfInBounds i (.int .i64 v),heap_setCell_same w g i cur _ _ h1,by simpa using h2,fun j hj=> ?_⟩;rw[List.length_set] at hj;rw[Array.getElem?_setIfInBounds]
 by_cases e:i=j
 ·subst e;rw[if_pos rfl,if_pos (by omega),List.getElem?_set_self hj];rfl
 ·rw[if_neg e,List.getElem?_set_ne e];exact h3 j hj
theorem Wv.lt {w:World}{g:Nat}{l:List Nat}(h:Wv w g l):g<w.heap.size:=by
 obtain⟨cur,h1,_⟩:=h;exact(Array.getElem?_eq_some_iff.1 h1).1
theorem Wv.below {w w' :World}{g:Nat}{l:List Nat}(h:Wv w g l)(hb:Below w.heap.size w w'):Wv w' g l:=by
 have hl:=h.lt;obtain⟨cur,h1,h2,h3⟩:=h;exact⟨cur,(hb.block _ hl).trans h1,h2,h3⟩
theorem Wv.other {w w' :World}{g g' :Nat}{l:List Nat}(h:Wv w g l)(hg:w.grownBy w' (some g'))(hne:g≠g'):Wv w' g l:=by
 have hl:=h.lt;obtain⟨cur,h1,h2,h3⟩:=h;exact⟨cur,(hg.block _ hl (by simpa using hne)).trans h1,h2,h3⟩
theorem Wv.take {w:World}{g:Nat}{l:List Nat}(h:Wv w g l)(n:Nat):Wv w g (l.take n):=by
 obtain⟨cur,h1,h2,h3⟩:=h;refine⟨cur,h1,by rw[List.length_take];omega,fun i hi=> ?_⟩;rw[List.length_take] at hi;rw[List.getElem?_take,if_pos (by omega)];exact h3 i (by omega)
theorem Mine.wv {B:Nat}{w:World}{g n c:Nat}{l:List Nat}(h:Mine 3 .i64 B w (.slice (some ⟨g,0,none⟩) n c) (ints l)):Wv w g l:=by
 rcases h with⟨e,hx⟩|⟨g',cap,cur,e,hB,hg,hn,hc,hm,ht⟩
 ·cases e
 ·simp only[Value.slice.injEq,Option.some.injEq,Addr.mk.injEq,and_true] at e;obtain⟨rfl,_,rfl⟩:=e;refine⟨cur,hg,by rw[FFld.ints_len] at hn;omega,fun i hi=> ?_⟩;have h1:(cur.toList.take (ints l).length)[i]? =cur[i]? :=by rw[List.getElem?_take,if_pos (by rw[FFld.ints_len];exact hi)];simp
  rw[<- h1,ht,List.getElem?_map];have:=FFld.ints_get l i;rw[List.getElem?_eq_getElem (by rw[FFld.ints_len];exact hi)] at this ⊢;simp only[Option.getD_some] at this;simp[this,hi]
theorem Row.wv {w:World}{g:Nat}{l:List Nat}(h:Row 3 .i64 w g (ints l)):Wv w g l:=by
 refine⟨_,h,by simp[ints],fun i hi=> ?_⟩;have:=h.cell (i:=i) (by rw[FFld.ints_len];exact hi);rw[cell_of_row w g i _ _ (0,0) h,FFld.ints_get] at this;exact this
theorem Wv.sl {w:World}{g n c:Nat}{l:List Nat}(h:Wv w g l)(hn:n=l.length)(hc:n<=c)(hm:c<=maxLen):Sl .i64 w (.slice (some ⟨g,0,none⟩) n c) (ints l):=by
 subst hn;refine⟨_,c,by rw[FFld.ints_len],by rw[FFld.ints_len];exact hc,hm,fun i hi=>⟨g,0,rfl,h.lt,?_⟩⟩;rw[FFld.ints_len] at hi;rw[Nat.zero_add,h.cell hi,FFld.ints_get]
theorem Sl.news {K:IntKind}{w:World}{ad:Addr}{n cap:Nat}{xs:List Int}(h:Sl K w (.slice (some ad) n cap) xs):∀ j u,(xs.map (Value.int K))[j]? =some u->w.cell? (ad.add j)=some u:=by
 obtain⟨ao,c,e,hc,hm,hx⟩:=h;intro j u hj
 have hjl:j<xs.length:=by
  apply Classical.byContradiction
  intro hc';simp[hc'] at hj
 obtain⟨b,o,e2,hb,hcell⟩:=hx j hjl;simp only[Value.slice.injEq] at e;obtain⟨rfl,_,_⟩:=e;simp only[Option.some.injEq] at e2;subst e2;have:(⟨b,o,none⟩:Addr).add j=⟨b,o+j,none⟩:=by simp[Addr.add]
 rw[this,hcell];simp[hjl] at hj ⊢;exact hj
theorem clone_any {v:Value}{xs:List Int}{w:World}(h:Sl .i64 w v xs)(hmx:xs.length<=17000000000000):
 Calls Tryz.prog 97 #[v] w (fun e w' =>Below w.heap.size w w' /\ ∃ v',e= .returned v' /\Mine 3 .i64 w.heap.size w' v' xs):=by
 have h' :=h;obtain⟨ao,cap,rfl,hcap,hmax,hc⟩:=h;have hnil:=fun wx:World=>Lib.run_eql_slice_nil (P:=Tryz.prog) wx 22 3 ao xs.length cap 0 0 Tryz.underlying22
 rcases ao with _|ad
 ·have hx:xs= []:=by
   cases xs with
   |nil=>rfl
   |cons x xs=>obtain⟨b,o,e,_⟩:=hc 0 (by simp);cases e
  subst hx;simp only[Option.isNone_none,List.length_nil] at hnil ⊢;clear hc hmax h' hmx hcap
  go_enter Tryz.func97,Tryz.ntmps97
  go_wp2
  go_ret
  exact⟨Below.refl _ _,_,rfl,Mine.nil _ _ _ _⟩
 ·simp only[Option.isNone_some] at hnil;obtain⟨i0,hi,hz0,hz1,hz2⟩:=info_parts info_i64;have hown:=World.ownsRow_lit (base:=w.heap.size) (e:=3) (size:=1) w #[] 0 (Nat.le_refl _) (Nat.zero_le _) (by rfl);have hb:Below w.heap.size w (w.alloc (.cells #[] 3)):=(Below.refl _ _).alloc (Nat.le_refl _) _;have hn:=(h'.below hb).news;have HO:=Lib.hid hown;have HN:=Lib.hid hn
  have hone:∀ u∈xs.map (Value.int .i64),u.oneCell' =true:=by
   intro u hu;obtain⟨a,_,rfl⟩:=List.mem_map.1 hu;rfl
  have hlen:(xs.map (Value.int .i64)).length=xs.length*1:=by simp
  have hm1:0+xs.length<=maxLen:=by unfold maxLen;omega
  have hm2:(0+xs.length)*8<=140737488355328:=by omega
  have hb0:w.heap.size<=(w.alloc (.cells #[] 3)).heap.size:=by simp
  have HB0:=Lib.hid hb0;have HONE:=Lib.hid hone;have HLEN:=Lib.hid hlen;have HM1:=Lib.hid hm1;have HM2:=Lib.hid hm2;clear hn hown hc hmax h' hone hlen hm1 hm2 hb0
  go_enter Tryz.func97,Tryz.ntmps97
  go_wp2_with (at_builtin;refine wpList_append_own _ rfl _ _ 22 rfl w.heap.size 3 i0 (.int .i64 0) 1 8 Tryz.underlying22 hi hz0 hz1 hz2 rfl (by decide) _ _ _ rfl HO.out ad xs.length cap (xs.map (Value.int .i64)) rfl HLEN.out HN.out HONE.out HM1.out HM2.out HB0.out ?_)
  intro v' w1 hown1 hgrow hiff;have HO1:=Lib.hid hown1;have hb2:=hb.grown hgrow (by simp) (fun k hk=>(HO.out.lt k hk).1);clear hiff hown1 hgrow hb HO HN hi hz0 hz1 hz2 hnil;go_wp2
  go_ret
  exact⟨hb2,_,rfl,Mine.of_owns (n:=0+xs.length) (by simpa using HO1.out)⟩
theorem trimmed_any (l:List Nat)(ao:Option Addr)(cap:Nat)(w:World)(h:Sl .i64 w (.slice ao l.length cap) (ints l)):
 Calls Tryz.prog 155 #[.slice ao l.length cap] w (fun e w' =>w=w' /\ ∃ n,n<=l.length/\e= .returned (.slice ao n n)/\(∀ i,n<=i->l[i]?.getD 0=0)/\(n=0\/l[n-1]?.getD 0≠0)):=by
 obtain⟨ao',cap',e,hcap,hmax,hc⟩:=h;simp only[Value.slice.injEq] at e;obtain⟨rfl,e2,rfl⟩:=e;clear e2;rw[FFld.ints_len] at hcap hc;unfold maxLen at hmax;have HC:=Km hc;clear hc
 go_enter Tryz.func155,Tryz.ntmps155
 go_wp2
 go_loop [3] (fun n=> ∃ k:Nat,k<=l.length/\n= .int .i64 k/\Hid (∀ i,k<=i->l[i]?.getD 0=0)) (fun n=>(intOf n).toNat)
 case atStart=>exact⟨l.length,Nat.le_refl _,rfl,fun i hi=>by simp[hi]⟩
 case round=>
  obtain⟨k,hk,rfl,hz⟩:=hrel
  by_cases h0:0<k
  ·obtain⟨b,o,rfl,hb,hcell⟩:=HC.out (k-1) (by omega);obtain⟨k,rfl⟩:∃ j,k=j+1:=⟨k-1,by omega⟩;rw[FFld.ints_get] at hcell;simp only[Nat.add_sub_cancel] at hcell;obtain⟨x,hx⟩:∃ x,l[k]?.getD 0=x:=⟨_,rfl⟩;rw[hx] at hcell
   by_cases hx0:x=0
   ·subst hx0;have HX:=Lib.hid hx;have e0:(((0:Nat):Int)==0)=true:=rfl;clear hx;go_wp2
    go_round
    case rel=>exact⟨k,by omega,by go_num,fun i hi=>by
     by_cases e:i=k
     ·rw[e];exact HX.out
     ·exact hz.out i (by omega)⟩
    case measure=>simp[intOf]<;>omega
   ·have e0:((x:Int)==0)=false:=by rw[beq_eq_false_iff_ne];omega
    have HX:=Lib.hid (show l[k]?.getD 0≠0 by rw[hx];exact hx0);clear hx hx0;go_wp2
    go_ret
    exact⟨rfl,k+1,hk,rfl,hz.out, .inr (by simpa using HX.out)⟩
  ·obtain rfl:k=0:=by omega
   go_wp2
   go_ret
   exact⟨rfl,0,hk,rfl,hz.out, .inl rfl⟩
def Qc (g:Nat)(ao:Option Addr)(l:List Nat)(w:World):Prop:= ∀ i,i<l.length-> ∃ b o,ao=some ⟨b,o,none⟩/\b≠g/\b<w.heap.size/\w.cell? ⟨b,o+i,none⟩=some (.int .i64 ((l[i]?.getD 0:Nat):Int))
theorem Qc.grown {g:Nat}{ao:Option Addr}{l:List Nat}{w w' :World}(h:Qc g ao l w)(hg:w.grownBy w' (some g)):Qc g ao l w' :=fun i hi=>by
 obtain⟨b,o,e,h1,h2,h3⟩:=h i hi;exact⟨b,o,e,h1,Nat.lt_of_lt_of_le h2 hg.size,hg.cell h3 (by simpa using h1)⟩
set_option maxRecDepth 20000 in
theorem addMultiple_any {D:FFld.FD}{b g s n cc:Nat}{ao:Option Addr}{cap:Nat}(w0 w:World)(hf:FldB D w0 b)(hb:Below w0.heap.size w0 w)(hg:w0.heap.size<=g)(xs:List Nat)(hx:Wv w g xs)(hxq:∀ c∈xs,c<D.p ^ D.k)
 (q:List Nat) (hq:Qc g ao q w) (hqq:∀ c∈q,c<D.p ^ D.k) (hs:s+q.length<=xs.length) (hn:q.length<=n) (a:Nat) (ha:a<D.p ^ D.k) (hql:q.length<=1000000):
 Calls Tryz.prog 151 #[.pointer (some ⟨b,0,none⟩), .slice (some ⟨g,s,none⟩) n cc, .slice ao q.length cap, .int .i64 a] w (fun e w' =>e= .returned (.tuple #[])/\w.grownBy w' (some g)/\Wv w' g (FFld.addm D xs s q a)):=by
 obtain⟨h,T,x,fs,fp,fw,ms,ml,hbb,ho,_,_⟩:=hf.open;have hpk:=h.pre.pk
 by_cases a0:a=0
 ·subst a0;have hz:=Km (FFld.addmF_zero hpk s q q.length hxq hs);have HX:=Km hx;have e0:(((0:Nat):Int)==0)=true:=rfl;clear ho hbb hf hb hx hxq hq hqq ha
  go_enter Tryz.func151,Tryz.ntmps151
  go_wp2;exact bodyPost_ret (v:= .tuple #[]) (by simp[results,Tryz.results151,go_sem]) rfl ⟨rfl,growRefl _ _,by unfold FFld.addm;rw[hz.out];exact HX.out⟩
 ·have e0:((a:Int)==0)=false:=by rw[beq_eq_false_iff_ne];omega
  obtain⟨c0,_⟩:=six_cells hbb;have hbl:b<w0.heap.size:=hf.lt;have HS:=Km ho.sum;have HP:=Km ho.product;have hms:=ho.ms;have hmp:=ho.mp;have hcs:=ho.cs;have hcp:=ho.cp;have HQ:=Km hq;have HXQ:=Km (fun j=>FFld.addmF_lt (D:=D) hpk s q a j hxq);have HQQ:=Km hqq;have HA:=Km ha;have HPK:=Km hpk;have HB:=Km hb;have HX:=Km hx;clear ho hbb hf hb hx hxq hq hqq ha hpk a0
  go_enter Tryz.func151,Tryz.ntmps151
  go_wp2
  go_loopw [14] (fun iv wr=> ∃ (j:Nat),j<=q.length/\iv= .int .i64 j/\Kept (Wv wr g (FFld.addmF D xs s q a j))/\Kept (w.grownBy wr (some g))) (fun iv _=>q.length-(intOf iv).toNat)
  case atStart=>exact⟨0,Nat.zero_le _,rfl,HX,⟨growRefl _ _⟩⟩
  case round=>
   obtain⟨j,hj,rfl,hwv,hgr⟩:=hrel
   by_cases hlt:j<q.length
   ·obtain⟨bq,oq,rfl,hne,hbq,hcq⟩:=(HQ.out.grown hgr.out) j hlt;have HBW:=Km (belowGrow hgr.out HB.out hg);have hsz:=HBW.out.size;have hgl:=hwv.out.lt;have hlen:=FFld.addmF_len D xs s q a j;have t1:=hwv.out.cell (i:=s+j) (by omega);have f1:wr.cell? ⟨b,0,none⟩=some (.iface T x):=(HBW.out.cell (p:=⟨b,0,none⟩) hbl).trans c0;have hqb:=FFld.getD_lt (Nat.pow_pos HPK.out.p0) HQQ.out j;have hub:=FFld.getD_lt (Nat.pow_pos HPK.out.p0) (HXQ.out j) (s+j);obtain⟨u,hu⟩:∃ u,(FFld.addmF D xs s q a j)[s+j]?.getD 0=u:=⟨_,rfl⟩;obtain⟨y,hy⟩:∃ y,q[j]?.getD 0=y:=⟨_,rfl⟩;obtain⟨z,hz⟩:∃ z,FFld.pmul D.p D.k D.m y D.k a=z:=⟨_,rfl⟩;obtain⟨v,hv⟩:∃ v,FFld.padd D.p D.k u z=v:=⟨_,rfl⟩;have HV:Kept ((FFld.addmF D xs s q a j).set (s+j) v=FFld.addmF D xs s q a (j+1)):=⟨by simp only[FFld.addmF];rw[hu,hy,hz,hv]⟩;rw[hu] at t1 hub;rw[hy] at hcq hqb;have hP:=Km (fun W (hW:Below w0.heap.size w0 W)=>HP.out W hW y a hqb HA.out);rw[hz] at hP;have hS:=Km (fun W (hW:Below w0.heap.size w0 W)=>HS.out W hW u z hub (by rw[<- hz];exact FFld.pmul_lt HPK.out _ _ _));rw[hv] at hS;have hjn:j<n:=by omega
    clear hu hy hz hv hqb hub hlen;go_wp2;refine wp_region_held_drew (S:=fun w' =>w'.cell? ⟨b,0,none⟩=some (.iface T x)) (by kernel_rfl) f1 (fun hHeld=> ?_);refine wpAnyH_take (i:=0) (v:= ?_) rfl (by kernel_rfl) (by kernel_rfl) (by kernel_rfl) (fun _ _ _ h=>h) (Or.inl ⟨by rfl,?_⟩) (by assumption) ?_;rotate_left
    ·(intro w hSw;(try dsimp only at hSw);go_simp;(try with_reducible rfl))
    try simp only[Act.put,sA]
    refine wpAnyH_take (i:=1) (v:= ?_) rfl (by kernel_rfl) (by kernel_rfl) (by kernel_rfl) (fun _ _ _ h=>h) (Or.inl ⟨by rfl,?_⟩) (by assumption) ?_;rotate_left
    ·(intro w hSw;(try dsimp only at hSw);go_simp;(try with_reducible rfl))
    try simp only[Act.put,sA]
    refine wpAnyH_take (i:=2) (v:= ?_) rfl (by kernel_rfl) (by kernel_rfl) (by kernel_rfl) (fun _ _ _ h=>h) (Or.inl ⟨by rfl,?_⟩) (by assumption) ?_;rotate_left
    ·(intro w hSw;(try dsimp only at hSw);go_simp;(try with_reducible rfl))
    try simp only[Act.put,sA]
    refine wpAnyH_take (i:=3) (v:= ?_) rfl (by kernel_rfl) (by kernel_rfl) (by kernel_rfl) (fun _ _ _ h=>h) (Or.inl ⟨by rfl,?_⟩) (by assumption) ?_;rotate_left
    ·(intro w hSw;(try dsimp only at hSw);go_simp;(try with_reducible rfl))
    try simp only[Act.put,sA]
    refine wpAnyH_take (i:=4) (v:= ?_) rfl (by kernel_rfl) (by kernel_rfl) (by kernel_rfl) (fun _ _ _ h=>h) (Or.inl ⟨by rfl,?_⟩) (by assumption) ?_;rotate_left
    ·(intro w hSw;(try dsimp only at hSw);go_simp;(try with_reducible rfl))
    try simp only[Act.put,sA]
    refine wpAnyH_take (i:=5) (v:= ?_) rfl (by kernel_rfl) (by kernel_rfl) (by kernel_rfl) (fun _ _ _ h=>h) (Or.inl ⟨by rfl,?_⟩) (by assumption) ?_;rotate_left
    ·(intro w hSw;(try dsimp only at hSw);go_simp;(try with_reducible rfl))
    try simp only[Act.put,sA]
    refine wpAnyH_take (i:=6) (v:= ?_) rfl (by kernel_rfl) (by kernel_rfl) (by kernel_rfl) (fun _ _ _ h=>h) (Or.inl ⟨by rfl,?_⟩) (by assumption) ?_;rotate_left
    ·(intro w hSw;(try dsimp only at hSw);go_simp;(try with_reducible rfl))
    try simp only[Act.put,sA]
    refine wpAnyH_take (i:=7) (v:= ?_) rfl (by kernel_rfl) (by kernel_rfl) (by kernel_rfl) (fun _ _ _ h=>h) (Or.inl ⟨by rfl,?_⟩) (by assumption) ?_;rotate_left
    ·(intro w hSw;(try dsimp only at hSw);go_simp;(try with_reducible rfl))
    try simp only[Act.put,sA]
    refine wpAnyH_take (i:=8) (v:= ?_) rfl (by kernel_rfl) (by kernel_rfl) (by kernel_rfl) (fun _ _ _ h=>h) (Or.inl ⟨by rfl,?_⟩) (by assumption) ?_;rotate_left
    ·(intro w hSw;(try dsimp only at hSw);go_simp;(try with_reducible rfl))
    try simp only[Act.put,sA]
    refine wpAnyH_take (i:=10) (v:= ?_) rfl (by kernel_rfl) (by kernel_rfl) (by kernel_rfl) (fun _ _ _ h=>h) (Or.inl ⟨by rfl,?_⟩) (by assumption) ?_;rotate_left
    ·(intro w hSw;(try dsimp only at hSw);go_simp;(try with_reducible rfl))
    try simp only[Act.put,sA]
    refine wpAnyH_take (i:=11) (v:= ?_) rfl (by kernel_rfl) (by kernel_rfl) (by kernel_rfl) (fun _ _ _ h=>h) (Or.inl ⟨by rfl,?_⟩) (by assumption) ?_;rotate_left
    ·(intro w hSw;(try dsimp only at hSw);go_simp;(try with_reducible rfl))
    try simp only[Act.put,sA]
    refine wpAnyH_take (i:=12) (v:= ?_) rfl (by kernel_rfl) (by kernel_rfl) (by kernel_rfl) (fun _ _ _ h=>h) (Or.inl ⟨by rfl,?_⟩) (by assumption) ?_;rotate_left
    ·(intro w hSw;(try dsimp only at hSw);go_simp;(try with_reducible rfl))
    try simp only[Act.put,sA]
    refine wpAnyH_take (i:=13) (v:= ?_) rfl (by kernel_rfl) (by kernel_rfl) (by kernel_rfl) (fun _ _ _ h=>h) (Or.inl ⟨by rfl,?_⟩) (by assumption) ?_;rotate_left
    ·(intro w hSw;(try dsimp only at hSw);go_simp;(try with_reducible rfl))
    try simp only[Act.put,sA]
    refine wpAnyH_take (i:=14) (v:= ?_) rfl (by kernel_rfl) (by kernel_rfl) (by kernel_rfl) (fun _ _ _ h=>h) (Or.inl ⟨by rfl,?_⟩) (by assumption) ?_;rotate_left
    ·(intro w hSw;(try dsimp only at hSw);go_simp;(try with_reducible rfl))
    try simp only[Act.put,sA]
    refine wpAnyH_take (i:=15) (v:= ?_) rfl (by kernel_rfl) (by kernel_rfl) (by kernel_rfl) (fun _ _ _ h=>h) (Or.inl ⟨by rfl,?_⟩) (by assumption) ?_;rotate_left
    ·(intro w hSw;(try dsimp only at hSw);go_simp;(try with_reducible rfl))
    try simp only[Act.put,sA]
    refine wpAnyH_take (i:=17) (v:= ?_) rfl (by kernel_rfl) (by kernel_rfl) (by kernel_rfl) (fun _ _ _ h=>h) (Or.inl ⟨by rfl,?_⟩) (by assumption) ?_;rotate_left
    ·(intro w hSw;(try dsimp only at hSw);go_simp;(try with_reducible rfl))
    try simp only[Act.put,sA]
    refine wpAnyH_take (i:=18) (v:= ?_) rfl (by kernel_rfl) (by kernel_rfl) (by kernel_rfl) (fun _ _ _ h=>h) (Or.inl ⟨by rfl,?_⟩) (by assumption) ?_;rotate_left
    ·(intro w hSw;(try dsimp only at hSw);go_simp;(try with_reducible rfl))
    try simp only[Act.put,sA]
    refine wpAnyH_ready (rs:= [9,16]) (by kernel_rfl) (by simp) ?_;refine AllReadyH.cons rfl (fun K hK=> ?_) (AllReadyH.cons rfl (fun K hK=> ?_) AllReadyH.nil)
    ·go_simp
     refine hK.out _ _ f1 (fun hHeld=> ?_);clear hK K
     try simp only[Act.put,sA]
     refine wpAnyH_ready (rs:= [16]) (by kernel_rfl) (by simp) ?_;refine(AllReadyH.cons rfl (fun K hK=> ?_) AllReadyH.nil)
     go_simp
     refine(hP.out _ HBW.out.drew).mono ?_;rintro e w2 ⟨hb2,rfl⟩;have HB2:=Km (bstep HBW.out.drew hb2);have HR2:Kept (Below wr.heap.size wr w2):=⟨(Below.refl _ _).drew.trans hb2⟩;have f2:=(HR2.out.cell (p:=⟨b,0,none⟩) (by simp only[];omega)).trans f1;have t2:=(HR2.out.cell (p:=⟨g,s+j,none⟩) (by simp only[];omega)).trans t1;clear hb2;refine hK.out _ _ f2 (fun hHeld=> ?_);clear hK K
     try simp only[Act.put,sA]
     refine wpAnyH_ready (rs:= [19]) (by kernel_rfl) (by simp) ?_;refine(AllReadyH.cons rfl (fun K hK=> ?_) AllReadyH.nil)
     go_simp
     refine(hS.out _ HB2.out).mono ?_;rintro e w3 ⟨hb3,rfl⟩;have HB3:=Km (bstep HB2.out hb3);have HR3:=Km (bstep HR2.out hb3);have f3:=(hb3.cell (p:=⟨b,0,none⟩) (by have:=HR2.out.size;simp only[];omega)).trans f2;have t3:=(hb3.cell (p:=⟨g,s+j,none⟩) (by have:=HR2.out.size;simp only[];omega)).trans t2;have HW3:=Km (hwv.out.below HR3.out);have z3:=HW3.out.free (s+j);clear hb3;refine hK.out _ _ f3 (fun hHeld=> ?_);clear hK K
     try simp only[Act.put,sA]
     refine wpAnyH_take (i:=20) (v:= ?_) rfl (by kernel_rfl) (by kernel_rfl) (by kernel_rfl) (fun _ _ _ h=>h) (Or.inl ⟨by rfl,?_⟩) (by assumption) ?_;rotate_left
     ·(intro w hSw;(try dsimp only at hSw);go_simp;(try with_reducible rfl))
     try simp only[Act.put,sA]
     refine wpAnyH_ready (rs:= [21]) (by kernel_rfl) (by simp) ?_;refine(AllReadyH.cons rfl (fun K hK=> ?_) AllReadyH.nil)
     go_simp
     have f4:(w3.setCell ⟨g,s+j,none⟩ (.int .i64 v)).cell? ⟨b,0,none⟩=some (.iface T x):=(World.cell?_of_block (heap_setCell_other w3 ⟨g,s+j,none⟩ b _ (by simp;omega))).trans f3;refine hK.out _ _ f4 (fun hHeld=> ?_);clear hK K
     try simp only[Act.put,sA]
     refine wpAnyH_done (by kernel_rfl) ?_ _;go_wp2;go_roundw
     case rel=>exact⟨j+1,by omega,by go_num,⟨by have:=HW3.out.set (i:=s+j) v;rw[HV.out] at this;exact this⟩,⟨growTrans hgr.out (growSet (growBelow HR3.out) _ _)⟩⟩
     case measure=>simp[intOf]<;>omega
    ·go_simp
     refine(hP.out _ HBW.out.drew).mono ?_;rintro e w2 ⟨hb2,rfl⟩;have HB2:=Km (bstep HBW.out.drew hb2);have HR2:Kept (Below wr.heap.size wr w2):=⟨(Below.refl _ _).drew.trans hb2⟩;have f2:=(HR2.out.cell (p:=⟨b,0,none⟩) (by simp only[];omega)).trans f1;have t2:=(HR2.out.cell (p:=⟨g,s+j,none⟩) (by simp only[];omega)).trans t1;clear hb2;refine hK.out _ _ f2 (fun hHeld=> ?_);clear hK K
     try simp only[Act.put,sA]
     refine wpAnyH_ready (rs:= [9]) (by kernel_rfl) (by simp) ?_;refine(AllReadyH.cons rfl (fun K hK=> ?_) AllReadyH.nil)
     go_simp
     refine hK.out _ _ f2 (fun hHeld=> ?_);clear hK K
     try simp only[Act.put,sA]
     refine wpAnyH_ready (rs:= [19]) (by kernel_rfl) (by simp) ?_;refine(AllReadyH.cons rfl (fun K hK=> ?_) AllReadyH.nil)
     go_simp
     refine(hS.out _ HB2.out).mono ?_;rintro e w3 ⟨hb3,rfl⟩;have HB3:=Km (bstep HB2.out hb3);have HR3:=Km (bstep HR2.out hb3);have f3:=(hb3.cell (p:=⟨b,0,none⟩) (by have:=HR2.out.size;simp only[];omega)).trans f2;have t3:=(hb3.cell (p:=⟨g,s+j,none⟩) (by have:=HR2.out.size;simp only[];omega)).trans t2;have HW3:=Km (hwv.out.below HR3.out);have z3:=HW3.out.free (s+j);clear hb3;refine hK.out _ _ f3 (fun hHeld=> ?_);clear hK K
     try simp only[Act.put,sA]
     refine wpAnyH_take (i:=20) (v:= ?_) rfl (by kernel_rfl) (by kernel_rfl) (by kernel_rfl) (fun _ _ _ h=>h) (Or.inl ⟨by rfl,?_⟩) (by assumption) ?_;rotate_left
     ·(intro w hSw;(try dsimp only at hSw);go_simp;(try with_reducible rfl))
     try simp only[Act.put,sA]
     refine wpAnyH_ready (rs:= [21]) (by kernel_rfl) (by simp) ?_;refine(AllReadyH.cons rfl (fun K hK=> ?_) AllReadyH.nil)
     go_simp
     have f4:(w3.setCell ⟨g,s+j,none⟩ (.int .i64 v)).cell? ⟨b,0,none⟩=some (.iface T x):=(World.cell?_of_block (heap_setCell_other w3 ⟨g,s+j,none⟩ b _ (by simp;omega))).trans f3;refine hK.out _ _ f4 (fun hHeld=> ?_);clear hK K
     try simp only[Act.put,sA]
     refine wpAnyH_done (by kernel_rfl) ?_ _;go_wp2;go_roundw
     case rel=>exact⟨j+1,by omega,by go_num,⟨by have:=HW3.out.set (i:=s+j) v;rw[HV.out] at this;exact this⟩,⟨growTrans hgr.out (growSet (growBelow HR3.out) _ _)⟩⟩
     case measure=>simp[intOf]<;>omega
   ·obtain rfl:j=q.length:=by omega
    go_wp2
    go_end0
    exact⟨rfl,hgr.out,hwv.out⟩
structure RH where
 blk:Option Nat
 cap:Nat
 xs:List Nat
def RH.nil:RH:=⟨none,0,[]⟩
def RH.val (r:RH):Value:=match r.blk with
 |none=> .slice none 0 0
 |some g=> .slice (some ⟨g,0,none⟩) r.xs.length r.cap
def RH.ok (w:World)(r:RH):Prop:=match r.blk with
 |none=>r.xs= []
 |some g=>Wv w g r.xs/\r.xs.length<=r.cap/\r.cap<=maxLen
def rowH (L:List RH)(i:Nat):RH:=L[i]?.getD RH.nil
def RH.put (r:RH)(l:List Nat):RH:=⟨r.blk,r.cap,l⟩
def dis (L:List RH):Prop:= ∀ (i j g:Nat),L[i]?.bind RH.blk=some g->L[j]?.bind RH.blk=some g->i=j
structure Mx (w:World)(G:Nat)(L:List RH):Prop where
 cells:w.heap[G]? =some (.cells (L.map RH.val).toArray 22 (0,0))
 ok:∀ r∈L,r.ok w
structure Pr (B hi:Nat)(w:World)(G1 G2:Nat)(L1 L2:List RH):Prop where
 b1:B<=G1
 b2:G1<G2
 b3:G2<hi
 r1:∀ r∈L1,∀ g,r.blk=some g->G1<g/\g<G2
 r2:∀ r∈L2,∀ g,r.blk=some g->G2<g/\g<hi
 d1:dis L1
 d2:dis L2
 m1:Mx w G1 L1
 m2:Mx w G2 L2
theorem Sl.qc {w W:World}{ao:Option Addr}{k cap g:Nat}{l:List Nat}(h:Sl .i64 w (.slice ao k cap) (ints l))(hb:Below w.heap.size w W)(hg:w.heap.size<=g):Qc g ao l W:=by
 obtain⟨ao',cap',e,hc,hm,hx⟩:=h;simp only[Value.slice.injEq] at e;obtain⟨rfl,e2,rfl⟩:=e;intro i hi;obtain⟨b,o,e,hl,hcell⟩:=hx i (by rw[FFld.ints_len];exact hi);rw[FFld.ints_get] at hcell;exact⟨b,o,e,by omega,Nat.lt_of_lt_of_le hl hb.size,(hb.cell (p:=⟨b,o+i,none⟩) hl).trans hcell⟩
theorem Wv.setOther {w:World}{g g' i:Nat}{l:List Nat}(h:Wv w g l)(hne:g≠g')(v:Value):Wv (w.setCell ⟨g',i,none⟩ v) g l:=by
 obtain⟨cur,h1,h2,h3⟩:=h;exact⟨cur,(heap_setCell_other w ⟨g',i,none⟩ g v (by simpa using hne)).trans h1,h2,h3⟩
def DeRet (D:FFld.FD)(ql:List Nat)(inv:Nat)(pl:List Nat)(w:World)(e:Ending)(w' :World):Prop:=Below w.heap.size w w' /\ ∃ (vq vr:Value) (qs rs:List Nat),e= .returned (.tuple #[vq,vr])/\Sl .i64 w' vq (ints qs)/\Sl .i64 w' vr (ints rs)/\
 if pl.length<ql.length then qs= []/\rs=pl
 else qs.length=pl.length+1-ql.length/\(∀ t,t<qs.length->qs[qs.length-1-t]?.getD 0=FFld.divQ D ql inv qs.length pl t)/\
  ∃ n,n<=pl.length/\rs=(FFld.divF D ql inv qs.length pl qs.length).take n/\(∀ i,n<=i->(FFld.divF D ql inv qs.length pl qs.length)[i]?.getD 0=0)/\(n=0\/(FFld.divF D ql inv qs.length pl qs.length)[n-1]?.getD 0≠0)
set_option maxRecDepth 20000 in
theorem divide_any {D:FFld.FD}{b:Nat}(hD:D.Ok)(vp vq:Value)(pl ql:List Nat)(w:World)(hf:FldB D w b)(hp:Sl .i64 w vp (ints pl))(hq:Sl .i64 w vq (ints ql))(hpq:∀ a∈pl,a<D.p ^ D.k)(hqq:∀ a∈ql,a<D.p ^ D.k)
 (hq1:1<=ql.length) (hql:ql[ql.length-1]?.getD 0≠0) (hpl:pl.length<=100000) (hqll:ql.length<=100000):
 Calls Tryz.prog 216 #[.pointer (some ⟨b,0,none⟩),vp,vq] w (DeRet D ql (FFld.ppow hD.pre.pk (ql[ql.length-1]?.getD 0) (D.q-2)) pl w):=by
 obtain⟨ap,cp,rfl,hcp,hmp⟩:=hp.form;obtain⟨aq,cq,rfl,hcq,hmq⟩:=hq.form;rw[FFld.ints_len] at hcp hcq;have hC:=Km (clone_any hp (by rw[FFld.ints_len];omega));have HPS:=Km hp;have HQS:=Km hq;have HF:=Km hf;have HPQ:=Km hpq;have HQQ:=Km hqq;have HQL:=Km hql;clear hp hq hf hpq hqq hql;rw[FFld.ints_len,FFld.ints_len] at*
 go_enter Tryz.func216,Tryz.ntmps216
 go_wp2_with fail;refine hC.out.mono ?_;rintro e w1 ⟨hb1,v1,rfl,hm1⟩;obtain⟨a1,c1,rfl,hc1,hx1⟩:=hm1.sl.form;rw[FFld.ints_len] at hc1 hm1 ⊢;have HB1:=Km hb1;have HM1:=Km hm1;clear hb1 hm1 hC
 by_cases hlt:pl.length<ql.length
 ·go_wp2
  go_ret2
  refine⟨HB1.out,_,_,[],pl,rfl,Sl.nil _ _,HM1.out.sl,?_⟩;rw[if_pos hlt];exact⟨rfl,rfl⟩
 ·obtain⟨g,cap',ev,hgB,hgl,_,_,_,_,_⟩:=HM1.out.at (i:=0) (by rw[FFld.ints_len];omega);rw[FFld.ints_len] at ev;simp only[Value.slice.injEq,true_and] at ev;obtain⟨rfl,rfl⟩:=ev;have HW1:=Km HM1.out.wv;obtain⟨n,hn⟩:∃ n,pl.length+1-ql.length=n:=⟨_,rfl⟩;obtain⟨top,htop⟩:∃ top,ql.length-1=top:=⟨_,rfl⟩;have hn1:1<=n:=by omega
  have etop:(ql.length:Int)-1=top:=by omega
  have en:(pl.length:Int)-top=n:=by omega
  obtain⟨bq,oq,rfl,_,_,hcell⟩:=(HQS.out.qc HB1.out hgB) top (by omega);have hpos:0<D.p ^ D.k:=Nat.pow_pos hD.pre.pk.p0;have htq:=FFld.getD_lt hpos HQQ.out top;have htn:=HQL.out;rw[htop] at htn;obtain⟨tc,htc⟩:∃ tc,ql[top]?.getD 0=tc:=⟨_,rfl⟩;rw[htc] at hcell htq htn;obtain⟨inv,hinv⟩:∃ inv,FFld.ppow hD.pre.pk tc (D.q-2)=inv:=⟨_,rfl⟩;have hinvl:inv<D.p ^ D.k:=by rw[<- hinv];exact FFld.ppow_lt _ _ _
  have hI:=Km (inverse_any hD tc w1 (HF.out.below HB1.out) htq htn);rw[hinv] at hI;have HINV:Kept (FFld.ppow hD.pre.pk (ql[ql.length-1]?.getD 0) (D.q-2)=inv):=⟨by rw[htop,htc,hinv]⟩;have HTOP:=Km htop;have HN:=Km hn;have hlen1:top+1=ql.length:=by omega
  have hlen2:n+top=pl.length:=by omega
  have hbl' :b<w.heap.size:=HF.out.lt;clear hn htop htc hinv htq htn HM1;go_wp2_with fail;refine hI.out.mono ?_;rintro e w2 ⟨hb2,rfl⟩;have HB2:=Km (bstep HB1.out hb2);have HW2:=Km (HW1.out.below hb2);have hg2:g<w2.heap.size:=HW2.out.lt;clear hb2 hcell hI HW1
  go_wp2_with (at_make;refine wpList_make_zeros _ rfl _ _ 22 rfl 3 .i64 Tryz.underlying22 info_i64 _ _ n rfl rfl (by omega) (by omega) (by omega) ?_)
  intro w3 hrow hbel;rw[FFld.ints_rep] at hrow;have HQ3:=Km hrow.wv;have HW3:=Km (HW2.out.below hbel);have HB3:=Km (bstep HB2.out hbel);have hsz2:=HB2.out.size;clear hrow hbel HW2;obtain⟨_,T,x,fs,fp,fw,ms,ml,hbb,ho,_,_⟩:=HF.out.open;obtain⟨c0,_⟩:=six_cells hbb;have hmp:=ho.mp;have hcp:=ho.cp;have HP:=Km ho.product;clear ho hbb;go_wp2
  go_loopw [10] (fun iv wr=> ∃ (t:Nat) (z:Int) (qs:List Nat),t<=n/\iv= .int .i64 z/\Hid (z+1+t=n)/\qs.length=n/\Kept (Wv wr g (FFld.divF D ql inv n pl t))/\Kept (Wv wr w2.heap.size qs)/\Kept (∀ t',t' <t->qs[n-1-t']?.getD 0=FFld.divQ D ql inv n pl t')/\Kept (Below w.heap.size w wr)) (fun iv _=>(intOf iv+1).toNat)
  case atStart=>exact⟨0,(n:Int)-1,List.replicate n 0,Nat.zero_le _,rfl,by show(n:Int)-1+1+((0:Nat):Int)=n;omega,by simp,HW3,HQ3,⟨fun t' h=>by omega⟩,HB3⟩
  case round=>
   obtain⟨t,z,qs,ht,rfl,hz,hqs,hwv,hqv,hqa,hbl⟩:=hrel
   by_cases htn:t<n
   ·obtain⟨i,hi⟩:∃ i,i+1+t=n:=⟨n-1-t,by omega⟩;obtain rfl:z=(i:Int):=by have:=hz.out;omega
    have eit:n-1-t=i:=by omega
    obtain⟨R,hR⟩:∃ R,FFld.divF D ql inv n pl t=R:=⟨_,rfl⟩;have hRl:R.length=pl.length:=by rw[<- hR];exact FFld.divF_len _ _ _ _ _ _
    have HRQ:=Km (FFld.divF_lt hD.pre.pk ql inv n t HPQ.out);rw[hR] at hwv HRQ;obtain⟨r,hr⟩:∃ r,R[i+top]?.getD 0=r:=⟨_,rfl⟩;obtain⟨v,hv⟩:∃ v,FFld.pmul D.p D.k D.m r D.k inv=v:=⟨_,rfl⟩;have HV:Kept (FFld.divQ D ql inv n pl t=v):=⟨by unfold FFld.divQ;rw[hR,eit,HTOP.out,hr,hv]⟩;have HNX:Kept (FFld.divF D ql inv n pl (t+1)=FFld.addm D R i ql (FFld.pscl D.p D.k (D.p-1) v)):=⟨by simp only[FFld.divF];rw[hR,eit,HTOP.out,hr,hv]⟩;have hrq:r<D.p ^ D.k:=by rw[<- hr];exact FFld.getD_lt hpos HRQ.out _
    have hvq:v<D.p ^ D.k:=by rw[<- hv];exact FFld.pmul_lt hD.pre.pk _ _ _
    have hP:=Km (fun W (hW:Below w.heap.size w W)=>HP.out W hW r inv hrq hinvl);rw[hv] at hP;have hNeg:=Km (fun W (hW:Below w.heap.size w W)=>negative_any v W (HF.out.below hW) hvq);have hAm:=Km (fun W (hW:Below w.heap.size w W) (hwR:Wv W g R) (n' cc:Nat) (hn' :ql.length<=n')=>addMultiple_any (s:=i) (n:=n') (cc:=cc) (cap:=cq) w W HF.out hW hgB R hwR HRQ.out ql (HQS.out.qc hW hgB) HQQ.out (by omega) hn' (FFld.pscl D.p D.k (D.p-1) v) (FFld.pscl_lt hD.pre.pk _ _) (by omega));obtain⟨nv,hnv⟩:∃ nv,FFld.pscl D.p D.k (D.p-1) v=nv:=⟨_,rfl⟩;rw[hnv] at hNeg hAm HNX;have f1:wr.cell? ⟨b,0,none⟩=some (.iface T x):=(hbl.out.cell (p:=⟨b,0,none⟩) hbl').trans c0;have r1:=hwv.out.cell (i:=i+top) (by omega);rw[hr] at r1;have hgl:=hwv.out.lt;have hgql:=hqv.out.lt;have hwrs:=hbl.out.size;have hij:IntKind.i64.wrap ((i:Int)+top)=(i:Int)+top:=wi (by omega) (by omega);have hi1:0<=(i:Int)+top:=by omega
    have hi2:(i:Int)+top<(pl.length:Int):=by omega
    have hi3:((i:Int)+top).toNat=i+top:=by omega
    have hin:i<n:=by omega
    clear hR hr hv hnv hRl hrq hvq hz;go_wp2
    go_region_held3 (fun w' =>w'.cell? ⟨b,0,none⟩=some (.iface T x)/\w'.cell? ⟨g,i+top,none⟩=some (.int .i64 r))
     (first|exact⟨f1,r1⟩|exact⟨k0,k1⟩|exact⟨l0,l1⟩|go_keep)
     ((first
       |((with_reducible refine(hP.out _ ?_).mono ?_);(exact(by first|exact hbl.out|exact hbl.out.drew));rintro e w4 ⟨hb4,rfl⟩;have HB4:=Km (bstep (show Below w.heap.size w _ from(by first|exact hbl.out|exact hbl.out.drew)) hb4);have HR4:Kept (Below wr.heap.size wr w4):=⟨(Below.refl _ _).drew.trans hb4⟩;have k0:=(HR4.out.cell (p:=⟨b,0,none⟩) (by simp only[];omega)).trans f1;have k1:=(HR4.out.cell (p:=⟨g,i+top,none⟩) (by simp only[];omega)).trans r1;have HWQ4:=Km (hqv.out.below HR4.out);have q4:=HWQ4.out.cell (i:=i) (by omega);have z4:=HWQ4.out.free i;have l0:=(World.cell?_of_block (a:=⟨b,0,none⟩) (heap_setCell_other w4 ⟨w2.heap.size,i,none⟩ b (.int .i64 v) (by simp;omega))).trans k0;have l1:=(World.cell?_of_block (a:=⟨g,i+top,none⟩) (heap_setCell_other w4 ⟨w2.heap.size,i,none⟩ g (.int .i64 v) (by simp;omega))).trans k1;clear hb4)))
    have hq5:=HWQ4.out.set (i:=i) v;have hw5:=(hwv.out.below HR4.out).setOther (i:=i) (g' :=w2.heap.size) (by omega) (.int .i64 v);have hb5:Below w.heap.size w (w4.setCell ⟨w2.heap.size,i,none⟩ (.int .i64 v)):=HB4.out.setCell (p:=⟨w2.heap.size,i,none⟩) (by simp only[];omega) _;have hql5:(qs.set i v).length=n:=by rw[List.length_set];exact hqs
    have qc5:=hq5.cell (i:=i) (by omega);rw[List.getElem?_set_self (by omega),Option.getD_some] at qc5;have hs4:=HR4.out.size;obtain⟨W5,hW5⟩:∃ W,w4.setCell ⟨w2.heap.size,i,none⟩ (.int .i64 v)=W:=⟨_,rfl⟩;rw[hW5] at hq5 hw5 hb5 qc5;have HQ5:=Km hq5;have HW5:=Km hw5;have HB5:=Km hb5;clear k0 k1 l0 l1 q4 z4 f1 r1 hij hi1 hi2 hi3 hq5 hw5 hb5 hP hgl hgql;rw[hW5];clear hW5 HWQ4 HB4 HR4 hs4;have hs1:(i:Int)<=(pl.length:Int):=by omega
    have hs2:i<=pl.length:=by omega
    have hs3:(0:Int)<=(i:Int):=by omega
    have hs5:(pl.length:Int)<=(c1:Int):=by omega
    have hs6:((i:Int)<0)=False:=by simp
    go_wp2
    go_region_held3 (fun w' =>w'.cell? ⟨w2.heap.size,i,none⟩=some (.int .i64 v))
     (first|exact qc5|exact k5|exact k6|go_keep)
     ((first
       |(go_at_call 154;(with_reducible refine(hNeg.out _ ?_).mono ?_);(exact(by first|exact HB5.out|exact HB5.out.drew));rintro e w6 ⟨hb6,rfl⟩;have HB6:=Km (bstep (show Below w.heap.size w _ from(by first|exact HB5.out|exact HB5.out.drew)) hb6);have HR6:Kept (Below W5.heap.size W5 w6):=⟨(Below.refl _ _).drew.trans hb6⟩;have k5:=(HR6.out.cell (p:=⟨w2.heap.size,i,none⟩) (by have:=HQ5.out.lt;simp only[];omega)).trans qc5;clear hb6)
       |(go_at_call 151;(with_reducible refine(hAm.out _ HB6.out (HW5.out.below HR6.out) _ _ (by omega)).mono ?_);rintro e w7 ⟨rfl,hg7,hw7⟩;have HW7:=Km hw7;have HG7:=Km hg7;have k6:=hg7.cell k5 (by simp;omega);clear hg7 hw7)))
    go_wp2;go_roundw
    case rel=>exact⟨t+1,(i:Int)-1,qs.set i v,by omega,by go_num,by show(i:Int)-1+1+((t+1:Nat):Int)=n;omega,hql5,⟨by rw[HNX.out];exact HW7.out⟩,⟨(HQ5.out.below HR6.out).other HG7.out (by omega)⟩,⟨fun t' ht' =>by
     by_cases e:t' =t
     ·subst e;rw[eit,List.getElem?_set_self (by omega),Option.getD_some,HV.out]
     ·rw[List.getElem?_set_ne (by omega)]
      exact hqa.out t' (by omega)⟩,⟨belowGrow HG7.out HB6.out hgB⟩⟩
    case measure=>simp[intOf]<;>omega
   ·obtain rfl:t=n:=by omega
    obtain rfl:z= -1:=by have:=hz.out;omega
    have hfl:=FFld.divF_len D ql inv t pl t;have HSR:=Km (hwv.out.sl (n:=pl.length) (c:=c1) (by omega) hc1 hx1);have HSQ:=Km (hqv.out.sl (n:=t) (c:=t) (by omega) (Nat.le_refl _) (by unfold maxLen;omega));have HT:=Km (trimmed_any (FFld.divF D ql inv t pl t) (some ⟨g,0,none⟩) c1 wr (by rw[hfl];exact HSR.out));rw[hfl] at HT;have HFL:=Km hfl;clear hz hfl;go_wp2_with fail;refine HT.out.mono ?_;rintro e w8 ⟨rfl,m,hm,rfl,hm1,hm2⟩;have HM1:=Km hm1;have HM2:=Km hm2;have HWT:=Km ((hwv.out.take m).sl (n:=m) (c:=m) (by rw[List.length_take,HFL.out];omega) (Nat.le_refl _) (by unfold maxLen at *;omega));clear hm1 hm2;go_wp2
    go_ret2
    rw[HINV.out];refine⟨hbl.out,_,_,qs,_,rfl,HSQ.out,HWT.out,?_⟩;rw[if_neg hlt,hqs];exact⟨HN.out.symm,hqa.out,m,hm,rfl,HM1.out,HM2.out⟩
end
section
open Go Go.RowKit Go.Deep
open FFld (ints)
theorem info_rows:(Tryz.prog.info? 22).map (fun i=>(i.zero,i.size,i.bytes))=some (some (.slice none 0 0),1,24):=by kernel_rfl
abbrev mxv (b G n:Nat):Value:= .agg #[.pointer (some ⟨b,0,none⟩), .slice (some ⟨G,0,none⟩) n n]
abbrev mxbox (b G n:Nat):Obj:= .cells #[.pointer (some ⟨b,0,none⟩), .slice (some ⟨G,0,none⟩) n n] 194
theorem two_end {w W:World}{g:Nat}{a b:Value}{T:TypeId}(h:W.heap[g]? =some (.cells #[a,b] T (0,0)))(hb:Below w.heap.size w W)(hg:w.heap.size<=g)(a' b' :Value):
 Below w.heap.size w ((W.setCell ⟨g,0,none⟩ a').setCell ⟨g,1,none⟩ b')/\((W.setCell ⟨g,0,none⟩ a').setCell ⟨g,1,none⟩ b').cell? ⟨g,0,none⟩=some a' /\((W.setCell ⟨g,0,none⟩ a').setCell ⟨g,1,none⟩ b').cell? ⟨g,1,none⟩=some b' :=by
 obtain⟨c0,c1,_⟩:=two_cells (two_set h a' b');exact⟨(hb.setCell (p:=⟨g,0,none⟩) hg _).setCell (p:=⟨g,1,none⟩) hg _,c0,c1⟩
def Sls (w:World)(ao:Option Addr)(rows:List (List Int)):Prop:= ∀ i,i<rows.length-> ∃ (b o:Nat) (rv:Value),ao=some ⟨b,o,none⟩/\b<w.heap.size/\w.cell? ⟨b,o+i,none⟩=some rv/\Sl .i64 w rv (rows[i]?.getD [])
theorem Sls.below {w w' :World}{ao:Option Addr}{rows:List (List Int)}(h:Sls w ao rows)(hb:Below w.heap.size w w'):Sls w' ao rows:=fun i hi=>by
 obtain⟨b,o,rv,e,hl,hc,hs⟩:=h i hi;exact⟨b,o,rv,e,Nat.lt_of_lt_of_le hl hb.size,(hb.cell (p:=⟨b,o+i,none⟩) hl).trans hc,hs.below hb⟩
structure CpAt (w:World)(rows:List (List Nat))(i:Nat)(L:List RH)(W:World):Prop where
 len:L.length=rows.length
 mx:Mx W w.heap.size L
 bel:Below w.heap.size w W
 dis:dis L
 low:∀ r∈L,∀ g,r.blk=some g->w.heap.size<g
 val:∀ j,(rowH L j).xs=if j<i then rows[j]?.getD [] else []
structure OwnM (B:Nat)(w:World)(G:Nat)(rows:List (List Nat))(L:List RH):Prop where
 lo:B<=G
 mx:Mx w G L
 dis:dis L
 low:∀ r∈L,∀ g,r.blk=some g->G<g
 val:L.map RH.xs=rows
def CpRet (rows:List (List Nat))(w:World)(e:Ending)(w' :World):Prop:=Below w.heap.size w w' /\ ∃ G L,e= .returned (.slice (some ⟨G,0,none⟩) rows.length rows.length)/\OwnM w.heap.size w' G rows L
end
section
open Go Go.ChangeShapes Go.WideShapes Go.RowKit
def I64s (xs:List Int):Prop:= ∀ x∈xs, -9223372036854775808<=x/\x<=9223372036854775807
theorem trodAll_stays {H:Type}{enc:TypeId × Value->H}{P:Program}(hl:laidOutB P=true){W W' :World}(hb:Below W.heap.size W W'){sp:Nat->Bool} :
 ∀ {ts:List TypeId} {vs:List Value} {ds:List (DataW H)} {ps:List MemPlace},(∀ t∈ts,P.readableRec t=true/\t<P.types.size)->DataW.TrodAll enc P W 0 (fun _=>true) true ts vs ds ps->(∀ p∈ps,p.block<W.heap.size)->(∀ p∈ps,sp p.block=true)->DataW.TrodAll enc P W' 0 sp true ts vs ds ps
 | [],[],[],_,_,h,_,_=>h
 |_::_,_::_,_::_,_,hT,⟨p,q,h1,h2,e⟩,hlt,hs=>⟨p,q,WideElems.Trod_stays hl (hT _ List.mem_cons_self).1 (hT _ List.mem_cons_self).2 h1 (fun x hx=>hb.same (hlt x (by rw[e];exact List.mem_append_left _ hx))) (fun x hx=>hs x (by rw[e];exact List.mem_append_left _ hx)),trodAll_stays hl hb (fun t ht=>hT t (List.mem_cons_of_mem _ ht)) h2 (fun x hx=>hlt x (by rw[e];exact List.mem_append_right _ hx)) (fun x hx=>hs x (by rw[e];exact List.mem_append_right _ hx)),e⟩
section
variable {H : Type} {enc : TypeId × Value -> H} {P : Program} {w : World} {base : Nat} {held : Bool}
theorem cell_plain {a:Addr}{i:Nat}{v v0:Value}(h0:w.cell? (a.add 0)=some v0)(h:w.cell? (a.add i)=some v):∃ b o,a=⟨b,o,none⟩/\b<w.heap.size/\w.cell? ⟨b,o+i,none⟩=some v:=by
 obtain⟨b,o,spot⟩:=a;have hs:spot=none:=by simpa[Addr.add] using World.cell?_spot h0
 subst hs;have e:(⟨b,o,none⟩:Addr).add i=⟨b,o+i,none⟩:=by unfold Addr.add;split<;>simp_all
 rw[e] at h;exact⟨b,o,rfl,World.block_lt_of_cell? w _ h,h⟩
theorem take_get {zs:List Int}{n i:Nat}(hi:i<n):(zs.take n)[i]?.getD 0=zs.getD i 0:=by
 rw[List.getElem?_take,if_pos hi,List.getD_eq_getElem?_getD]
theorem open_slv {t e:TypeId}{fuel:Nat}{ao:Option Addr}{len cap:Nat}{x:DataW H × List MemPlace}(ht:P.underlying t=some (.slice e))(he:P.underlying e=some (.int .i64))(hc:P.cellsOf e=1)
 (h:DataW.trod enc P w base (fun _=>true) held fuel t [.slice ao len cap]=some x):∃ xs,xs.length=len/\Sl .i64 w (.slice ao len cap) xs/\I64s xs:=by
 rcases open_ints ht he hc h with⟨hcs,hx⟩|⟨a,len',cap',zs,hcs,_,hl,hm,hz,hx,hcell,hwz⟩
 ·simp at hcs;obtain⟨rfl,rfl,rfl⟩:=hcs;exact⟨[],rfl,Sl.nil _ _,by simp[I64s]⟩
 ·simp at hcs;obtain⟨rfl,rfl,rfl⟩:=hcs;simp only[if_true] at hz;have hlen:(zs.take len).length=len:=by rw[List.length_take,hz];omega
  refine⟨zs.take len,hlen,⟨some a,cap,by rw[hlen],by rw[hlen];exact hl,hm,fun i hi=> ?_⟩,fun y hy=>i64_bounds (hwz y (List.mem_of_mem_take hy))⟩;rw[hlen] at hi;obtain⟨b,o,rfl,hb,hcl⟩:=cell_plain (hcell 0 (by omega)) (hcell i (by omega));exact⟨b,o,rfl,hb,by rw[hcl,take_get hi]⟩
theorem open_sl {r:Reach}{b0:Nat}{t e:TypeId}{v:Value}{d:DataW H}{ps:List MemPlace}(ht:P.underlying t=some (.slice e))(he:P.underlying e=some (.int .i64))(hc:P.cellsOf e=1)
 (hval:Value.okWide P w r b0 t v) (hd:DataW.Trod enc P w base (fun _=>true) held t v d ps):∃ xs,Sl .i64 w v xs/\I64s xs:=by
 obtain⟨a0,len,cap,rfl⟩:=okWide_slice ht hval;obtain⟨fuel,hf⟩:=hd;obtain⟨xs,_,h1,h2⟩:=open_slv ht he hc (by simpa[Value.cells] using hf);exact⟨xs,h1,h2⟩
end
end
section
open Go Go.ChangeShapes Go.WideShapes Go.RowKit Go.Deep
variable {H : Type} {enc : TypeId × Value -> H} {P : Program} {w : World} {base : Nat} {spare : Nat -> Bool} {held : Bool}
theorem open_slw {t e:TypeId}{fuel:Nat}{c:Value}{x:DataW H × List MemPlace}(ht:P.underlying t=some (.slice e))(he:P.underlying e=some (.int .i64))(hc:P.cellsOf e=1)
 (h:DataW.trod enc P w base (fun _=>true) held fuel t [c]=some x):∃ xs,Sl .i64 w c xs/\I64s xs:=by
 have hs:∃ ao len cap,c= .slice ao len cap:=by
  rcases open_ints ht he hc h with⟨hcs,hx⟩|⟨a,len',cap',zs,hcs,_⟩
  ·simp at hcs;exact⟨_,_,_,hcs⟩
  ·simp at hcs;exact⟨_,_,_,hcs⟩
 obtain⟨ao,len,cap,rfl⟩:=hs;obtain⟨xs,_,h1,h2⟩:=open_slv ht he hc h;exact⟨xs,h1,h2⟩
end
end Go.Proofs.YtdnheaafcbihbaaGreat
