/-
  Texts of the proof, merged by program: Lh2 Ce4 Csq Cco Bmp Csh Csi.
-/
import Derived.Test.YtdnheaafcbihbaaGreatDc22
set_option linter.unusedSimpArgs false
set_option linter.unusedVariables false
set_option maxHeartbeats 16000000
namespace Go.Proofs.YtdnheaafcbihbaaGreat
section
open Go Go.RowKit Go.Deep
open FFld (ints)
def elE (q:Nat)(xs:List Int)(i:Nat):Nat:=if i<xs.length then(IntKind.u64.wrap (xs[i]?.getD 0)%(q:Int)).toNat else 0
theorem umod_nat (q:Nat)(hq:1<=q)(a:Int):∃ U r:Nat,IntKind.u64.wrap a=U/\(U:Int)%(q:Int)=r/\(U:Int).tmod (q:Int)=r/\r<q/\(IntKind.u64.wrap a%(q:Int)).toNat=r/\U<=18446744073709551615:=by
 have h0:0<=IntKind.u64.wrap a/\IntKind.u64.wrap a<=18446744073709551615:=by rw[IntKind.wrap_u64];omega
 obtain⟨U,hU⟩:∃ U:Nat,IntKind.u64.wrap a=U:=⟨(IntKind.u64.wrap a).toNat,by omega⟩;have e:(U:Int)%(q:Int)=((U%q:Nat):Int):=by omega
 refine⟨U,U%q,hU,e,?_,Nat.mod_lt _ (by omega),?_,by omega⟩
 ·rw[Int.tmod_eq_emod_of_nonneg (by omega)];exact e
 ·rw[hU,e];rfl
theorem elE_lt {q:Nat}(hq:1<=q)(xs:List Int)(i:Nat):elE q xs i<q:=by
 unfold elE
 split
 ·obtain⟨U,r,_,_,_,h,e,_⟩:=umod_nat q hq (xs[i]?.getD 0);rw[e];exact h
 ·omega
def elL (q:Nat)(xs:List Int)(len:Nat):List Nat:=(List.range len).map (elE q xs)
theorem elL_len (q:Nat)(xs:List Int)(len:Nat):(elL q xs len).length=len:=by simp[elL]
theorem elL_lt {q:Nat}(hq:1<=q)(xs:List Int)(len:Nat):∀ a∈elL q xs len,a<q:=fun a ha=>by
 obtain⟨i,_,rfl⟩:=List.mem_map.1 ha;exact elE_lt hq xs i
theorem elL_next (q:Nat)(xs:List Int)(i:Nat):elL q xs (i+1)=elL q xs i++ [elE q xs i]:=by
 unfold elL;rw[List.range_succ,List.map_append];rfl
set_option maxRecDepth 20000 in
theorem elements_any (q len:Nat)(v:Value)(xs:List Int)(w:World)(h:Sl .i64 w v xs)(hi:I64s xs)(hq1:1<=q)(hq6:q<=65536)(hlen:len<=1000):
 Calls Tryz.prog 37 #[.int .i64 q,v, .int .i64 len] w (RetM w (ints (elL q xs len))):=by
 obtain⟨ao,cap,rfl,hcap,hmax,hc⟩:=h;obtain⟨n,hN⟩:∃ n,xs.length=n:=⟨_,rfl⟩;have HC:=Km hc;have HBD:=Km hi;rw[hN] at hcap ⊢;have HN:=Km hN;unfold maxLen at hmax;have eq1:IntKind.u64.wrap (q:Int)=q:=by rw[IntKind.wrap_u64];omega
 have eq0: ¬ ((q:Int)=0):=by omega
 have eq2: ¬ (q=0):=by omega
 clear hc hN hi
 go_enter Tryz.func37,Tryz.ntmps37
 go_wp2
 go_loopw [7,8] (fun ov iv wr=> ∃ (i:Nat) (l:List Nat),i<=len/\iv= .int .i64 i/\l.length=i/\Kept (elL q xs i=l)/\Kept (Mine 3 .i64 w.heap.size wr ov (ints l))/\Kept (Below w.heap.size w wr)) (fun _ iv _=>len-(intOf iv).toNat)
 case atStart=>exact⟨0,[],Nat.zero_le _,rfl,rfl,⟨rfl⟩,⟨Mine.nil _ _ _ _⟩,⟨Below.refl _ _⟩⟩
 case round=>
  obtain⟨i,l,hik,rfl,hll,hat,hmn,hbw⟩:=hrel;obtain⟨ov0,oc,rfl,hoc,hom⟩:=hmn.out.sl.form;rw[FFld.ints_len,hll] at hoc hmn ⊢
  by_cases hlt:i<len
  ·by_cases hin:i<n
   ·obtain⟨g,o,rfl,hg,hcell⟩:=HC.out i (by rw[HN.out];exact hin);obtain⟨a,ha⟩:∃ a,xs[i]?.getD 0=a:=⟨_,rfl⟩
    have hab: -9223372036854775808<=a/\a<=9223372036854775807:=by
     rw[<- ha,List.getElem?_eq_getElem (by rw[HN.out];exact hin)];exact HBD.out _ (List.getElem_mem _)
    obtain⟨a0,a1⟩:=hab;rw[ha] at hcell;have p0:=belowCell hbw.out hcell;obtain⟨U,r,hU,hr1,hr2,hrq,hr3,hUm⟩:=umod_nat q hq1 a;have HL:Kept (elL q xs (i+1)=l++ [r]):=⟨by rw[elL_next,hat.out];unfold elE;rw[if_pos (by rw[HN.out];exact hin),ha,hr3]⟩;clear ha hcell hr3;have hal:Below wr.heap.size wr (wr.alloc (.cells #[.int .i64 (r:Nat)] 3)):=(Below.refl _ _).alloc (Nat.le_refl _) _;have HM3:=Km (hmn.out.alloc (.cells #[.int .i64 (r:Nat)] 3));have HNW:=Km (new_one (K:= .i64) (x:=((r:Nat):Int)) (w:=wr.alloc (.cells #[.int .i64 (r:Nat)] 3)) (b:=wr.heap.size) (o:=0) (by exact(Row.new (E:=3) (K:= .i64) wr [((r:Nat):Int)]).cell (i:=0) (by simp)));have hsz:=hbw.out.size;have HBB:=Km (show w.heap.size<=(wr.alloc (.cells #[.int .i64 (r:Nat)] 3)).heap.size by simp;omega);have HBQ:=Km (hbw.out.alloc hsz (.cells #[.int .i64 (r:Nat)] 3));have HOW:=Km HM3.out.own;have H1:=Km (show((ints l).length+ [((r:Nat):Int)].length)*8<=140737488355328 by rw[FFld.ints_len,hll];simp;omega);have H2:=Km (show(ints l).length+ [((r:Nat):Int)].length<=maxLen by rw[FFld.ints_len,hll];unfold maxLen;simp;omega);clear hal
    go_wp2_with (at_builtin;refine wpList_append_mine _ rfl _ _ 22 (by rfl) 3 .i64 8 Tryz.underlying22 info_i64 w.heap.size (.slice ov0 i oc) (ints l) (by rfl) HM3.out HBB.out ⟨wr.heap.size,0,none⟩ 1 1 [((r:Nat):Int)] (by rfl) rfl HNW.out H1.out H2.out ?_)
    intro v' w5 hm5 hg5 hn5;have HM5:=Km hm5;have HB5:=Km (HBQ.out.grown hg5 HBB.out (fun j hj=>(HOW.out j hj).1));clear hm5 hg5 hn5;go_wp2;go_roundw
    case rel=>exact⟨i+1,l++ [r],by omega,by go_num,by simp[hll],HL,⟨by rw[FFld.ints_append];exact HM5.out⟩,HB5⟩
    case measure=>simp[intOf]<;>omega
   ·have HL:Kept (elL q xs (i+1)=l++ [0]):=⟨by rw[elL_next,hat.out];unfold elE;rw[if_neg (by rw[HN.out];exact hin)]⟩;have hal:Below wr.heap.size wr (wr.alloc (.cells #[.int .i64 (0:Nat)] 3)):=(Below.refl _ _).alloc (Nat.le_refl _) _;have HM3:=Km (hmn.out.alloc (.cells #[.int .i64 (0:Nat)] 3));have HNW:=Km (new_one (K:= .i64) (x:=((0:Nat):Int)) (w:=wr.alloc (.cells #[.int .i64 (0:Nat)] 3)) (b:=wr.heap.size) (o:=0) (by exact(Row.new (E:=3) (K:= .i64) wr [((0:Nat):Int)]).cell (i:=0) (by simp)));have hsz:=hbw.out.size;have HBB:=Km (show w.heap.size<=(wr.alloc (.cells #[.int .i64 (0:Nat)] 3)).heap.size by simp;omega);have HBQ:=Km (hbw.out.alloc hsz (.cells #[.int .i64 (0:Nat)] 3));have HOW:=Km HM3.out.own;have H1:=Km (show((ints l).length+ [((0:Nat):Int)].length)*8<=140737488355328 by rw[FFld.ints_len,hll];simp;omega);have H2:=Km (show(ints l).length+ [((0:Nat):Int)].length<=maxLen by rw[FFld.ints_len,hll];unfold maxLen;simp;omega);clear hal
    go_wp2_with (at_builtin;refine wpList_append_mine _ rfl _ _ 22 (by rfl) 3 .i64 8 Tryz.underlying22 info_i64 w.heap.size (.slice ov0 i oc) (ints l) (by rfl) HM3.out HBB.out ⟨wr.heap.size,0,none⟩ 1 1 [((0:Nat):Int)] (by rfl) rfl HNW.out H1.out H2.out ?_)
    intro v' w5 hm5 hg5 hn5;have HM5:=Km hm5;have HB5:=Km (HBQ.out.grown hg5 HBB.out (fun j hj=>(HOW.out j hj).1));clear hm5 hg5 hn5;go_wp2;go_roundw
    case rel=>exact⟨i+1,l++ [0],by omega,by go_num,by simp[hll],HL,⟨by rw[FFld.ints_append];exact HM5.out⟩,HB5⟩
    case measure=>simp[intOf]<;>omega
  ·obtain rfl:i=len:=by omega
   go_wp2
   go_ret
   exact⟨hbw.out,_,rfl,by rw[hat.out];exact hmn.out⟩
def plF (xs:List Int)(n most:Nat):Nat->List Nat
 |0=> []
 |i+1=>if (plF xs n most i).length<most/\elE n xs i∉plF xs n most i then plF xs n most i++ [elE n xs i] else plF xs n most i
theorem plF_len (xs:List Int)(n most:Nat):∀ i,(plF xs n most i).length<=most/\(plF xs n most i).length<=i
 |0=>⟨Nat.zero_le _,Nat.le_refl _⟩
 | i+1=>by
   have h:=plF_len xs n most i;unfold plF
   split
   ·rw[List.length_append];simp;omega
   ·omega
theorem plF_full {xs:List Int}{n most i:Nat}(h: ¬ (plF xs n most i).length<most):∀ d,plF xs n most (i+d)=plF xs n most i
 |0=>rfl
 | d+1=>by
   have ih:=plF_full h d
   show(if (plF xs n most (i+d)).length<most/\elE n xs (i+d)∉plF xs n most (i+d) then plF xs n most (i+d)++ [elE n xs (i+d)] else plF xs n most (i+d))=_
   rw[ih,if_neg (fun hc=>h hc.1)]
theorem has_ints {l:List Nat}{r:Nat} :hasB (ints l) r=decide (r∈l):=by
 rcases Classical.em (r∈l) with h|h
 ·rw[decide_eq_true h,hasB_iff];exact List.mem_map.2 ⟨r,h,rfl⟩
 ·rw[decide_eq_false h]
  cases e:hasB (ints l) r with
  |false=>rfl
  | true=>
    obtain⟨a,ha,e2⟩:=List.mem_map.1 (hasB_iff.1 e);have:a=r:=Int.ofNat.inj e2;exact absurd (this ▸ ha) h
set_option maxRecDepth 20000 in
theorem places_any (q most:Nat)(v:Value)(xs:List Int)(w:World)(h:Sl .i64 w v xs)(hi:I64s xs)(hq1:1<=q)(hq6:q<=65536)(hmost:most<=1000):
 Calls Tryz.prog 41 #[v, .int .i64 q, .int .i64 most] w (RetM w (ints (plF xs q most xs.length))):=by
 obtain⟨ao,cap,rfl,hcap,hmax,hc⟩:=h;obtain⟨n,hN⟩:∃ n,xs.length=n:=⟨_,rfl⟩;have HC:=Km hc;have HBD:=Km hi;rw[hN] at hcap ⊢;have HN:=Km hN;unfold maxLen at hmax;have eq1:IntKind.u64.wrap (q:Int)=q:=by rw[IntKind.wrap_u64];omega
 have eq0: ¬ ((q:Int)=0):=by omega
 have eq2: ¬ (q=0):=by omega
 clear hc hN hi
 go_enter Tryz.func41,Tryz.ntmps41
 go_wp2
 go_loopw [7,8] (fun ov iv wr=> ∃ (i c:Nat) (l:List Nat),i<=n/\iv= .int .i64 i/\l.length=c/\c<=most/\Kept (plF xs q most i=l)/\Kept (Mine 3 .i64 w.heap.size wr ov (ints l))/\Kept (Below w.heap.size w wr)) (fun _ iv _=>n-(intOf iv).toNat)
 case atStart=>exact⟨0,0,[],Nat.zero_le _,rfl,rfl,Nat.zero_le _,⟨rfl⟩,⟨Mine.nil _ _ _ _⟩,⟨Below.refl _ _⟩⟩
 case round=>
  obtain⟨i,c,l,hik,rfl,hll,hcm,hat,hmn,hbw⟩:=hrel;obtain⟨ov0,oc,rfl,hoc,hom⟩:=hmn.out.sl.form;rw[FFld.ints_len,hll] at hoc hmn ⊢
  by_cases hin:i<n
  ·by_cases hlt:c<most
   ·obtain⟨g,o,rfl,hg,hcell⟩:=HC.out i (by rw[HN.out];exact hin);obtain⟨a,ha⟩:∃ a,xs[i]?.getD 0=a:=⟨_,rfl⟩
    have hab: -9223372036854775808<=a/\a<=9223372036854775807:=by
     rw[<- ha,List.getElem?_eq_getElem (by rw[HN.out];exact hin)];exact HBD.out _ (List.getElem_mem _)
    obtain⟨a0,a1⟩:=hab;rw[ha] at hcell;have p0:=belowCell hbw.out hcell;obtain⟨U,r,hU,hr1,hr2,hrq,hr3,hUm⟩:=umod_nat q hq1 a;have HE:Kept (elE q xs i=r):=⟨by unfold elE;rw[if_pos (by rw[HN.out];exact hin),ha,hr3]⟩;have HHS:=Km (fun(W:World) (hW:Below wr.heap.size wr W)=>rhas_any (.slice ov0 c oc) (ints l) (r:Int) W (hmn.out.sl.below hW));have HLL:=Km hll;clear ha hcell hr3
    by_cases hm:r∈l
    ·have hb1:hasB (ints l) r=true:=by rw[has_ints];exact decide_eq_true hm
     rw[hb1] at HHS;have HL:Kept (plF xs q most (i+1)=l):=⟨by unfold plF;rw[hat.out,HE.out,if_neg (fun h=>h.2 hm)]⟩;clear hb1 hm;go_wp2_with fail;(with_reducible refine(HHS.out _ (Below.refl _ _)).mono ?_);rintro e w3 ⟨rfl,rfl⟩;go_wp2;go_roundw
     case rel=>exact⟨i+1,c,l,by omega,by go_num,hll,hcm,HL,hmn,hbw⟩
     case measure=>simp[intOf]<;>omega
    ·have hb1:hasB (ints l) r=false:=by rw[has_ints];exact decide_eq_false hm
     rw[hb1] at HHS;have HL:Kept (plF xs q most (i+1)=l++ [r]):=⟨by unfold plF;rw[hat.out,HE.out,if_pos ⟨by omega,hm⟩]⟩;clear hb1 hm;go_wp2_with fail;(with_reducible refine(HHS.out _ (Below.refl _ _)).mono ?_);rintro e w3 ⟨rfl,rfl⟩;have hal:Below wr.heap.size wr (wr.alloc (.cells #[.int .i64 (r:Nat)] 3)):=(Below.refl _ _).alloc (Nat.le_refl _) _;have HM3:=Km (hmn.out.alloc (.cells #[.int .i64 (r:Nat)] 3));have HNW:=Km (new_one (K:= .i64) (x:=((r:Nat):Int)) (w:=wr.alloc (.cells #[.int .i64 (r:Nat)] 3)) (b:=wr.heap.size) (o:=0) (by exact(Row.new (E:=3) (K:= .i64) wr [((r:Nat):Int)]).cell (i:=0) (by simp)));have hsz:=hbw.out.size;have HBB:=Km (show w.heap.size<=(wr.alloc (.cells #[.int .i64 (r:Nat)] 3)).heap.size by simp;omega);have HBQ:=Km (hbw.out.alloc hsz (.cells #[.int .i64 (r:Nat)] 3));have HOW:=Km HM3.out.own;have H1:=Km (show((ints l).length+ [((r:Nat):Int)].length)*8<=140737488355328 by rw[FFld.ints_len,hll];simp;omega);have H2:=Km (show(ints l).length+ [((r:Nat):Int)].length<=maxLen by rw[FFld.ints_len,hll];unfold maxLen;simp;omega);clear hal
     go_wp2_with (at_builtin;refine wpList_append_mine _ rfl _ _ 22 (by rfl) 3 .i64 8 Tryz.underlying22 info_i64 w.heap.size (.slice ov0 c oc) (ints l) (by rfl) HM3.out HBB.out ⟨wr.heap.size,0,none⟩ 1 1 [((r:Nat):Int)] (by rfl) rfl HNW.out H1.out H2.out ?_)
     intro v' w5 hm5 hg5 hn5;have HM5:=Km hm5;have HB5:=Km (HBQ.out.grown hg5 HBB.out (fun j hj=>(HOW.out j hj).1));clear hm5 hg5 hn5;go_wp2;go_roundw
     case rel=>exact⟨i+1,c+1,l++ [r],by omega,by go_num,by simp[hll],by omega,HL,⟨by rw[FFld.ints_append];exact HM5.out⟩,HB5⟩
     case measure=>simp[intOf]<;>omega
   ·obtain⟨d,hd⟩:∃ d,n=i+d:=⟨n-i,by omega⟩;have HE:Kept (plF xs q most n=l):=⟨by rw[hd,plF_full (by rw[hat.out,hll];exact hlt),hat.out]⟩;clear hd;go_wp2
    go_ret
    exact⟨hbw.out,_,rfl,by rw[HE.out];exact hmn.out⟩
  ·obtain rfl:i=n:=by omega
   go_wp2
   go_ret
   exact⟨hbw.out,_,rfl,by rw[hat.out];exact hmn.out⟩
section
variable {o k : Int} {ao : Option Addr} {n cap : Nat} {xs : List Int} {r : Nat}
end
end
section
open Go Go.RowKit Go.Deep
open FFld (ints)
namespace FFld
def difF (D:FD)(c s:List Nat)(i:Nat):Nat->Nat
 |0=>0
 |j+1=>padd D.p D.k (difF D c s i j) (pmul D.p D.k D.m (c[j]?.getD 0) D.k (s[i-j]?.getD 0))
theorem difF_lt {D:FD}(hk:PK D.p D.k D.m)(c s:List Nat)(i:Nat):∀ j,difF D c s i j<D.p ^ D.k
 |0=>Nat.pow_pos hk.p0
 |j+1=>padd_lt hk _ _
end FFld
set_option maxRecDepth 20000 in
theorem cdifference_any {D:FFld.FD}{b:Nat}(hD:D.Ok)(ac as_:Option Addr)(cc cs i:Nat)(cl sl:List Nat)(w:World)(hf:FldB D w b)(hc:Sl .i64 w (.slice ac cl.length cc) (ints cl))(hs:Sl .i64 w (.slice as_ sl.length cs) (ints sl))(hcq:∀ a∈cl,a<D.p ^ D.k)(hsq:∀ a∈sl,a<D.p ^ D.k)(hci:cl.length<=i+1)(hi:i<sl.length)(hsl:sl.length<=1000):
 Calls Tryz.prog 126 #[.pointer (some ⟨b,0,none⟩), .slice ac cl.length cc, .slice as_ sl.length cs, .int .i64 i] w (RB w (.int .i64 (FFld.difF D cl sl i cl.length:Nat))):=by
 have hq6:D.p ^ D.k<=65536:=hD.pre.small;have HP:=Km (fun(W:World) (hW:Below w.heap.size w W) (r t:Nat) (h1:r<D.p ^ D.k) (h2:t<D.p ^ D.k)=>fmul_any (r:Int) (t:Int) W (hf.below hW) (by omega) (by omega) (by omega) (by omega) r t (md_nat h1) (md_nat h2) h1 h2);have HS:=Km (fun(W:World) (hW:Below w.heap.size w W) (r t:Nat) (h1:r<D.p ^ D.k) (h2:t<D.p ^ D.k)=>fadd_any (r:Int) (t:Int) W (hf.below hW) (by omega) (by omega) (by omega) (by omega) r t (md_nat h1) (md_nat h2) h1 h2);have HCS:=Km hc;have HSS:=Km hs;have HCQ:=Km (fun j=>FFld.getD_lt (Nat.pow_pos hD.pre.pk.p0) hcq j);have HSQ:=Km (fun j=>FFld.getD_lt (Nat.pow_pos hD.pre.pk.p0) hsq j);have HDL:=Km (fun j=>FFld.difF_lt (D:=D) hD.pre.pk cl sl i j);have HML:=Km (fun x y=>FFld.pmul_lt (p:=D.p) (k:=D.k) (m:=D.m) hD.pre.pk x D.k y);obtain⟨n,hn⟩:∃ n,cl.length=n:=⟨_,rfl⟩;obtain⟨m,hm⟩:∃ m,sl.length=m:=⟨_,rfl⟩;rw[hn] at HCS hci ⊢;rw[hm] at HSS hi hsl ⊢;have HN:=Km hn;have HM:=Km hm;clear hf hc hs hcq hsq hn hm
 go_enter Tryz.func126,Tryz.ntmps126
 go_wp2
 go_loopw [9,14] (fun tv jv wr=> ∃ (j t:Nat),j<=n/\jv= .int .i64 j/\tv= .int .i64 t/\Kept (FFld.difF D cl sl i j=t)/\Kept (Below w.heap.size w wr)) (fun _ jv _=>n-(intOf jv).toNat)
 case atStart=>exact⟨0,0,Nat.zero_le _,rfl,rfl,⟨rfl⟩,⟨Below.refl _ _⟩⟩
 case round=>
  obtain⟨j,t,hj,rfl,rfl,hat,hbw⟩:=hrel
  by_cases hlt:j<n
  ·obtain⟨ac',cc',e,hcc,hmc,hxc⟩:=HCS.out.below hbw.out;simp only[Value.slice.injEq] at e;obtain⟨rfl,e2,rfl⟩:=e;obtain⟨as',cs',e',hcs,hms,hxs⟩:=HSS.out.below hbw.out;simp only[Value.slice.injEq] at e';obtain⟨rfl,e2',rfl⟩:=e';clear e2 e2';obtain⟨bc,oc,rfl,hbc,hcell⟩:=hxc j (by rw[FFld.ints_len,HN.out];exact hlt);obtain⟨bs,os,rfl,hbs,hcell2⟩:=hxs (i-j) (by rw[FFld.ints_len,HM.out];omega);rw[FFld.ints_get] at hcell hcell2;rw[FFld.ints_len,HN.out] at hcc;rw[FFld.ints_len,HM.out] at hcs;unfold maxLen at hmc hms;have h1:=HCQ.out j;have h2:=HSQ.out (i-j);have h3:=HDL.out j;have HNX:Kept (FFld.difF D cl sl i (j+1)=FFld.padd D.p D.k t (FFld.pmul D.p D.k D.m (cl[j]?.getD 0) D.k (sl[i-j]?.getD 0))):=⟨by rw[<- hat.out];rfl⟩;rw[hat.out] at h3;obtain⟨c,hc⟩:∃ c,cl[j]?.getD 0=c:=⟨_,rfl⟩;obtain⟨s,hs⟩:∃ s,sl[i-j]?.getD 0=s:=⟨_,rfl⟩;rw[hc] at h1 hcell HNX;rw[hs] at h2 hcell2 HNX;have HMU:=Km (HP.out wr hbw.out c s h1 h2);have h4:=HML.out c s;obtain⟨z,hz⟩:∃ z,FFld.pmul D.p D.k D.m c D.k s=z:=⟨_,rfl⟩;rw[hz] at HMU HNX h4;have HAD:=Km (fun W hW=>HS.out W hW t z h3 h4);obtain⟨v,hv⟩:∃ v,FFld.padd D.p D.k t z=v:=⟨_,rfl⟩;rw[hv] at HAD HNX;have hij:j<=i:=by omega
   have e1:(i:Int)-(j:Int)=((i-j:Nat):Int):=by omega
   have him:i-j<m:=by omega
   clear hc hs hz hv hxc hxs h1 h2 h3 h4 hat;go_wp2_with fail;(with_reducible refine HMU.out.mono ?_);rintro e w2 ⟨hb2,rfl⟩;have HB2:=Km (bstep hbw.out hb2);have HA2:=Km (HAD.out w2 HB2.out);clear hb2;go_wp2_with fail;(with_reducible refine HA2.out.mono ?_);rintro e w3 ⟨hb3,rfl⟩;have HB3:=Km (bstep HB2.out hb3);clear hb3;go_wp2;go_roundw
   case rel=>exact⟨j+1,v,by omega,by go_num,rfl,HNX,HB3⟩
   case measure=>simp[intOf]<;>omega
  ·obtain rfl:j=n:=by omega
   go_wp2
   go_ret
   exact⟨hbw.out,by rw[hat.out];rfl⟩
open Classical in
noncomputable def seqE (o:Int)(xs:List Int):Nat:=if FFld.Fit o then(if 200<xs.length then 2 else if belB o xs=false then 1 else 0) else 20
set_option maxRecDepth 20000 in
theorem ccheckSeq_any (o:Int)(ao:Option Addr)(cap:Nat)(xs:List Int)(w:World)(h:Sl .i64 w (.slice ao xs.length cap) xs)(o0: -9223372036854775808<=o)(o1:o<=9223372036854775807):
 Calls Tryz.prog 125 #[.int .i64 o, .slice ao xs.length cap] w (RB w (.int .i64 (seqE o xs:Nat))):=by
 have HO:=Km (fun W=>ccheckOrder_any o W o0 o1);have HS:=Km h
 have hm:xs.length<=9223372036854775807:=by
  obtain⟨_,_,e,h1,h2,_⟩:=h;unfold maxLen at h2;omega
 have HC0:Kept (¬ FFld.Fit o->seqE o xs=20):=⟨fun hn=>by unfold seqE;rw[if_neg hn]⟩;have HC1:Kept (FFld.Fit o->200<xs.length->seqE o xs=2):=⟨fun hn h1=>by unfold seqE;rw[if_pos hn,if_pos h1]⟩;have HC2:Kept (FFld.Fit o-> ¬ 200<xs.length->belB o xs=false->seqE o xs=1):=⟨fun hn h1 h2=>by unfold seqE;rw[if_pos hn,if_neg h1,if_pos h2]⟩;have HC3:Kept (FFld.Fit o-> ¬ 200<xs.length-> ¬ (belB o xs=false)->seqE o xs=0):=⟨fun hn h1 h2=>by unfold seqE;rw[if_pos hn,if_neg h1,if_neg h2]⟩;obtain⟨r,hr⟩:∃ r,seqE o xs=r:=⟨_,rfl⟩;rw[hr] at HC0 HC1 HC2 HC3 ⊢;obtain⟨n,hn⟩:∃ n,xs.length=n:=⟨_,rfl⟩;rw[hn] at HS HC1 HC2 HC3 hm ⊢;clear h hr hn
 go_enter Tryz.func125,Tryz.ntmps125
 go_wp2_with fail;refine(HO.out _).mono ?_;rintro e w1 ⟨hb1,⟨hf,rfl⟩|⟨hf,rfl⟩⟩
 ·have HB1:=Km hb1;replace HC1:=Km (HC1.out hf);replace HC2:=Km (HC2.out hf);replace HC3:=Km (HC3.out hf);have HS1:=Km (HS.out.below hb1);clear hb1 hf HC0 HO
  by_cases h64:200<n
  ·have d1:decide ((200:Int)<n)=true:=decide_eq_true (by omega);obtain rfl:=HC1.out h64;go_wp2
   go_ret
   exact⟨HB1.out,rfl⟩
  ·have d1:decide ((200:Int)<n)=false:=decide_eq_false (by omega);have HA:=Km (careBelow_any o _ xs w1 HS1.out);obtain⟨t,ht⟩:∃ t,belB o xs=t:=⟨_,rfl⟩;rw[ht] at HA HC2 HC3;clear ht;go_wp2_with fail;(with_reducible refine HA.out.mono ?_);rintro e w2 ⟨rfl,rfl⟩
   cases t with
   | false=>
     obtain rfl:=HC2.out h64 rfl;go_wp2
     go_ret
     exact⟨HB1.out,rfl⟩
   | true=>
     obtain rfl:=HC3.out h64 (by simp);go_wp2
     go_ret
     exact⟨HB1.out,rfl⟩
 ·have HB1:=Km hb1;obtain rfl:=HC0.out hf;clear hb1 hf;go_wp2
  go_ret
  exact⟨HB1.out,rfl⟩
end
section
open Go Go.RowKit Go.Deep
open FFld (ints)
structure CapAt (b g:Nat)(oa:Option Addr)(on oc last:Nat)(since:Int)(w:World):Prop where
 f:w.heap[g]? =some (.cells #[.pointer (some ⟨b,0,none⟩)] 105 (0,0))
 old:w.heap[g+1]? =some (.cells #[.slice oa on oc] 22 (0,0))
 last:w.heap[g+2]? =some (.cells #[.int .i64 last] 3 (0,0))
 since:w.heap[g+3]? =some (.cells #[.int .i64 since] 3 (0,0))
theorem CapAt.below {b g:Nat}{oa:Option Addr}{on oc last:Nat}{since:Int}{w w' :World}(h:CapAt b g oa on oc last since w)(hb:Below w.heap.size w w'):CapAt b g oa on oc last since w' :=
 ⟨(hb.block _ (Array.getElem?_eq_some_iff.1 h.f).1).trans h.f,(hb.block _ (Array.getElem?_eq_some_iff.1 h.old).1).trans h.old,(hb.block _ (Array.getElem?_eq_some_iff.1 h.last).1).trans h.last,(hb.block _ (Array.getElem?_eq_some_iff.1 h.since).1).trans h.since⟩
theorem one_cell_ {w:World}{g:Nat}{a:Value}{T:TypeId}(h:w.heap[g]? =some (.cells #[a] T (0,0))):w.cell? ⟨g,0,none⟩=some a:=by
 rw[cell_of_row w g 0 _ T (0,0) h];rfl
abbrev cofn (g:Nat):Value:= .func (.func 229) #[] #[.pointer (some ⟨g,0,none⟩), .pointer (some ⟨g+2,0,none⟩), .pointer (some ⟨g+1,0,none⟩), .pointer (some ⟨g+3,0,none⟩)]
set_option maxRecDepth 20000 in
theorem ccorr_any (b:Nat)(oa:Option Addr)(on oc last:Nat)(since:Int)(w:World):
 Calls Tryz.prog 189 #[.pointer (some ⟨b,0,none⟩), .slice oa on oc, .int .i64 last, .int .i64 since] w (fun e w' =>Below w.heap.size w w' /\e= .returned (cofn w.heap.size)/\CapAt b w.heap.size oa on oc last since w'):=by
 have hmf:∀ (fn:Fn) (first cap:Array Value) (w:World),(Instr.makeFunc fn first cap).run Tryz.prog w= .ok (.func fn first cap) w:=fun _ _ _ _=>rfl
 obtain⟨W,hW⟩:∃ W,(((w.alloc (.cells #[.pointer (some ⟨b,0,none⟩)] 105)).alloc (.cells #[.slice oa on oc] 22)).alloc (.cells #[.int .i64 last] 3)).alloc (.cells #[.int .i64 since] 3)=W:=⟨_,rfl⟩;have HX:Kept (Bxs w [.cells #[.pointer (some ⟨b,0,none⟩)] 105, .cells #[.slice oa on oc] 22, .cells #[.int .i64 last] 3, .cells #[.int .i64 since] 3] W):=⟨by rw[<- hW];exact((((Bxs.start w).alloc (by simp) _).alloc (by simp) _).alloc (by simp) _).alloc (by simp) _⟩;have HC:Kept (CapAt b w.heap.size oa on oc last since W):=⟨⟨HX.out.b0,HX.out.b1,HX.out.2.2 2 _ rfl,HX.out.2.2 3 _ rfl⟩⟩
 go_enter Tryz.func189,Tryz.ntmps189
 go_wp2
 go_ret
 try rw[hW]
 exact⟨HX.out.1,rfl,HC.out⟩
set_option maxRecDepth 20000 in
theorem ccorr1_any {D:FFld.FD}{b g:Nat}(hD:D.Ok)(ra oa:Option Addr)(rc on oc last df sh:Nat)(since at_:Int)(rl ol:List Nat)(w:World)(hf:FldB D w b)(hcap:CapAt b g oa on oc last since w)(hr:Sl .i64 w (.slice ra rl.length rc) (ints rl))(ho:Sl .i64 w (.slice oa ol.length oc) (ints ol))(hon:ol.length=on)(hrq:∀ a∈rl,a<D.p ^ D.k)(hoq:∀ a∈ol,a<D.p ^ D.k)(hl:last<D.p ^ D.k)(hl0:last≠0)(hd:df<D.p ^ D.k)(hsh:at_-since=(sh:Nat))(ha0:0<=at_)(ha1:at_<=1000)(hs0: -1<=since)(hs1:since<=1000)(hrl:rl.length<=1000)(hol:sh+ol.length<=1000):
 Calls Tryz.prog 229 #[.slice ra rl.length rc, .int .i64 df, .int .i64 at_, .pointer (some ⟨g,0,none⟩), .pointer (some ⟨g+2,0,none⟩), .pointer (some ⟨g+1,0,none⟩), .pointer (some ⟨g+3,0,none⟩)] w (fun e w' =>Below w.heap.size w w' /\ ∃ v,e= .returned v/\Sl .i64 w' v (ints (FFld.plusF D rl ol (FFld.padd D.p D.k 0 (FFld.pscl D.p D.k (D.p-1) (FFld.pmul D.p D.k D.m df D.k (FFld.ppow hD.pre.pk last (D.q-2))))) sh))/\ ∀ k,live v=some k->w.heap.size<=k):=by
 have hq6:D.p ^ D.k<=65536:=hD.pre.small;have hk:=hD.pre.pk;have HDV:=Km (fun(W:World) (hW:Below w.heap.size w W)=>fdiv_any hD (df:Int) (last:Int) W (hf.below hW) (by omega) (by omega) (by omega) (by omega) df last (md_nat hd) (md_nat hl) hd hl hl0);obtain⟨ra',hra⟩:∃ x,FFld.pmul D.p D.k D.m df D.k (FFld.ppow hD.pre.pk last (D.q-2))=x:=⟨_,rfl⟩;have hrlt:ra' <D.p ^ D.k:=by rw[<- hra];exact FFld.pmul_lt hk _ _ _
 rw[hra] at HDV ⊢;have HSB:=Km (fun(W:World) (hW:Below w.heap.size w W)=>fsub_any (0:Int) (ra' :Int) W (hf.below hW) (by omega) (by omega) (by omega) (by omega) 0 ra' (by simp) (md_nat hrlt) (Nat.pow_pos hk.p0) hrlt);obtain⟨mi,hmi⟩:∃ x,FFld.padd D.p D.k 0 (FFld.pscl D.p D.k (D.p-1) ra')=x:=⟨_,rfl⟩;have hmlt:mi<D.p ^ D.k:=by rw[<- hmi];exact FFld.padd_lt hk _ _
 rw[hmi] at HSB ⊢
 have HPL:Kept (∀ W,Below w.heap.size w W->Calls Tryz.prog 165 #[.pointer (some ⟨b,0,none⟩), .slice ra rl.length rc, .slice oa on oc, .int .i64 mi, .int .i64 sh] W (fun e w' =>Below W.heap.size W w' /\ ∃ v,e= .returned v/\Sl .i64 w' v (ints (FFld.plusF D rl ol mi sh))/\ ∀ k,live v=some k->W.heap.size<=k)):=⟨fun W hW=>by
  have h:=cplus_any hD ra oa rc oc rl ol mi sh W (hf.below hW) (hr.below hW) (ho.below hW) hrq hoq hmlt (by omega) (by omega);rw[hon] at h;refine h.mono ?_;rintro e w' ⟨hb,rfl,hw⟩;refine⟨hb,_,rfl,hw.sl rfl ?_ ?_,fun k hk=>(by have h9:=live_own hk;simp[Value.ownBlock] at h9;omega)⟩
  ·unfold FFld.plusF;refine Nat.le_trans (FFld.trm_len_le _) ?_;rw[FFld.addm_len,FFld.padF_len (by omega),hon];exact Nat.le_refl _
  ·unfold maxLen
   omega⟩
 have HCP:=Km hcap;have e1:at_-since=(sh:Int):=hsh;have e2:IntKind.i64.wrap (sh:Int)=sh:=wi (by omega) (by omega);obtain⟨nr,hnr⟩:∃ x,rl.length=x:=⟨_,rfl⟩;rw[hnr] at HPL hrl ⊢;clear hf hcap hr ho hrq hoq hl hl0 hd hra hrlt hmi hmlt hsh hnr hk
 go_enter Tryz.func229,Tryz.ntmps229
 have c0:=one_cell_ HCP.out.f;have c1:=one_cell_ HCP.out.old;have c2:=one_cell_ HCP.out.last;have c3:=one_cell_ HCP.out.since;go_wp2_with fail;(with_reducible refine(HDV.out _ (Below.refl _ _)).mono ?_);rintro e w1 ⟨hb1,rfl⟩;have HB1:=Km hb1;have i0:=belowCell hb1 c0;have i1:=belowCell hb1 c1;have i2:=belowCell hb1 c3;have HS1:=Km (fun(W:World) (hW:Below w1.heap.size w1 W)=>HSB.out W (bstep HB1.out hW));have HS2:=Km (fun(W:World) (hW:Below w1.heap.size w1 W)=>HPL.out W (bstep HB1.out hW));clear hb1 c0 c1 c2 c3 HSB HPL HDV
 go_upto_region 2 with fail
 go_region_held3 (fun w' =>w'.cell? ⟨g,0,none⟩=some (.pointer (some ⟨b,0,none⟩))/\w'.cell? ⟨g+1,0,none⟩=some (.slice oa on oc)/\w'.cell? ⟨g+3,0,none⟩=some (.int .i64 since))
  (first|exact⟨jb0,jb1,jb2⟩|exact⟨ja0,ja1,ja2⟩|exact⟨i0,i1,i2⟩|go_keep)
  ((first
    |(go_at_call 115;(with_reducible refine(HS1.out _ ?h1).mono ?_);(case h1=>exact(by first|exact Below.refl _ _|exact(Below.refl _ _).drew));rintro e v1 ⟨hb1,rfl⟩;have hy1:=Km (bstep (show Below w1.heap.size w1 _ from(by first|exact Below.refl _ _|exact(Below.refl _ _).drew)) hb1);have ja0:=belowCell hy1.out i0;have ja1:=belowCell hy1.out i1;have ja2:=belowCell hy1.out i2;clear hb1)
    |(go_at_call 165;(with_reducible refine(HS2.out _ ?h1).mono ?_);(case h1=>exact hy1.out);rintro e v2 ⟨hb2,va,rfl,hva,hfr⟩;have hy2:=Km (bstep (show Below w1.heap.size w1 _ from hy1.out) hb2);have jb0:=belowCell hy2.out i0;have jb1:=belowCell hy2.out i1;have jb2:=belowCell hy2.out i2;clear hb2)))
 have HB3:=Km (bstep HB1.out hy2.out);have HV:=Km hva;have HFR:Kept (∀ k,live va=some k->w.heap.size<=k):=⟨fun k hk=>Nat.le_trans (bstep HB1.out hy1.out).size (hfr k hk)⟩
 obtain⟨va1,vn1,vc1,rfl⟩:∃ a n c,va= .slice a n c:=by
  obtain⟨a,c,e,_,_⟩:=HV.out.form;exact⟨_,_,_,e⟩
 clear hy1 hy2 hva hfr;go_wp2
 go_ret
 exact⟨HB3.out,_,rfl,HV.out,HFR.out⟩
end
section
namespace FFld
structure Bm where
 reg:List Nat
 len:Nat
 old:List Nat
 last:Nat
 since:Int
 prof:List Nat
def bmD (D:FD)(s:List Nat)(i:Nat)(st:Bm):Nat:=difF D st.reg s i st.reg.length
def bmR (D:FD)(h:PK D.p D.k D.m)(s:List Nat)(i:Nat)(st:Bm):List Nat:=plusF D st.reg st.old (padd D.p D.k 0 (pscl D.p D.k (D.p-1) (pmul D.p D.k D.m (bmD D s i st) D.k (ppow h st.last (D.q-2))))) ((i:Int)-st.since).toNat
def bmStep (D:FD)(h:PK D.p D.k D.m)(s:List Nat)(i:Nat)(st:Bm):Bm:=
 if bmD D s i st=0 then⟨st.reg,st.len,st.old,st.last,st.since,st.prof++ [st.len]⟩
 else if 2*st.len<=i then⟨bmR D h s i st,i+1-st.len,st.reg,bmD D s i st,i,st.prof++ [i+1-st.len]⟩
 else⟨bmR D h s i st,st.len,st.old,st.last,st.since,st.prof++ [st.len]⟩
def bmF (D:FD)(h:PK D.p D.k D.m)(s:List Nat):Nat->Bm
 |0=>⟨[1],0,[1],1, -1,[]⟩
 |i+1=>bmStep D h s i (bmF D h s i)
structure BmOk (D:FD)(i:Nat)(st:Bm):Prop where
 rq:∀ a∈st.reg,a<D.p ^ D.k
 oq:∀ a∈st.old,a<D.p ^ D.k
 rl:st.reg.length<=st.len+1
 ol:(st.old.length:Int)+st.len<=st.since+2
 li:st.len<=i
 ls:st.last<D.p ^ D.k
 l0:st.last≠0
 s0: -1<=st.since
 s1:st.since<i
 pl:st.prof.length=i
theorem plusF_le (D:FD)(p q:List Nat)(c s:Nat):(plusF D p q c s).length<=max p.length (s+q.length):=by
 unfold plusF;refine Nat.le_trans (trm_len_le _) ?_;rw[addm_len,padF_len (by omega)];exact Nat.le_refl _
theorem BmOk.step {D:FD}(h:PK D.p D.k D.m){s:List Nat}{i:Nat}{st:Bm}(ho:BmOk D i st):BmOk D (i+1) (bmStep D h s i st):=by
 have h1:=ho.ol;have h2:=ho.rl;have h3:=ho.li;have h4:=ho.s0;have h5:=ho.s1;have h6:=ho.pl;have hl:=plusF_le D st.reg st.old (padd D.p D.k 0 (pscl D.p D.k (D.p-1) (pmul D.p D.k D.m (bmD D s i st) D.k (ppow h st.last (D.q-2))))) ((i:Int)-st.since).toNat;unfold bmStep
 split
 ·exact⟨ho.rq,ho.oq,h2,h1,by simp only[];omega,ho.ls,ho.l0,h4,by simp only[];omega,by simp[h6]⟩
 ·rename_i hd
  have hdl:bmD D s i st<D.p ^ D.k:=difF_lt h _ _ _ _;have hr:∀ a∈bmR D h s i st,a<D.p ^ D.k:=plusF_lt h ho.rq
  split
  ·rename_i h7
   refine⟨hr,ho.rq,?_,?_,by simp only[];omega,hdl,hd,by simp only[];omega,by simp only[];omega,by simp[h6]⟩
   ·show(bmR D h s i st).length<=i+1-st.len+1
    unfold bmR;omega
   ·show(st.reg.length:Int)+((i+1-st.len:Nat):Int)<=(i:Int)+2
    omega
  ·refine⟨hr,ho.oq,?_,h1,by simp only[];omega,ho.ls,ho.l0,h4,by simp only[];omega,by simp[h6]⟩
   show(bmR D h s i st).length<=st.len+1
   unfold bmR;omega
theorem bm_ok {D:FD}(h:PK D.p D.k D.m)(s:List Nat):∀ i,BmOk D i (bmF D h s i)
 |0=>⟨fun a ha=>(by rw[List.mem_singleton.1 ha];exact h.one_lt),fun a ha=>(by rw[List.mem_singleton.1 ha];exact h.one_lt),by simp[bmF],by simp[bmF],Nat.le_refl _,h.one_lt,by simp[bmF],by simp[bmF],by simp[bmF],rfl⟩
 |i+1=>(bm_ok h s i).step h
end FFld
end
section
open Go Go.RowKit Go.Deep
open FFld (ints)
theorem live_lt {w:World}{v:Value}{xs:List Int}(h:Sl .i64 w v xs){k:Nat}(hk:live v=some k):k<w.heap.size:=by
 obtain⟨ao,cap,rfl,hc,hm,hx⟩:=h
 by_cases h0:0<xs.length
 ·obtain⟨b,o,rfl,hb,_⟩:=hx 0 h0;have:=live_own hk;simp[Value.ownBlock] at this;omega
 ·have:xs.length=0:=by omega
  rw[this] at hk
  cases ao<;>simp[live] at hk
theorem CapAt.lt {b g:Nat}{oa:Option Addr}{on oc last:Nat}{since:Int}{w:World}(h:CapAt b g oa on oc last since w):g+3<w.heap.size:=(Array.getElem?_eq_some_iff.1 h.since).1
theorem CapAt.kept {b g:Nat}{oa:Option Addr}{on oc last:Nat}{since:Int}{w w' :World}{row:Option Nat}(h:CapAt b g oa on oc last since w)(hg:w.grownBy w' row)(hne:∀ k,row=some k-> ¬ (g<=k/\k<=g+3)):CapAt b g oa on oc last since w' :=by
 have hl:=h.lt;have key:∀ j,j<=3->w'.heap[g+j]? =w.heap[g+j]? :=fun j hj=>hg.block _ (by omega) (fun e=>hne (g+j) e.symm (by omega))
 exact⟨(key 0 (by omega)).trans h.f,(key 1 (by omega)).trans h.old,(key 2 (by omega)).trans h.last,(key 3 (by omega)).trans h.since⟩
structure BmAt (b B g:Nat)(pv rv:Value)(oa:Option Addr)(oc:Nat)(st:FFld.Bm)(w:World):Prop where
 prof:Mine 3 .i64 B w pv (ints st.prof)
 reg:Sl .i64 w rv (ints st.reg)
 old:Sl .i64 w (.slice oa st.old.length oc) (ints st.old)
 cap:CapAt b g oa st.old.length oc st.last st.since w
 lo:B<=g
 n1:∀ k,pv.ownBlock=some k->live rv≠some k/\live (.slice oa st.old.length oc)≠some k/\ ¬ (g<=k/\k<=g+3)
theorem BmAt.below {b B g:Nat}{pv rv:Value}{oa:Option Addr}{oc:Nat}{st:FFld.Bm}{w w' :World}(h:BmAt b B g pv rv oa oc st w)(hb:Below w.heap.size w w'):BmAt b B g pv rv oa oc st w' :=
 ⟨h.prof.below hb,h.reg.below hb,h.old.below hb,h.cap.below hb,h.lo,h.n1⟩
theorem BmAt.push {b B g:Nat}{pv pv' rv:Value}{oa:Option Addr}{oc x:Nat}{st:FFld.Bm}{w w' :World}(h:BmAt b B g pv rv oa oc st w)(hm:Mine 3 .i64 B w' pv' (ints (st.prof++ [x])))(hg:w.grownBy w' pv.ownBlock)(hn:pv'.ownBlock=pv.ownBlock\/Frm w.heap.size pv'):
 BmAt b B g pv' rv oa oc ⟨st.reg,st.len,st.old,st.last,st.since,st.prof++ [x]⟩ w' :=by
 refine⟨hm,h.reg.kept hg fun k hk e=>(h.n1 k e).1 hk,h.old.kept hg fun k hk e=>(h.n1 k e).2.1 hk,h.cap.kept hg fun k e=>(h.n1 k e).2.2,h.lo,fun k hk=> ?_⟩
 rcases hn with e|e
 ·exact h.n1 k (e ▸ hk)
 ·have h1:=e k hk;refine⟨fun hl=> ?_,fun hl=> ?_,fun hl=> ?_⟩
  ·have:=live_lt h.reg hl;omega
  ·have:=live_lt h.old hl;omega
  ·have:=h.cap.lt;omega
theorem BmAt.turn {b B g:Nat}{pv rv rv' :Value}{oa:Option Addr}{oc:Nat}{st:FFld.Bm}{rl:List Nat}{w w' :World}(h:BmAt b B g pv rv oa oc st w)(hb:Below w.heap.size w w')(hs:Sl .i64 w' rv' (ints rl))(hf:∀ k,live rv' =some k->w.heap.size<=k):
 BmAt b B g pv rv' oa oc ⟨rl,st.len,st.old,st.last,st.since,st.prof⟩ w' :=
 ⟨h.prof.below hb,hs,h.old.below hb,h.cap.below hb,h.lo,fun k hk=>⟨fun hl=>(by have:=hf k hl;have:=(h.prof.own k hk).2;omega),(h.n1 k hk).2⟩⟩
theorem BmAt.swap {b B g:Nat}{pv rv:Value}{oa ra:Option Addr}{oc rc d:Nat}{i:Int}{st st0:FFld.Bm}{L:Nat}{w0 w w' :World}(h0:BmAt b B g pv (.slice ra st0.reg.length rc) oa oc st0 w0)(h:BmAt b B g pv rv oa oc st w)(hb0:Below w0.heap.size w0 w)(hb:Below w.heap.size w w')(hB:B<=w.heap.size)(hc:CapAt b w.heap.size ra st0.reg.length rc d i w'):
 BmAt b B w.heap.size pv rv ra rc ⟨st.reg,L,st0.reg,d,i,st.prof⟩ w' :=
 ⟨h.prof.below hb,h.reg.below hb,(h0.reg.below hb0).below hb,hc,hB,fun k hk=>⟨(h.n1 k hk).1,(h0.n1 k hk).1,fun hl=>(by have:=(h.prof.own k hk).2;omega)⟩⟩
theorem wv_drop {w:World}{g m:Nat}{l:List Nat}(h:Wv w g l)(hl:l.length=m+1)(hm:m<=1000):Sl .i64 w (.slice (some ⟨g,1,none⟩) m m) (ints (l.drop 1)):=by
 have e:(ints (l.drop 1)).length=m:=by rw[FFld.ints_len,List.length_drop];omega
 refine⟨_,m,by rw[e],by rw[e];exact Nat.le_refl _,by unfold maxLen;omega,fun i hi=>⟨g,1,rfl,h.lt,?_⟩⟩;rw[e] at hi;have hc:=h.cell (i:=1+i) (by omega);rw[hc,FFld.ints_get,List.getElem?_drop]
set_option maxRecDepth 20000 in
theorem cshort_any {D:FFld.FD}{b:Nat}(hD:D.Ok)(as_:Option Addr)(cs n:Nat)(sl:List Nat)(w:World)(hf:FldB D w b)(hs:Sl .i64 w (.slice as_ n cs) (ints sl))(hn:sl.length=n)(hsq:∀ a∈sl,a<D.p ^ D.k)(hn2:n<=200):
 Calls Tryz.prog 127 #[.pointer (some ⟨b,0,none⟩), .slice as_ n cs] w (fun e w' =>Below w.heap.size w w' /\ ∃ vt vp,e= .returned (.tuple #[vt,vp])/\Sl .i64 w' vt (ints ((FFld.padF (FFld.bmF D hD.pre.pk sl n).reg ((FFld.bmF D hD.pre.pk sl n).len+1)).drop 1))/\Sl .i64 w' vp (ints (FFld.bmF D hD.pre.pk sl n).prof)):=by
 have hq6:D.p ^ D.k<=65536:=hD.pre.small;have HOK:=Km (FFld.bm_ok hD.pre.pk sl);have HDF:=Km (fun(W:World) (hW:Below w.heap.size w W) (ra:Option Addr) (rc i:Nat) (rl:List Nat) (h:Sl .i64 W (.slice ra rl.length rc) (ints rl)) (hq:∀ a∈rl,a<D.p ^ D.k) (h1:rl.length<=i+1) (h2:i<sl.length)=>cdifference_any hD ra as_ rc cs i rl sl W (hf.below hW) h (by rw[hn];exact hs.below hW) hq hsq h1 h2 (by omega));rw[hn] at HDF;have HC1:=Km (fun(W:World) (hW:Below w.heap.size w W) (g:Nat) (ra oa:Option Addr) (rc on oc last df sh:Nat) (since at_:Int) (rl ol:List Nat)=>ccorr1_any (D:=D) (b:=b) (g:=g) hD ra oa rc on oc last df sh since at_ rl ol W (hf.below hW));have HCO:=Km (fun(W:World) (oa:Option Addr) (on oc last:Nat) (since:Int)=>ccorr_any b oa on oc last since W);have HC0:Kept (∀ W oa,Calls Tryz.prog 189 #[.pointer (some ⟨b,0,none⟩), .slice oa 1 1, .int .i64 1, .int .i64 (-1)] W (fun e w' =>Below W.heap.size W w' /\e= .returned (cofn W.heap.size)/\CapAt b W.heap.size oa 1 1 1 (-1) w')):=⟨fun W oa=>ccorr_any b oa 1 1 1 (-1) W⟩;have hal1:Below w.heap.size w (w.alloc (.cells #[.int .i64 1] 3)):=(Below.refl _ _).alloc (Nat.le_refl _) _;have hal2:Below w.heap.size w ((w.alloc (.cells #[.int .i64 1] 3)).alloc (.cells #[.int .i64 1] 3)):=hal1.alloc (by simp) _;have hr0:Sl .i64 ((w.alloc (.cells #[.int .i64 1] 3)).alloc (.cells #[.int .i64 1] 3)) (.slice (some ⟨w.heap.size,0,none⟩) 1 1) (ints [1]):=(cone_sl w 1).below ((Below.refl _ _).alloc (Nat.le_refl _) _)
 have ho0:Sl .i64 ((w.alloc (.cells #[.int .i64 1] 3)).alloc (.cells #[.int .i64 1] 3)) (.slice (some ⟨w.heap.size+1,0,none⟩) 1 1) (ints [1]):=by
  have h:=cone_sl (w.alloc (.cells #[.int .i64 1] 3)) 1;have e:(w.alloc (.cells #[.int .i64 1] 3)).heap.size=w.heap.size+1:=by simp
  rw[e] at h;exact h
 have HR0:=Km hr0;have HO0:=Km ho0;have HAL:=Km hal2;have hs2:((w.alloc (.cells #[.int .i64 1] 3)).alloc (.cells #[.int .i64 1] 3)).heap.size=w.heap.size+2:=by simp
 clear hf hs hsq hal1 hal2 hr0 ho0;have HN:=Km hn;clear hn
 go_enter Tryz.func127,Tryz.ntmps127
 go_wp2_with fail;(with_reducible refine(HC0.out _ _).mono ?_);rintro e w1 ⟨hb1,rfl,hcap⟩;have HB1:=Km (bstep HAL.out hb1);have HAT1:Kept (BmAt b w.heap.size ((w.alloc (.cells #[.int .i64 1] 3)).alloc (.cells #[.int .i64 1] 3)).heap.size (.slice none 0 0) (.slice (some ⟨w.heap.size,0,none⟩) 1 1) (some ⟨w.heap.size+1,0,none⟩) 1 ⟨[1],0,[1],1, -1,[]⟩ w1):=⟨⟨Mine.nil _ _ _ _,HR0.out.below hb1,HO0.out.below hb1,hcap,by rw[hs2];omega,fun k hk=>(by simp[Value.ownBlock] at hk)⟩⟩;rw[hs2] at HAT1;clear hb1 hcap HR0 HO0 HAL HC0;go_wp2
 go_loopw [5,6,7,8,18] (fun pv rv lv cv iv wr=> ∃ (i g rn L:Nat) (st:FFld.Bm) (ra oa:Option Addr) (rc oc:Nat),i<=n/\iv= .int .i64 i/\lv= .int .i64 L/\cv=cofn g/\rv= .slice ra rn rc/\Kept (FFld.bmF D hD.pre.pk sl i=st)/\Kept (st.reg.length=rn/\st.len=L)/\Kept (BmAt b w.heap.size g pv (.slice ra rn rc) oa oc st wr)/\Kept (Below w.heap.size w wr)) (fun _ _ _ _ iv _=>n-(intOf iv).toNat)
 case atStart=>exact⟨0,_,1,0,⟨[1],0,[1],1, -1,[]⟩,_,_,1,1,Nat.zero_le _,rfl,rfl,rfl,rfl,⟨rfl⟩,⟨rfl,rfl⟩,HAT1,HB1⟩
 case round=>
  clear HAT1 HB1;obtain⟨i,g,rn,L,st,ra,oa,rc,oc,hin,rfl,rfl,rfl,rfl,hst,hlen,hat,hbw⟩:=hrel;have hok:=HOK.out i;rw[hst.out] at hok;obtain⟨pa,pc,rfl,_,_⟩:=hat.out.prof.sl.form;have HPLN:Kept (st.prof.length=i):=⟨hok.pl⟩;rw[FFld.ints_len,HPLN.out] at hat
  try rw[FFld.ints_len,HPLN.out]
  have hL:L<=i:=by have:=hok.li;have:=hlen.out.2;omega
  have HOKI:=Km hok;have hrl:rn<=L+1:=by have:=hok.rl;have:=hlen.out;omega
  clear hok
  by_cases hlt:i<n
  ·have HNX:Kept (FFld.bmF D hD.pre.pk sl (i+1)=FFld.bmStep D hD.pre.pk sl i st):=⟨by show FFld.bmStep D hD.pre.pk sl i (FFld.bmF D hD.pre.pk sl i)=_;rw[hst.out]⟩;have hdf:=HDF.out wr hbw.out ra rc i st.reg (by rw[hlen.out.1];exact hat.out.reg) HOKI.out.rq (by rw[hlen.out.1];omega) hlt;obtain⟨d,hd⟩:∃ d,FFld.bmD D sl i st=d:=⟨_,rfl⟩;have hdq:d<D.p ^ D.k:=by rw[<- hd];exact FFld.difF_lt hD.pre.pk _ _ _ _
   have hd' :FFld.difF D st.reg sl i st.reg.length=d:=hd;rw[hd',hlen.out.1] at hdf;have HDFI:=Km hdf;have HDD:=Km hd;clear hdf hd hd';go_wp2_with fail;(with_reducible refine HDFI.out.mono ?_);rintro e w2 ⟨hb2,rfl⟩;have HAT2:=Km (hat.out.below hb2);have HB2:=Km (bstep hbw.out hb2);clear hb2 hat hbw HDFI
   by_cases h0:d=0
   ·subst h0;have HST:Kept (FFld.bmF D hD.pre.pk sl (i+1)=⟨st.reg,st.len,st.old,st.last,st.since,st.prof++ [L]⟩):=⟨by rw[HNX.out];unfold FFld.bmStep;rw[if_pos HDD.out,hlen.out.2]⟩;have HM3:=Km (HAT2.out.prof.alloc (.cells #[.int .i64 (L:Nat)] 3));have HNW:=Km (new_one (K:= .i64) (x:=((L:Nat):Int)) (w:=w2.alloc (.cells #[.int .i64 (L:Nat)] 3)) (b:=w2.heap.size) (o:=0) (by exact(Row.new (E:=3) (K:= .i64) w2 [((L:Nat):Int)]).cell (i:=0) (by simp)));have hsz:=HB2.out.size;have HBB:=Km (show w.heap.size<=(w2.alloc (.cells #[.int .i64 (L:Nat)] 3)).heap.size by simp;omega);have HBQ:=Km (HB2.out.alloc hsz (.cells #[.int .i64 (L:Nat)] 3));have HOW:=Km HM3.out.own;have HATA:=Km (HAT2.out.below ((Below.refl w2.heap.size w2).alloc (Nat.le_refl _) (.cells #[.int .i64 (L:Nat)] 3)));have H1:=Km (show((ints (st).prof).length+ [((L:Nat):Int)].length)*8<=140737488355328 by rw[FFld.ints_len,HPLN.out];simp;omega);have H2:=Km (show(ints (st).prof).length+ [((L:Nat):Int)].length<=maxLen by rw[FFld.ints_len,HPLN.out];unfold maxLen;simp;omega)
    go_wp2_with (at_builtin;refine wpList_append_mine _ rfl _ _ 22 (by rfl) 3 .i64 8 Tryz.underlying22 info_i64 w.heap.size (.slice pa i pc) (ints (st).prof) (by rfl) HM3.out HBB.out ⟨w2.heap.size,0,none⟩ 1 1 [((L:Nat):Int)] (by rfl) rfl HNW.out H1.out H2.out ?_)
    intro v' w9 hm9 hg9 hn9;have eSZ:(w2.alloc (.cells #[.int .i64 (L:Nat)] 3)).heap.size=w2.heap.size+1:=by simp
    have HAT9:=Km (HATA.out.push (x:=L) (by rw[FFld.ints_append];exact hm9) hg9 (by rw[eSZ];exact hn9));clear eSZ;have HB9:=Km (HBQ.out.grown hg9 HBB.out (fun j hj=>(HOW.out j hj).1));clear hm9 hg9 hn9;go_wp2;go_roundw
    case rel=>exact⟨i+1,g,rn,L,_,ra,oa,rc,oc,by omega,by go_num,rfl,rfl,rfl,HST,hlen,HAT9,HB9⟩
    case measure=>simp[intOf]<;>omega
   ·have e0:((d:Int)!=0)=true:=by rw[bne_iff_ne];omega
    obtain⟨sh,hsh⟩:∃ sh:Nat,(i:Int)-st.since=sh:=⟨((i:Int)-st.since).toNat,by have:=HOKI.out.s1;omega⟩;have h1:=HC1.out w2 HB2.out g ra oa rc st.old.length oc st.last d sh st.since (i:Int) st.reg st.old HAT2.out.cap (by rw[hlen.out.1];exact HAT2.out.reg) HAT2.out.old rfl HOKI.out.rq HOKI.out.oq HOKI.out.ls HOKI.out.l0 hdq hsh (by omega) (by omega) HOKI.out.s0 (by have:=HOKI.out.s1;omega) (by rw[hlen.out.1];omega) (by have:=HOKI.out.ol;have:=HOKI.out.s0;omega);have hR:FFld.plusF D st.reg st.old (FFld.padd D.p D.k 0 (FFld.pscl D.p D.k (D.p-1) (FFld.pmul D.p D.k D.m d D.k (FFld.ppow hD.pre.pk st.last (D.q-2))))) sh=FFld.bmR D hD.pre.pk sl i st:=by unfold FFld.bmR;rw[HDD.out,hsh];rfl
    rw[hR,hlen.out.1] at h1;have HCI:=Km h1;obtain⟨R,hRR⟩:∃ l,FFld.bmR D hD.pre.pk sl i st=l:=⟨_,rfl⟩;rw[hRR] at HCI;have HRR:=Km hRR;clear h1 hR hRR hsh;go_wp2_with fail;(with_reducible refine HCI.out.mono ?_);rintro e w3 ⟨hb3,vr,rfl,hsr,hfr⟩;obtain⟨ra3,rc3,rfl,_,_⟩:=hsr.form;rw[FFld.ints_len] at hsr hfr ⊢;have HAT3:=Km (HAT2.out.turn hb3 hsr hfr);have HB3:=Km (bstep HB2.out hb3);have HBA:=Km hb3;obtain⟨rn3,hrn3⟩:∃ x,R.length=x:=⟨_,rfl⟩;have HRN:=Km hrn3;rw[hrn3] at HAT3 ⊢;clear hb3 hsr hfr hrn3 HCI;have hw2:IntKind.i64.wrap (2*(L:Int))=2*(L:Int):=wi (by omega) (by omega)
    by_cases h2:2*L<=i
    ·have d2:decide (2*(L:Int)<=i)=true:=decide_eq_true (by omega);have HCC:=Km (HCO.out w3 ra rn rc d (i:Int));obtain⟨M,hM⟩:∃ M,i+1-L=M:=⟨_,rfl⟩;have eM:(i:Int)+1-(L:Int)=M:=by omega
     have HST:Kept (FFld.bmF D hD.pre.pk sl (i+1)=⟨R,M,st.reg,d,i,st.prof++ [M]⟩):=⟨by rw[HNX.out];unfold FFld.bmStep;rw[if_neg (by rw[HDD.out];exact h0),if_pos (by rw[hlen.out.2];exact h2),HRR.out,HDD.out,hlen.out.2,hM]⟩;go_wp2_with fail;(with_reducible refine HCC.out.mono ?_);rintro e w4 ⟨hb4,rfl,hcap4⟩;have hat2:=HAT2.out;have HAT4:=Km (BmAt.swap (L:=M) (st0:=st) (ra:=ra) (rc:=rc) (d:=d) (i:=(i:Int)) (by rw[hlen.out.1];exact hat2) HAT3.out HBA.out hb4 HB3.out.size (by rw[hlen.out.1];exact hcap4));have HB4:=Km (bstep HB3.out hb4);obtain⟨g4,hg4⟩:∃ x,w3.heap.size=x:=⟨_,rfl⟩;rw[hg4] at HAT4 ⊢;clear hb4 hcap4 hat2 hg4 HCC;have HM3:=Km (HAT4.out.prof.alloc (.cells #[.int .i64 (M:Nat)] 3));have HNW:=Km (new_one (K:= .i64) (x:=((M:Nat):Int)) (w:=w4.alloc (.cells #[.int .i64 (M:Nat)] 3)) (b:=w4.heap.size) (o:=0) (by exact(Row.new (E:=3) (K:= .i64) w4 [((M:Nat):Int)]).cell (i:=0) (by simp)));have hsz:=HB4.out.size;have HBB:=Km (show w.heap.size<=(w4.alloc (.cells #[.int .i64 (M:Nat)] 3)).heap.size by simp;omega);have HBQ:=Km (HB4.out.alloc hsz (.cells #[.int .i64 (M:Nat)] 3));have HOW:=Km HM3.out.own;have HATA:=Km (HAT4.out.below ((Below.refl w4.heap.size w4).alloc (Nat.le_refl _) (.cells #[.int .i64 (M:Nat)] 3)));have H1:=Km (show((ints ((⟨R,M,st.reg,d,i,st.prof⟩:FFld.Bm)).prof).length+ [((M:Nat):Int)].length)*8<=140737488355328 by rw[FFld.ints_len,HPLN.out];simp;omega);have H2:=Km (show(ints ((⟨R,M,st.reg,d,i,st.prof⟩:FFld.Bm)).prof).length+ [((M:Nat):Int)].length<=maxLen by rw[FFld.ints_len,HPLN.out];unfold maxLen;simp;omega)
     go_wp2_with (at_builtin;refine wpList_append_mine _ rfl _ _ 22 (by rfl) 3 .i64 8 Tryz.underlying22 info_i64 w.heap.size (.slice pa i pc) (ints ((⟨R,M,st.reg,d,i,st.prof⟩:FFld.Bm)).prof) (by rfl) HM3.out HBB.out ⟨w4.heap.size,0,none⟩ 1 1 [((M:Nat):Int)] (by rfl) rfl HNW.out H1.out H2.out ?_)
     intro v' w9 hm9 hg9 hn9;have eSZ:(w4.alloc (.cells #[.int .i64 (M:Nat)] 3)).heap.size=w4.heap.size+1:=by simp
     have HAT9:=Km (HATA.out.push (x:=M) (by rw[FFld.ints_append];exact hm9) hg9 (by rw[eSZ];exact hn9));clear eSZ;have HB9:=Km (HBQ.out.grown hg9 HBB.out (fun j hj=>(HOW.out j hj).1));clear hm9 hg9 hn9;go_wp2;go_roundw
     case rel=>exact⟨i+1,g4,rn3,M,_,ra3,ra,rc3,rc,by omega,by go_num,rfl,rfl,rfl,HST,⟨HRN.out,rfl⟩,HAT9,HB9⟩
     case measure=>simp[intOf]<;>omega
    ·have d2:decide (2*(L:Int)<=i)=false:=decide_eq_false (by omega);have HST:Kept (FFld.bmF D hD.pre.pk sl (i+1)=⟨R,st.len,st.old,st.last,st.since,st.prof++ [L]⟩):=⟨by rw[HNX.out];unfold FFld.bmStep;rw[if_neg (by rw[HDD.out];exact h0),if_neg (by rw[hlen.out.2];exact h2),HRR.out,hlen.out.2]⟩;have HM3:=Km (HAT3.out.prof.alloc (.cells #[.int .i64 (L:Nat)] 3));have HNW:=Km (new_one (K:= .i64) (x:=((L:Nat):Int)) (w:=w3.alloc (.cells #[.int .i64 (L:Nat)] 3)) (b:=w3.heap.size) (o:=0) (by exact(Row.new (E:=3) (K:= .i64) w3 [((L:Nat):Int)]).cell (i:=0) (by simp)));have hsz:=HB3.out.size;have HBB:=Km (show w.heap.size<=(w3.alloc (.cells #[.int .i64 (L:Nat)] 3)).heap.size by simp;omega);have HBQ:=Km (HB3.out.alloc hsz (.cells #[.int .i64 (L:Nat)] 3));have HOW:=Km HM3.out.own;have HATA:=Km (HAT3.out.below ((Below.refl w3.heap.size w3).alloc (Nat.le_refl _) (.cells #[.int .i64 (L:Nat)] 3)));have H1:=Km (show((ints ((⟨R,st.len,st.old,st.last,st.since,st.prof⟩:FFld.Bm)).prof).length+ [((L:Nat):Int)].length)*8<=140737488355328 by rw[FFld.ints_len,HPLN.out];simp;omega);have H2:=Km (show(ints ((⟨R,st.len,st.old,st.last,st.since,st.prof⟩:FFld.Bm)).prof).length+ [((L:Nat):Int)].length<=maxLen by rw[FFld.ints_len,HPLN.out];unfold maxLen;simp;omega)
     go_wp2_with (at_builtin;refine wpList_append_mine _ rfl _ _ 22 (by rfl) 3 .i64 8 Tryz.underlying22 info_i64 w.heap.size (.slice pa i pc) (ints ((⟨R,st.len,st.old,st.last,st.since,st.prof⟩:FFld.Bm)).prof) (by rfl) HM3.out HBB.out ⟨w3.heap.size,0,none⟩ 1 1 [((L:Nat):Int)] (by rfl) rfl HNW.out H1.out H2.out ?_)
     intro v' w9 hm9 hg9 hn9;have eSZ:(w3.alloc (.cells #[.int .i64 (L:Nat)] 3)).heap.size=w3.heap.size+1:=by simp
     have HAT9:=Km (HATA.out.push (x:=L) (by rw[FFld.ints_append];exact hm9) hg9 (by rw[eSZ];exact hn9));clear eSZ;have HB9:=Km (HBQ.out.grown hg9 HBB.out (fun j hj=>(HOW.out j hj).1));clear hm9 hg9 hn9;go_wp2;go_roundw
     case rel=>exact⟨i+1,g,rn3,L,_,ra3,oa,rc3,oc,by omega,by go_num,rfl,rfl,rfl,HST,⟨HRN.out,hlen.out.2⟩,HAT9,HB9⟩
     case measure=>simp[intOf]<;>omega
  ·obtain rfl:i=n:=by omega
   obtain⟨M,hM⟩:∃ M,L+1=M:=⟨_,rfl⟩;have eM:(L:Int)+1=M:=by omega
   have hpd:=cpadded_any ra rc st.reg M wr (by rw[hlen.out.1];exact hat.out.reg) (by rw[hlen.out.1];omega) (by omega);rw[hlen.out.1] at hpd;have HPD:=Km hpd;clear hpd;go_wp2_with fail;(with_reducible refine HPD.out.mono ?_);rintro e w2 ⟨hb2,rfl,hw2⟩;have HB2:=Km (bstep hbw.out hb2);have HPR:=Km ((hat.out.prof.below hb2).sl);have HW2:=Km hw2;have HPE:Kept (FFld.padF st.reg (st.len+1)=FFld.padF st.reg M):=⟨by rw[hlen.out.2,hM]⟩;have HPF:Kept ((FFld.padF st.reg M).length=M):=⟨FFld.padF_len (by rw[hlen.out.1];omega)⟩;obtain⟨gr,hgr⟩:∃ x,wr.heap.size=x:=⟨_,rfl⟩;rw[hgr] at HW2
   try rw[hgr]
   clear hb2 hw2 hgr hat hbw HPD
   by_cases hL0:L=0
   ·subst hL0;obtain rfl:M=1:=by omega
    have HT:Kept (Sl .i64 w2 (.slice (some ⟨gr,0,none⟩) 0 0) (ints ((FFld.padF st.reg 1).drop 1))):=⟨by
     have e:(FFld.padF st.reg 1).drop 1= []:=List.eq_nil_of_length_eq_zero (by rw[List.length_drop,HPF.out]);rw[e]
     exact⟨_,0,rfl,Nat.le_refl _,by unfold maxLen;omega,fun i hi=>absurd hi (by simp[ints])⟩⟩
    go_wp2;exact bodyPost_ret (v:= .tuple #[.slice (some ⟨gr,0,none⟩) 0 0, .slice pa i pc]) (by simp[results,Tryz.results127,go_sem]) rfl ⟨HB2.out,_,_,rfl,by rw[hst.out,HPE.out];exact HT.out,by rw[hst.out];exact HPR.out⟩
   ·have HT:=Km (wv_drop (m:=L) HW2.out (by rw[HPF.out];omega) (by omega));have hM1:1<M:=by omega
    have eM1:M-1=L:=by omega
    have eM2:(M:Int)-1=L:=by omega
    go_wp2;exact bodyPost_ret (v:= .tuple #[.slice (some ⟨gr,1,none⟩) L L, .slice pa i pc]) (by simp[results,Tryz.results127,go_sem,eM1]) rfl ⟨HB2.out,_,_,rfl,by rw[hst.out,HPE.out];exact HT.out,by rw[hst.out];exact HPR.out⟩
end
end Go.Proofs.YtdnheaafcbihbaaGreat
