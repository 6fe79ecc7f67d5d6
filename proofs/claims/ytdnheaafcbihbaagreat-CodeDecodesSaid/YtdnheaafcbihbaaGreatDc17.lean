/-
  Texts of the proof, merged by program: Cbd Cck Rta Lin Psr Pdv Pfr Pder Pchr Pbe Toe Trm.
-/
import Derived.Test.YtdnheaafcbihbaaGreatDc16
set_option linter.unusedSectionVars false
set_option linter.unusedSimpArgs false
set_option linter.unusedVariables false
set_option maxHeartbeats 16000000
namespace Go.Proofs.YtdnheaafcbihbaaGreat
section
open Go Go.RowKit Go.Deep
open FFld (ints)
def belB (L:Int)(xs:List Int):Bool:=xs.all fun a=>decide (0<=a/\a<L)
set_option maxRecDepth 20000 in
theorem careBelow_any (L:Int)(v:Value)(xs:List Int)(w:World)(h:Sl .i64 w v xs):
 Calls Tryz.prog 85 #[.int .i64 L,v] w (fun e w' =>w=w' /\e= .returned (.bool (belB L xs))):=by
 obtain⟨ao,cap,rfl,hcap,hmax,hc⟩:=h;obtain⟨n,hN⟩:∃ n,xs.length=n:=⟨_,rfl⟩;have HC:=Km hc;rw[hN] at hcap ⊢;have HN:=Km hN;unfold maxLen at hmax;clear hc hN
 go_enter Tryz.func85,Tryz.ntmps85
 go_wp2
 go_loopw [9] (fun iv wr=> ∃ (i:Nat),i<=n/\iv= .int .i64 i/\Kept (belB L (xs.take i)=true)/\w=wr) (fun iv _=>n-(intOf iv).toNat)
 case atStart=>exact⟨0,Nat.zero_le _,rfl,⟨rfl⟩,rfl⟩
 case round=>
  obtain⟨i,hin,rfl,hat,rfl⟩:=hrel
  by_cases hlt:i<n
  ·obtain⟨g,o,rfl,hg,hcell⟩:=HC.out i (by rw[HN.out];exact hlt);obtain⟨a,ha⟩:∃ a,xs[i]?.getD 0=a:=⟨_,rfl⟩;rw[ha] at hcell
   have hT:xs.take (i+1)=xs.take i++ [a]:=by
    rw[List.take_add_one]
    congr 1
    rw[<- ha,List.getElem?_eq_getElem (by rw[HN.out];exact hlt)];rfl
   have HT:Kept (belB L (xs.take (i+1))=decide (0<=a/\a<L)):=⟨by
    have:=hat.out;unfold belB at this ⊢;rw[hT,List.all_append,this]
    simp only[List.all_cons,List.all_nil,Bool.and_true,Bool.true_and]⟩
   have HE:Kept (¬ (0<=a/\a<L)->belB L xs=false):=⟨fun hno=>by
    have h1:=HT.out;rw[decide_eq_false hno] at h1;unfold belB at h1 ⊢;rw[<- List.take_append_drop (i+1) xs,List.all_append,h1]
    rfl⟩
   clear ha hT
   by_cases h1:a<0
   ·have HE' :Kept (belB L xs=false):=⟨HE.out (by omega)⟩;have d1:decide (a<0)=true:=decide_eq_true h1;go_wp2
    go_ret
    exact⟨rfl,by rw[HE'.out];rfl⟩
   ·by_cases h2:L<=a
    ·have HE' :Kept (belB L xs=false):=⟨HE.out (by omega)⟩;have d1:decide (a<0)=false:=decide_eq_false h1;have d2:decide (L<=a)=true:=decide_eq_true h2;go_wp2
     go_ret
     exact⟨rfl,by rw[HE'.out];rfl⟩
    ·have HT' :Kept (belB L (xs.take (i+1))=true):=⟨by rw[HT.out];exact decide_eq_true (by omega)⟩;have d1:decide (a<0)=false:=decide_eq_false h1;have d2:decide (L<=a)=false:=decide_eq_false h2;go_wp2;go_roundw
     case rel=>exact⟨i+1,by omega,by go_num,HT',trivial⟩
     case measure=>simp[intOf]<;>omega
  ·obtain rfl:i=n:=by omega
   have HE:Kept (belB L xs=true):=⟨by have:=hat.out;rw[<- HN.out,List.take_length] at this;exact this⟩;go_wp2
   go_ret
   exact⟨rfl,by rw[HE.out];rfl⟩
def difAt (xs:List Int)(i j:Nat):Bool:=(List.range j).all fun b=>decide (xs[i]?.getD 0≠xs[b]?.getD 0)
def difB (xs:List Int)(n:Nat):Bool:=(List.range n).all fun a=>difAt xs a a
theorem difAt_succ (xs:List Int)(i j:Nat):difAt xs i (j+1)=(difAt xs i j&&decide (xs[i]?.getD 0≠xs[j]?.getD 0)):=by
 unfold difAt;rw[List.range_succ,List.all_append];simp
theorem difB_succ (xs:List Int)(n:Nat):difB xs (n+1)=(difB xs n&&difAt xs n n):=by
 unfold difB;rw[List.range_succ,List.all_append];simp
theorem difB_no {xs:List Int}{i j n:Nat}(hj:j<i)(hi:i<n)(h:xs[i]?.getD 0=xs[j]?.getD 0):difB xs n=false:=by
 unfold difB;rw[List.all_eq_false];refine⟨i,List.mem_range.2 hi,?_⟩;unfold difAt;rw[Bool.not_eq_true,List.all_eq_false];exact⟨j,List.mem_range.2 hj,by simp[h]⟩
set_option maxRecDepth 20000 in
theorem careDifferent_any (v:Value)(xs:List Int)(w:World)(h:Sl .i64 w v xs):
 Calls Tryz.prog 86 #[v] w (fun e w' =>w=w' /\e= .returned (.bool (difB xs xs.length))):=by
 obtain⟨ao,cap,rfl,hcap,hmax,hc⟩:=h;obtain⟨n,hN⟩:∃ n,xs.length=n:=⟨_,rfl⟩;have HC:=Km hc;rw[hN] at hcap HC ⊢;clear hN;unfold maxLen at hmax;clear hc
 go_enter Tryz.func86,Tryz.ntmps86
 go_wp2
 go_loopw [9] (fun iv wr=> ∃ (i:Nat),i<=n/\iv= .int .i64 i/\Kept (difB xs i=true)/\w=wr) (fun iv _=>n-(intOf iv).toNat)
 case atStart=>exact⟨0,Nat.zero_le _,rfl,⟨rfl⟩,rfl⟩
 case round=>
  obtain⟨i,hin,rfl,hat,rfl⟩:=hrel
  by_cases hlt:i<n
  ·obtain⟨g,o,rfl,hg,hcell⟩:=HC.out i hlt;obtain⟨a,ha⟩:∃ a,xs[i]?.getD 0=a:=⟨_,rfl⟩;rw[ha] at hcell;have HA:=Km ha;have hic:i<=cap:=by omega
   clear ha;go_wp2
   go_loopw [18] (fun jv wr=> ∃ (j:Nat),j<=i/\jv= .int .i64 j/\Kept (difAt xs i j=true)/\w=wr) (fun jv _=>i-(intOf jv).toNat)
   case atStart=>exact⟨0,Nat.zero_le _,rfl,⟨rfl⟩,rfl⟩
   case round=>
    obtain⟨j,hji,rfl,hdj,rfl⟩:=hrel
    by_cases hj:j<i
    ·obtain⟨g',o',e',hg',hcell'⟩:=HC.out j (by omega);obtain⟨rfl,rfl⟩:g=g' /\o=o' :=by simpa using e'
     clear e';obtain⟨c,hcc⟩:∃ c,xs[j]?.getD 0=c:=⟨_,rfl⟩;rw[hcc] at hcell'
     by_cases hac:a=c
     ·have HE:Kept (difB xs n=false):=⟨difB_no hj hlt (by rw[HA.out,hcc];exact hac)⟩;have e0:(a==c)=true:=beq_iff_eq.2 hac;clear hcc;go_wp2
      go_ret
      exact⟨rfl,by rw[HE.out];rfl⟩
     ·have HT:Kept (difAt xs i (j+1)=true):=⟨by rw[difAt_succ,hdj.out,HA.out,hcc];simpa using hac⟩;have e0:(a==c)=false:=beq_eq_false_iff_ne.2 hac;clear hcc;go_wp2;go_roundw
      case rel=>exact⟨j+1,by omega,by go_num,HT,trivial⟩
      case measure=>simp[intOf]<;>omega
    ·obtain rfl:j=i:=by omega
     have HT:Kept (difB xs (j+1)=true):=⟨by rw[difB_succ,hat.out,hdj.out];rfl⟩;go_wp2;go_roundw
     case rel=>exact⟨j+1,by omega,by go_num,HT,trivial⟩
     case measure=>simp[intOf]<;>omega
  ·obtain rfl:i=n:=by omega
   go_wp2
   go_ret
   exact⟨rfl,by rw[hat.out];rfl⟩
set_option maxRecDepth 20000 in
theorem ctrimmed_any (l:List Nat)(ao:Option Addr)(cap:Nat)(w:World)(h:Sl .i64 w (.slice ao l.length cap) (ints l)):
 Calls Tryz.prog 160 #[.slice ao l.length cap] w (fun e w' =>w=w' /\e= .returned (.slice ao (FFld.trm l).length cap)):=by
 have key:∀ n,n<=l.length->(∀ i,n<=i->l[i]?.getD 0=0)->(n=0\/l[n-1]?.getD 0≠0)->(FFld.trm l).length=n:=fun n h1 h2 h3=>by
  have:=FFld.trmN_is h2 h3 (l.length-n);rw[show n+(l.length-n)=l.length by omega] at this;rw[FFld.trm_len,this]
 have KEY:=Km key;clear key;obtain⟨ao',cap',e,hcap,hmax,hc⟩:=h;simp only[Value.slice.injEq] at e;obtain⟨rfl,e2,rfl⟩:=e;clear e2;rw[FFld.ints_len] at hcap hc;unfold maxLen at hmax;have HC:=Km hc;clear hc
 go_enter Tryz.func160,Tryz.ntmps160
 go_wp2
 go_loopw [3] (fun nv wr=> ∃ k:Nat,k<=l.length/\nv= .int .i64 k/\Kept (∀ i,k<=i->l[i]?.getD 0=0)/\w=wr) (fun nv _=>(intOf nv).toNat)
 case atStart=>exact⟨l.length,Nat.le_refl _,rfl,⟨fun i hi=>by simp[hi]⟩,rfl⟩
 case round=>
  obtain⟨k,hk,rfl,hz,rfl⟩:=hrel
  by_cases h0:0<k
  ·obtain⟨b,o,rfl,hb,hcell⟩:=HC.out (k-1) (by omega);obtain⟨k,rfl⟩:∃ j,k=j+1:=⟨k-1,by omega⟩;rw[FFld.ints_get] at hcell;simp only[Nat.add_sub_cancel] at hcell;obtain⟨x,hx⟩:∃ x,l[k]?.getD 0=x:=⟨_,rfl⟩;rw[hx] at hcell
   by_cases hx0:x=0
   ·subst hx0;have HX:=Km hx;have e0:(((0:Nat):Int)==0)=true:=rfl;clear hx;go_wp2;go_roundw
    case rel=>exact⟨k,by omega,by go_num,⟨fun i hi=>by
     by_cases e:i=k
     ·rw[e];exact HX.out
     ·exact hz.out i (by omega)⟩,trivial⟩
    case measure=>simp[intOf]<;>omega
   ·have e0:((x:Int)==0)=false:=by rw[beq_eq_false_iff_ne];omega
    have HX:Kept ((FFld.trm l).length=k+1):=⟨KEY.out (k+1) hk hz.out (.inr (by simpa[hx] using hx0))⟩;clear hx hx0;go_wp2
    go_ret
    exact⟨rfl,by rw[HX.out];rfl⟩
  ·obtain rfl:k=0:=by omega
   have HX:Kept ((FFld.trm l).length=0):=⟨KEY.out 0 hk hz.out (.inl rfl)⟩;go_wp2
   go_ret
   exact⟨rfl,by rw[HX.out];rfl⟩
def disF (xs ys:List Int):Nat->Nat
 |0=>0
 |n+1=>if xs[n]?.getD 0=ys[n]?.getD 0 then disF xs ys n else disF xs ys n+1
theorem disF_le (xs ys:List Int):∀ n,disF xs ys n<=n
 |0=>Nat.le_refl _
 | n+1=>by
   have:=disF_le xs ys n;unfold disF
   split<;>omega
set_option maxRecDepth 20000 in
theorem cdistance_any (v v' :Value)(xs ys:List Int)(w:World)(h:Sl .i64 w v xs)(h' :Sl .i64 w v' ys)(hl:xs.length=ys.length):
 Calls Tryz.prog 96 #[v,v'] w (fun e w' =>w=w' /\e= .returned (.int .i64 (disF xs ys xs.length:Nat))):=by
 obtain⟨ao,cap,rfl,hcap,hmax,hc⟩:=h;obtain⟨bo,cap2,rfl,hcap2,hmax2,hc2⟩:=h';obtain⟨n,hN⟩:∃ n,xs.length=n:=⟨_,rfl⟩;have HC:=Km hc;have HC2:=Km hc2;rw[<- hl] at hcap2 HC2 ⊢;rw[hN] at hcap hcap2 HC HC2 ⊢;clear hN hl;unfold maxLen at hmax hmax2;clear hc hc2
 go_enter Tryz.func96,Tryz.ntmps96
 go_wp2
 go_loopw [5,10] (fun cv iv wr=> ∃ (i c:Nat),i<=n/\c<=i/\iv= .int .i64 i/\cv= .int .i64 c/\Kept (disF xs ys i=c)/\w=wr) (fun _ iv _=>n-(intOf iv).toNat)
 case atStart=>exact⟨0,0,Nat.zero_le _,Nat.le_refl _,rfl,rfl,⟨rfl⟩,rfl⟩
 case round=>
  obtain⟨i,c,hin,hci,rfl,rfl,hat,rfl⟩:=hrel
  by_cases hlt:i<n
  ·obtain⟨g,o,rfl,hg,hcell⟩:=HC.out i hlt;obtain⟨g2,o2,rfl,hg2,hcell2⟩:=HC2.out i hlt;obtain⟨a,ha⟩:∃ a,xs[i]?.getD 0=a:=⟨_,rfl⟩;obtain⟨b,hb⟩:∃ b,ys[i]?.getD 0=b:=⟨_,rfl⟩;rw[ha] at hcell;rw[hb] at hcell2
   have HD:Kept (disF xs ys (i+1)=if a=b then c else c+1):=⟨by
    show(if xs[i]?.getD 0=ys[i]?.getD 0 then disF xs ys i else disF xs ys i+1)=_
    rw[ha,hb,hat.out]⟩
   clear ha hb
   by_cases hab:a=b
   ·have HD' :Kept (disF xs ys (i+1)=c):=⟨by rw[HD.out,if_pos hab]⟩;have e0:(a !=b)=false:=by rw[hab];simp
    clear hat;go_wp2;go_roundw
    case rel=>exact⟨i+1,c,by omega,by omega,by go_num,rfl,HD',trivial⟩
    case measure=>simp[intOf]<;>omega
   ·have HD' :Kept (disF xs ys (i+1)=c+1):=⟨by rw[HD.out,if_neg hab]⟩;have e0:(a !=b)=true:=bne_iff_ne.2 hab;clear hat;go_wp2;go_roundw
    case rel=>exact⟨i+1,c+1,by omega,by omega,by go_num,by go_num,HD',trivial⟩
    case measure=>simp[intOf]<;>omega
  ·obtain rfl:i=n:=by omega
   go_wp2
   go_ret
   exact⟨rfl,by rw[hat.out];rfl⟩
def OrdRet (o:Int)(w:World)(e:Ending)(w' :World):Prop:=Below w.heap.size w w' /\((FFld.Fit o/\e= .returned (.int .i64 0))\/(¬ FFld.Fit o/\e= .returned (.int .i64 20)))
set_option maxRecDepth 20000 in
theorem ccheckOrder_any (o:Int)(w:World)(o0: -9223372036854775808<=o)(o1:o<=9223372036854775807):
 Calls Tryz.prog 84 #[.int .i64 o] w (OrdRet o w):=by
 have HF:=Km (firrs_any o 1 w o0 o1 (by omega) (by omega))
 go_enter Tryz.func84,Tryz.ntmps84
 go_wp2_with fail;refine HF.out.mono ?_;rintro e w1 ⟨hb1,⟨hnf,rfl⟩|⟨hf,hdr,rfl⟩|⟨hf,q,n,hq,hq6,hn,hn1,hn4,s1,a1,k1,c1,rfl,hI1⟩⟩
 ·have HN:=Km hnf;have HB:=Km (bstep hb1 ((Below.refl w1.heap.size w1).alloc (Nat.le_refl _) (.cells #[.bool false, .slice none 0 0] 98)));clear hb1 hnf;go_wp2
  go_ret
  exact⟨HB.out, .inr ⟨HN.out,rfl⟩⟩
 ·omega
 ·have HN:=Km hf;have HB:=Km (bstep hb1 ((Below.refl w1.heap.size w1).alloc (Nat.le_refl _) (.cells #[.bool s1, .slice a1 k1 c1] 98)));clear hb1 hf hI1 hq hn;go_wp2
  go_ret
  exact⟨HB.out, .inl ⟨HN.out,rfl⟩⟩
open Classical in
noncomputable def chkE (o:Int)(xs:List Int)(k:Int):Nat:=if FFld.Fit o then(if 64<xs.length then 2 else if k<1\/(xs.length:Int)<k\/belB o xs=false\/difB xs xs.length=false then 1 else 0) else 20
abbrev cdbox (o:Int)(ao:Option Addr)(n cap:Nat)(k:Int):Obj:= .cells #[.int .i64 o, .slice ao n cap, .int .i64 k] 27
abbrev cdv (o:Int)(ao:Option Addr)(n cap:Nat)(k:Int):Value:= .agg #[.int .i64 o, .slice ao n cap, .int .i64 k]
set_option maxRecDepth 20000 in
theorem ccheck_any (o k:Int)(ao:Option Addr)(cap:Nat)(xs:List Int)(w:World)(h:Sl .i64 w (.slice ao xs.length cap) xs)(o0: -9223372036854775808<=o)(o1:o<=9223372036854775807)(k0: -9223372036854775808<=k)(k1:k<=9223372036854775807):
 Calls Tryz.prog 21 #[cdv o ao xs.length cap k] w (RB w (.int .i64 (chkE o xs k:Nat))):=by
 have HX0:Kept (Bxs w [cdbox o ao xs.length cap k] (w.alloc (cdbox o ao xs.length cap k))):=⟨(Bxs.start w).alloc (by simp) _⟩;have HO:=Km (fun W=>ccheckOrder_any o W o0 o1);have HS:=Km h
 have hm:xs.length<=9223372036854775807:=by
  obtain⟨_,_,e,h1,h2,_⟩:=h;unfold maxLen at h2;omega
 have HC0:Kept (¬ FFld.Fit o->chkE o xs k=20):=⟨fun hn=>by unfold chkE;rw[if_neg hn]⟩;have HC1:Kept (FFld.Fit o->64<xs.length->chkE o xs k=2):=⟨fun hn h1=>by unfold chkE;rw[if_pos hn,if_pos h1]⟩;have HC2:Kept (FFld.Fit o-> ¬ 64<xs.length->(k<1\/(xs.length:Int)<k\/belB o xs=false\/difB xs xs.length=false)->chkE o xs k=1):=⟨fun hn h1 h2=>by unfold chkE;rw[if_pos hn,if_neg h1,if_pos h2]⟩;have HC3:Kept (FFld.Fit o-> ¬ 64<xs.length-> ¬ (k<1\/(xs.length:Int)<k\/belB o xs=false\/difB xs xs.length=false)->chkE o xs k=0):=⟨fun hn h1 h2=>by unfold chkE;rw[if_pos hn,if_neg h1,if_neg h2]⟩;obtain⟨r,hr⟩:∃ r,chkE o xs k=r:=⟨_,rfl⟩;rw[hr] at HC0 HC1 HC2 HC3 ⊢;obtain⟨n,hn⟩:∃ n,xs.length=n:=⟨_,rfl⟩;have HN:=Km hn;rw[hn] at HX0 HS HC1 HC2 HC3 hm ⊢;clear h hr hn
 go_enter Tryz.func21,Tryz.ntmps21
 obtain⟨c0,c1,c2,_⟩:=three_cells HX0.out.b0;go_wp2_with fail;refine(HO.out _).mono ?_;rintro e w1 ⟨hb1,⟨hf,rfl⟩|⟨hf,rfl⟩⟩
 ·have HX1:=Km (HX0.out.below hb1);replace HC1:=Km (HC1.out hf);replace HC2:=Km (HC2.out hf);replace HC3:=Km (HC3.out hf);have HS1:=Km (HS.out.below HX1.out.1);clear hb1 hf c0 c1 c2 HC0 HO;obtain⟨c0,c1,c2,_⟩:=three_cells HX1.out.b0
  by_cases h64:64<n
  ·have d1:decide ((64:Int)<n)=true:=decide_eq_true (by omega);obtain rfl:=HC1.out h64;go_wp2
   go_ret
   exact⟨HX1.out.1,rfl⟩
  ·have d1:decide ((64:Int)<n)=false:=decide_eq_false (by omega)
   by_cases hk1:k<1
   ·have d2:decide (k<1)=true:=decide_eq_true hk1;obtain rfl:=HC2.out h64 (.inl hk1);go_wp2
    go_ret
    exact⟨HX1.out.1,rfl⟩
   ·have d2:decide (k<1)=false:=decide_eq_false hk1
    by_cases hk2:(n:Int)<k
    ·have d3:decide ((n:Int)<k)=true:=decide_eq_true hk2;obtain rfl:=HC2.out h64 (.inr (.inl hk2));go_wp2
     go_ret
     exact⟨HX1.out.1,rfl⟩
    ·have d3:decide ((n:Int)<k)=false:=decide_eq_false hk2;have HA:=Km (careBelow_any o _ xs w1 HS1.out);have HD:=Km (careDifferent_any _ xs w1 HS1.out);rw[HN.out] at HD;obtain⟨t,ht⟩:∃ t,belB o xs=t:=⟨_,rfl⟩;obtain⟨u,hu⟩:∃ u,difB xs n=u:=⟨_,rfl⟩;rw[ht] at HA HC2 HC3;rw[hu] at HD HC2 HC3;clear ht hu;go_wp2_with fail;refine HA.out.mono ?_;rintro e w2 ⟨rfl,rfl⟩
     cases t with
     | false=>
       obtain rfl:=HC2.out h64 (.inr (.inr (.inl rfl)));go_wp2
       go_ret
       exact⟨HX1.out.1,rfl⟩
     | true=>
       go_wp2_with fail;refine HD.out.mono ?_;rintro e w2 ⟨rfl,rfl⟩
       cases u with
       | false=>
         obtain rfl:=HC2.out h64 (.inr (.inr (.inr rfl)));go_wp2
         go_ret
         exact⟨HX1.out.1,rfl⟩
       | true=>
         obtain rfl:=HC3.out h64 (by rintro(h|h|h|h)<;>first|omega|cases h);go_wp2
         go_ret
         exact⟨HX1.out.1,rfl⟩
 ·have HX1:=Km (HX0.out.below hb1);obtain rfl:=HC0.out hf;clear hb1 hf c0 c1 c2;obtain⟨c0,c1,c2,_⟩:=three_cells HX1.out.b0;go_wp2
  go_ret
  exact⟨HX1.out.1,rfl⟩
end
section
open Go Go.RowKit
namespace FFld
theorem Dom.neg_mul {α:Type}(F:Dom α)(b c:α):F.mul (F.neg b) c=F.neg (F.mul b c):=by
 refine F.neg_unique ?_;rw[<- F.add_mul,F.add_neg,F.zero_mul]
def RootIs (D:FD)(a r:Nat):Prop:=r<D.p ^ D.k/\pmul D.p D.k D.m r D.k r=a/\ ∀ x,x<D.p ^ D.k->pmul D.p D.k D.m x D.k x=a->r<=x
end FFld
end
section
namespace FFld
namespace Dom
variable {α : Type} (F : Dom α)
def sm (F:Dom α)(f:Nat->α):Nat->α
 |0=>F.zero
 |n+1=>F.add (sm F f n) (f n)
theorem sm_congr {f g:Nat->α} :∀ (n:Nat),(∀ i,i<n->f i=g i)->F.sm f n=F.sm g n
 |0,_=>rfl
 | n+1,h=>by
   simp only[sm];rw[sm_congr n fun i hi=>h i (by omega),h n (Nat.lt_succ_self n)]
theorem sm_add (f g:Nat->α):∀ (n:Nat),F.sm (fun i=>F.add (f i) (g i)) n=F.add (F.sm f n) (F.sm g n)
 |0=>(F.add_zero _).symm
 | n+1=>by
   simp only[sm];rw[sm_add f g n,F.add4]
theorem sm_mul (a:α)(f:Nat->α):∀ (n:Nat),F.sm (fun i=>F.mul a (f i)) n=F.mul a (F.sm f n)
 |0=>(F.mul_zero a).symm
 | n+1=>by
   simp only[sm];rw[sm_mul a f n,F.mul_add]
theorem sm_zero {f:Nat->α} :∀ (n:Nat),(∀ i,i<n->f i=F.zero)->F.sm f n=F.zero
 |0,_=>rfl
 | n+1,h=>by
   simp only[sm];rw[sm_zero n fun i hi=>h i (by omega),h n (Nat.lt_succ_self n),F.add_zero]
theorem sm_comm (f:Nat->Nat->α)(m:Nat):∀ (n:Nat),F.sm (fun i=>F.sm (fun j=>f i j) m) n=F.sm (fun j=>F.sm (fun i=>f i j) n) m
 | 0=>by
   simp only[sm];exact(F.sm_zero m fun _ _=>rfl).symm
 | n+1=>by
   simp only[sm];rw[sm_comm f m n,F.sm_add]
theorem sm_one {f:Nat->α}{j:Nat} :∀ (n:Nat),j<n->(∀ i,i<n->i≠j->f i=F.zero)->F.sm f n=f j
 |0,h,_=>by omega
 | n+1,h,hz=>by
   simp only[sm]
   by_cases e:j=n
   ·subst e;rw[F.sm_zero _ fun i hi=>hz i (by omega) (by omega),F.zero_add]
   ·rw[sm_one n (by omega) fun i hi=>hz i (by omega),hz n (Nat.lt_succ_self n) (fun e2=>e e2.symm),F.add_zero]
def skp (j i:Nat):Nat:=if i<j then i else i+1
inductive Spn (F:Dom α) (W:Nat) (P:(Nat->α)->Prop):(Nat->α)->Prop where
 |mem (v:Nat->α):P v->Spn F W P v
 |zero (v:Nat->α):(∀ c,c<W->v c=F.zero)->Spn F W P v
 |add (u v w:Nat->α):Spn F W P u->Spn F W P v->(∀ c,c<W->w c=F.add (u c) (v c))->Spn F W P w
 |mul (a:α) (u w:Nat->α):Spn F W P u->(∀ c,c<W->w c=F.mul a (u c))->Spn F W P w
theorem Spn.trans {F:Dom α}{W:Nat}{P P' :(Nat->α)->Prop}(h:∀ v,P v->Spn F W P' v){v:Nat->α}(hv:Spn F W P v):Spn F W P' v:=by
 induction hv with
 |mem v hp=>exact h v hp
 |zero v hz=>exact .zero v hz
 |add u v w _ _ e iu iv=>exact .add u v w iu iv e
 |mul a u w _ e iu=>exact .mul a u w iu e
end Dom
end FFld
end
section
namespace FFld
namespace Dom
variable {α : Type} (F : Dom α)
theorem sm_mulr (a:α)(f:Nat->α)(n:Nat):F.sm (fun i=>F.mul (f i) a) n=F.mul (F.sm f n) a:=by
 rw[F.mul_comm (F.sm f n),<- F.sm_mul];exact F.sm_congr n fun i _=>F.mul_comm _ _
theorem sm_ext (f:Nat->α)(n:Nat)(hz:∀ i,n<=i->f i=F.zero):∀ d,F.sm f (n+d)=F.sm f n
 |0=>rfl
 | d+1=>by
   show F.add (F.sm f (n+d)) (f (n+d))=_
   rw[sm_ext f n hz d,hz _ (by omega),F.add_zero]
def cv (f g:Nat->α)(n:Nat):α:=F.sm (fun i=>F.mul (f i) (g (n-i))) (n+1)
theorem cv_sq (f g:Nat->α){n N:Nat}(h:n<N):F.cv f g n=F.sm (fun i=>F.sm (fun j=>if i+j=n then F.mul (f i) (g j) else F.zero) N) N:=by
 have e:∀ i,F.sm (fun j=>if i+j=n then F.mul (f i) (g j) else F.zero) N=if i<=n then F.mul (f i) (g (n-i)) else F.zero:=fun i=>by
  by_cases hi:i<=n
  ·rw[if_pos hi,F.sm_one (j:=n-i) N (by omega) fun j _ hne=>if_neg (by omega),if_pos (by omega)]
  ·rw[if_neg hi];exact F.sm_zero N fun j _=>if_neg (by omega)
 rw[F.sm_congr N fun i _=>e i];obtain⟨d,rfl⟩:∃ d,N=n+1+d:=⟨N-(n+1),by omega⟩;rw[F.sm_ext _ (n+1) (fun i hi=>if_neg (by omega)) d];exact F.sm_congr _ fun i hi=>(if_pos (by omega)).symm
theorem cv_comm (f g:Nat->α):F.cv f g=F.cv g f:=by
 funext n
 rw[F.cv_sq f g (Nat.lt_succ_self n),F.cv_sq g f (Nat.lt_succ_self n),F.sm_comm];exact F.sm_congr _ fun i _=>F.sm_congr _ fun j _=>by rw[Nat.add_comm,F.mul_comm]
theorem cv3 (f g h:Nat->α)(n:Nat):F.cv (F.cv f g) h n=F.sm (fun i=>F.sm (fun j=>F.sm (fun k=>if i+j+k=n then F.mul (F.mul (f i) (g j)) (h k) else F.zero) (n+1)) (n+1)) (n+1):=by
 have s1:F.cv (F.cv f g) h n=F.sm (fun m=>F.sm (fun k=>F.sm (fun i=>F.sm (fun j=>if m+k=n/\i+j=m then F.mul (F.mul (f i) (g j)) (h k) else F.zero) (n+1)) (n+1)) (n+1)) (n+1):=by
  rw[F.cv_sq _ h (Nat.lt_succ_self n)];refine F.sm_congr _ fun m hm=>F.sm_congr _ fun k _=> ?_
  by_cases e:m+k=n
  ·rw[if_pos e,F.cv_sq f g (N:=n+1) (by omega),<- F.sm_mulr];refine F.sm_congr _ fun i _=> ?_
   rw[<- F.sm_mulr];refine F.sm_congr _ fun j _=> ?_
   by_cases e2:i+j=m
   ·rw[if_pos e2,if_pos ⟨e,e2⟩]
   ·rw[if_neg e2,if_neg (fun q=>e2 q.2),F.zero_mul]
  ·rw[if_neg e];exact(F.sm_zero _ fun i _=>F.sm_zero _ fun j _=>if_neg (fun q=>e q.1)).symm
 have s2:∀ k i j,F.sm (fun m=>if m+k=n/\i+j=m then F.mul (F.mul (f i) (g j)) (h k) else F.zero) (n+1)=if i+j+k=n then F.mul (F.mul (f i) (g j)) (h k) else F.zero:=fun k i j=>by
  by_cases e:i+j+k=n
  ·rw[if_pos e,F.sm_one (j:=i+j) _ (by omega) fun m _ hne=>if_neg (fun q=>hne q.2.symm),if_pos ⟨e,rfl⟩]
  ·rw[if_neg e];exact F.sm_zero _ fun m _=>if_neg (fun q=>e (by omega))
 rw[s1,F.sm_comm]
 have s3:∀ k,F.sm (fun m=>F.sm (fun i=>F.sm (fun j=>if m+k=n/\i+j=m then F.mul (F.mul (f i) (g j)) (h k) else F.zero) (n+1)) (n+1)) (n+1)=F.sm (fun i=>F.sm (fun j=>if i+j+k=n then F.mul (F.mul (f i) (g j)) (h k) else F.zero) (n+1)) (n+1):=fun k=>by
  rw[F.sm_comm];refine F.sm_congr _ fun i _=> ?_
  rw[F.sm_comm];exact F.sm_congr _ fun j _=>s2 k i j
 rw[F.sm_congr _ fun k _=>s3 k,F.sm_comm];refine F.sm_congr _ fun i _=> ?_
 exact F.sm_comm _ _ _
theorem cv_assoc (f g h:Nat->α):F.cv (F.cv f g) h=F.cv f (F.cv g h):=by
 rw[F.cv_comm f (F.cv g h)]
 funext n
 rw[cv3,cv3]
 -- the sum over i, j, k against that over j, k, i
 have e1:F.sm (fun i=>F.sm (fun j=>F.sm (fun k=>if i+j+k=n then F.mul (F.mul (g i) (h j)) (f k) else F.zero) (n+1)) (n+1)) (n+1)=F.sm (fun k=>F.sm (fun i=>F.sm (fun j=>if i+j+k=n then F.mul (F.mul (g i) (h j)) (f k) else F.zero) (n+1)) (n+1)) (n+1):=by
  exact(F.sm_congr _ fun i _=>F.sm_comm _ _ _).trans (F.sm_comm _ _ _)
 rw[e1];refine F.sm_congr _ fun i _=>F.sm_congr _ fun j _=>F.sm_congr _ fun k _=> ?_
 by_cases e:i+j+k=n
 ·rw[if_pos e,if_pos (by omega),F.mul_assoc,F.mul_comm (f i)]
 ·rw[if_neg e,if_neg (by omega)]
theorem cv_add (f g h:Nat->α):F.cv f (fun i=>F.add (g i) (h i))=fun i=>F.add (F.cv f g i) (F.cv f h i):=by
 funext n
 unfold cv;rw[<- F.sm_add];exact F.sm_congr _ fun i _=>F.mul_add _ _ _
def one1:Nat->α:=fun i=>if i=0 then F.one else F.zero
theorem cv_one (f:Nat->α):F.cv f F.one1=f:=by
 rw[cv_comm]
 funext n
 unfold cv;rw[F.sm_one (j:=0) _ (Nat.succ_pos n) fun i _ hne=>by unfold one1;rw[if_neg hne,F.zero_mul]];unfold one1;rw[if_pos rfl,F.one_mul,Nat.sub_zero]
theorem low_exists {f:Nat->α}(h:f≠fun _=>F.zero):∃ i,f i≠F.zero/\ ∀ j,j<i->f j=F.zero:=by
 have hex:∃ n,f n≠F.zero:=by
  apply Classical.byContradiction
  intro hc;exact h (funext fun n=>Classical.byContradiction fun hn=>hc ⟨n,hn⟩)
 obtain⟨n,hn⟩:=hex;obtain⟨m,hm,hl⟩:=exists_least (P:=fun n=>f n≠F.zero) n hn;exact⟨m,hm,fun j hj=>Classical.byContradiction fun h=>hl j hj h⟩
def ser:Dom (Nat->α) where
 add f g:=fun i=>F.add (f i) (g i)
 mul f g:=F.cv f g
 zero:=fun _=>F.zero
 one:=F.one1
 neg f:=fun i=>F.neg (f i)
 add_assoc f g h:=funext fun i=>F.add_assoc _ _ _
 add_comm f g:=funext fun i=>F.add_comm _ _
 add_zero f:=funext fun i=>F.add_zero _
 add_neg f:=funext fun i=>F.add_neg _
 mul_assoc f g h:=F.cv_assoc f g h
 mul_comm f g:=F.cv_comm f g
 mul_one f:=F.cv_one f
 mul_add f g h:=F.cv_add f g h
 nzd f g h:=by
  apply Classical.byContradiction
  intro hc;obtain⟨i,hi,hil⟩:=F.low_exists (f:=f) fun e=>hc (.inl e)
  obtain⟨j,hj,hjl⟩:=F.low_exists (f:=g) fun e=>hc (.inr e)
  have e:=congrFun h (i+j)
  have e2:F.cv f g (i+j)=F.mul (f i) (g j):=by
   unfold cv
   rw[F.sm_one (j:=i) _ (by omega) fun k hk hne=>by
    rcases Nat.lt_or_gt_of_ne hne with h1|h1
    ·rw[hil k h1,F.zero_mul]
    ·rw[hjl (i+j-k) (by omega),F.mul_zero],show i+j-i=j by omega]
  have e3:F.cv f g (i+j)=F.zero:=e;rw[e2] at e3
  rcases F.nzd _ _ e3 with h1|h1
  ·exact hi h1
  ·exact hj h1
 one_ne h:=by
  have:=congrFun h 0;unfold one1 at this;rw[if_pos rfl] at this;exact F.one_ne this
def Sh (f:Nat->α)(n:Nat):Prop:= ∀ i,n<=i->f i=F.zero
theorem Sh.mono {f:Nat->α}{m n:Nat}(h:F.Sh f m)(hm:m<=n):F.Sh f n:=fun i hi=>h i (by omega)
theorem Sh.add {f g:Nat->α}{n:Nat}(hf:F.Sh f n)(hg:F.Sh g n):F.Sh (F.ser.add f g) n:=fun i hi=>by
 show F.add (f i) (g i)=_
 rw[hf i hi,hg i hi,F.add_zero]
theorem neg_zero:F.neg F.zero=F.zero:=by
 have:=F.add_neg F.zero;rw[F.zero_add] at this;exact this
theorem Sh.neg {f:Nat->α}{n:Nat}(hf:F.Sh f n):F.Sh (F.ser.neg f) n:=fun i hi=>by
 show F.neg (f i)=_
 rw[hf i hi,F.neg_zero]
theorem Sh.mul {f g:Nat->α}{m n:Nat}(hf:F.Sh f m)(hg:F.Sh g n):F.Sh (F.ser.mul f g) (m+n):=fun i hi=>by
 show F.cv f g i=_
 unfold cv;refine F.sm_zero _ fun j hj=> ?_
 by_cases h:m<=j
 ·rw[hf j h,F.zero_mul]
 ·rw[hg (i-j) (by omega),F.mul_zero]
theorem Sh.mul1 {f g:Nat->α}{m n:Nat}(hf:F.Sh f (m+1))(hg:F.Sh g (n+1)):F.Sh (F.ser.mul f g) (m+n+1):=fun i hi=>by
 show F.cv f g i=_
 unfold cv;refine F.sm_zero _ fun j hj=> ?_
 by_cases h:m+1<=j
 ·rw[hf j h,F.zero_mul]
 ·rw[hg (i-j) (by omega),F.mul_zero]
theorem top_mul {f g:Nat->α}{m n:Nat}(hf:F.Sh f (m+1))(hg:F.Sh g (n+1)):F.ser.mul f g (m+n)=F.mul (f m) (g n):=by
 show F.cv f g (m+n)=_
 unfold cv
 rw[F.sm_one (j:=m) _ (by omega) fun k hk hne=>by
  rcases Nat.lt_or_gt_of_ne hne with h1|h1
  ·rw[hg (m+n-k) (by omega),F.mul_zero]
  ·rw[hf k h1,F.zero_mul],show m+n-m=n by omega]
def mon1 (a:α)(k:Nat):Nat->α:=fun i=>if i=k then a else F.zero
theorem mon1_sh (a:α)(k:Nat):F.Sh (F.mon1 a k) (k+1):=fun i hi=>if_neg (by omega)
def Dg (f:Nat->α)(n:Nat):Prop:=F.Sh f (n+1)/\f n≠F.zero
theorem Dg.mul {f g:Nat->α}{m n:Nat}(hf:F.Dg f m)(hg:F.Dg g n):F.Dg (F.ser.mul f g) (m+n):=by
 refine⟨?_,?_⟩
 ·intro i hi
  show F.cv f g i=_
  unfold cv;refine F.sm_zero _ fun j hj=> ?_
  by_cases h:m+1<=j
  ·rw[hf.1 j h,F.zero_mul]
  ·rw[hg.1 (i-j) (by omega),F.mul_zero]
 ·rw[F.top_mul hf.1 hg.1];exact F.mul_ne hf.2 hg.2
theorem Dg.ne {f:Nat->α}{n:Nat}(h:F.Dg f n):f≠F.ser.zero:=fun e=>h.2 (congrFun e n)
theorem Dg.uniq {f:Nat->α}{m n:Nat}(h:F.Dg f m)(k:F.Dg f n):m=n:=by
 rcases Nat.lt_trichotomy m n with h1|h1|h1
 ·exact absurd (h.1 n h1) k.2
 ·exact h1
 ·exact absurd (k.1 m h1) h.2
theorem dg_exists {f:Nat->α} :∀ {n:Nat},F.Sh f n->f≠F.ser.zero-> ∃ d,d<n/\F.Dg f d
 |0,h,hne=>absurd (funext fun i=>h i (Nat.zero_le i)) hne
 | n +1,h,hne=>by
   by_cases e:f n=F.zero
   ·obtain⟨d,hd,hg⟩:=dg_exists (n:=n) (fun i hi=>by
     by_cases e2:i=n
     ·rw[e2];exact e
     ·exact h i (by omega)) hne
    exact⟨d,by omega,hg⟩
   ·exact⟨n,Nat.lt_succ_self n,h,e⟩
theorem divide {g:Nat->α}{d:Nat}{u:α}(hg:F.Sh g (d+1))(hu:F.mul u (g d)=F.one):∀ (n:Nat) (f:Nat->α),F.Sh f n-> ∃ s r,F.Sh s n/\F.Sh r d/\f=F.ser.add (F.ser.mul s g) r
 |0,f,hf=>⟨F.ser.zero,F.ser.zero,fun _ _=>rfl,fun _ _=>rfl,by rw[F.ser.zero_mul,F.ser.add_zero];exact funext fun i=>hf i (Nat.zero_le i)⟩
 | n +1,f,hf=>by
   by_cases hn:n<d
   ·exact⟨F.ser.zero,f,fun _ _=>rfl,fun i hi=>hf i (by omega),by rw[F.ser.zero_mul,F.ser.zero_add]⟩
   ·obtain⟨k,rfl⟩:∃ k,n=k+d:=⟨n-d,by omega⟩;have hm:=F.mon1_sh (F.mul (f (k+d)) u) k
    have hlow:F.Sh (F.ser.add f (F.ser.neg (F.ser.mul (F.mon1 (F.mul (f (k+d)) u) k) g))) (k+d):=fun i hi=>by
     by_cases e:i=k+d
     ·subst e
      show F.add (f (k+d)) (F.neg (F.ser.mul (F.mon1 (F.mul (f (k+d)) u) k) g (k+d)))=_
      rw[F.top_mul hm hg];unfold mon1;rw[if_pos rfl,F.mul_assoc,hu,F.mul_one,F.add_neg]
     ·show F.add (f i) (F.neg (F.ser.mul (F.mon1 (F.mul (f (k+d)) u) k) g i))=_
      rw[hf i (by omega),(Sh.mul1 F hm hg) i (by omega),F.neg_zero,F.add_zero]
    obtain⟨s,r,hs,hr,e⟩:=divide hg hu (k+d) _ hlow;refine⟨F.ser.add s (F.mon1 (F.mul (f (k+d)) u) k),r,Sh.add F (Sh.mono F hs (by omega)) (Sh.mono F hm (by omega)),hr,?_⟩;rw[F.ser.add_mul,F.ser.add_assoc,F.ser.add_comm _ r,<- F.ser.add_assoc,<- e,F.ser.add_assoc,F.ser.add_comm (F.ser.neg _),F.ser.add_neg,F.ser.add_zero]
end Dom
end FFld
end
section
namespace FFld
namespace Dom
variable {α : Type} (F : Dom α)
def Inv (F:Dom α):Prop:= ∀ a,a≠F.zero-> ∃ u,F.mul u a=F.one
def Pl (F:Dom α)(f:Nat->α):Prop:= ∃ n,F.Sh f n
theorem Pl.add {f g:Nat->α}(hf:F.Pl f)(hg:F.Pl g):F.Pl (F.ser.add f g):=by
 obtain⟨m,hm⟩:=hf;obtain⟨n,hn⟩:=hg;exact⟨max m n,Sh.add F (Sh.mono F hm (by omega)) (Sh.mono F hn (by omega))⟩
theorem Pl.neg {f:Nat->α}(hf:F.Pl f):F.Pl (F.ser.neg f):=by
 obtain⟨m,hm⟩:=hf;exact⟨m,Sh.neg F hm⟩
theorem Pl.mul {f g:Nat->α}(hf:F.Pl f)(hg:F.Pl g):F.Pl (F.ser.mul f g):=by
 obtain⟨m,hm⟩:=hf;obtain⟨n,hn⟩:=hg;exact⟨m+n,Sh.mul F hm hn⟩
theorem Pl.zero:F.Pl F.ser.zero:=⟨0,fun _ _=>rfl⟩
theorem one_sh:F.Sh F.ser.one 1:=fun i hi=>by
 show F.one1 i=_
 unfold one1;rw[if_neg (by omega)]
theorem Pl.one:F.Pl F.ser.one:=⟨1,F.one_sh⟩
def Dv (F:Dom α)(g f:Nat->α):Prop:= ∃ s,F.Pl s/\f=F.ser.mul s g
theorem Dv.zero (g:Nat->α):F.Dv g F.ser.zero:=⟨F.ser.zero,Pl.zero F,(F.ser.zero_mul g).symm⟩
theorem Dv.add {g a b:Nat->α}(ha:F.Dv g a)(hb:F.Dv g b):F.Dv g (F.ser.add a b):=by
 obtain⟨s,hs,rfl⟩:=ha;obtain⟨t,ht,rfl⟩:=hb;exact⟨F.ser.add s t,Pl.add F hs ht,(F.ser.add_mul _ _ _).symm⟩
theorem Dv.mul {g a b:Nat->α}(ha:F.Dv g a)(hb:F.Pl b):F.Dv g (F.ser.mul b a):=by
 obtain⟨s,hs,rfl⟩:=ha;exact⟨F.ser.mul b s,Pl.mul F hb hs,(F.ser.mul_assoc _ _ _).symm⟩
theorem Dv.neg {g a:Nat->α}(ha:F.Dv g a):F.Dv g (F.ser.neg a):=by
 obtain⟨s,hs,rfl⟩:=ha;refine⟨F.ser.neg s,Pl.neg F hs,?_⟩;rw[F.ser.mul_comm (F.ser.neg s),F.ser.mul_neg,F.ser.mul_comm]
theorem Dv.trans {a b c:Nat->α}(h1:F.Dv a b)(h2:F.Dv b c):F.Dv a c:=by
 obtain⟨s,hs,rfl⟩:=h2;exact Dv.mul F h1 hs
theorem Dv.small {g a:Nat->α}{d:Nat}(hg:F.Dg g d)(h:F.Dv g a)(ha:F.Sh a d):a=F.ser.zero:=by
 obtain⟨s,⟨n,hs⟩,rfl⟩:=h
 apply Classical.byContradiction
 intro hne;have hs0:s≠F.ser.zero:=fun e=>hne (by rw[e,F.ser.zero_mul])
 obtain⟨m,_,hm⟩:=F.dg_exists hs hs0;have hd:=Dg.mul F hm hg;exact hd.2 (ha (m+d) (by omega))
theorem Dv.eq {g a b:Nat->α}{d:Nat}(hg:F.Dg g d)(ha:F.Sh a d)(hb:F.Sh b d)(h:F.Dv g (F.ser.add a (F.ser.neg b))):a=b:=
 F.ser.eq_of_sub (Dv.small F hg h (Sh.add F ha (Sh.neg F hb)))
theorem divide_pl (hI:F.Inv){g f:Nat->α}{d:Nat}(hg:F.Dg g d)(hf:F.Pl f):∃ s r,F.Pl s/\F.Sh r d/\f=F.ser.add (F.ser.mul s g) r:=by
 obtain⟨n,hn⟩:=hf;obtain⟨u,hu⟩:=hI _ hg.2;obtain⟨s,r,h1,h2,h3⟩:=F.divide hg.1 hu n f hn;exact⟨s,r,⟨n,h1⟩,h2,h3⟩
structure Ird (F:Dom α)(g:Nat->α)(d:Nat):Prop where
 dg:F.Dg g d
 pos:1<=d
 only:∀ h e,F.Dg h e->F.Dv h g->e=0\/e=d
theorem Dg.pl {f:Nat->α}{n:Nat}(h:F.Dg f n):F.Pl f:=⟨n+1,h.1⟩
theorem const_inv (hI:F.Inv){h:Nat->α}(hd:F.Dg h 0):∃ w,F.Pl w/\F.ser.mul w h=F.ser.one:=by
 obtain⟨u,hu⟩:=hI _ hd.2;refine⟨F.mon1 u 0,⟨1,F.mon1_sh u 0⟩,?_⟩
 funext n
 show F.cv (F.mon1 u 0) h n=F.one1 n
 unfold cv;rw[F.sm_one (j:=0) _ (Nat.succ_pos n) fun i _ hne=>by unfold mon1;rw[if_neg hne,F.zero_mul]];unfold mon1 one1;rw[if_pos rfl,Nat.sub_zero]
 by_cases e:n=0
 ·rw[if_pos e,e,hu]
 ·rw[if_neg e,hd.1 n (by omega),F.mul_zero]
theorem bezout (hI:F.Inv){g f:Nat->α}{d:Nat}(hg:F.Ird g d)(hf:F.Pl f)(hn: ¬ F.Dv g f):∃ u v,F.Pl u/\F.Pl v/\F.ser.add (F.ser.mul u f) (F.ser.mul v g)=F.ser.one:=by
 have hgp:=Dg.pl F hg.dg;obtain⟨e,⟨u,v,hu,hv,he⟩,hl⟩:=exists_least (P:=fun e=> ∃ u v,F.Pl u/\F.Pl v/\F.Dg (F.ser.add (F.ser.mul u f) (F.ser.mul v g)) e) d ⟨F.ser.zero,F.ser.one,Pl.zero F,Pl.one F,by rw[F.ser.zero_mul,F.ser.zero_add,F.ser.one_mul];exact hg.dg⟩;obtain⟨h,hh⟩:∃ h,F.ser.add (F.ser.mul u f) (F.ser.mul v g)=h:=⟨_,rfl⟩;rw[hh] at he
 have key:∀ u' v',F.Pl u' ->F.Pl v' ->F.Dv h (F.ser.add (F.ser.mul u' f) (F.ser.mul v' g)):=fun u' v' hu' hv' =>by
  obtain⟨s,r,hs,hr,e1⟩:=F.divide_pl hI he (Pl.add F (Pl.mul F hu' hf) (Pl.mul F hv' hgp))
  by_cases hr0:r=F.ser.zero
  ·exact⟨s,hs,by rw[e1,hr0,F.ser.add_zero]⟩
  ·exfalso;obtain⟨e',he',hde⟩:=F.dg_exists hr hr0;refine hl e' he' ⟨F.ser.add u' (F.ser.neg (F.ser.mul s u)),F.ser.add v' (F.ser.neg (F.ser.mul s v)),Pl.add F hu' (Pl.neg F (Pl.mul F hs hu)),Pl.add F hv' (Pl.neg F (Pl.mul F hs hv)),?_⟩
   have e2:F.ser.add (F.ser.mul (F.ser.add u' (F.ser.neg (F.ser.mul s u))) f) (F.ser.mul (F.ser.add v' (F.ser.neg (F.ser.mul s v))) g)=r:=by
    have n1:∀ a b,F.ser.mul (F.ser.neg a) b=F.ser.neg (F.ser.mul a b):=fun a b=>by rw[F.ser.mul_comm,F.ser.mul_neg,F.ser.mul_comm]
    have n2:∀ a b,F.ser.add (F.ser.neg a) (F.ser.neg b)=F.ser.neg (F.ser.add a b):=fun a b=>by
     refine F.ser.neg_unique ?_;rw[F.ser.add4,F.ser.add_neg,F.ser.add_neg,F.ser.add_zero]
    rw[F.ser.add_mul,F.ser.add_mul,n1,n1,F.ser.add4,n2,F.ser.mul_assoc,F.ser.mul_assoc,<- F.ser.mul_add,hh,e1,F.ser.add_comm _ r,F.ser.add_assoc,F.ser.add_neg,F.ser.add_zero]
   rw[e2];exact hde
 have h1:F.Dv h f:=by
  have:=key F.ser.one F.ser.zero (Pl.one F) (Pl.zero F);rw[F.ser.one_mul,F.ser.zero_mul,F.ser.add_zero] at this;exact this
 have h2:F.Dv h g:=by
  have:=key F.ser.zero F.ser.one (Pl.zero F) (Pl.one F);rw[F.ser.one_mul,F.ser.zero_mul,F.ser.zero_add] at this;exact this
 rcases hg.only h e he h2 with e0|e0
 ·subst e0;obtain⟨w,hw,ew⟩:=F.const_inv hI he;exact⟨F.ser.mul w u,F.ser.mul w v,Pl.mul F hw hu,Pl.mul F hw hv,by rw[F.ser.mul_assoc,F.ser.mul_assoc,<- F.ser.mul_add,hh,ew]⟩
 ·exfalso;subst e0
  apply hn
  refine Dv.trans F ?_ h1;obtain⟨s,⟨n,hs⟩,es⟩:=h2;have hs0:s≠F.ser.zero:=fun e2=>Dg.ne F hg.dg (by rw[es,e2,F.ser.zero_mul])
  obtain⟨m,_,hm⟩:=F.dg_exists hs hs0;have hd:=Dg.mul F hm he;rw[<- es] at hd
  have hm0:m=0:=by
   have:=Dg.uniq F hd hg.dg;omega
  subst hm0;obtain⟨w,hw,ew⟩:=F.const_inv hI hm;exact⟨w,hw,by rw[es,<- F.ser.mul_assoc,ew,F.ser.one_mul]⟩
theorem prime_dv (hI:F.Inv){g a b:Nat->α}{d:Nat}(hg:F.Ird g d)(ha:F.Pl a)(hb:F.Pl b)(h:F.Dv g (F.ser.mul a b)):F.Dv g a\/F.Dv g b:=by
 by_cases hga:F.Dv g a
 ·exact .inl hga
 ·right;obtain⟨u,v,hu,hv,e⟩:=F.bezout hI hg ha hga
  have e2:b=F.ser.add (F.ser.mul u (F.ser.mul a b)) (F.ser.mul (F.ser.mul v b) g):=by
   have:=congrArg (fun z=>F.ser.mul z b) e;rw[F.ser.one_mul,F.ser.add_mul] at this;refine this.symm.trans ?_;rw[F.ser.mul_assoc u a b,F.ser.mul_assoc v g b,F.ser.mul_assoc v b g,F.ser.mul_comm g b]
  rw[e2];exact Dv.add F (Dv.mul F h hu) ⟨F.ser.mul v b,Pl.mul F hv hb,rfl⟩
end Dom
section
variable {α : Type} {F : Dom α} (hI : F.Inv) {g : Nat -> α} {d : Nat}
abbrev Res (F:Dom α)(d:Nat):Type:= {r:Nat->α // F.Sh r d}
theorem rem_exists (hI:F.Inv)(hg:F.Dg g d)(f:Nat->α)(hf:F.Pl f):∃ r:Res F d,F.Dv g (F.ser.add f (F.ser.neg r.1)):=by
 obtain⟨s,r,hs,hr,e⟩:=F.divide_pl hI hg hf;exact⟨⟨r,hr⟩,s,hs,by rw[e,F.ser.add_assoc,F.ser.add_neg,F.ser.add_zero]⟩
noncomputable def rem (hI:F.Inv)(hg:F.Dg g d)(f:Nat->α)(hf:F.Pl f):Res F d:=Classical.choose (rem_exists hI hg f hf)
theorem rem_spec (hI:F.Inv)(hg:F.Dg g d)(f:Nat->α)(hf:F.Pl f):F.Dv g (F.ser.add f (F.ser.neg (rem hI hg f hf).1)):=Classical.choose_spec (rem_exists hI hg f hf)
def Eqv (F:Dom α)(g a b:Nat->α):Prop:=F.Dv g (F.ser.add a (F.ser.neg b))
theorem Eqv.refl (a:Nat->α):Eqv F g a a:=by
 unfold Eqv;rw[F.ser.add_neg];exact Dom.Dv.zero F g
theorem Eqv.symm {a b:Nat->α}(h:Eqv F g a b):Eqv F g b a:=by
 have:=Dom.Dv.neg F h
 have e:F.ser.neg (F.ser.add a (F.ser.neg b))=F.ser.add b (F.ser.neg a):=by
  symm
  refine F.ser.neg_unique ?_;rw[F.ser.add_comm b,F.ser.add4,F.ser.add_neg,F.ser.add_comm (F.ser.neg b),F.ser.add_neg,F.ser.add_zero]
 rw[e] at this;exact this
theorem Eqv.trans {a b c:Nat->α}(h:Eqv F g a b)(k:Eqv F g b c):Eqv F g a c:=by
 have:=Dom.Dv.add F h k
 have e:F.ser.add (F.ser.add a (F.ser.neg b)) (F.ser.add b (F.ser.neg c))=F.ser.add a (F.ser.neg c):=by
  rw[F.ser.add_assoc,<- F.ser.add_assoc (F.ser.neg b),F.ser.add_comm (F.ser.neg b),F.ser.add_neg,F.ser.zero_add]
 rw[e] at this;exact this
theorem Eqv.add {a b a' b' :Nat->α}(h:Eqv F g a a')(k:Eqv F g b b'):Eqv F g (F.ser.add a b) (F.ser.add a' b'):=by
 have:=Dom.Dv.add F h k
 have n2:∀ a b,F.ser.add (F.ser.neg a) (F.ser.neg b)=F.ser.neg (F.ser.add a b):=fun a b=>by
  refine F.ser.neg_unique ?_;rw[F.ser.add4,F.ser.add_neg,F.ser.add_neg,F.ser.add_zero]
 rw[F.ser.add4,n2] at this;exact this
theorem Eqv.mul {a b a' b' :Nat->α}(ha:F.Pl b)(hb:F.Pl a')(h:Eqv F g a a')(k:Eqv F g b b'):Eqv F g (F.ser.mul a b) (F.ser.mul a' b'):=by
 refine Eqv.trans (b:=F.ser.mul a' b) ?_ ?_
 ·have:=Dom.Dv.mul F h ha;rw[F.ser.mul_add,F.ser.mul_neg,F.ser.mul_comm b,F.ser.mul_comm b] at this;exact this
 ·have:=Dom.Dv.mul F k hb;rw[F.ser.mul_add,F.ser.mul_neg] at this;exact this
theorem Eqv.eq {a b:Nat->α}(hg:F.Dg g d)(ha:F.Sh a d)(hb:F.Sh b d)(h:Eqv F g a b):a=b:=Dom.Dv.eq F hg ha hb h
theorem rem_eqv (hI:F.Inv)(hg:F.Dg g d)(f:Nat->α)(hf:F.Pl f):Eqv F g f (rem hI hg f hf).1:=rem_spec hI hg f hf
theorem res_pl (r:Res F d):F.Pl r.1:=⟨d,r.2⟩
theorem res_sh (r:Res F d):F.Sh r.1 d:=r.2
noncomputable def quo (hI:F.Inv)(hg:F.Ird g d):Dom (Res F d) where
 add a b:=⟨F.ser.add a.1 b.1,Dom.Sh.add F a.2 b.2⟩
 mul a b:=rem hI hg.dg (F.ser.mul a.1 b.1) (Dom.Pl.mul F (res_pl a) (res_pl b))
 zero:=⟨F.ser.zero,fun _ _=>rfl⟩
 one:=⟨F.ser.one,Dom.Sh.mono F F.one_sh hg.pos⟩
 neg a:=⟨F.ser.neg a.1,Dom.Sh.neg F a.2⟩
 add_assoc a b c:=Subtype.ext (F.ser.add_assoc _ _ _)
 add_comm a b:=Subtype.ext (F.ser.add_comm _ _)
 add_zero a:=Subtype.ext (F.ser.add_zero _)
 add_neg a:=Subtype.ext (F.ser.add_neg _)
 mul_assoc a b c:=Subtype.ext (by
  refine Eqv.eq hg.dg (res_sh _) (res_sh _) ?_;refine Eqv.trans (rem_eqv hI hg.dg _ _).symm ?_;refine Eqv.trans ?_ (rem_eqv hI hg.dg _ _);refine Eqv.trans (Eqv.mul (res_pl c) (Dom.Pl.mul F (res_pl a) (res_pl b)) (rem_eqv hI hg.dg _ _).symm (Eqv.refl c.1)) ?_;rw[F.ser.mul_assoc]
  exact Eqv.mul (Dom.Pl.mul F (res_pl b) (res_pl c)) (res_pl a) (Eqv.refl a.1) (rem_eqv hI hg.dg _ _))
 mul_comm a b:=Subtype.ext (by
  refine Eqv.eq hg.dg (res_sh _) (res_sh _) ?_;refine Eqv.trans (rem_eqv hI hg.dg _ _).symm ?_;refine Eqv.trans ?_ (rem_eqv hI hg.dg _ _);rw[F.ser.mul_comm]
  exact Eqv.refl _)
 mul_one a:=Subtype.ext (by
  refine Eqv.eq hg.dg (res_sh _) a.2 ?_;refine Eqv.trans (rem_eqv hI hg.dg _ _).symm ?_
  show Eqv F g (F.ser.mul a.1 F.ser.one) a.1
  rw[F.ser.mul_one]
  exact Eqv.refl _)
 mul_add a b c:=Subtype.ext (by
  refine Eqv.eq hg.dg (res_sh _) (res_sh _) ?_;refine Eqv.trans (rem_eqv hI hg.dg _ _).symm ?_
  show Eqv F g (F.ser.mul a.1 (F.ser.add b.1 c.1)) _
  rw[F.ser.mul_add]
  exact Eqv.add (rem_eqv hI hg.dg _ _) (rem_eqv hI hg.dg _ _))
 nzd a b h:=by
  have e:(rem hI hg.dg (F.ser.mul a.1 b.1) (Dom.Pl.mul F (res_pl a) (res_pl b))).1=F.ser.zero:=congrArg Subtype.val h;have h1:=rem_spec hI hg.dg (F.ser.mul a.1 b.1) (Dom.Pl.mul F (res_pl a) (res_pl b));rw[e] at h1;have e2:F.ser.neg F.ser.zero=F.ser.zero:=F.ser.neg_zero;rw[e2,F.ser.add_zero] at h1
  rcases F.prime_dv hI hg (res_pl a) (res_pl b) h1 with h2|h2
  ·exact .inl (Subtype.ext (Dom.Dv.small F hg.dg h2 a.2))
  ·exact .inr (Subtype.ext (Dom.Dv.small F hg.dg h2 b.2))
 one_ne h:=F.ser.one_ne (congrArg Subtype.val h)
def consR (F:Dom α){d:Nat}(a:α)(r:Res F d):Res F (d+1):=⟨fun i=>if i=0 then a else r.1 (i-1),fun i hi=>by
 show(if i=0 then a else r.1 (i-1))=_
 rw[if_neg (by omega)]
 exact r.2 _ (by omega)⟩
def vecs (F:Dom α)(E:List α):(d:Nat)->List (Res F d)
 |0=> [⟨fun _=>F.zero,fun _ _=>rfl⟩]
 |d+1=>E.flatMap fun a=>(vecs F E d).map (consR F a)
end
end FFld
end
section
namespace FFld
structure Emb {α β:Type}(F:Dom α)(G:Dom β)(φ:α->β):Prop where
 add:∀ a b,φ (F.add a b)=G.add (φ a) (φ b)
 mul:∀ a b,φ (F.mul a b)=G.mul (φ a) (φ b)
 zero:φ F.zero=G.zero
 one:φ F.one=G.one
 inj:∀ a b,φ a=φ b->a=b
structure Els {α:Type}(F:Dom α)(E:List α):Prop where
 nodup:E.Nodup
 mem:∀ a,a∈E
 pow:∀ a,F.pow a E.length=a
section
variable {α : Type} {F : Dom α} {E : List α} {g : Nat -> α} {d n : Nat}
def xx (F:Dom α):Nat->α:=F.mon1 F.one 1
end
end FFld
end
section
namespace FFld
namespace Dom
variable {α : Type} (F : Dom α)
def nm (F:Dom α):Nat->α
 |0=>F.zero
 |n+1=>F.add (nm F n) F.one
def der (F:Dom α)(f:Nat->α):Nat->α:=fun i=>F.mul (F.nm (i+1)) (f (i+1))
end Dom
end FFld
end
section
namespace FFld
structure Chr {α:Type}(F:Dom α)(p:Nat):Prop where
 prime:Prime p
 small:p<=65536
 zero:F.nm p=F.zero
section
variable {α : Type} {F : Dom α} {p : Nat}
end
end FFld
end
section
namespace FFld
section
variable {α : Type} {F : Dom α} {E : List α} {p n : Nat} {f : Nat -> α}
end
end FFld
end
section
namespace FFld
def toE {D:FD}(h:PK D.p D.k D.m)(a:Nat):El (D.p ^ D.k):=if ha:a<D.p ^ D.k then⟨a,ha⟩ else⟨0,Nat.pow_pos h.p0⟩
theorem toE_val {D:FD}(h:PK D.p D.k D.m){a:Nat}(ha:a<D.p ^ D.k):(toE h a).1=a:=by
 unfold toE;rw[dif_pos ha]
section
variable {D : FD} (hD : D.Ok)
theorem toE_add {a b:Nat}(ha:a<D.p ^ D.k)(hb:b<D.p ^ D.k):toE hD.pre.pk (padd D.p D.k a b)=(FD.dom hD.nzd).add (toE hD.pre.pk a) (toE hD.pre.pk b):=by
 apply Subtype.ext
 rw[toE_val _ (padd_lt hD.pre.pk _ _)]
 show _=padd D.p D.k (toE hD.pre.pk a).1 (toE hD.pre.pk b).1
 rw[toE_val _ ha,toE_val _ hb]
theorem toE_mul {a b:Nat}(ha:a<D.p ^ D.k)(hb:b<D.p ^ D.k):toE hD.pre.pk (pmul D.p D.k D.m a D.k b)=(FD.dom hD.nzd).mul (toE hD.pre.pk a) (toE hD.pre.pk b):=by
 apply Subtype.ext
 rw[toE_val _ (pmul_lt hD.pre.pk _ _ _)]
 show _=pmul D.p D.k D.m (toE hD.pre.pk a).1 D.k (toE hD.pre.pk b).1
 rw[toE_val _ ha,toE_val _ hb]
theorem toE_neg {a:Nat}(ha:a<D.p ^ D.k):toE hD.pre.pk (pscl D.p D.k (D.p-1) a)=(FD.dom hD.nzd).neg (toE hD.pre.pk a):=by
 apply Subtype.ext
 rw[toE_val _ (pscl_lt hD.pre.pk _ _)]
 show _=pscl D.p D.k (D.p-1) (toE hD.pre.pk a).1
 rw[toE_val _ ha]
theorem toE_zero:toE hD.pre.pk 0=(FD.dom hD.nzd).zero:=by
 apply Subtype.ext
 rw[toE_val _ (Nat.pow_pos hD.pre.pk.p0)];rfl
theorem toE_one:toE hD.pre.pk 1=(FD.dom hD.nzd).one:=by
 apply Subtype.ext
 rw[toE_val _ hD.pre.pk.one_lt];rfl
end
end FFld
end
section
open Go Go.RowKit Go.Deep
open FFld (ints)
theorem ints_take (l:List Nat)(n:Nat):ints (l.take n)=(ints l).take n:=by
 unfold FFld.ints;rw[List.map_take]
theorem rtrim_any (l:List Nat)(ao:Option Addr)(cap:Nat)(w:World)(h:Sl .i64 w (.slice ao l.length cap) (ints l))(hl6:l.length<=1000000):
 Calls Tryz.prog 43 #[.slice ao l.length cap] w (fun e w' =>w=w' /\e= .returned (.slice ao (FFld.trm l).length cap)):=by
 obtain⟨ao',cap',e,hcap,hmax,hc⟩:=h;simp only[Value.slice.injEq] at e;obtain⟨rfl,e2,rfl⟩:=e;clear e2;rw[FFld.ints_len] at hcap hc;unfold maxLen at hmax;have HC:=Km hc;clear hc;have HE:Kept (∀ n,n<=l.length->(∀ i,n<=i->l[i]?.getD 0=0)->(n=0\/l[n-1]?.getD 0≠0)->(FFld.trm l).length=n):=⟨fun n h1 h2 h3=>by rw[FFld.trm_is h1 h2 h3,List.length_take];omega⟩;obtain⟨r,hr⟩:∃ r,(FFld.trm l).length=r:=⟨_,rfl⟩;rw[hr] at HE ⊢;clear hr
 go_enter Tryz.func43,Tryz.ntmps43
 go_wp2
 go_loop [0] (fun v=> ∃ k:Nat,k<=l.length/\v= .slice ao k cap/\Hid (∀ i,k<=i->l[i]?.getD 0=0)) (fun v=>sliceLen v)
 case atStart=>exact⟨l.length,Nat.le_refl _,rfl,fun i hi=>by simp[hi]⟩
 case round=>
  obtain⟨k,hk,rfl,hz⟩:=hrel
  by_cases h0:0<k
  ·obtain⟨b,o,rfl,hb,hcell⟩:=HC.out (k-1) (by omega);obtain⟨k,rfl⟩:∃ j,k=j+1:=⟨k-1,by omega⟩;rw[FFld.ints_get] at hcell;simp only[Nat.add_sub_cancel] at hcell;obtain⟨x,hx⟩:∃ x,l[k]?.getD 0=x:=⟨_,rfl⟩;rw[hx] at hcell
   by_cases hx0:x=0
   ·subst hx0;have HX:=Lib.hid hx;have e0:(((0:Nat):Int)==0)=true:=rfl;clear hx;go_wp2
    go_round
    case rel=>exact⟨k,by omega,by go_num,fun i hi=>by
     by_cases e:i=k
     ·rw[e];exact HX.out
     ·exact hz.out i (by omega)⟩
    case measure=>simp[sliceLen]<;>omega
   ·have e0:((x:Int)==0)=false:=by rw[beq_eq_false_iff_ne];omega
    have HX:=Lib.hid (show l[k]?.getD 0≠0 by rw[hx];exact hx0);clear hx hx0;go_wp2
    go_ret
    refine⟨rfl,?_⟩;rw[HE.out (k+1) hk hz.out (.inr (by simpa using HX.out))];rfl
  ·obtain rfl:k=0:=by omega
   go_wp2
   go_ret
   refine⟨rfl,?_⟩;rw[HE.out 0 hk hz.out (.inl rfl)];rfl
def polF (D:FFld.FD)(xs:List Int)(most:Nat):List Nat:=FFld.trm ((xs.take most).map (redN D))
end
end Go.Proofs.YtdnheaafcbihbaaGreat
