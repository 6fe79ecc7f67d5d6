/-
  Texts of the proof, merged by program: TOne TScale TStr TTxt TSplit TRead TRev TDec TWrite TInt1 TInt2 TBits TYield TParse TParse2 TInt3 TNeg TPlus.
-/
import Derived.Test.YtdnheaafcbihbaaGreatDc10
import Derived.Lib.ParseIntB
import Derived.Lib.SmallJoins
import Derived.Lib.IndexBytes
import Derived.Deep.LoopGhost
import Derived.Laws.IdiomStrings
import Derived.Defers
import Derived.Recover
import Derived.Deep.RegionWith
import Derived.Deep.RegionHeld3
set_option linter.unusedSimpArgs false
set_option linter.unusedVariables false
set_option maxHeartbeats 16000000
namespace Go.Proofs.YtdnheaafcbihbaaGreat
open Go Go.RowKit
theorem oneWord_any (x:Int)(w:World)(h0:0<=x)(h1:x<18446744073709551616):
 Calls Tryz.prog 135 #[.int .u64 x] w (RetNum 1 w x):=by
 have hS:Sl .u64 (w.alloc (.cells #[.int .u64 x] 165)) (.slice (some ⟨w.heap.size,0,none⟩) 1 1) [x]:=(Row.new (E:=165) (K:= .u64) w [x]).slAll rfl (Nat.le_refl _) (by unfold maxLen;omega);have hb:Below w.heap.size w (w.alloc (.cells #[.int .u64 x] 165)):=(Below.refl _ _).alloc (Nat.le_refl _) _;have hw:Dg.Wf BW [x]:=Dg.Wf.one h0 h1
 go_enter Tryz.func135,Tryz.ntmps135
 go_wp2_with (go_at_call 196;refine(cut_num hS hw).mono ?_;rintro e w' ⟨v',rfl,rfl,hn,hob⟩;have HOB:=Lib.hid hob;clear hob)
 go_ret
 rw[Dg.val_one] at hn;exact⟨hb,_,rfl,hn,(Frm.mk (Nat.le_refl _)).of HOB.out⟩
theorem Sl.of_owns {E:TypeId}{K:IntKind}{w:World}{B:Nat}{v:Value}{n:Nat}{xs:List Int}(h:w.ownsRow B E 1 v n (xs.map (Value.int K))):Sl K w v xs:=by
 have hl:xs.length=n:=by simpa using h.1
 rcases h.2 with⟨rfl,h0⟩|⟨g,cap,cur,rfl,hg,hh,hn,hm,hc,ht⟩
 ·have:xs= []:=by cases xs with|nil=>rfl|cons=>simp at hl;omega
  subst this;exact Sl.nil _ _
 ·refine⟨_,cap,by rw[hl],by omega,hm,fun i hi=>⟨g,0,rfl,(Array.getElem?_eq_some_iff.1 hh).1,?_⟩⟩;have:=h.cellAt i (by omega);rw[Nat.zero_add,this];simp[hi]
theorem Sl.newsT {K:IntKind}{w:World}{ad:Addr}{n cap:Nat}{xs:List Int}(h:Sl K w (.slice (some ad) n cap) xs):∀ j u,(xs.map (Value.int K))[j]? =some u->w.cell? (ad.add j)=some u:=by
 obtain⟨ao,c,e,hc,hm,hx⟩:=h;intro j u hj
 have hjl:j<xs.length:=by
  apply Classical.byContradiction
  intro hc';simp[hc'] at hj
 obtain⟨b,o,e2,hb,hcell⟩:=hx j hjl;simp only[Value.slice.injEq] at e;obtain⟨rfl,_,_⟩:=e;simp only[Option.some.injEq] at e2;subst e2;have:(⟨b,o,none⟩:Addr).add j=⟨b,o+j,none⟩:=by simp[Addr.add]
 rw[this,hcell];simp[hjl] at hj ⊢;exact hj
theorem tclone_any {v:Value}{xs:List Int}{w:World}(h:Sl .u64 w v xs)(hmx:xs.length<=17000000000000):
 Calls Tryz.prog 255 #[v] w (RetSl .u64 w xs):=by
 have h' :=h;obtain⟨ao,cap,rfl,hcap,hmax,hc⟩:=h;have hnil:=fun wx:World=>Lib.run_eql_slice_nil (P:=Tryz.prog) wx 96 165 ao xs.length cap 0 0 Tryz.underlying96
 rcases ao with _|ad
 ·have hx:xs= []:=by
   cases xs with
   |nil=>rfl
   |cons x xs=>obtain⟨b,o,e,_⟩:=hc 0 (by simp);cases e
  subst hx;simp only[Option.isNone_none,List.length_nil] at hnil ⊢;clear hc hmax h' hmx hcap
  go_enter Tryz.func255,Tryz.ntmps255
  go_wp2
  go_ret
  exact⟨Below.refl _ _,_,rfl,Sl.nil _ _,Frm.nil _⟩
 ·simp only[Option.isNone_some] at hnil;obtain⟨i0,hi,hz0,hz1,hz2⟩:=info_parts info_u64;have hown:=World.ownsRow_lit (base:=w.heap.size) (e:=165) (size:=1) w #[] 0 (Nat.le_refl _) (Nat.zero_le _) (by rfl);have hb:Below w.heap.size w (w.alloc (.cells #[] 165)):=(Below.refl _ _).alloc (Nat.le_refl _) _;have hn:=(h'.below hb).newsT;have HO:=Lib.hid hown;have HN:=Lib.hid hn
  have hone:∀ u∈xs.map (Value.int .u64),u.oneCell' =true:=by
   intro u hu;obtain⟨a,_,rfl⟩:=List.mem_map.1 hu;rfl
  have hlen:(xs.map (Value.int .u64)).length=xs.length*1:=by simp
  have hm1:0+xs.length<=maxLen:=by unfold maxLen;omega
  have hm2:(0+xs.length)*8<=140737488355328:=by omega
  have hb0:w.heap.size<=(w.alloc (.cells #[] 165)).heap.size:=by simp
  have HB0:=Lib.hid hb0;have HONE:=Lib.hid hone;have HLEN:=Lib.hid hlen;have HM1:=Lib.hid hm1;have HM2:=Lib.hid hm2;clear hn hown hc hmax h' hone hlen hm1 hm2 hb0
  go_enter Tryz.func255,Tryz.ntmps255
  go_wp2_with (at_builtin;refine wpList_append_own _ rfl _ _ 96 rfl w.heap.size 165 i0 (.int .u64 0) 1 8 Tryz.underlying96 hi hz0 hz1 hz2 rfl (by decide) _ _ _ rfl HO.out ad xs.length cap (xs.map (Value.int .u64)) rfl HLEN.out HN.out HONE.out HM1.out HM2.out HB0.out ?_)
  intro v' w1 hown1 hgrow hiff;have HO1:=Lib.hid hown1;have hb2:=hb.grown hgrow (by simp) (fun k hk=>(HO.out.lt k hk).1);clear hiff hown1 hgrow hb HO HN hi hz0 hz1 hz2 hnil;go_wp2
  go_ret
  exact⟨hb2,_,rfl,Sl.of_owns (by simpa using HO1.out),fun k hk=>(HO1.out.lt k hk).1⟩
theorem tcopied_any {L:Nat}{v:Value}{m:Int}{w:World}(h:Num L w v m)(hL:L<=17000000000000):
 Calls Tryz.prog 231 #[v] w (RetNum L w m):=by
 obtain⟨xs,a1,a2,a3,rfl,a5⟩:=h
 go_enter Tryz.func231,Tryz.ntmps231
 go_wp2_with fail;refine(tclone_any a1 (by omega)).mono ?_;rintro e w1 ⟨hb,v1,rfl,hs,hf⟩;have HF:=Lib.hid hf;clear hf;go_wp2_with fail;refine(cut_num hs a2).mono ?_;rintro e w2 ⟨v2,rfl,rfl,hn,hob⟩;have HOB:=Lib.hid hob;clear hob;go_wp2
 go_ret
 exact⟨hb,_,rfl,hn.mono a5,Frm.of HF.out HOB.out⟩
def ScAt (xs ys:List Int)(f s:Int)(k:Nat)(c:Int):Prop:=ys.length=xs.length/\Dg.Wf BW ys/\0<=c/\c<18446744073709551616/\
 Dg.val BW (ys.take k)+c*BW ^ k=Dg.val BW (xs.take k)*f+s/\ ∀ i,k<=i->ys[i]?.getD 0=xs[i]?.getD 0
def ScRet (B:Nat)(w:World)(v:Value)(xs:List Int)(n:Int)(e:Ending)(w' :World):Prop:=
 ∃ v' ys,e= .returned v' /\Mine 165 .u64 B w' v' ys/\Dg.Wf BW ys/\Dg.val BW ys=n/\ys.length<=xs.length+1/\w.grownBy w' v.ownBlock
end Go.Proofs.YtdnheaafcbihbaaGreat
namespace Go.Proofs.YtdnheaafcbihbaaGreat.Dg
def AllDig (l:List UInt8):Prop:= ∀ c∈l,48<=c.toNat/\c.toNat<=57
def isNum (l:List UInt8):Bool:= !l.isEmpty&&l.all fun c=>decide (48<=c.toNat)&&decide (c.toNat<=57)
def valD (l:List UInt8):Nat:=l.foldl (fun a c=>a*10+(c.toNat-48)) 0
def decF:Nat->Nat->List UInt8
 |0,_=> []
 |f+1,n=>if n=0 then [] else decF f (n/10)++ [UInt8.ofNat (48+n%10)]
def decN (n:Nat):List UInt8:=if n=0 then [48] else decF n n
def decZ (z:Int):List UInt8:=if z<0 then 45::decN z.natAbs else decN z.natAbs
def okDig (l:List UInt8):Prop:=l≠ []/\AllDig l/\(l= [48]\/ ∀ c t,l=c::t->c.toNat≠48)
def Canon (s:List UInt8)(neg:Bool)(d:List UInt8):Prop:=okDig d/\((neg=false/\s=d)\/(neg=true/\s=45::d/\d≠ [48]))
def ofSign (neg:Bool)(n:Nat):Int:=if neg then -(n:Int) else n
def Cutsign (s:List UInt8)(neg:Bool)(D:List UInt8):Prop:=(neg=true/\s=45::D)\/(neg=false/\s=D/\ ∀ t,s≠45::t)
end Go.Proofs.YtdnheaafcbihbaaGreat.Dg
namespace Go.Proofs.YtdnheaafcbihbaaGreat
open Go Go.RowKit
def str (l:List UInt8):Value:= .string ⟨l.toArray⟩
def SpRet (s:List UInt8)(w:World)(e:Ending)(w' :World):Prop:=w=w' /\
 ((∃ (D:ByteArray) (neg:Bool),e= .returned (.tuple #[.string D, .bool neg, .bool true])/\Dg.Canon s neg D.data.toList/\D.size<=s.length)\/
  (e= .returned (.tuple #[.string ⟨#[]⟩, .bool false, .bool false])/\ ∀ neg d,¬ Dg.Canon s neg d))
structure RdAt (D d:List UInt8)(n:Nat)(xs:List Int):Prop where
 dig:Dg.AllDig d
 n1:1<=n
 n19:n<=19
 mod:d= []\/(n<=d.length/\(d.length-n)%19=0)
 zero:n=19\/Dg.val BW xs=0
 eq:Dg.val BW xs*(10 ^ d.length:Nat)+Dg.valD d=Dg.valD D
 len:19*xs.length+d.length<=D.length+18
 first:n=19\/(xs= []/\d.length=D.length)
 wf:Dg.Wf BW xs
def strLen:Value->Nat| .string d=>d.size|_=>0
def RvAt (xs ys:List Int)(i j:Nat):Prop:=ys.length=xs.length/\ ∀ t,t<xs.length->ys[t]?.getD 0=if i<=t/\t<=j then xs[t]?.getD 0 else xs[xs.length-1-t]?.getD 0
def RvRet (B:Nat)(w:World)(v:Value)(xs:List Int)(e:Ending)(w' :World):Prop:=e= .returned (.tuple #[])/\Mine 5 .u8 B w' v xs.reverse/\w.grownBy w' v.ownBlock
end Go.Proofs.YtdnheaafcbihbaaGreat
namespace Go.Proofs.YtdnheaafcbihbaaGreat.Dg
def byt (d:Int):UInt8:=UInt8.ofNat (48+d.toNat)
structure WrAt (N:Int)(D:List Int)(R:Int):Prop where
 wf:Wf 10 D
 eq:N=val 10 D+10 ^ D.length*R
 nz:R=0->Nz D
 R0:0<=R
end Go.Proofs.YtdnheaafcbihbaaGreat.Dg
namespace Go.Proofs.YtdnheaafcbihbaaGreat
open Go Go.RowKit
def dby (D:List Int):List Int:=D.map (48+ ·)
def StrRet (w:World)(l:List UInt8)(e:Ending)(w' :World):Prop:=Below w.heap.size w w' /\e= .returned (str l)
def IntV (L:Nat)(w:World)(v:Value)(z:Int):Prop:= ∃ sb sv,v= .agg #[.bool sb,sv]/\sb=decide (z<0)/\Num L w sv z.natAbs
def RetInt (L:Nat)(w:World)(z:Int)(e:Ending)(w' :World):Prop:=Below w.heap.size w w' /\ ∃ v',e= .returned v' /\IntV L w' v' z
theorem IntV.below {L:Nat}{w w' :World}{v:Value}{z:Int}(h:IntV L w v z)(hb:Below w.heap.size w w'):IntV L w' v z:=let ⟨sb,sv,e,h1,hn⟩:=h;⟨sb,sv,e,h1,hn.below hb⟩
theorem IntV.mono {L L' :Nat}{w:World}{v:Value}{z:Int}(h:IntV L w v z)(hL:L<=L'):IntV L' w v z:=let ⟨sb,sv,e,h1,hn⟩:=h;⟨sb,sv,e,h1,hn.mono hL⟩
theorem ttwo_cells {w:World}{g:Nat}{a b:Value}{T:TypeId}(h:w.heap[g]? =some (.cells #[a,b] T (0,0))):
 w.cell? ⟨g,0,none⟩=some a/\w.cell? ⟨g,1,none⟩=some b/\w.frozen? ⟨g,0,none⟩=false/\w.frozen? ⟨g,1,none⟩=false:=
 ⟨by rw[cell_of_row w g 0 _ T (0,0) h];rfl,by rw[cell_of_row w g 1 _ T (0,0) h];rfl,frozen_of_row w g 0 _ T h,frozen_of_row w g 1 _ T h⟩
theorem tboxed {w w' :World}{o:Obj}(h:Below (w.heap.size+1) (w.alloc o) w'):w'.heap[w.heap.size]? =some o:=(h.block _ (by omega)).trans (heap_alloc_new w o)
theorem ttwo_set {w:World}{g:Nat}{a b:Value}{T:TypeId}(h:w.heap[g]? =some (.cells #[a,b] T (0,0)))(u v:Value):
 ((w.setCell ⟨g,0,none⟩ u).setCell ⟨g,1,none⟩ v).heap[g]? =some (.cells #[u,v] T (0,0)):=by
 have h1:=heap_setCell_same w g 0 #[a,b] T u h;have h2:=heap_setCell_same _ g 1 _ T v h1
 simpa using h2
theorem Sl.not_boxT {K:IntKind}{w:World}{v:Value}{xs:List Int}{g:Nat}{cs:Array Value}{T:TypeId}{fr:Nat × Nat}(h:Sl K w v xs)(hg:w.heap[g]? =some (.cells cs T fr))(hc:∀ (i:Nat) (n:Int),cs[i]? ≠some (Value.int K n)):live v≠some g:=by
 intro hl;obtain⟨ao,cap,rfl,hcap,hm,hx⟩:=h
 by_cases h0:0<xs.length
 ·obtain⟨b,o,rfl,hb,hcell⟩:=hx 0 h0;have:=live_own hl;simp only[Value.ownBlock,Option.some.injEq] at this;subst this;rw[cell_of_row w b (o+0) cs T fr hg] at hcell;exact hc _ _ hcell
 ·have:xs.length=0:=by omega
  rw[this] at hl
  cases ao<;>simp[live] at hl
theorem Num.box {L:Nat}{w:World}{v:Value}{n:Int}{g:Nat}{x:Bool}{a:Option Addr}{k c:Nat}{T:TypeId}(h:Num L w v n)(hg:w.heap[g]? =some (.cells #[.bool x, .slice a k c] T (0,0)))(u u' :Value):
 Num L ((w.setCell ⟨g,0,none⟩ u).setCell ⟨g,1,none⟩ u') v n:=by
 obtain⟨xs,h1,h2⟩:=h;refine⟨xs,h1.kept (tgrowSet (tgrowSet (tgrowRefl w (some g)) 0 u) 1 u') (fun k hk e=> ?_),h2⟩;refine h1.not_boxT hg (fun i m=> ?_) (hk.trans e.symm)
 rcases i with _|_|i<;>simp
theorem Num.form {L:Nat}{w:World}{v:Value}{n:Int}(h:Num L w v n):∃ ao k cap,v= .slice ao k cap:=let ⟨xs,⟨ao,cap,e,_⟩,_⟩:=h;⟨ao,_,cap,e⟩
def sgn (neg:Bool)(m:Int):Int:=if neg then -m else m
theorem signed_any {L:Nat}(neg:Bool){sv:Value}{m:Int}{w:World}(h:Num L w sv m):
 Calls Tryz.prog 134 #[.bool neg,sv] w (RetInt L w (sgn neg m)):=by
 have hN:=h;obtain⟨xs,a1,a2,a3,a4,a5⟩:=h;have hm0:0<=m:=by rw[<- a4];exact Dg.val_nonneg (by decide) a2
 have hz:xs= []↔m=0:=by rw[<- a4];exact(Dg.val_zero_iff (by decide) a2 a3).symm
 obtain⟨ao,cap,rfl,hc,hm,hx⟩:=a1;have hb:Below w.heap.size w (w.alloc (.cells #[.bool (decide (sgn neg m<0)), .slice ao xs.length cap] 98)):=(Below.refl _ _).alloc (Nat.le_refl _) _
 have hI:Hid (RetInt L w (sgn neg m) (.returned (.agg #[.bool (decide (sgn neg m<0)), .slice ao xs.length cap])) (w.alloc (.cells #[.bool (decide (sgn neg m<0)), .slice ao xs.length cap] 98))):=
  ⟨hb,_,rfl,_,_,rfl,rfl,by
   have e:((sgn neg m).natAbs:Int)=m:=by unfold sgn;split<;>omega
   rw[e];exact hN.below hb⟩
 by_cases hs:neg=true/\0<m
 ·obtain⟨rfl,hp⟩:=hs;have hl:0<xs.length:=List.length_pos_iff.2 (fun e=>by have:=hz.1 e;omega);have e:decide (sgn true m<0)=true:=by simp[sgn];omega
  rw[e] at hI;clear hz hx hm hc a2 a3 a4 hb e hN
  go_enter Tryz.func134,Tryz.ntmps134
  go_wp2;exact bodyPost_ret (v:= .agg #[.bool true, .slice ao xs.length cap]) (by simp[results,Tryz.results134,go_sem]) rfl hI.out
 ·have e:decide (sgn neg m<0)=false:=by
   unfold sgn
   cases neg
   ·simp;omega
   ·simp at hs ⊢;omega
  rw[e] at hI
  have hl:neg=true->xs.length=0:=fun h=>by
   have:m=0:=by
    apply Classical.byContradiction
    intro hc;exact hs ⟨h,by omega⟩
   rw[hz.2 this];rfl
  have hl2:Hid (neg=false\/(neg=true/\xs.length=0)):=by
   cases neg
   ·exact .inl rfl
   ·exact .inr ⟨rfl,hl rfl⟩
  clear hz hx hm hc a2 a3 a4 hb e hN hs hl
  rcases hl2.out with rfl|⟨rfl,hl⟩
  ·go_enter Tryz.func134,Tryz.ntmps134
   go_wp2;exact bodyPost_ret (v:= .agg #[.bool false, .slice ao xs.length cap]) (by simp[results,Tryz.results134,go_sem]) rfl hI.out
  ·rw[hl] at hI ⊢
   go_enter Tryz.func134,Tryz.ntmps134
   go_wp2;exact bodyPost_ret (v:= .agg #[.bool false, .slice ao 0 cap]) (by simp[results,Tryz.results134,go_sem]) rfl hI.out
theorem Num.lt {L:Nat}{w:World}{v:Value}{n:Int}(h:Num L w v n):0<=n/\n<18446744073709551616 ^ L:=by
 obtain⟨xs,_,a2,_,rfl,a5⟩:=h;exact⟨Dg.val_nonneg (by decide) a2,Int.lt_of_lt_of_le (Dg.val_lt (show(0:Int)<BW by decide) a2) (Dg.pow_mono (show(0:Int)<BW by decide) a5)⟩
theorem of_any (n:Int)(w:World)(h0: -9223372036854775808<=n)(h1:n<=9223372036854775807):
 Calls Tryz.prog 67 #[.int .i64 n] w (RetInt 1 w n):=by
 by_cases hn:n<0
 ·have e1:IntKind.u64.wrap (-IntKind.u64.wrap n)= -n:=by simp only[IntKind.wrap_u64];omega
  have hb0:Below w.heap.size w (w.alloc (.cells #[.bool false, .slice none 0 0] 98)):=(Below.refl _ _).alloc (Nat.le_refl _) _
  go_enter Tryz.func67,Tryz.ntmps67
  go_wp2_with fail;refine(oneWord_any (-n) _ (by omega) (by omega)).mono ?_;rintro e w1 ⟨hb1,v1,rfl,hn1,hf1⟩;go_wp2_with fail;refine(signed_any true hn1).mono ?_;rintro e w2 ⟨hb2,v2,rfl,sb,sv,rfl,hsb,hn2⟩;obtain⟨ao,nn,cap,rfl⟩:=hn2.form;have hbx:=tboxed ((hb1.mono (by simp)).trans (hb2.mono (by have:=hb1.size;simp at this ⊢;omega)));obtain⟨c0,c1,f0,f1⟩:=ttwo_cells hbx;have hsz:w.heap.size<w2.heap.size:=(Array.getElem?_eq_some_iff.1 hbx).1;have es:sgn true (-n)=n:=by simp[sgn]
  rw[es] at hn2 hsb;obtain⟨d0,d1,_,_⟩:=ttwo_cells (ttwo_set hbx (.bool (sb)) (.slice ao nn cap));have D0:=Lib.hid d0;have D1:=Lib.hid d1;have HN:=Lib.hid (hn2.box hbx (.bool (sb)) (.slice ao nn cap));have HB:=Lib.hid (((((hb0.trans (hb1.mono (by simp))).trans (hb2.mono (by have:=hb1.size;simp at this ⊢;omega))).setCell (p:=⟨w.heap.size,0,none⟩) (Nat.le_refl _) (.bool (sb))).setCell (p:=⟨w.heap.size,1,none⟩) (Nat.le_refl _) (.slice ao nn cap)));have HF:=Lib.hid hf1;have HSB:=Lib.hid hsb;clear hbx d0 d1 hn2 hb0 hb1 hb2 hn1 es hf1 hsb;go_wp2;exact bodyPost_ret (v:= .agg #[.bool (sb), .slice ao nn cap]) (by simp[results,Tryz.results67,go_sem,D0.out,D1.out]) rfl ⟨HB.out,_,rfl,_,_,rfl,HSB.out,HN.out⟩
 ·have e1:IntKind.u64.wrap n=n:=by simp only[IntKind.wrap_u64];omega
  have hb0:Below w.heap.size w (w.alloc (.cells #[.bool false, .slice none 0 0] 98)):=(Below.refl _ _).alloc (Nat.le_refl _) _
  go_enter Tryz.func67,Tryz.ntmps67
  go_wp2_with fail;refine(oneWord_any (n) _ (by omega) (by omega)).mono ?_;rintro e w1 ⟨hb1,v1,rfl,hn1,hf1⟩;go_wp2_with fail;refine(signed_any false hn1).mono ?_;rintro e w2 ⟨hb2,v2,rfl,sb,sv,rfl,hsb,hn2⟩;obtain⟨ao,nn,cap,rfl⟩:=hn2.form;have hbx:=tboxed ((hb1.mono (by simp)).trans (hb2.mono (by have:=hb1.size;simp at this ⊢;omega)));obtain⟨c0,c1,f0,f1⟩:=ttwo_cells hbx;have hsz:w.heap.size<w2.heap.size:=(Array.getElem?_eq_some_iff.1 hbx).1;have es:sgn false (n)=n:=by simp[sgn]
  rw[es] at hn2 hsb;obtain⟨d0,d1,_,_⟩:=ttwo_cells (ttwo_set hbx (.bool (sb)) (.slice ao nn cap));have D0:=Lib.hid d0;have D1:=Lib.hid d1;have HN:=Lib.hid (hn2.box hbx (.bool (sb)) (.slice ao nn cap));have HB:=Lib.hid (((((hb0.trans (hb1.mono (by simp))).trans (hb2.mono (by have:=hb1.size;simp at this ⊢;omega))).setCell (p:=⟨w.heap.size,0,none⟩) (Nat.le_refl _) (.bool (sb))).setCell (p:=⟨w.heap.size,1,none⟩) (Nat.le_refl _) (.slice ao nn cap)));have HF:=Lib.hid hf1;have HSB:=Lib.hid hsb;clear hbx d0 d1 hn2 hb0 hb1 hb2 hn1 es hf1 hsb;go_wp2;exact bodyPost_ret (v:= .agg #[.bool (sb), .slice ao nn cap]) (by simp[results,Tryz.results67,go_sem,D0.out,D1.out]) rfl ⟨HB.out,_,rfl,_,_,rfl,HSB.out,HN.out⟩
theorem bl_bounds {xs:List Int}{x:Int}{s:Nat}(hw:Dg.Wf BW xs)(h0:0<xs.length)(hx:x=xs[xs.length-1]?.getD 0)(hs:s<=63)(h1:9223372036854775808<=x*2 ^ s)(h2:x*2 ^ s<18446744073709551616):
 Dg.val BW xs<2 ^ (64*xs.length-s)/\2 ^ (64*xs.length-s)<=2*Dg.val BW xs:=by
 have e:=Dg.val_take_succD BW xs (xs.length-1);rw[show xs.length-1+1=xs.length by omega,List.take_of_length_le (Nat.le_refl _),<- hx] at e;have hl:=Dg.val_lt (show(0:Int)<BW by decide) (hw.take (xs.length-1));have hn:=Dg.val_nonneg (show(0:Int)<BW by decide) (hw.take (xs.length-1));have elen:(xs.take (xs.length-1)).length=xs.length-1:=by simp
 rw[elen] at hl;have eB:BW ^ (xs.length-1)=2 ^ (64*(xs.length-1)):=by rw[Int.pow_mul];rfl
 have hp:(0:Int)<2 ^ s:=Dg.pow_pos (by omega) s;have hq:(0:Int)<2 ^ (63-s):=Dg.pow_pos (by omega) _;have e63:(2:Int) ^ (63-s)*2 ^ s=9223372036854775808:=by rw[<- Int.pow_add,show 63-s+s=63 by omega];rfl
 have hx1:2 ^ (63-s)<=x:=by
  apply Classical.byContradiction
  intro hc;have:=Int.mul_lt_mul_of_pos_right (show x<2 ^ (63-s) by omega) hp;omega
 have hx2:x<2*2 ^ (63-s):=by
  apply Classical.byContradiction
  intro hc;have:=Int.mul_le_mul_of_nonneg_right (show 2*2 ^ (63-s)<=x by omega) (Int.le_of_lt hp);rw[Int.mul_assoc,e63] at this;omega
 have ek:(2:Int) ^ (64*xs.length-s)=2*(2 ^ (64*(xs.length-1))*2 ^ (63-s)):=by
  rw[<- Int.pow_add,Int.mul_comm 2,<- Int.pow_succ];congr 1;omega
 rw[ek,e];rw[eB] at hl ⊢;have hP:(0:Int)<2 ^ (64*(xs.length-1)):=Dg.pow_pos (by omega) _;generalize(2:Int) ^ (64*(xs.length-1))=P at*;generalize(2:Int) ^ (63-s)=q at*;have m1:=Int.mul_le_mul_of_nonneg_left hx1 (Int.le_of_lt hP);have m2:=Int.mul_le_mul_of_nonneg_left (show x+1<=2*q by omega) (Int.le_of_lt hP);rw[Int.mul_add] at m2;have m3:P*(2*q)=2*(P*q):=Int.mul_left_comm _ _ _;omega
theorem bitLength_any {L:Nat}{v:Value}{n:Int}{w:World}(h:Num L w v n)(hL:L<=17000000000000):
 Calls Tryz.prog 241 #[v] w fun e w' => ∃ k:Nat,e= .returned (.int .i64 k)/\w=w' /\n<2 ^ k/\(0<n->2 ^ k<=2*n)/\(n=0->k=0)/\k<=64*L:=by
 obtain⟨xs,a1,a2,a3,rfl,a5⟩:=h;obtain⟨ao,cap,rfl,hc,hm,hx⟩:=a1
 by_cases h0:0<xs.length
 ·obtain⟨b,o,rfl,hb,hcell⟩:=hx (xs.length-1) (by omega);obtain⟨x,ex⟩:∃ x,x=xs[xs.length-1]?.getD 0:=⟨_,rfl⟩;have hxb:=wfD a2 (xs.length-1);rw[<- ex] at hcell hxb
  have hxp:0<x:=by
   have hne:xs≠ []:=List.length_pos_iff.1 h0;have hz:=a3 hne;rw[List.getLast_eq_getElem] at hz;have h4:xs.length-1<xs.length:=by omega
   have:x=xs[xs.length-1]:=by rw[ex];simp[h4]
   omega
  have t1:((xs.length:Int)==0)=false:=beq_eq_false_iff_ne.2 (by omega);have HP:=Lib.hid (Dg.val_pos (show(0:Int)<BW by decide) a2 a3 (List.length_pos_iff.1 h0));have HX:=Lib.hid ex;have HW:=Lib.hid a2;clear ex a2 a3 hx hm hc
  go_enter Tryz.func241,Tryz.ntmps241
  go_wp2_with fail;refine(lz64 x _ hxp hxb.2).mono ?_;rintro e w1 ⟨s,rfl,rfl,hs,hy1,hy2⟩;have HB:=Lib.hid (bl_bounds HW.out h0 HX.out hs hy1 hy2);clear hy1 hy2;go_wp2
  go_ret
  refine⟨64*xs.length-s,?_,rfl,HB.out.1,fun _=>HB.out.2,fun hz=> ?_,by omega⟩
  ·show Ending.returned (Value.int .i64 _)=_
   congr 2
   omega
  ·have:=HP.out;omega
 ·have t1:((xs.length:Int)==0)=true:=beq_iff_eq.2 (by omega);have hxs:xs= []:=List.eq_nil_of_length_eq_zero (by omega);have HX:=Lib.hid hxs;clear hxs hx hm hc a2 a3
  go_enter Tryz.func241,Tryz.ntmps241
  go_wp2
  go_ret
  refine⟨0,rfl,rfl,?_,?_,fun _=>rfl,by omega⟩
  ·rw[HX.out];simp[Dg.val]
  ·rw[HX.out];simp[Dg.val]
def maxBits:Nat:=40000
def smallB (n:Int):Bool:=decide (n<2 ^ maxBits)
theorem small_of {n:Int}{k:Nat}(h0:0<=n)(h1:n<2 ^ k)(h2:0<n->2 ^ k<=2*n)(hk:n=0->k<=maxBits):smallB n=decide (k<=maxBits):=by
 unfold smallB
 by_cases hc:k<=maxBits
 ·have:=Dg.pow_mono (show(0:Int)<2 by omega) hc;simp[hc];omega
 ·have h3:0<n:=by
   apply Classical.byContradiction
   intro h;exact hc (hk (by omega))
  have h4:=h2 h3;have h5:=Dg.pow_mono (show(0:Int)<2 by omega) (show maxBits+1<=k by omega);rw[Int.pow_succ] at h5;simp[hc];omega
theorem isSmall_any {L:Nat}{v:Value}{n:Int}{w:World}(h:Num L w v n)(hL:L<=17000000000000):
 Calls Tryz.prog 198 #[v] w fun e w' =>e= .returned (.bool (smallB n))/\w=w' :=by
 have hn0:=h.lt.1
 go_enter Tryz.func198,Tryz.ntmps198
 go_wp2_with fail;refine(bitLength_any h hL).mono ?_;rintro e w1 ⟨k,rfl,rfl,h1,h2,hz,h3⟩;have HS:Hid (smallB n=decide (k<=maxBits)):=small_of hn0 h1 h2 (fun h=>by rw[hz h];exact Nat.zero_le _);have HD:Hid (decide ((k:Int)<=40000)=decide (k<=maxBits)):=decide_eq_decide.2 (by unfold maxBits;omega);clear h1 h2 hz;go_wp2
 go_ret
 exact⟨by rw[HS.out,<- HD.out];rfl,rfl⟩
def SmRet (L:Nat)(w:World)(z:Int)(e:Ending)(w' :World):Prop:=Below w.heap.size w w' /\
 ((smallB z.natAbs=true/\ ∃ v',e= .returned v' /\IntV L w' v' z)\/(smallB z.natAbs=false/\ ∃ u pv,e= .panicked [{v:= .iface u pv,recovered:=false}]))
theorem small_any {L:Nat}{v:Value}{z:Int}{w:World}(h:IntV L w v z)(hL:L<=17000000000000):
 Calls Tryz.prog 139 #[v] w (SmRet L w z):=by
 obtain⟨sb,sv,rfl,hsb,hn⟩:=h;obtain⟨ao,k,cap,rfl⟩:=hn.form;have hb0:Below w.heap.size w (w.alloc (.cells #[.bool sb, .slice ao k cap] 98)):=(Below.refl _ _).alloc (Nat.le_refl _) _;have hb1:Below w.heap.size w ((w.alloc (.cells #[.bool sb, .slice ao k cap] 98)).alloc (.cells #[.bool false, .slice none 0 0] 98)):=hb0.alloc (by simp) _;have hn1:=Lib.hid (hn.below hb1);have HB:=Lib.hid hb1;have HN:=Lib.hid hn;have HS:=Lib.hid hsb;clear hb0 hb1 hn hsb
 by_cases hsm:smallB z.natAbs=true
 ·go_enter Tryz.func139,Tryz.ntmps139
  go_wp2_with fail;refine(isSmall_any hn1.out hL).mono ?_;rintro e w2 ⟨rfl,rfl⟩;have HSM:=Lib.hid hsm;go_wp2;have hb2:Below w.heap.size w ((w.alloc (.cells #[.bool sb, .slice ao k cap] 98)).alloc (.cells #[.bool sb, .slice ao k cap] 98)):=((Below.refl _ _).alloc (Nat.le_refl _) _).alloc (by simp) _;exact bodyPost_ret (v:= .agg #[.bool sb, .slice ao k cap]) (by simp[results,Tryz.results139,go_sem]) rfl ⟨hb2, .inl ⟨HSM.out,_,rfl,_,_,rfl,HS.out,HN.out.below hb2⟩⟩
 ·have hsm:smallB z.natAbs=false:=by simpa using hsm
  go_enter Tryz.func139,Tryz.ntmps139
  go_wp2_with fail;refine(isSmall_any hn1.out hL).mono ?_;rintro e w2 ⟨rfl,rfl⟩;have HSM:=Lib.hid hsm;go_wp2;exact⟨rfl,HB.out, .inr ⟨HSM.out,_,_,rfl⟩⟩
theorem catchInt_panicking (p q:Nat)(x:Bool)(a:Option Addr)(k c:Nat)(y:Int)(u:TypeId)(pv:Value)(older:List PanicEntry)(w:World)
 (h0:w.heap[p]? =some (.cells #[.bool x, .slice a k c] 98 (0,0))) (h1:w.heap[q]? =some (.cells #[.int .i64 y] 29 (0,0))):
 CallsD Tryz.prog 197 #[.pointer (some ⟨p,0,none⟩), .pointer (some ⟨q,0,none⟩)] (.panicking ({v:= .iface u pv,recovered:=false} ::older)) w fun e u' w' =>
  e= .returned (.tuple #[])/\u' = .panicking ({v:= .iface u pv,recovered:=true} ::older)/\
  w' =(((w.setCell ⟨p,0,none⟩ (.bool false)).setCell ⟨p,1,none⟩ (.slice none 0 0)).setCell ⟨q,0,none⟩ (.int .i64 11)).alloc (.cells #[.bool false, .slice none 0 0] 98):=by
 obtain⟨c0,c1,f0,f1⟩:=ttwo_cells h0;have hp:p<w.heap.size:=(Array.getElem?_eq_some_iff.1 h0).1;have hq:q<w.heap.size:=(Array.getElem?_eq_some_iff.1 h1).1;have d0:w.cell? ⟨q,0,none⟩=some (.int .i64 y):=by rw[cell_of_row w q 0 _ _ (0,0) h1];rfl
 have g0:w.frozen? ⟨q,0,none⟩=false:=frozen_of_row w q 0 _ _ h1;have hpq: ¬ p=q:=fun e=>by rw[e,h1] at h0;simp at h0
 refine callsD_of_wpS Tryz.func197 rfl fun c₀ cs hu=> ?_
 apply wpS_seq
 apply wpS_region
 simp[wpOpsS,go_sem,recoverD,hu,Tryz.ntmps197,Exit.thenS];refine wpS_cond (t:=true) (by simp[Act.eval,Array.replicate]) ?_;simp only[if_true];refine wpS_of_wp ?_;simp only[Array.replicate_succ,Array.replicate_zero,List.push_toArray,List.append_toArray,List.nil_append,List.cons_append,List.setIfInBounds_toArray,List.set_cons_succ,List.set_cons_zero];go_wp2;simp[bodyPostS,results,Tryz.results197]
theorem catchInt_idle (p q:Addr)(w:World):
 CallsD Tryz.prog 197 #[.pointer (some p), .pointer (some q)] .returning w fun e u' w' =>e= .returned (.tuple #[])/\u' = .returning/\w' =w:=by
 refine callsD_of_wpS Tryz.func197 rfl fun c₀ cs hu=> ?_
 apply wpS_seq
 apply wpS_region
 simp[wpOpsS,go_sem,recoverD,hu,Tryz.ntmps197,Exit.thenS];refine wpS_cond (t:=false) (by simp[Act.eval,Array.replicate]) ?_;simp only[Bool.false_eq_true,if_false];refine wpS_of_wp (wp_skip ?_)
 cases c₀
 simp_all [bodyPostS,results,Tryz.results197]
def YdRet (L:Nat)(w:World)(z:Int)(e:Ending)(w' :World):Prop:=Below w.heap.size w w' /\
 ((smallB z.natAbs=true/\ ∃ v',e= .returned (.tuple #[v', .int .i64 0])/\IntV L w' v' z)\/(smallB z.natAbs=false/\e= .returned (.tuple #[.agg #[.bool false, .slice none 0 0], .int .i64 11])))
set_option maxRecDepth 20000 in
theorem yield_any {L:Nat}{z:Int}(K:FuncId)(cap:Array Value)(w:World)(hK:∀ W:World,(callFunc K cap).run Tryz.prog W= .ok (.enter K cap) W)(h:∀ W,Below w.heap.size w W->Calls Tryz.prog K cap W (SmRet L W z)):
 Calls Tryz.prog 136 #[.func (Fn.func K) #[] cap] w (YdRet L w z):=by
 have hmf:∀ (fn:Fn) (first cap:Array Value) (w:World),(Instr.makeFunc fn first cap).run Tryz.prog w= .ok (.func fn first cap) w:=fun _ _ _ _=>rfl
 have hb0:Below w.heap.size w ((w.alloc (.cells #[.bool false, .slice none 0 0] 98)).alloc (.cells #[.int .i64 0] 29)):=((Below.refl _ _).alloc (Nat.le_refl _) _).alloc (by simp) _;have H:=Lib.hid h;have HB0:=Lib.hid hb0;clear h hb0
 go_enter_defers Tryz.func136,Tryz.ntmps136
 go_wp2_with fail;refine(H.out _ HB0.out).mono ?_;rintro e w1 ⟨hb1,hcase⟩
 have hx0:w1.heap[w.heap.size]? =some (.cells #[.bool false, .slice none 0 0] 98 (0,0)):=by
  rw[hb1.block _ (by simp;omega)];exact(heap_alloc_old _ _ (by simp)).trans (heap_alloc_new w _)
 have hx1:w1.heap[w.heap.size+1]? =some (.cells #[.int .i64 0] 29 (0,0)):=by
  rw[hb1.block _ (by simp)];have:=heap_alloc_new (w.alloc (.cells #[.bool false, .slice none 0 0] 98)) (.cells #[.int .i64 0] 29)
  simpa using this
 have hbw:=Lib.hid (HB0.out.trans (hb1.mono (by simp;omega)))
 rcases hcase with⟨hsm,v',rfl,sb,sv,rfl,hsb,hn⟩|⟨hsm,u,pv,rfl⟩
 ·obtain⟨ao,k,c,rfl⟩:=hn.form;obtain⟨c0,c1,f0,f1⟩:=ttwo_cells hx0;have d0:w1.cell? ⟨w.heap.size+1,0,none⟩=some (.int .i64 0):=by rw[cell_of_row w1 _ 0 _ _ (0,0) hx1];rfl
  have g0:w1.frozen? ⟨w.heap.size+1,0,none⟩=false:=frozen_of_row w1 _ 0 _ _ hx1;have hsz:w.heap.size+1<w1.heap.size:=(Array.getElem?_eq_some_iff.1 hx1).1;have HSM:=Lib.hid hsm;have HSB:=Lib.hid hsb;have HN:=Lib.hid (hn.box hx0 (.bool sb) (.slice ao k c));have HX:=Lib.hid (ttwo_set hx0 (.bool sb) (.slice ao k c));have HX1:=Lib.hid hx1;clear hsm hsb hn hx0 hx1 hb1;go_wp2;refine leaves_cons (f:=197) (args:= #[.pointer (some ⟨w.heap.size,0,none⟩), .pointer (some ⟨w.heap.size+1,0,none⟩)]) (by simp) (by simp[go_sem]) ?_;refine(catchInt_idle _ _ _).mono ?_;rintro e u' w'' ⟨rfl,rfl,rfl⟩
  have hq1:((w1.setCell ⟨w.heap.size,0,none⟩ (.bool sb)).setCell ⟨w.heap.size,1,none⟩ (.slice ao k c)).heap[w.heap.size+1]? =some (.cells #[.int .i64 0] 29 (0,0)):=by
   rw[heap_setCell_other _ _ _ _ (by simp),heap_setCell_other _ _ _ _ (by simp)];exact HX1.out
  obtain⟨q0,q1,_,_⟩:=ttwo_cells ((heap_setCell_other ((w1.setCell ⟨w.heap.size,0,none⟩ (.bool sb)).setCell ⟨w.heap.size,1,none⟩ (.slice ao k c)) ⟨w.heap.size+1,0,none⟩ w.heap.size (.int .i64 0) (by simp)).trans HX.out);have hq2:=heap_setCell_same _ _ 0 _ _ (.int .i64 0) hq1;have q2:=(cell_of_row _ _ 0 _ _ (0,0) hq2);refine⟨.tuple #[.agg #[.bool sb, .slice ao k c], .int .i64 0],by simp[results,Tryz.results136,go_sem,q0,q1,q2],?_, .inl ⟨HSM.out,_,rfl,_,_,rfl,HSB.out,?_⟩⟩
  ·exact((hbw.out.setCell (p:=⟨w.heap.size,0,none⟩) (Nat.le_refl _) _).setCell (p:=⟨w.heap.size,1,none⟩) (Nat.le_refl _) _).setCell (p:=⟨w.heap.size+1,0,none⟩) (by simp) _
  ·obtain⟨xs,x1,x2⟩:=HN.out;refine⟨xs,x1.kept (tgrowSet (tgrowRefl _ (some (w.heap.size+1))) 0 (.int .i64 0)) (fun k' hk e=> ?_),x2⟩;exact x1.not_boxT hq1 (fun i m=>by rcases i with _|i<;>simp) (hk.trans e.symm)
 ·have HSM:=Lib.hid hsm;have HX:=Lib.hid hx0;have HX1:=Lib.hid hx1;clear hsm hx0 hx1 hb1;go_wp2;refine leaves_cons (f:=197) (args:= #[.pointer (some ⟨w.heap.size,0,none⟩), .pointer (some ⟨w.heap.size+1,0,none⟩)]) (by simp) (by simp[go_sem]) ?_;refine(catchInt_panicking _ _ _ _ _ _ _ u pv [] _ HX.out HX1.out).mono ?_;rintro e u' w'' ⟨rfl,rfl,rfl⟩
  have hq1:((w1.setCell ⟨w.heap.size,0,none⟩ (.bool false)).setCell ⟨w.heap.size,1,none⟩ (.slice none 0 0)).heap[w.heap.size+1]? =some (.cells #[.int .i64 0] 29 (0,0)):=by
   rw[heap_setCell_other _ _ _ _ (by simp),heap_setCell_other _ _ _ _ (by simp)];exact HX1.out
  have hp2:=ttwo_set HX.out (.bool false) (.slice none 0 0);have hp3:=(heap_setCell_other ((w1.setCell ⟨w.heap.size,0,none⟩ (.bool false)).setCell ⟨w.heap.size,1,none⟩ (.slice none 0 0)) ⟨w.heap.size+1,0,none⟩ w.heap.size (.int .i64 11) (by simp)).trans hp2;have hq2:=heap_setCell_same _ _ 0 _ _ (.int .i64 11) hq1;obtain⟨q0,q1,_,_⟩:=ttwo_cells ((heap_alloc_old _ (.cells #[.bool false, .slice none 0 0] 98) (Array.getElem?_eq_some_iff.1 hp3).1).trans hp3);have q2:=(cell_of_row _ _ 0 _ _ (0,0) ((heap_alloc_old _ (.cells #[.bool false, .slice none 0 0] 98) (Array.getElem?_eq_some_iff.1 hq2).1).trans hq2));refine⟨.tuple #[.agg #[.bool false, .slice none 0 0], .int .i64 11],by simp[results,Tryz.results136,go_sem,q0,q1,q2],?_, .inr ⟨HSM.out,rfl⟩⟩;exact(((hbw.out.setCell (p:=⟨w.heap.size,0,none⟩) (Nat.le_refl _) _).setCell (p:=⟨w.heap.size,1,none⟩) (Nat.le_refl _) _).setCell (p:=⟨w.heap.size+1,0,none⟩) (by simp) _).alloc (by have:=hbw.out.size;simpa[World.setCell] using this) _
theorem tbelowCell {w w' :World}{b o:Nat}{v:Value}(h:Below w.heap.size w w')(hc:w.cell? ⟨b,o,none⟩=some v):w'.cell? ⟨b,o,none⟩=some v:=
 (h.cell (p:=⟨b,o,none⟩) (World.block_lt_of_cell? w _ hc)).trans hc
def PaRet (s:List UInt8)(w:World)(e:Ending)(w' :World):Prop:=Below w.heap.size w w' /\
 ((∃ z v',s=Dg.decZ z/\smallB z.natAbs=true/\e= .returned (.tuple #[v', .int .i64 0])/\IntV 40000 w' v' z)\/
  (∃ z,s=Dg.decZ z/\smallB z.natAbs=false/\e= .returned (.tuple #[.agg #[.bool false, .slice none 0 0], .int .i64 11]))\/
  ((∀ z,s≠Dg.decZ z)/\e= .returned (.tuple #[.agg #[.bool false, .slice none 0 0], .int .i64 10])))
theorem Num.form2 {L:Nat}{w:World}{v:Value}{n:Int}(h:Num L w v n):∃ ao k cap,v= .slice ao k cap/\(k=0↔n=0)/\0<=n:=by
 obtain⟨xs,⟨ao,cap,e,_⟩,a2,a3,a4,_⟩:=h;refine⟨ao,_,cap,e,?_,by rw[<- a4];exact Dg.val_nonneg (by decide) a2⟩;rw[<- a4,Dg.val_zero_iff (by decide) a2 a3];exact List.length_eq_zero_iff
theorem sign_any {L:Nat}{v:Value}{z:Int}{w:World}(h:IntV L w v z):
 Calls Tryz.prog 192 #[v] w (RetV w (.int .i64 (Dg.sg z 0))):=by
 obtain⟨sb,sv,rfl,hsb,hn⟩:=h;obtain⟨ao,k,cap,rfl,hk,_⟩:=hn.form2;have hb0:Below w.heap.size w (w.alloc (.cells #[.bool sb, .slice ao k cap] 98)):=(Below.refl _ _).alloc (Nat.le_refl _) _
 rcases Int.lt_trichotomy z 0 with h|h|h
 ·have e:sb=true:=by rw[hsb];simpa using h
  subst e;have HS:=Lib.hid (Dg.sg_lt h);clear hsb hk
  go_enter Tryz.func192,Tryz.ntmps192
  go_wp2
  go_ret
  exact⟨hb0,by rw[HS.out];rfl⟩
 ·subst h;have e:sb=false:=by rw[hsb];rfl
  subst e;have e2:k=0:=hk.2 rfl;subst e2;clear hsb hk
  go_enter Tryz.func192,Tryz.ntmps192
  go_wp2
  go_ret
  exact⟨hb0,rfl⟩
 ·have e:sb=false:=by rw[hsb];simp;omega
  subst e
  have e2:0<k:=by
   apply Nat.pos_of_ne_zero
   intro hc;have:=hk.1 hc;omega
  have HS:=Lib.hid (Dg.sg_gt h);clear hsb hk
  go_enter Tryz.func192,Tryz.ntmps192
  go_wp2
  go_ret
  exact⟨hb0,by rw[HS.out];rfl⟩
theorem theap_last (W:World)(o:Obj)(n:Nat)(h:W.heap.size=n):(W.alloc o).heap[n]? =some o:=by subst h;exact heap_alloc_new W o
theorem int_end {L:Nat}{z:Int}{w W:World}{g:Nat}{s x:Bool}{ao bo:Option Addr}{k c k' c' :Nat}{T:TypeId}(hg:W.heap[g]? =some (.cells #[.bool x, .slice bo k' c'] T (0,0)))
 (hb:Below w.heap.size w W) (hgw:w.heap.size<=g) (hs:s=decide (z<0)) (hn:Num L W (.slice ao k c) z.natAbs):
 RetInt L w z (.returned (.agg #[.bool s, .slice ao k c])) ((W.setCell ⟨g,0,none⟩ (.bool s)).setCell ⟨g,1,none⟩ (.slice ao k c))/\
  ((W.setCell ⟨g,0,none⟩ (.bool s)).setCell ⟨g,1,none⟩ (.slice ao k c)).cell? ⟨g,0,none⟩=some (.bool s)/\((W.setCell ⟨g,0,none⟩ (.bool s)).setCell ⟨g,1,none⟩ (.slice ao k c)).cell? ⟨g,1,none⟩=some (.slice ao k c):=by
 obtain⟨q0,q1,_,_⟩:=ttwo_cells (ttwo_set hg (.bool s) (.slice ao k c));exact⟨⟨(hb.setCell (p:=⟨g,0,none⟩) hgw _).setCell (p:=⟨g,1,none⟩) hgw _,_,rfl,_,_,rfl,hs,hn.box hg _ _⟩,q0,q1⟩
theorem sgn_mul {y z:Int}{sa sb:Bool}(ha:sa=decide (y<0))(hb:sb=decide (z<0)):sgn (sa !=sb) ((y.natAbs:Int)*z.natAbs)=y*z:=by
 subst ha hb;unfold sgn
 by_cases h1:y<0<;>by_cases h2:z<0
 ·have e1:(y.natAbs:Int)= -y:=by omega
  have e2:(z.natAbs:Int)= -z:=by omega
  simp[h1,h2,e1,e2,Int.neg_mul,Int.mul_neg]
 ·have e1:(y.natAbs:Int)= -y:=by omega
  have e2:(z.natAbs:Int)=z:=by omega
  simp[h1,h2,e1,e2,Int.neg_mul,Int.mul_neg]
 ·have e1:(y.natAbs:Int)=y:=by omega
  have e2:(z.natAbs:Int)= -z:=by omega
  simp[h1,h2,e1,e2,Int.neg_mul,Int.mul_neg]
 ·have e1:(y.natAbs:Int)=y:=by omega
  have e2:(z.natAbs:Int)=z:=by omega
  simp[h1,h2,e1,e2]
theorem sgn_same {y z:Int}{sa sb:Bool}(ha:sa=decide (y<0))(hb:sb=decide (z<0))(h:sa=sb):sgn sa ((y.natAbs:Int)+z.natAbs)=y+z:=by
 subst ha hb;unfold sgn;have h' :(y<0)↔(z<0):=by simpa using h
 by_cases h1:y<0
 ·have:=h'.1 h1;simp[h1];omega
 ·have: ¬ z<0:=fun k=>h1 (h'.2 k)
  simp[h1];omega
theorem sgn_less {y z:Int}{sa sb:Bool}(ha:sa=decide (y<0))(hb:sb=decide (z<0))(h:sa≠sb):sgn sb ((z.natAbs:Int)-y.natAbs)=y+z:=by
 subst ha hb;unfold sgn
 by_cases h1:y<0<;>by_cases h2:z<0<;>simp[h1,h2] at h ⊢<;>omega
theorem sgn_more {y z:Int}{sa sb:Bool}(ha:sa=decide (y<0))(hb:sb=decide (z<0))(h:sa≠sb):sgn sa ((y.natAbs:Int)-z.natAbs)=y+z:=by
 subst ha hb;unfold sgn
 by_cases h1:y<0<;>by_cases h2:z<0<;>simp[h1,h2] at h ⊢<;>omega
set_option maxRecDepth 20000 in
theorem times_any {La Lb:Nat}{va vb:Value}{y z:Int}{w:World}(ha:IntV La w va y)(hb:IntV Lb w vb z)(h1:La<=536870912)(h2:Lb<=536870912):
 Calls Tryz.prog 141 #[va,vb] w (RetInt (La+Lb) w (y*z)):=by
 obtain⟨LL,hLL⟩:∃ LL,LL=La+Lb:=⟨_,rfl⟩;rw[<- hLL];obtain⟨sa,ua,rfl,hsa,hna⟩:=ha;obtain⟨sb,ub,rfl,hsb,hnb⟩:=hb;obtain⟨ao,ka,ca,rfl⟩:=hna.form;obtain⟨bo,kb,cb,rfl⟩:=hnb.form;have hb0:Below w.heap.size w (((w.alloc (.cells #[.bool sa, .slice ao ka ca] 98)).alloc (.cells #[.bool sb, .slice bo kb cb] 98)).alloc (.cells #[.bool false, .slice none 0 0] 98)):=(((Below.refl _ _).alloc (Nat.le_refl _) _).alloc (by simp) _).alloc (by simp;omega) _;have HNA:=Lib.hid (hna.below hb0);have HNB:=Lib.hid (hnb.below hb0);have HB:=Lib.hid hb0;have HBX:Hid ((((w.alloc (.cells #[.bool sa, .slice ao ka ca] 98)).alloc (.cells #[.bool sb, .slice bo kb cb] 98)).alloc (.cells #[.bool false, .slice none 0 0] 98)).heap[w.heap.size+2]? =some (.cells #[.bool false, .slice none 0 0] 98 (0,0))):=theap_last _ _ _ (by simp);have HSA:=Lib.hid hsa;have HSB:=Lib.hid hsb;clear hna hnb hb0 hsa hsb
 go_enter Tryz.func141,Tryz.ntmps141
 go_wp2_with fail
 go_region_held3 (fun w' =>w'.cell? ⟨w.heap.size,0,none⟩=some (.bool sa)/\w'.cell? ⟨w.heap.size,1,none⟩=some (.slice ao ka ca)/\w'.cell? ⟨w.heap.size+1,0,none⟩=some (.bool sb)/\w'.cell? ⟨w.heap.size+1,1,none⟩=some (.slice bo kb cb))
  (first|exact⟨kd0,kd1,kd2,kd3⟩|exact⟨kc0,kc1,kc2,kc3⟩|exact⟨ke0,ke1,ke2,ke3⟩|(refine⟨?_,?_,?_,?_⟩<;>simp[go_sem,kd0,kd1,kd2,kd3];done)|(refine⟨?_,?_,?_,?_⟩<;>simp[go_sem];done)|go_keep)
  ((first|(go_at_call 199;refine(product_num (La:=La) (Lb:=Lb) (m:=y.natAbs) (n:=z.natAbs) (by exact HNA.out) (by exact HNB.out) (by omega) (by omega)).mono ?_;rintro e w1 ⟨hb1,v1,rfl,hn1,hf1⟩;have s1:=hb1.size;simp at s1;have kc0:=tbelowCell hb1 (v:= .bool sa) (b:=w.heap.size) (o:=0) (by simp[go_sem]);have kc1:=tbelowCell hb1 (v:= .slice ao ka ca) (b:=w.heap.size) (o:=1) (by simp[go_sem]);have kc2:=tbelowCell hb1 (v:= .bool sb) (b:=w.heap.size+1) (o:=0) (by simp[go_sem]);have kc3:=tbelowCell hb1 (v:= .slice bo kb cb) (b:=w.heap.size+1) (o:=1) (by simp[go_sem]))|(go_at_call 134;refine(signed_any (sa !=sb) hn1).mono ?_;rintro e w2 ⟨hb2,v2,rfl,s,sv,rfl,hs,hn2⟩;have HS:=Lib.hid hs;clear hs;obtain⟨ao2,k2,c2,rfl⟩:=hn2.form;have s2:=hb2.size;have kd0:=tbelowCell hb2 kc0;have kd1:=tbelowCell hb2 kc1;have kd2:=tbelowCell hb2 kc2;have kd3:=tbelowCell hb2 kc3;have hbx:w2.heap[w.heap.size+2]? =some (.cells #[.bool false, .slice none 0 0] 98 (0,0)):=(hb2.block _ (by omega)).trans ((hb1.block _ (by simp)).trans HBX.out);obtain⟨c0,c1,f0,f1⟩:=ttwo_cells hbx;have hsz:w.heap.size+2<w2.heap.size:=(Array.getElem?_eq_some_iff.1 hbx).1)))
 have hball:=(HB.out.drew.trans (hb1.mono (B' :=w.heap.size) (by first|(simp;omega)|omega))).trans (hb2.mono (B' :=w.heap.size) (by omega));have HE:=Lib.hid (int_end (z:=y*z) (s:=s) (ao:=ao2) (k:=k2) (c:=c2) hbx hball (by omega) (by rw[HS.out,sgn_mul HSA.out HSB.out]) (by have:=hn2;rw[sgn_mul HSA.out HSB.out] at this;exact this.mono (L' :=LL) (by omega)));clear hball hbx hb1 hb2 hn1 hn2 hf1;go_wp2;exact bodyPost_ret (v:= .agg #[.bool s, .slice ao2 k2 c2]) (by simp[results,Tryz.results141,go_sem,HE.out.2.1,HE.out.2.2]) rfl HE.out.1
set_option maxRecDepth 20000 in
theorem plus_any {La Lb:Nat}{va vb:Value}{y z:Int}{w:World}(ha:IntV La w va y)(hb:IntV Lb w vb z)(h1:La<=536870912)(h2:Lb<=536870912):
 Calls Tryz.prog 138 #[va,vb] w (RetInt (max La Lb+1) w (y+z)):=by
 obtain⟨LL,hLL⟩:∃ LL,LL=max La Lb+1:=⟨_,rfl⟩;rw[<- hLL];obtain⟨sa,ua,rfl,hsa,hna⟩:=ha;obtain⟨sb,ub,rfl,hsb,hnb⟩:=hb;obtain⟨ao,ka,ca,rfl⟩:=hna.form;obtain⟨bo,kb,cb,rfl⟩:=hnb.form;have hb0:Below w.heap.size w (((w.alloc (.cells #[.bool sa, .slice ao ka ca] 98)).alloc (.cells #[.bool sb, .slice bo kb cb] 98)).alloc (.cells #[.bool false, .slice none 0 0] 98)):=(((Below.refl _ _).alloc (Nat.le_refl _) _).alloc (by simp) _).alloc (by simp;omega) _;have HNA:=Lib.hid (hna.below hb0);have HNB:=Lib.hid (hnb.below hb0);have HB:=Lib.hid hb0;have HBX:Hid ((((w.alloc (.cells #[.bool sa, .slice ao ka ca] 98)).alloc (.cells #[.bool sb, .slice bo kb cb] 98)).alloc (.cells #[.bool false, .slice none 0 0] 98)).heap[w.heap.size+2]? =some (.cells #[.bool false, .slice none 0 0] 98 (0,0))):=theap_last _ _ _ (by simp);have HSA:=Lib.hid hsa;have HSB:=Lib.hid hsb;clear hna hnb hb0 hsa hsb
 by_cases hss:sa=sb
 ·have t1:(sa==sb)=true:=by simpa using hss
  have HSS:=Lib.hid hss;clear hss
  go_enter Tryz.func138,Tryz.ntmps138
  go_wp2_with fail
  go_region_held3 (fun w' =>w'.cell? ⟨w.heap.size,0,none⟩=some (.bool sa)/\w'.cell? ⟨w.heap.size,1,none⟩=some (.slice ao ka ca)/\w'.cell? ⟨w.heap.size+1,0,none⟩=some (.bool sb)/\w'.cell? ⟨w.heap.size+1,1,none⟩=some (.slice bo kb cb))
   (first|exact⟨kd0,kd1,kd2,kd3⟩|exact⟨kc0,kc1,kc2,kc3⟩|exact⟨ke0,ke1,ke2,ke3⟩|(refine⟨?_,?_,?_,?_⟩<;>simp[go_sem,kd0,kd1,kd2,kd3];done)|(refine⟨?_,?_,?_,?_⟩<;>simp[go_sem];done)|go_keep)
   ((first|(go_at_call 194;refine(sum_num (La:=La) (Lb:=Lb) (m:=y.natAbs) (n:=z.natAbs) (by exact HNA.out) (by exact HNB.out) (by omega) (by omega)).mono ?_;rintro e w1 ⟨hb1,v1,rfl,hn1,hf1⟩;have s1:=hb1.size;simp at s1;have kc0:=tbelowCell hb1 (v:= .bool sa) (b:=w.heap.size) (o:=0) (by simp[go_sem]);have kc1:=tbelowCell hb1 (v:= .slice ao ka ca) (b:=w.heap.size) (o:=1) (by simp[go_sem]);have kc2:=tbelowCell hb1 (v:= .bool sb) (b:=w.heap.size+1) (o:=0) (by simp[go_sem]);have kc3:=tbelowCell hb1 (v:= .slice bo kb cb) (b:=w.heap.size+1) (o:=1) (by simp[go_sem]))|(go_at_call 134;refine(signed_any sa hn1).mono ?_;rintro e w2 ⟨hb2,v2,rfl,s,sv,rfl,hs,hn2⟩;have HS:=Lib.hid hs;clear hs;obtain⟨ao2,k2,c2,rfl⟩:=hn2.form;have s2:=hb2.size;have kd0:=tbelowCell hb2 kc0;have kd1:=tbelowCell hb2 kc1;have kd2:=tbelowCell hb2 kc2;have kd3:=tbelowCell hb2 kc3;have hbx:w2.heap[w.heap.size+2]? =some (.cells #[.bool false, .slice none 0 0] 98 (0,0)):=(hb2.block _ (by omega)).trans ((hb1.block _ (by simp)).trans HBX.out);obtain⟨c0,c1,f0,f1⟩:=ttwo_cells hbx;have hsz:w.heap.size+2<w2.heap.size:=(Array.getElem?_eq_some_iff.1 hbx).1)))
  have hball:=(HB.out.drew.trans (hb1.mono (B' :=w.heap.size) (by first|(simp;omega)|omega))).trans (hb2.mono (B' :=w.heap.size) (by omega));have HE:=Lib.hid (int_end (z:=y+z) (s:=s) (ao:=ao2) (k:=k2) (c:=c2) hbx hball (by omega) (by rw[HS.out,sgn_same HSA.out HSB.out HSS.out]) (by have:=hn2;rw[sgn_same HSA.out HSB.out HSS.out] at this;exact this.mono (L' :=LL) (by omega)));clear hball hbx hb1 hb2 hn1 hn2 hf1;go_wp2;exact bodyPost_ret (v:= .agg #[.bool s, .slice ao2 k2 c2]) (by simp[results,Tryz.results138,go_sem,HE.out.2.1,HE.out.2.2]) rfl HE.out.1
 ·have t1:(sa==sb)=false:=by simpa using hss
  have HSS:=Lib.hid hss;clear hss
  by_cases hlt:(y.natAbs:Int)<z.natAbs
  ·have HSG:=Lib.hid (Dg.sg_lt hlt)
   go_enter Tryz.func138,Tryz.ntmps138
   go_wp2_with fail;refine(compare_num (by exact HNA.out) (by exact HNB.out)).mono ?_;rintro e w0 ⟨hb9,rfl⟩;rw[HSG.out];have ke0:=tbelowCell hb9 (v:= .bool sa) (b:=w.heap.size) (o:=0) (by simp[go_sem]);have ke1:=tbelowCell hb9 (v:= .slice ao ka ca) (b:=w.heap.size) (o:=1) (by simp[go_sem]);have ke2:=tbelowCell hb9 (v:= .bool sb) (b:=w.heap.size+1) (o:=0) (by simp[go_sem]);have ke3:=tbelowCell hb9 (v:= .slice bo kb cb) (b:=w.heap.size+1) (o:=1) (by simp[go_sem]);have s0:=hb9.size;simp at s0;have HBX0:=Lib.hid ((hb9.block _ (by simp)).trans HBX.out);have HNA0:=Lib.hid (HNA.out.below hb9);have HNB0:=Lib.hid (HNB.out.below hb9);have HB0:=Lib.hid (HB.out.trans (hb9.mono (B' :=w.heap.size) (by simp;omega)));clear hb9;go_wp2_with fail
   go_region_held3 (fun w' =>w'.cell? ⟨w.heap.size,0,none⟩=some (.bool sa)/\w'.cell? ⟨w.heap.size,1,none⟩=some (.slice ao ka ca)/\w'.cell? ⟨w.heap.size+1,0,none⟩=some (.bool sb)/\w'.cell? ⟨w.heap.size+1,1,none⟩=some (.slice bo kb cb))
    (first|exact⟨kd0,kd1,kd2,kd3⟩|exact⟨kc0,kc1,kc2,kc3⟩|exact⟨ke0,ke1,ke2,ke3⟩|(refine⟨?_,?_,?_,?_⟩<;>simp[go_sem,kd0,kd1,kd2,kd3];done)|(refine⟨?_,?_,?_,?_⟩<;>simp[go_sem];done)|go_keep)
    ((first|(go_at_call 195;refine(difference_num (La:=Lb) (Lb:=La) (m:=z.natAbs) (n:=y.natAbs) (by exact HNB0.out) (by exact HNA0.out) (by omega) (by omega)).mono ?_;rintro e w1 ⟨hb1,v1,rfl,hn1,hf1⟩;have s1:=hb1.size;simp at s1;have kc0:=tbelowCell hb1 (v:= .bool sa) (b:=w.heap.size) (o:=0) (by exact ke0);have kc1:=tbelowCell hb1 (v:= .slice ao ka ca) (b:=w.heap.size) (o:=1) (by exact ke1);have kc2:=tbelowCell hb1 (v:= .bool sb) (b:=w.heap.size+1) (o:=0) (by exact ke2);have kc3:=tbelowCell hb1 (v:= .slice bo kb cb) (b:=w.heap.size+1) (o:=1) (by exact ke3))|(go_at_call 134;refine(signed_any sb hn1).mono ?_;rintro e w2 ⟨hb2,v2,rfl,s,sv,rfl,hs,hn2⟩;have HS:=Lib.hid hs;clear hs;obtain⟨ao2,k2,c2,rfl⟩:=hn2.form;have s2:=hb2.size;have kd0:=tbelowCell hb2 kc0;have kd1:=tbelowCell hb2 kc1;have kd2:=tbelowCell hb2 kc2;have kd3:=tbelowCell hb2 kc3;have hbx:w2.heap[w.heap.size+2]? =some (.cells #[.bool false, .slice none 0 0] 98 (0,0)):=(hb2.block _ (by omega)).trans ((hb1.block _ (by first|(simp;omega)|omega)).trans HBX0.out);obtain⟨c0,c1,f0,f1⟩:=ttwo_cells hbx;have hsz:w.heap.size+2<w2.heap.size:=(Array.getElem?_eq_some_iff.1 hbx).1)))
   have hball:=(HB0.out.drew.trans (hb1.mono (B' :=w.heap.size) (by first|(simp;omega)|omega))).trans (hb2.mono (B' :=w.heap.size) (by omega));have HE:=Lib.hid (int_end (z:=y+z) (s:=s) (ao:=ao2) (k:=k2) (c:=c2) hbx hball (by omega) (by rw[HS.out,sgn_less HSA.out HSB.out HSS.out]) (by have:=hn2;rw[sgn_less HSA.out HSB.out HSS.out] at this;exact this.mono (L' :=LL) (by omega)));clear hball hbx hb1 hb2 hn1 hn2 hf1;go_wp2;exact bodyPost_ret (v:= .agg #[.bool s, .slice ao2 k2 c2]) (by simp[results,Tryz.results138,go_sem,HE.out.2.1,HE.out.2.2]) rfl HE.out.1
  ·have HLT:=Lib.hid hlt
   go_enter Tryz.func138,Tryz.ntmps138
   go_wp2_with fail;refine(compare_num (by exact HNA.out) (by exact HNB.out)).mono ?_;rintro e w0 ⟨hb9,rfl⟩
   have hsg: ¬ Dg.sg (y.natAbs:Int) z.natAbs<0:=by
    unfold Dg.sg;rw[if_neg (show ¬ (y.natAbs:Int)<z.natAbs by have:=HLT.out;omega)]
    split<;>omega
   obtain⟨g,hg⟩:∃ g,g=Dg.sg (y.natAbs:Int) z.natAbs:=⟨_,rfl⟩;rw[<- hg] at hsg ⊢;clear hg;have ke0:=tbelowCell hb9 (v:= .bool sa) (b:=w.heap.size) (o:=0) (by simp[go_sem]);have ke1:=tbelowCell hb9 (v:= .slice ao ka ca) (b:=w.heap.size) (o:=1) (by simp[go_sem]);have ke2:=tbelowCell hb9 (v:= .bool sb) (b:=w.heap.size+1) (o:=0) (by simp[go_sem]);have ke3:=tbelowCell hb9 (v:= .slice bo kb cb) (b:=w.heap.size+1) (o:=1) (by simp[go_sem]);have s0:=hb9.size;simp at s0;have HBX0:=Lib.hid ((hb9.block _ (by simp)).trans HBX.out);have HNA0:=Lib.hid (HNA.out.below hb9);have HNB0:=Lib.hid (HNB.out.below hb9);have HB0:=Lib.hid (HB.out.trans (hb9.mono (B' :=w.heap.size) (by simp;omega)));clear hb9;go_wp2_with fail
   go_region_held3 (fun w' =>w'.cell? ⟨w.heap.size,0,none⟩=some (.bool sa)/\w'.cell? ⟨w.heap.size,1,none⟩=some (.slice ao ka ca)/\w'.cell? ⟨w.heap.size+1,0,none⟩=some (.bool sb)/\w'.cell? ⟨w.heap.size+1,1,none⟩=some (.slice bo kb cb))
    (first|exact⟨kd0,kd1,kd2,kd3⟩|exact⟨kc0,kc1,kc2,kc3⟩|exact⟨ke0,ke1,ke2,ke3⟩|(refine⟨?_,?_,?_,?_⟩<;>simp[go_sem,kd0,kd1,kd2,kd3];done)|(refine⟨?_,?_,?_,?_⟩<;>simp[go_sem];done)|go_keep)
    ((first|(go_at_call 195;refine(difference_num (La:=La) (Lb:=Lb) (m:=y.natAbs) (n:=z.natAbs) (by exact HNA0.out) (by exact HNB0.out) (by omega) (by omega)).mono ?_;rintro e w1 ⟨hb1,v1,rfl,hn1,hf1⟩;have s1:=hb1.size;simp at s1;have kc0:=tbelowCell hb1 (v:= .bool sa) (b:=w.heap.size) (o:=0) (by exact ke0);have kc1:=tbelowCell hb1 (v:= .slice ao ka ca) (b:=w.heap.size) (o:=1) (by exact ke1);have kc2:=tbelowCell hb1 (v:= .bool sb) (b:=w.heap.size+1) (o:=0) (by exact ke2);have kc3:=tbelowCell hb1 (v:= .slice bo kb cb) (b:=w.heap.size+1) (o:=1) (by exact ke3))|(go_at_call 134;refine(signed_any sa hn1).mono ?_;rintro e w2 ⟨hb2,v2,rfl,s,sv,rfl,hs,hn2⟩;have HS:=Lib.hid hs;clear hs;obtain⟨ao2,k2,c2,rfl⟩:=hn2.form;have s2:=hb2.size;have kd0:=tbelowCell hb2 kc0;have kd1:=tbelowCell hb2 kc1;have kd2:=tbelowCell hb2 kc2;have kd3:=tbelowCell hb2 kc3;have hbx:w2.heap[w.heap.size+2]? =some (.cells #[.bool false, .slice none 0 0] 98 (0,0)):=(hb2.block _ (by omega)).trans ((hb1.block _ (by first|(simp;omega)|omega)).trans HBX0.out);obtain⟨c0,c1,f0,f1⟩:=ttwo_cells hbx;have hsz:w.heap.size+2<w2.heap.size:=(Array.getElem?_eq_some_iff.1 hbx).1)))
   have hball:=(HB0.out.drew.trans (hb1.mono (B' :=w.heap.size) (by first|(simp;omega)|omega))).trans (hb2.mono (B' :=w.heap.size) (by omega));have HE:=Lib.hid (int_end (z:=y+z) (s:=s) (ao:=ao2) (k:=k2) (c:=c2) hbx hball (by omega) (by rw[HS.out,sgn_more HSA.out HSB.out HSS.out]) (by have:=hn2;rw[sgn_more HSA.out HSB.out HSS.out] at this;exact this.mono (L' :=LL) (by omega)));clear hball hbx hb1 hb2 hn1 hn2 hf1;go_wp2;exact bodyPost_ret (v:= .agg #[.bool s, .slice ao2 k2 c2]) (by simp[results,Tryz.results138,go_sem,HE.out.2.1,HE.out.2.2]) rfl HE.out.1
end Go.Proofs.YtdnheaafcbihbaaGreat
