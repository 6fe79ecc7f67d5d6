/-
  Texts of the proof, merged by program: Res Sol Rdi Cfi Rde.
-/
import Derived.Test.YtdnheaafcbihbaaGreatDc29
import Derived.Test.YtdnheaafcbihbaaGreatDc28
set_option linter.unusedSimpArgs false
set_option linter.unusedVariables false
set_option maxHeartbeats 16000000
namespace Go.Proofs.YtdnheaafcbihbaaGreat
section
open Go Go.RowKit Go.Deep
open FFld (ints)
set_option maxRecDepth 20000 in
theorem rfirst_any (v:Value)(l:List Nat)(ci:Nat)(w:World)(h:Sl .i64 w v (ints l))(hci:ci<l.length)(hz:∀ c',c' <ci->l[c']?.getD 0=0)(hne:l[ci]?.getD 0≠0):
 Calls Tryz.prog 174 #[v] w (fun e w' =>w=w' /\e= .returned (.int .i64 (ci:Nat))):=by
 obtain⟨ao,cap,rfl,hcap,hmax,hc⟩:=h;rw[FFld.ints_len] at hcap hc ⊢;unfold maxLen at hmax;obtain⟨n,hn⟩:∃ n,l.length=n:=⟨_,rfl⟩;rw[hn] at hcap hc hci ⊢;have HC:=Km hc;have HZ:=Km hz;have HNE:=Km hne;clear hc hz hne hn
 go_enter Tryz.func174,Tryz.ntmps174
 go_wp2
 go_loopw [3] (fun iv wr=> ∃ i:Nat,i<=ci/\iv= .int .i64 i/\wr=w) (fun iv _=>n-(intOf iv).toNat)
 case atStart=>exact⟨0,Nat.zero_le _,rfl,rfl⟩
 case round=>
  obtain⟨i,hi,rfl,rfl⟩:=hrel;have hin:i<n:=by omega
  obtain⟨g,o,rfl,hg,hcell⟩:=HC.out i hin;rw[FFld.ints_get] at hcell
  by_cases he:i=ci
  ·subst he;obtain⟨x,hx⟩:∃ x,l[i]?.getD 0=x:=⟨_,rfl⟩;rw[hx] at hcell;have hx0:x≠0:=by rw[<- hx];exact HNE.out
   have ex:((x:Int)==0)=false:=by rw[beq_eq_false_iff_ne];omega
   have ex2:((x:Int)!=0)=true:=by rw[bne_iff_ne];omega
   clear hx hx0;go_wp2
   go_ret
   exact⟨rfl,rfl⟩
  ·rw[HZ.out i (by omega)] at hcell;have ez:(((0:Nat):Int)==0)=true:=rfl;have ez2:(((0:Nat):Int)!=0)=false:=rfl;go_wp2;go_roundw
   case rel=>exact⟨i+1,by omega,by go_num,by first|rfl|trivial⟩
   case measure=>simp[intOf]<;>omega
def wideR (rows:List (List Nat))(bl:List Nat)(i:Nat):List Nat:=FFld.rowAt rows i++ [bl[i]?.getD 0]
def wideM (rows:List (List Nat))(bl:List Nat)(n:Nat):List (List Nat):=(List.range n).map (wideR rows bl)
theorem wide_len (rows:List (List Nat))(bl:List Nat)(n:Nat):(wideM rows bl n).length=n:=by simp[wideM]
theorem wide_row (rows:List (List Nat))(bl:List Nat){n i:Nat}(hi:i<n):FFld.rowAt (wideM rows bl n) i=wideR rows bl i:=by
 unfold FFld.rowAt wideM;rw[List.getElem?_map,List.getElem?_range hi];rfl
theorem wide_wf {D:FFld.FD}(hk:FFld.PK D.p D.k D.m){rows:List (List Nat)}{bl:List Nat}{wd n:Nat}(hw:FFld.Wfm D wd rows)(hN:rows.length=n)(hb:∀ a∈bl,a<D.p ^ D.k):FFld.Wfm D (wd+1) (wideM rows bl n):=fun r hr=>by
 obtain⟨i,hi,rfl⟩:=List.mem_map.1 hr;have hi' :i<n:=by simpa using hi
 unfold wideR;refine⟨by rw[List.length_append,(hw.row (i:=i) (by omega)).1];rfl,fun a ha=> ?_⟩
 rcases List.mem_append.1 ha with h1|h1
 ·exact FFld.rowAt_lt hw i a h1
 ·rw[List.mem_singleton.1 h1];exact FFld.getD_lt (Nat.pow_pos hk.p0) hb i
theorem wide_wf0 {D:FFld.FD}{rows:List (List Nat)}{bl:List Nat} :FFld.Wfm D 0 (wideM rows bl 0):=fun r hr=>by simp[wideM] at hr
def solW (s:FFld.ESt)(wd:Nat):Nat->List Nat
 |0=>List.replicate wd 0
 |i+1=>(solW s wd i).set (s.cols[i]?.getD 0) (FFld.cellAt s.A i wd)
theorem solW_len (s:FFld.ESt)(wd i:Nat):(solW s wd i).length=wd:=by
 induction i with
 |zero=>simp[solW]
 |succ i ih=>simp only[solW,List.length_set,ih]
def RsRet (s:FFld.ESt)(wd:Nat)(w:World)(e:Ending)(w' :World):Prop:=Below w.heap.size w w' /\
 ((∃ i,i<s.cols.length/\s.cols[i]?.getD 0=wd/\e= .returned (.tuple #[.slice none 0 0, .bool false]))\/
  ((∀ i,i<s.cols.length->s.cols[i]?.getD 0<wd)/\ ∃ vx,e= .returned (.tuple #[vx, .bool true])/\Sl .i64 w' vx (ints (solW s wd s.cols.length))))
def RsOwn (s:FFld.ESt)(wd:Nat)(w:World)(e:Ending)(w' :World):Prop:=Below w.heap.size w w' /\
 ((∃ i,i<s.cols.length/\s.cols[i]?.getD 0=wd/\e= .returned (.tuple #[.slice none 0 0, .bool false]))\/
  ((∀ i,i<s.cols.length->s.cols[i]?.getD 0<wd)/\ ∃ g,e= .returned (.tuple #[.slice (some ⟨g,0,none⟩) wd wd, .bool true])/\Sl .i64 w' (.slice (some ⟨g,0,none⟩) wd wd) (ints (solW s wd s.cols.length))))
theorem take_row {A:List (List Nat)}{r a:Nat}(h:a<r):((A.take r).map ints)[a]?.getD []=ints (FFld.rowAt A a):=by
 rw[List.getElem?_map,List.getElem?_take,if_pos h];unfold FFld.rowAt
 cases A[a]? <;>rfl
set_option maxRecDepth 20000 in
theorem rsolve_own {D:FFld.FD}(hD:D.Ok)(rows:List (List Nat))(ao:Option Addr)(cap:Nat)(vb:Value)(bl:List Nat)(wd n W:Nat)(w:World)(h:Sls w ao (rows.map ints))(hcap:n<=cap)(hmax:cap<=maxLen)(hb:Sl .i64 w vb (ints bl))(hN:rows.length=n)(hn:n<=64)(hw:FFld.Wfm D wd rows)(hwd:wd<=64)(h0:n=0->wd=0)(hbl:bl.length=n)(hbq:∀ a∈bl,a<D.p ^ D.k)(hW0:n=0->W=0)(hW1:n≠0->W=wd+1):
 Calls Tryz.prog 104 #[rfv D.q D.p D.k D.m, .slice ao n cap,vb] w (RsOwn (FFld.elimF D hD.pre.pk ⟨wideM rows bl n,List.replicate n [],[]⟩ W) wd w):=by
 have HX0:Kept (Bxs w [rbox D.q D.p D.k D.m] (w.alloc (rbox D.q D.p D.k D.m))):=⟨(Bxs.start w).alloc (by simp) _⟩;have hk:=hD.pre.pk;obtain⟨ab,cb,hvb,hcb,hmb⟩:=hb.form;subst hvb;rw[FFld.ints_len,hbl] at hcb hb ⊢
 have hww:FFld.Wfm D W (wideM rows bl n):=by
  by_cases hz:n=0
  ·rw[hW0 hz,hz];exact wide_wf0
  ·rw[hW1 hz];exact wide_wf hk hw hN hbq
 have hW65:W<=65:=by
  by_cases hz:n=0
  ·rw[hW0 hz];omega
  ·rw[hW1 hz];omega
 have HE:=Km (fun ao cap X (hX:Sls X ao ((wideM rows bl n).map ints)) (hc:n<=cap) (hm:cap<=maxLen)=>rechelon_any hD (wideM rows bl n) ao cap W n X hX hc hm (wide_len _ _ _) hn hww hW65 hW0);have hEO:FFld.EOk D W 0 n ⟨wideM rows bl n,List.replicate n [],[]⟩:=⟨wide_len _ _ _,by simp,hww,fun r hr=>by rw[List.eq_of_mem_replicate hr];simp,by simp⟩;have hecf:=FFld.Ecf.elim hD (s:=⟨wideM rows bl n,List.replicate n [],[]⟩) rfl hEO W (Nat.le_refl _);have heo:=FFld.EOk.elim hEO hk W;obtain⟨s,hs⟩:∃ s,FFld.elimF D hk ⟨wideM rows bl n,List.replicate n [],[]⟩ W=s:=⟨_,rfl⟩;rw[hs] at hecf heo HE ⊢;have HEC:=Km hecf;have HEO:=Km heo;have hcl:=heo.cl;have HCOL:=Km (fun X (hX:Sls X ao (rows.map ints))=>rcolumns_any ao (rows.map ints) cap X (by rw[List.length_map];omega) hmax hX);rw[rlen_wd hw hN h0,List.length_map,hN] at HCOL;have HC:=Km h;have HBC:=Km (hb.cells (Nat.le_refl _));have HW:=Km hw;have HN:=Km hN;have HBL:=Km hbl;have hm0:=hmax;have hmb0:=hmb;unfold maxLen at hm0 hmb0;clear h hb hw hN hbl hbq hww hEO hecf heo hs hmax hmb
 go_enter Tryz.func104,Tryz.ntmps104
 go_wp2_with fail;refine(HCOL.out _ (HC.out.below HX0.out.1)).mono ?_;rintro e w1 ⟨rfl,rfl⟩;clear HCOL;go_wp2
 go_loopw [9,10] (fun ov iv wr=> ∃ (i:Nat) (L:List (Value × List Int)),i<=n/\iv= .int .i64 i/\L.length=i/\Kept (((List.range i).map (wideR rows bl)).map ints=L.map (·.2))/\Kept (Rws (w.heap.size+1) wr ov L)/\Kept (Bxs w [rbox D.q D.p D.k D.m] wr)) (fun _ iv _=>n-(intOf iv).toNat)
 case atStart=>exact⟨0,[],Nat.zero_le _,rfl,rfl,⟨rfl⟩,⟨Rws.nil _ _⟩,HX0⟩
 case round=>
  obtain⟨i,L,hik,rfl,hll,hat,hrw,hbx⟩:=hrel
  by_cases hlt:i<n
  ·obtain⟨g,o,rv,rfl,hg,hcell,hsl⟩:=(HC.out.below hbx.out.1) i (by rw[List.length_map,HN.out];exact hlt);rw[rows_cell] at hsl;have HL:Kept (((List.range (i+1)).map (wideR rows bl)).map ints=L.map (·.2)++ [ints (wideR rows bl i)]):=⟨by rw[List.range_succ,List.map_append,List.map_append,hat.out];rfl⟩;have hwr:(FFld.rowAt rows i).length=wd:=(HW.out.row (by rw[HN.out];exact hlt)).1;obtain⟨a1,c1,rfl,hc1,hm1⟩:=hsl.form;rw[FFld.ints_len,hwr] at hsl hcell hc1;obtain⟨y,hy⟩:∃ y,bl[i]?.getD 0=y:=⟨_,rfl⟩;obtain⟨bb,bo,rfl,ib⟩:=HBC.out _ hbx.out.1 i (by rw[HBL.out];exact hlt);rw[hy] at ib;obtain⟨xs,hxs⟩:∃ xs,ints (FFld.rowAt rows i)=xs:=⟨_,rfl⟩;have hxl:xs.length=wd:=by rw[<- hxs,FFld.ints_len,hwr]
   have HWR:Kept (ints (wideR rows bl i)=xs++ [(y:Int)]):=⟨by unfold wideR;rw[FFld.ints_append,hxs,hy];rfl⟩;rw[HWR.out] at HL;rw[hxs] at hsl;have HSL:=Km hsl;have H1:=Km (show(([]:List Int).length+xs.length)*8<=140737488355328 by rw[hxl];simp;omega);have H2:=Km (show([]:List Int).length+xs.length<=maxLen by rw[hxl];unfold maxLen;simp;omega);have HXL:=Km hxl;obtain⟨ov0,oc,rfl,hoc,hom⟩:=hrw.out.own.form;rw[List.length_map,hll] at hoc hrw ⊢;clear hxs hsl hwr hxl hy
   go_wp2_with (at_builtin;refine wpList_append_sl _ rfl _ _ 22 rfl 3 .i64 8 Tryz.underlying22 info_i64 wr.heap.size (.slice none 0 0) [] (by rfl) (Mine.nil _ _ _ _) (Nat.le_refl _) _ _ (by rfl) HSL.out H1.out H2.out ?_)
   intro v3 w3 hm3 hg3
   try rw[List.nil_append] at hm3
   have hb3:Below wr.heap.size wr w3:=(Below.refl _ _).grown hg3 (Nat.le_refl _) (by simp[Value.ownBlock]);obtain⟨vra,vrc,rfl,hvc,hvm⟩:=hm3.sl.form;rw[HXL.out] at hm3 hvc ⊢;have ib3:=belowCell hb3 ib;have HMa:=Km (hm3.alloc (.cells #[.int .i64 (y:Int)] 3));have HNY:=Km (new_one (K:= .i64) (x:=(y:Int)) (w:=w3.alloc (.cells #[.int .i64 (y:Int)] 3)) (b:=w3.heap.size) (o:=0) (by exact(Row.new (E:=3) (K:= .i64) w3 [(y:Int)]).cell (i:=0) (by simp)));have hsz3:=hb3.size;have HBY:Kept (wr.heap.size<=(w3.alloc (.cells #[.int .i64 (y:Int)] 3)).heap.size):=⟨by simp;omega⟩;have H5:=Km (show(xs.length+ [(y:Int)].length)*8<=140737488355328 by rw[HXL.out];simp;omega);have H6:=Km (show xs.length+ [(y:Int)].length<=maxLen by rw[HXL.out];unfold maxLen;simp;omega);have hown3:=Km hm3.own;have HB3:=Km hb3;clear hm3 hg3 ib hb3
   go_wp2_with (at_builtin;refine wpList_append_mine _ rfl _ _ 22 rfl 3 .i64 8 Tryz.underlying22 info_i64 wr.heap.size (.slice vra wd vrc) xs (by rfl) HMa.out HBY.out ⟨w3.heap.size,0,none⟩ 1 1 [(y:Int)] (by rfl) rfl HNY.out H5.out H6.out ?_)
   intro v4 w4 hm4 hg4 hn4;have hgg:=growTrans (World.grownBy_alloc w3 (.cells #[.int .i64 (y:Int)] 3) _) hg4;have hb4:Below wr.heap.size wr w4:=HB3.out.grown hgg hsz3 (fun j hj=>(hown3.out j hj).1);obtain⟨vsa,vsc,rfl,hsc,hsm⟩:=hm4.sl.form;have hl4:(xs++ [(y:Int)]).length=wd+1:=by rw[List.length_append,HXL.out];rfl
   rw[hl4] at hm4 hsc ⊢;obtain⟨vr,hvr⟩:∃ v,Value.slice vsa (wd+1) vsc=v:=⟨_,rfl⟩;rw[hvr] at hm4;have hX4:=hbx.out.below hb4;have HX4:=Km hX4;have hsz:=hbx.out.l1;have hsz4:=hb4.size;have HW3:=Km (hrw.out.below hb4);have HMR:=Km (hm4.lower hsz)
   have HNE:Kept (∀ g,vr.ownBlock=some g->(Value.slice ov0 i oc).ownBlock≠some g):=⟨fun g hgb e=>by
    have h1:=(hm4.own g hgb).1;have h2:=(hrw.out.own.own g e).2
    omega⟩
   have hal:Below w4.heap.size w4 (w4.alloc (.cells #[vr] 22)):=(Below.refl _ _).alloc (Nat.le_refl _) _;have HW4:=Km (HW3.out.below hal);have HX5:=Km (HX4.out.below hal);have HM4:=Km (HMR.out.below hal);have HON:=Km HW4.out.own;have HNW:=Km (rows_one (W:=w4) (rv:=vr));have H3:=Km HMR.out.one;have H4:Kept ((L.map (·.1)).length=i):=⟨by rw[List.length_map,hll]⟩;have HBB:Kept (w.heap.size+1<=(w4.alloc (.cells #[vr] 22)).heap.size):=⟨by simp;omega⟩;clear hb4 hm4 hg4 hn4 hgg hal hsz hsz3 hsz4 HW3 hcell hrw HMR hl4 ib3 hX4;subst hvr
   go_wp2_with (at_builtin;refine wpList_append_w _ rfl _ _ 39 (by rfl) 22 (.slice none 0 0) 24 Tryz.underlying39 info_rows (by rfl) (w.heap.size+1) (.slice ov0 i oc) (L.map (·.1)) (by rfl) HON.out HBB.out ⟨w4.heap.size,0,none⟩ 1 (.slice vsa (wd+1) vsc) (by rfl) HNW.out H3.out i H4.out (by omega) (by omega) ?_)
   intro v' w5 ho5 hg5 hv5;have HR5:=Km (HW4.out.push HM4.out HNE.out ho5 hg5 (by simpa using hv5));have hown:=HON.out.own;have HB5:=Km (HX5.out.grown hg5 (fun j hj=>(hown j hj).1));clear ho5 hg5 hv5 hown;go_wp2;go_roundw
   case rel=>exact⟨i+1,L++ [(.slice vsa (wd+1) vsc,xs++ [(y:Int)])],by omega,by go_num,by simp[hll],⟨by rw[HL.out,List.map_append];rfl⟩,HR5,HB5⟩
   case measure=>simp[intOf]<;>omega
  ·obtain rfl:i=n:=by omega
   obtain⟨ov0,oc,rfl,hoc,hom,hsls⟩:=hrw.out.sls;rw[hll] at hoc ⊢;rw[<- hat.out] at hsls;have HSW:=Km (show Sls wr ov0 ((wideM rows bl i).map ints) from hsls);have HEC2:=Km (HE.out ov0 oc wr HSW.out hoc hom);obtain⟨i0,i1,i2,i3⟩:=four_cells hbx.out.b0;clear hsls hrw hat hlt hik HE hoc hom;go_wp2_with fail;refine HEC2.out.mono ?_;rintro e w2 ⟨hb2,ae,ce,rfl,hce,hme,hse⟩;have HX2:=Km (hbx.out.below hb2);have HSE:=Km hse;have hme0:=hme;unfold maxLen at hme0;obtain⟨r,hr⟩:∃ r,s.cols.length=r:=⟨_,rfl⟩;rw[hr] at hce HSE hcl ⊢;have HRR:=Km hr;clear hse hr hb2 i0 i1 i2 i3 HEC2 HSW hme
   go_wp2_with (at_make;refine wpList_make_zeros _ rfl _ _ 22 rfl 3 .i64 Tryz.underlying22 info_i64 _ _ wd rfl rfl (by omega) (by omega) (by omega) ?_)
   intro w3 hrow hbel;rw[FFld.ints_rep] at hrow;have HW3:=Km hrow.wv;have HX3:=Km (HX2.out.below hbel);obtain⟨g,hg⟩:∃ g,w2.heap.size=g:=⟨_,rfl⟩;have hgl:=HX2.out.l1;rw[hg] at HW3 hgl;have HB23:=Km hbel;have hgz:w2.heap.size<=g:=by omega
   clear hrow hbel;go_wp2
   try rw[hg]
   clear hg
   go_loopw [14] (fun iv wr' => ∃ a:Nat,a<=r/\iv= .int .i64 a/\Kept (∀ j,j<a->s.cols[j]?.getD 0<wd)/\Kept (Wv wr' g (solW s wd a))/\Kept (Below w2.heap.size w2 wr')) (fun iv _=>r-(intOf iv).toNat)
   case atStart=>exact⟨0,Nat.zero_le _,rfl,⟨fun j hj=>by omega⟩,HW3,HB23⟩
   case round=>
    obtain⟨a,har,rfl,hcw,hwv,hbw⟩:=hrel
    by_cases hal:a<r
    ·obtain⟨ge,oe,rv,hae,hge,hcell,hsl⟩:=(HSE.out.below hbw.out) a (by rw[List.length_map,List.length_take,HEO.out.la];omega);subst hae;rw[take_row hal] at hsl;have hWW:W=wd+1:=hW1 (by omega);have hrl:(FFld.rowAt s.A a).length=wd+1:=by rw[<- hWW];exact(HEO.out.wa.row (by rw[HEO.out.la];omega)).1
     obtain⟨q1,q2,q3⟩:=HEC.out.low a (by rw[HRR.out];exact hal);obtain⟨ci,hci⟩:∃ c,s.cols[a]?.getD 0=c:=⟨_,rfl⟩;rw[hci] at q1 q2 q3;have HCI:=Km hci;obtain⟨a1,c1,rfl,hc1,hm1⟩:=hsl.form;have HF:=Km (fun X (hX:Below wr.heap.size wr X)=>rfirst_any _ (FFld.rowAt s.A a) ci X (hsl.below hX) (by omega) q3 (by have e:(FFld.rowAt s.A a)[ci]?.getD 0=1:=q2;rw[e];exact Nat.one_ne_zero));rw[FFld.ints_len,hrl] at hcell hsl HF hc1;obtain⟨y,hy⟩:∃ y,FFld.cellAt s.A a wd=y:=⟨_,rfl⟩;obtain⟨gb,bo,rfl,ic⟩:=(hsl.cells (Nat.le_refl _)) _ (Below.refl _ _) wd (by rw[hrl];exact Nat.lt_succ_self _);rw[show(FFld.rowAt s.A a)[wd]?.getD 0=y from hy] at ic;have HY:=Km hy;have hci1:ci<=wd:=by omega
     clear hsl hci q1 q2 q3 hrl hWW hy;go_wp2_with fail;refine(HF.out _ (Below.refl _ _)).mono ?_;rintro e w6 ⟨rfl,rfl⟩
     by_cases hcd:ci=wd
     ·subst hcd;have ecc:((ci:Int)==(ci:Int))=true:=by simp
      have HXE:=Km (HX2.out.below hbw.out);go_wp2
      go_ret2
      exact⟨HXE.out.1, .inl ⟨a,by rw[HRR.out];exact hal,HCI.out,rfl⟩⟩
     ·have ecd:((ci:Int)==(wd:Int))=false:=by rw[beq_eq_false_iff_ne];omega
      have hcl2:ci<wd:=by omega
      have z3:=hwv.out.free ci;have t3:=hwv.out.cell (i:=ci) (by rw[solW_len];exact hcl2);obtain⟨u,hu⟩:∃ u,(solW s wd a)[ci]?.getD 0=u:=⟨_,rfl⟩;rw[hu] at t3;clear hu;have HNX:Kept (solW s wd (a+1)=(solW s wd a).set ci y):=⟨by simp only[solW];rw[HCI.out,HY.out]⟩;have hgs:=grow_set wr g ci (.int .i64 (y:Nat));have HBW:=Km (hbw.out.grown hgs hbw.out.size (fun k hk=>by cases hk;omega))
      have HCW:Kept (∀ j,j<a+1->s.cols[j]?.getD 0<wd):=⟨fun j hj=>by
       by_cases e:j=a
       ·rw[e,HCI.out];exact hcl2
       ·exact hcw.out j (by omega)⟩
      have HWV:=Km (hwv.out.set (i:=ci) y);rw[<- HNX.out] at HWV;clear hgs hcd;go_wp2;go_roundw
      case rel=>exact⟨a+1,by omega,by go_num,HCW,HWV,HBW⟩
      case measure=>simp[intOf]<;>omega
    ·obtain rfl:a=r:=by omega
     have HXE:=Km (HX2.out.below hbw.out);have HSX:=Km (hwv.out.sl (n:=wd) (c:=wd) (solW_len s wd a).symm (Nat.le_refl _) (by unfold maxLen;omega));go_wp2
     go_ret2
     refine⟨HXE.out.1, .inr ⟨?_,_,rfl,?_⟩⟩
     ·rw[HRR.out];exact hcw.out
     ·rw[HRR.out];exact HSX.out
end
section
namespace FFld
section
variable {α : Type} (F : Dom α)
def lf (W:Nat)(y v:Nat->α):α:=F.sm (fun c=>F.mul (v c) (y c)) W
theorem sm_null:∀ n,F.sm (fun _=>F.zero) n=F.zero
 |0=>rfl
 | n+1=>by
   simp only[Dom.sm];rw[sm_null n,F.add_zero]
theorem lf_congr {W:Nat}{y v v' :Nat->α}(h:∀ c,c<W->v c=v' c):lf F W y v=lf F W y v' :=F.sm_congr W fun c hc=>by rw[h c hc]
theorem lf_spn {W:Nat}{y v:Nat->α}{P:(Nat->α)->Prop}(h:∀ v,P v->lf F W y v=F.zero)(hv:Dom.Spn F W P v):lf F W y v=F.zero:=by
 induction hv with
 |mem v hp=>exact h v hp
 | zero v hz=>
   have e:lf F W y v=F.sm (fun _=>F.zero) W:=F.sm_congr W fun c hc=>by rw[hz c hc,F.zero_mul]
   rw[e,sm_null]
 | add u v w _ _ hw ihu ihv=>
   have e:lf F W y w=F.add (lf F W y u) (lf F W y v):=by
    unfold lf;rw[<- F.sm_add];exact F.sm_congr W fun c hc=>by rw[hw c hc,F.add_mul]
   rw[e,ihu,ihv,F.add_zero]
 | mul a u w _ hw ih=>
   have e:lf F W y w=F.mul a (lf F W y u):=by
    unfold lf;rw[<- F.sm_mul];exact F.sm_congr W fun c hc=>by rw[hw c hc,F.mul_assoc]
   rw[e,ih,F.mul_zero]
end
section
variable {D : FD} (hD : D.Ok) {M R : List (List Nat)} {wd n N : Nat}
include hD
theorem lf_last (x v:Nat->El (D.p ^ D.k)):lf (FD.dom hD.nzd) (wd+1) (fun c=>if c<wd then x c else(FD.dom hD.nzd).neg (FD.dom hD.nzd).one) v=(FD.dom hD.nzd).add ((FD.dom hD.nzd).sm (fun c=>(FD.dom hD.nzd).mul (v c) (x c)) wd) ((FD.dom hD.nzd).neg (v wd)):=by
 unfold lf;simp only[Dom.sm];rw[if_neg (Nat.lt_irrefl wd),Dom.mul_neg,Dom.mul_one,(FD.dom hD.nzd).sm_congr wd (g:=fun c=>(FD.dom hD.nzd).mul (v c) (x c)) fun c hc=>by rw[if_pos hc]]
theorem sol_of (ho:EOk D (wd+1) n N ⟨M,R,[]⟩)(h:∀ i,i<(elimF D hD.pre.pk ⟨M,R,[]⟩ (wd+1)).cols.length->(elimF D hD.pre.pk ⟨M,R,[]⟩ (wd+1)).cols[i]?.getD 0<wd)(x:Nat->El (D.p ^ D.k))
 (hxp' :∀ k,k<(elimF D hD.pre.pk ⟨M,R,[]⟩ (wd+1)).cols.length->x ((elimF D hD.pre.pk ⟨M,R,[]⟩ (wd+1)).cols[k]?.getD 0)=toE hD.pre.pk (cellAt (elimF D hD.pre.pk ⟨M,R,[]⟩ (wd+1)).A k wd)) (hxz' :∀ c,(∀ k,k<(elimF D hD.pre.pk ⟨M,R,[]⟩ (wd+1)).cols.length->(elimF D hD.pre.pk ⟨M,R,[]⟩ (wd+1)).cols[k]?.getD 0≠c)->x c=(FD.dom hD.nzd).zero):
 ∀ i,i<N->(FD.dom hD.nzd).sm (fun c=>(FD.dom hD.nzd).mul (toE hD.pre.pk (cellAt M i c)) (x c)) wd=toE hD.pre.pk (cellAt M i wd):=by
 have hec:=Ecf.elim hD (s:=⟨M,R,[]⟩) rfl ho (wd+1) (Nat.le_refl _);have hrc:=Rcf.elim hD (s:=⟨M,R,[]⟩) rfl ho (wd+1) (Nat.le_refl _);have hin:=(into_elim hD ho (wd+1) (Nat.le_refl _)).2;have hcl:=(ho.elim hD.pre.pk (wd+1)).cl;have hxp:=hxp';have hxz:=hxz';obtain⟨E,hE⟩:∃ E,elimF D hD.pre.pk ⟨M,R,[]⟩ (wd+1)=E:=⟨_,rfl⟩;rw[hE] at hec hrc hin hcl h hxp hxz;obtain⟨r,hr⟩:∃ r,E.cols.length=r:=⟨_,rfl⟩;rw[hr] at h hcl hxp hxz
 have hrow:∀ k,k<N->(FD.dom hD.nzd).sm (fun c=>(FD.dom hD.nzd).mul (toE hD.pre.pk (cellAt E.A k c)) (x c)) wd=toE hD.pre.pk (cellAt E.A k wd):=fun k hk=>by
  by_cases hkr:k<r
  ·obtain⟨h1,h2,h3⟩:=hec.low k (by omega);rw[(FD.dom hD.nzd).sm_one (j:=E.cols[k]?.getD 0) wd (h k hkr) fun c hc hne=> ?_]
   ·rw[h2,toE_one hD,Dom.one_mul,hxp k hkr]
   ·by_cases hp:∃ j,j<r/\E.cols[j]?.getD 0=c
    ·obtain⟨j,hj,rfl⟩:=hp;rw[hrc.up j (by omega) k hk (fun e=>hne (by rw[e])),toE_zero hD,Dom.zero_mul]
    ·rw[hxz c fun j hj e=>hp ⟨j,hj,e⟩,Dom.mul_zero]
  ·have hz:=hec.zero k (by omega) hk;rw[hz wd (by omega),toE_zero hD];have e:(FD.dom hD.nzd).sm (fun c=>(FD.dom hD.nzd).mul (toE hD.pre.pk (cellAt E.A k c)) (x c)) wd=(FD.dom hD.nzd).sm (fun _=>(FD.dom hD.nzd).zero) wd:=(FD.dom hD.nzd).sm_congr wd fun c hc=>by rw[hz c (by omega),toE_zero hD,Dom.zero_mul]
   exact e.trans (sm_null _ wd)
 intro i hi
 have hl:=lf_spn (FD.dom hD.nzd) (W:=wd+1) (y:=fun c=>if c<wd then x c else(FD.dom hD.nzd).neg (FD.dom hD.nzd).one) (P:=RS hD (wd+1) N E.A) (fun v hv=>by
  obtain⟨k,hk,hvk⟩:=hv
  rw[lf_congr _ hvk,lf_last hD,hrow k hk,Dom.add_neg]) (hin _ ⟨i,hi,fun _ _=>rfl⟩)
 rw[lf_last hD] at hl;have h2:=(FD.dom hD.nzd).neg_unique ((Dom.add_comm _ _ _).trans hl);rw[Dom.neg_neg] at h2;exact h2
section
variable {s : ESt} (h : ∀ i, i < s.cols.length -> s.cols[i]?.getD 0 < wd) (hm : ∀ i j, i < j -> j < s.cols.length -> s.cols[i]?.getD 0 < s.cols[j]?.getD 0)
omit hD in
theorem solW_miss {c:Nat} :∀ i,(∀ k,k<i->s.cols[k]?.getD 0≠c)->(solW s wd i)[c]?.getD 0=0
 | 0,_=>by
   unfold solW;rw[List.getElem?_replicate]
   split<;>rfl
 | i+1,hc=>by
   unfold solW;rw[List.getElem?_set_ne (hc i (by omega))];exact solW_miss i fun k hk=>hc k (by omega)
include h hm
omit hD in
theorem solW_hit:∀ i,i<=s.cols.length-> ∀ k,k<i->(solW s wd i)[s.cols[k]?.getD 0]?.getD 0=cellAt s.A k wd
 |0,_,k,hk=>by omega
 | i+1,hi,k,hk=>by
   unfold solW
   by_cases e:k=i
   ·subst e;rw[List.getElem?_set_self (by rw[solW_len];exact h k (by omega))];rfl
   ·have h1:=hm k i (by omega) (by omega);rw[List.getElem?_set_ne (by omega)];exact solW_hit i (by omega) k (by omega)
end
omit hD in
theorem solW_lt {q:Nat}{s:ESt}(hq:0<q)(hc:∀ i,cellAt s.A i wd<q):∀ i,∀ a∈solW s wd i,a<q
 | 0=>fun a ha=>by
   unfold solW at ha;rw[List.eq_of_mem_replicate ha];exact hq
 | i+1=>fun a ha=>by
   unfold solW at ha
   rcases List.mem_or_eq_of_mem_set ha with h1|h1
   ·exact solW_lt hq hc i a h1
   ·rw[h1];exact hc i
theorem sol_is (ho:EOk D (wd+1) n N ⟨M,R,[]⟩)(h:∀ i,i<(elimF D hD.pre.pk ⟨M,R,[]⟩ (wd+1)).cols.length->(elimF D hD.pre.pk ⟨M,R,[]⟩ (wd+1)).cols[i]?.getD 0<wd):
 (∀ a∈solW (elimF D hD.pre.pk ⟨M,R,[]⟩ (wd+1)) wd (elimF D hD.pre.pk ⟨M,R,[]⟩ (wd+1)).cols.length,a<D.p ^ D.k)/\
 ∀ i,i<N->(FD.dom hD.nzd).sm (fun c=>(FD.dom hD.nzd).mul (toE hD.pre.pk (cellAt M i c)) (toE hD.pre.pk ((solW (elimF D hD.pre.pk ⟨M,R,[]⟩ (wd+1)) wd (elimF D hD.pre.pk ⟨M,R,[]⟩ (wd+1)).cols.length)[c]?.getD 0))) wd=toE hD.pre.pk (cellAt M i wd):=by
 have hrc:=Rcf.elim hD (s:=⟨M,R,[]⟩) rfl ho (wd+1) (Nat.le_refl _);have hec:=ho.elim hD.pre.pk (wd+1);have h0:=Nat.pow_pos (n:=D.k) hD.pre.pk.p0;refine⟨solW_lt h0 (fun i=> ?_) _,sol_of hD ho h (fun c=>toE hD.pre.pk ((solW (elimF D hD.pre.pk ⟨M,R,[]⟩ (wd+1)) wd (elimF D hD.pre.pk ⟨M,R,[]⟩ (wd+1)).cols.length)[c]?.getD 0)) (fun k hk=> ?_) (fun c hc=> ?_)⟩
 ·by_cases hi:i<(elimF D hD.pre.pk ⟨M,R,[]⟩ (wd+1)).A.length
  ·exact getD_lt h0 (hec.wa.row hi).2 _
  ·have hn:(elimF D hD.pre.pk ⟨M,R,[]⟩ (wd+1)).A[i]? =none:=List.getElem?_eq_none (by omega);unfold cellAt rowAt;rw[hn];exact h0
 ·show toE hD.pre.pk _=_
  rw[solW_hit h (fun i j hij hj=>hrc.mono i j hij hj) _ (Nat.le_refl _) k hk]
 ·show toE hD.pre.pk _=_
  rw[solW_miss _ hc,toE_zero hD]
theorem sol_no (ho:EOk D (wd+1) n N ⟨M,R,[]⟩)(x:Nat->El (D.p ^ D.k))(hx:∀ i,i<N->(FD.dom hD.nzd).sm (fun c=>(FD.dom hD.nzd).mul (toE hD.pre.pk (cellAt M i c)) (x c)) wd=toE hD.pre.pk (cellAt M i wd)):
 ∀ i,i<(elimF D hD.pre.pk ⟨M,R,[]⟩ (wd+1)).cols.length->(elimF D hD.pre.pk ⟨M,R,[]⟩ (wd+1)).cols[i]?.getD 0<wd:=by
 have hec:=Ecf.elim hD (s:=⟨M,R,[]⟩) rfl ho (wd+1) (Nat.le_refl _);have hin:=(into_elim hD ho (wd+1) (Nat.le_refl _)).1;have hcl:=(ho.elim hD.pre.pk (wd+1)).cl;obtain⟨E,hE⟩:∃ E,elimF D hD.pre.pk ⟨M,R,[]⟩ (wd+1)=E:=⟨_,rfl⟩;rw[hE] at hec hin hcl ⊢;intro i hi;obtain⟨h1,h2,h3⟩:=hec.low i hi
 apply Classical.byContradiction
 intro hc;have he:E.cols[i]?.getD 0=wd:=by omega
 rw[he] at h2 h3
 have hl:=lf_spn (FD.dom hD.nzd) (W:=wd+1) (y:=fun c=>if c<wd then x c else(FD.dom hD.nzd).neg (FD.dom hD.nzd).one) (P:=RS hD (wd+1) N M) (fun v hv=>by
  obtain⟨k,hk,hvk⟩:=hv
  rw[lf_congr _ hvk,lf_last hD,hx k hk,Dom.add_neg]) (hin _ ⟨i,by omega,fun _ _=>rfl⟩)
 rw[lf_last hD] at hl;have e:(FD.dom hD.nzd).sm (fun c=>(FD.dom hD.nzd).mul (toE hD.pre.pk (cellAt E.A i c)) (x c)) wd=(FD.dom hD.nzd).sm (fun _=>(FD.dom hD.nzd).zero) wd:=(FD.dom hD.nzd).sm_congr wd fun c hc=>by rw[h3 c hc,toE_zero hD,Dom.zero_mul]
 rw[e,sm_null,Dom.zero_add,h2,toE_one hD] at hl;have h4:=(FD.dom hD.nzd).add_neg (FD.dom hD.nzd).one;rw[hl,Dom.add_zero] at h4;exact(FD.dom hD.nzd).one_ne h4
end
end FFld
end
section
open Go Go.RowKit Go.Deep
open FFld (ints)
def disK (xs ys es:List Int):Nat->Nat
 |0=>0
 |n+1=>if xs[n]?.getD 0=ys[n]?.getD 0\/hasB es n=true then disK xs ys es n else disK xs ys es n+1
theorem disK_le (xs ys es:List Int):∀ n,disK xs ys es n<=n
 |0=>Nat.le_refl _
 | n+1=>by
   have:=disK_le xs ys es n;unfold disK
   split<;>omega
set_option maxRecDepth 20000 in
theorem rdistance_any (v1 v2 v3:Value)(xs ys es:List Int)(n:Nat)(w:World)(h1:Sl .i64 w v1 xs)(h2:Sl .i64 w v2 ys)(h3:Sl .i64 w v3 es)(l1:xs.length=n)(l2:ys.length=n)(hn:n<=1000):
 Calls Tryz.prog 106 #[v1,v2,v3] w (RB w (.int .i64 (disK xs ys es n:Nat))):=by
 obtain⟨a1,c1,rfl,hc1,hm1,hx1⟩:=h1;obtain⟨a2,c2,rfl,hc2,hm2,hx2⟩:=h2;rw[l1] at hc1 ⊢;rw[l2] at hc2 ⊢;have H1:=Km hx1;have H2:=Km hx2;have HL1:=Km l1;have HL2:=Km l2;have HHS:=Km (fun(W:World) (hW:Below w.heap.size w W) (i:Nat)=>rhas_any v3 es (i:Int) W (h3.below hW));unfold maxLen at hm1 hm2;clear h3 hx1 hx2 l1 l2
 go_enter Tryz.func106,Tryz.ntmps106
 go_wp2
 go_loopw [7,8] (fun cv iv wr=> ∃ (i c:Nat),i<=n/\iv= .int .i64 i/\cv= .int .i64 c/\Kept (disK xs ys es i=c)/\Kept (Below w.heap.size w wr)) (fun _ iv _=>n-(intOf iv).toNat)
 case atStart=>exact⟨0,0,Nat.zero_le _,rfl,rfl,⟨rfl⟩,⟨Below.refl _ _⟩⟩
 case round=>
  obtain⟨i,c,hin,rfl,rfl,hat,hbx⟩:=hrel
  by_cases hlt:i<n
  ·obtain⟨b1,o1,rfl,hb1,u1⟩:=H1.out i (by rw[HL1.out];exact hlt);obtain⟨b2,o2,rfl,hb2,u2⟩:=H2.out i (by rw[HL2.out];exact hlt);obtain⟨x,hx⟩:∃ x,xs[i]?.getD 0=x:=⟨_,rfl⟩;obtain⟨y,hy⟩:∃ x,ys[i]?.getD 0=x:=⟨_,rfl⟩;rw[hx] at u1;rw[hy] at u2;have u1:=belowCell hbx.out u1;have u2:=belowCell hbx.out u2;have hcn:c<=i:=by rw[<- hat.out];exact disK_le _ _ _ _
   have HB2:=Km hbx.out.drew
   by_cases hxy:x=y
   ·have HN:Kept (disK xs ys es (i+1)=c):=⟨by unfold disK;rw[if_pos (.inl (by rw[hx,hy,hxy])),hat.out]⟩;subst hxy;have e0:(x !=x)=false:=by simp
    have e1:(x==x)=true:=by simp
    clear hx hy;go_wp2_with fail
    go_upto_region 5 with fail
    refine wp_region_held_drew (S:=(fun w' =>w'.cell? ⟨b1,o1+i,none⟩=some (.int .i64 x)/\w'.cell? ⟨b2,o2+i,none⟩=some (.int .i64 x))) (by kernel_rfl) ⟨u1,u2⟩ (fun hHeld=> ?_);refine wpAnyH_take (i:=0) (v:= ?_) rfl (by kernel_rfl) (by kernel_rfl) (by kernel_rfl) (fun _ _ _ h=>h) (Or.inl ⟨by rfl,?_⟩) (by assumption) ?_;rotate_left
    ·(intro w hSw;(try dsimp only at hSw);go_simp;(try with_reducible rfl))
    try simp only[Act.put,sA]
    refine wpAnyH_take (i:=1) (v:= ?_) rfl (by kernel_rfl) (by kernel_rfl) (by kernel_rfl) (fun _ _ _ h=>h) (Or.inl ⟨by rfl,?_⟩) (by assumption) ?_;rotate_left
    ·(intro w hSw;(try dsimp only at hSw);go_simp;(try with_reducible rfl))
    try simp only[Act.put,sA]
    refine wpAnyH_take (i:=2) (v:= ?_) rfl (by kernel_rfl) (by kernel_rfl) (by kernel_rfl) (fun _ _ _ h=>h) (Or.inl ⟨by rfl,?_⟩) (by assumption) ?_;rotate_left
    ·(intro w hSw;(try dsimp only at hSw);go_simp;(try with_reducible rfl))
    try simp only[Act.put,sA]
    refine wpAnyH_take (i:=3) (v:= ?_) rfl (by kernel_rfl) (by kernel_rfl) (by kernel_rfl) (fun _ _ _ h=>h) (Or.inl ⟨by rfl,?_⟩) (by assumption) ?_;rotate_left
    ·(intro w hSw;(try dsimp only at hSw);go_simp;(try with_reducible rfl))
    try simp only[Act.put,sA]
    refine wpAnyH_take (i:=4) (v:= ?_) rfl (by kernel_rfl) (by kernel_rfl) (by kernel_rfl) (fun _ _ _ h=>h) (Or.inl ⟨by rfl,?_⟩) (by assumption) ?_;rotate_left
    ·(intro w hSw;(try dsimp only at hSw);go_simp;(try with_reducible rfl))
    try simp only[Act.put,sA]
    refine wpAnyH_take (i:=5) (v:= ?_) rfl (by kernel_rfl) (by kernel_rfl) (by kernel_rfl) (fun _ _ _ h=>h) (Or.inl ⟨by rfl,?_⟩) (by assumption) ?_;rotate_left
    ·(intro w hSw;(try dsimp only at hSw);go_simp;(try with_reducible rfl))
    try simp only[Act.put,sA]
    refine wpAnyH_take (i:=6) (v:= ?_) rfl (by kernel_rfl) (by kernel_rfl) (by kernel_rfl) (fun _ _ _ h=>h) (Or.inl ⟨by rfl,?_⟩) (by assumption) ?_;rotate_left
    ·(intro w hSw;(try dsimp only at hSw);go_simp;(try with_reducible rfl))
    try simp only[Act.put,sA]
    refine wpAnyH_take (i:=7) (v:= ?_) rfl (by kernel_rfl) (by kernel_rfl) (by kernel_rfl) (fun _ _ _ h=>h) (Or.inl ⟨by rfl,?_⟩) (by assumption) ?_;rotate_left
    ·(intro w hSw;(try dsimp only at hSw);go_simp;(try with_reducible rfl))
    try simp only[Act.put,sA]
    refine wpAnyH_take (i:=8) (v:= ?_) rfl (by kernel_rfl) (by kernel_rfl) (by kernel_rfl) (fun _ _ _ h=>h) (Or.inl ⟨by rfl,?_⟩) (by assumption) ?_;rotate_left
    ·(intro w hSw;(try dsimp only at hSw);go_simp;(try with_reducible rfl))
    try simp only[Act.put,sA]
    refine wpAnyH_take (i:=9) (v:= ?_) rfl (by kernel_rfl) (by kernel_rfl) (by kernel_rfl) (fun _ _ _ h=>h) (Or.inl ⟨by rfl,?_⟩) (by assumption) ?_;rotate_left
    ·(intro w hSw;(try dsimp only at hSw);go_simp;(try with_reducible rfl))
    try simp only[Act.put,sA]
    refine wpAnyH_take (i:=10) (v:=undef) rfl (by kernel_rfl) (by kernel_rfl) (by kernel_rfl) (fun _ _ _ h=>h) (Or.inr ⟨by rfl,rfl⟩) (by assumption) ?_
    try simp only[Act.put,sA]
    refine wpAnyH_take (i:=11) (v:=undef) rfl (by kernel_rfl) (by kernel_rfl) (by kernel_rfl) (fun _ _ _ h=>h) (Or.inr ⟨by rfl,rfl⟩) (by assumption) ?_
    try simp only[Act.put,sA]
    refine wpAnyH_take (i:=12) (v:=undef) rfl (by kernel_rfl) (by kernel_rfl) (by kernel_rfl) (fun _ _ _ h=>h) (Or.inr ⟨by rfl,rfl⟩) (by assumption) ?_
    try simp only[Act.put,sA]
    refine wpAnyH_take (i:=13) (v:=undef) rfl (by kernel_rfl) (by kernel_rfl) (by kernel_rfl) (fun _ _ _ h=>h) (Or.inr ⟨by rfl,rfl⟩) (by assumption) ?_
    try simp only[Act.put,sA]
    refine wpAnyH_take (i:=14) (v:= ?_) rfl (by kernel_rfl) (by kernel_rfl) (by kernel_rfl) (fun _ _ _ h=>h) (Or.inl ⟨by rfl,?_⟩) (by assumption) ?_;rotate_left
    ·(intro w hSw;(try dsimp only at hSw);go_simp;(try with_reducible rfl))
    try simp only[Act.put,sA]
    refine wpAnyH_done (by kernel_rfl) ?_ _;go_wp2;go_roundw
    case rel=>exact⟨i+1,c,by omega,by go_num,rfl,HN,HB2⟩
    case measure=>simp[intOf]<;>omega
   ·have e0:(x !=y)=true:=by rw[bne_iff_ne];exact hxy
    have e1:(x==y)=false:=by rw[beq_eq_false_iff_ne];exact hxy
    have HH:=Km (fun(W:World) (hW:Below w.heap.size w W)=>HHS.out W hW i)
    cases hh:hasB es (i:Int) with
    | true=>
      have HN:Kept (disK xs ys es (i+1)=c):=⟨by unfold disK;rw[if_pos (.inr hh),hat.out]⟩;rw[hh] at HH;clear hx hy hxy hh;go_wp2_with fail
      go_upto_region 5 with fail
      go_region_held3 (fun w' =>w'.cell? ⟨b1,o1+i,none⟩=some (.int .i64 x)/\w'.cell? ⟨b2,o2+i,none⟩=some (.int .i64 y)) (first|exact⟨u1,u2⟩|go_keep)
       ((first
         |(go_at_call 65;(with_reducible refine(HH.out _ ?h1).mono ?_);(case h1=>first|exact hbx.out|exact hbx.out.drew);rintro e v3 ⟨rfl,rfl⟩)))
      go_wp2;go_roundw
      case rel=>exact⟨i+1,c,by omega,by go_num,rfl,HN,HB2⟩
      case measure=>simp[intOf]<;>omega
    | false=>
      have HN:Kept (disK xs ys es (i+1)=c+1):=⟨by unfold disK;rw[if_neg (by rw[hx,hy,hh];simp[hxy]),hat.out]⟩;rw[hh] at HH;clear hx hy hxy hh;go_wp2_with fail
      go_upto_region 5 with fail
      go_region_held3 (fun w' =>w'.cell? ⟨b1,o1+i,none⟩=some (.int .i64 x)/\w'.cell? ⟨b2,o2+i,none⟩=some (.int .i64 y)) (first|exact⟨u1,u2⟩|go_keep)
       ((first
         |(go_at_call 65;(with_reducible refine(HH.out _ ?h1).mono ?_);(case h1=>first|exact hbx.out|exact hbx.out.drew);rintro e v3 ⟨rfl,rfl⟩)))
      go_wp2;go_roundw
      case rel=>exact⟨i+1,c+1,by omega,by go_num,by go_num,HN,HB2⟩
      case measure=>simp[intOf]<;>omega
  ·obtain rfl:i=n:=by omega
   go_wp2
   go_ret
   exact⟨hbx.out,by rw[hat.out];rfl⟩
set_option maxRecDepth 20000 in
theorem rradius_any (o:Int)(ao:Option Addr)(n cap k m:Nat)(w:World)(hkm:m+k<=n)(hn:n<=1000):
 Calls Tryz.prog 42 #[cdv o ao n cap k, .int .i64 m] w (RB w (.int .i64 (((n-m-k)/2:Nat):Int))):=by
 have HX0:Kept (Bxs w [rcdbox o ao n cap k] (w.alloc (rcdbox o ao n cap k))):=⟨(Bxs.start w).alloc (by simp) _⟩;obtain⟨c0,c1,c2,_⟩:=three_cells HX0.out.b0;obtain⟨t,ht⟩:∃ r,(n-m-k)/2=r:=⟨_,rfl⟩;have er1:(n:Int)-(m:Int)=((n-m:Nat):Int):=by omega
 have er2:((n-m:Nat):Int)-(k:Int)=((n-m-k:Nat):Int):=by omega
 have er3:((n-m-k:Nat):Int).tdiv 2=t:=by rw[Int.tdiv_eq_ediv_of_nonneg (by omega)];omega
 have er4:((n-m-k:Nat):Int)/2=t:=by omega
 rw[ht];clear ht
 go_enter Tryz.func42,Tryz.ntmps42
 go_wp2
 go_ret
 exact⟨HX0.out.1,rfl⟩
theorem bxs_bel5 {w W:World}{os:List Obj}(h:Bxs w os W):Below w.heap.size w W:=h.1
def fitP (D:FFld.FD)(P Wd ql el:List Nat)(i:Nat):Bool:=(List.range i).all fun j=>decide ((FFld.valsF D ql P P.length)[j]?.getD 0=FFld.pmul D.p D.k D.m ((FFld.valsF D el P P.length)[j]?.getD 0) D.k (Wd[j]?.getD 0))
theorem fitP_next (D:FFld.FD)(P Wd ql el:List Nat)(i:Nat):fitP D P Wd ql el (i+1)=(fitP D P Wd ql el i&&decide ((FFld.valsF D ql P P.length)[i]?.getD 0=FFld.pmul D.p D.k D.m ((FFld.valsF D el P P.length)[i]?.getD 0) D.k (Wd[i]?.getD 0))):=by
 unfold fitP;rw[List.range_succ,List.all_append];simp
theorem fitP_no {D:FFld.FD}{P Wd ql el:List Nat}{i n:Nat}(hi:i<n)(h: ¬ (FFld.valsF D ql P P.length)[i]?.getD 0=FFld.pmul D.p D.k D.m ((FFld.valsF D el P P.length)[i]?.getD 0) D.k (Wd[i]?.getD 0)):fitP D P Wd ql el n=false:=by
 cases e:fitP D P Wd ql el n with
 |false=>rfl
 | true=>
   unfold fitP at e;rw[List.all_eq_true] at e;exact absurd (of_decide_eq_true (e i (List.mem_range.2 hi))) h
set_option maxRecDepth 20000 in
theorem cfits_ok {D:FFld.FD}{b:Nat}(hD:D.Ok)(pa ea qa va:Option Addr)(pc ec qc vc k rad np nq ne:Nat)(P Wd ql el:List Nat)(w:World)(hf:FldB D w b)(hp:Sl .i64 w (.slice pa np pc) (ints P))(hw:Sl .i64 w (.slice ea np ec) (ints Wd))(hq:Sl .i64 w (.slice qa nq qc) (ints ql))(he:Sl .i64 w (.slice va ne vc) (ints el))(lp:P.length=np)(lw:Wd.length=np)(lq:ql.length=nq)(le:el.length=ne)(hpq:∀ a∈P,a<D.p ^ D.k)(hwq:∀ a∈Wd,a<D.p ^ D.k)(hr:rad<=np)(hnp:np<=64)(hk:k<=64)(hqq:∀ a∈ql,a<D.p ^ D.k)(heq:∀ a∈el,a<D.p ^ D.k)(tq:FFld.Tz ql)(te:FFld.Tz el)(hlq:nq+rad<=np)(hle:ne<=rad+1)(hne:nq≠0\/ne≠0):
 Calls Tryz.prog 98 #[rcv b (.slice pa np pc) (.slice ea np ec) k rad, .agg #[.slice qa nq qc, .slice va ne vc]] w (RB w (.bool (fitP D P Wd ql el np))):=by
 have HX0:Kept (Bxs w [rcbox b (.slice pa np pc) (.slice ea np ec) k rad,fabox (.slice qa nq qc) (.slice va ne vc)] ((w.alloc (rcbox b (.slice pa np pc) (.slice ea np ec) k rad)).alloc (fabox (.slice qa nq qc) (.slice va ne vc)))):=⟨((Bxs.start w).alloc (by simp) _).alloc (by simp) _⟩;have HLO:=Km (fun(W:World)=>clongest_any b np pc k rad pa (.slice ea np ec) W hr (by omega));have HCQ:=Km (fun(W:World) (hW:Below w.heap.size w W)=>fcheck_any (.slice qa nq qc) (ints ql) W (hf.below hW) (hq.below hW));have HCE:=Km (fun(W:World) (hW:Below w.heap.size w W)=>fcheck_any (.slice va ne vc) (ints el) W (hf.below hW) (he.below hW))
 have hnl:nq<=9223372036854775807/\ne<=9223372036854775807:=by
  obtain⟨_,_,e,h1,h2,_⟩:=hq;obtain⟨_,_,e',h1',h2',_⟩:=he;unfold maxLen at h2 h2';omega
 obtain⟨hnl1,hnl2⟩:=hnl;rw[cErr_poly hqq tq (by omega)] at HCQ;rw[cErr_poly heq te (by omega)] at HCE;have hq6:D.p ^ D.k<=65536:=hD.pre.small;have hqd:D.q=D.p ^ D.k:=rfl
 have HVQ:Kept (∀ W,Below w.heap.size w W->Calls Tryz.prog 87 #[.pointer (some ⟨b,0,none⟩), .slice pa np pc, .slice qa nq qc] W (fun e w' =>Below W.heap.size W w' /\ ∃ wa wc,e= .returned (.slice wa np wc)/\Sl .i64 w' (.slice wa np wc) (ints (FFld.valsF D ql P np)))):=⟨fun W hW=>by
  have h:=cvalues_any hD pa qa pc qc P ql W (hf.below hW) (by rw[lp];exact hp.below hW) (by rw[lq];exact hq.below hW) hpq hqq (by omega) (by omega);rw[lp,lq] at h
  exact h.mono fun e w' ⟨hb,he,hw⟩=>⟨hb,_,np,he,hw.sl (by rw[FFld.valsF_len,lp]) (Nat.le_refl _) (by unfold maxLen;omega)⟩⟩
 have HVE:Kept (∀ W,Below w.heap.size w W->Calls Tryz.prog 87 #[.pointer (some ⟨b,0,none⟩), .slice pa np pc, .slice va ne vc] W (fun e w' =>Below W.heap.size W w' /\ ∃ wa wc,e= .returned (.slice wa np wc)/\Sl .i64 w' (.slice wa np wc) (ints (FFld.valsF D el P np)))):=⟨fun W hW=>by
  have h:=cvalues_any hD pa va pc vc P el W (hf.below hW) (by rw[lp];exact hp.below hW) (by rw[le];exact he.below hW) hpq heq (by omega) (by omega);rw[lp,le] at h
  exact h.mono fun e w' ⟨hb,he,hw⟩=>⟨hb,_,np,he,hw.sl (by rw[FFld.valsF_len,lp]) (Nat.le_refl _) (by unfold maxLen;omega)⟩⟩
 have HMU:Kept (∀ W x y,Below w.heap.size w W->x<D.p ^ D.k->y<D.p ^ D.k->Calls Tryz.prog 82 #[.pointer (some ⟨b,0,none⟩), .int .i64 (x:Nat), .int .i64 (y:Nat)] W (RB W (.int .i64 (FFld.pmul D.p D.k D.m x D.k y:Nat)))):=⟨fun W x y hW hx hy=>fmul_any (x:Int) (y:Int) W (hf.below hW) (by omega) (by omega) (by omega) (by omega) x y (md_nat (by omega)) (md_nat (by omega)) hx hy⟩;have HWS:=Km hw;have HLW:=Km lw;have HLP:=Km lp;have HWQ:=Km hwq;have HK:=Km hD.pre.pk
 have hec:np<=ec/\ec<=9223372036854775807:=by
  obtain⟨_,_,e,h1,h2,_⟩:=hw;simp only[Value.slice.injEq] at e;obtain⟨_,e1,e2⟩:=e;rw[FFld.ints_len] at e1 h1;unfold maxLen at h2;omega
 obtain⟨hec1,hec2⟩:=hec;clear hf hp hw hq he lp lw lq le hpq hwq hqq heq tq te hqd;have g1:decide (((np-rad:Nat):Int)<(nq:Int))=false:=decide_eq_false (by omega);have g2:decide ((rad:Int)+1<(ne:Int))=false:=decide_eq_false (by omega);have q1: ¬ (np-rad<nq):=by omega
 have q2: ¬ (((np-rad:Nat):Int)<(nq:Int)):=by omega
 have q3:nq<=np-rad:=by omega
 have q4:(nq:Int)<=((np-rad:Nat):Int):=by omega
 have q5: ¬ (rad+1<ne):=by omega
 have q6: ¬ ((rad:Int)+1<(ne:Int)):=by omega
 have q7:ne<=rad+1:=by omega
 have q8:(ne:Int)<=(rad:Int)+1:=by omega
 have ew:IntKind.i64.wrap ((rad:Int)+1)=(rad:Int)+1:=wi (by omega) (by omega)
 go_enter Tryz.func98,Tryz.ntmps98
 have hbx:=HX0.out.1;obtain⟨c0,c1,c2,c3,c4⟩:=five_cells_ HX0.out.b0;obtain⟨d0,d1,_,_⟩:=two_cells HX0.out.b1;go_wp2_with fail
 go_upto_region 1 with fail
 go_region_held3 (fun w' =>w'.cell? ⟨w.heap.size,0,none⟩=some (.pointer (some ⟨b,0,none⟩))/\w'.cell? ⟨w.heap.size,1,none⟩=some (.slice pa np pc)/\w'.cell? ⟨w.heap.size,2,none⟩=some (.slice ea np ec)/\w'.cell? ⟨w.heap.size,3,none⟩=some (.int .i64 k)/\w'.cell? ⟨w.heap.size,4,none⟩=some (.int .i64 rad)/\w'.cell? ⟨w.heap.size+1,0,none⟩=some (.slice qa nq qc)/\w'.cell? ⟨w.heap.size+1,1,none⟩=some (.slice va ne vc))
  (first|exact⟨jc0,jc1,jc2,jc3,jc4,jd0,jd1⟩|exact⟨c0,c1,c2,c3,c4,d0,d1⟩|go_keep)
  ((first
    |(go_at_call 164;(with_reducible refine(HLO.out _).mono ?_);rintro e v1 ⟨hb1,rfl⟩;have HB1:=Km (bstep (show Below ((w.alloc (rcbox b (.slice pa np pc) (.slice ea np ec) k rad)).alloc (fabox (.slice qa nq qc) (.slice va ne vc))).heap.size ((w.alloc (rcbox b (.slice pa np pc) (.slice ea np ec) k rad)).alloc (fabox (.slice qa nq qc) (.slice va ne vc))) _ from(by first|exact Below.refl _ _|exact(Below.refl _ _).drew)) hb1);have jc0:=belowCell HB1.out c0;have jc1:=belowCell HB1.out c1;have jc2:=belowCell HB1.out c2;have jc3:=belowCell HB1.out c3;have jc4:=belowCell HB1.out c4;have jd0:=belowCell HB1.out d0;have jd1:=belowCell HB1.out d1;clear hb1)))
 have HX1:=Km (HX0.out.below HB1.out);clear HB1 jc0 jc1 jc2 jc3 jc4 jd0 jd1 c0 c1 c2 c3 c4 d0 d1 hbx HX0 q1 q2 q3 q4 q5 q6 q7 q8 ew;have hbx:=bxs_bel5 HX1.out;obtain⟨c0,c1,c2,c3,c4⟩:=five_cells_ HX1.out.b0;obtain⟨d0,d1,_,_⟩:=two_cells HX1.out.b1;have HBX:=Km hbx;go_wp2_with fail;(with_reducible refine(HCQ.out _ hbx).mono ?_);rintro e w2 ⟨rfl,rfl⟩;go_wp2_with fail;(with_reducible refine(HCE.out _ hbx).mono ?_);rintro e w3 ⟨rfl,rfl⟩
 have hc5:((nq:Int)==0)=true/\((ne:Int)==0)=false\/((nq:Int)==0)=false/\True:=by
  by_cases hn0:nq=0
  ·exact .inl ⟨by rw[beq_iff_eq];omega,by rw[beq_eq_false_iff_ne];omega⟩
  ·exact .inr ⟨by rw[beq_eq_false_iff_ne];omega,trivial⟩
 clear hne
 rcases hc5 with⟨e5,e6⟩|⟨e5,e6⟩<;>(
  go_upto_region 7 with fail
  go_region_held3 (fun w' =>w'.cell? ⟨w.heap.size,0,none⟩=some (.pointer (some ⟨b,0,none⟩))/\w'.cell? ⟨w.heap.size,1,none⟩=some (.slice pa np pc)/\w'.cell? ⟨w.heap.size,2,none⟩=some (.slice ea np ec)/\w'.cell? ⟨w.heap.size,3,none⟩=some (.int .i64 k)/\w'.cell? ⟨w.heap.size,4,none⟩=some (.int .i64 rad)/\w'.cell? ⟨w.heap.size+1,0,none⟩=some (.slice qa nq qc)/\w'.cell? ⟨w.heap.size+1,1,none⟩=some (.slice va ne vc))
   (first|exact⟨lc0,lc1,lc2,lc3,lc4,ld0,ld1⟩|exact⟨jc0,jc1,jc2,jc3,jc4,jd0,jd1⟩|exact⟨c0,c1,c2,c3,c4,d0,d1⟩|go_keep)
   ((first
     |(go_at_call 87;(with_reducible refine(HVQ.out _ ?h1).mono ?_);(case h1=>first|exact HBX.out|exact HBX.out.drew);rintro e v3 ⟨hb3,qa',qc',rfl,hsq⟩;have HB3:=Km (bstep (show Below v1.heap.size v1 _ from(by first|exact Below.refl _ _|exact(Below.refl _ _).drew)) hb3);have jc0:=belowCell HB3.out c0;have jc1:=belowCell HB3.out c1;have jc2:=belowCell HB3.out c2;have jc3:=belowCell HB3.out c3;have jc4:=belowCell HB3.out c4;have jd0:=belowCell HB3.out d0;have jd1:=belowCell HB3.out d1;have HSQ:=Km hsq;clear hb3 hsq)
     |(go_at_call 87;(with_reducible refine(HVE.out _ ?h1).mono ?_);(case h1=>first|exact bstep HBX.out HB3.out|exact(bstep HBX.out HB3.out).drew);rintro e v4 ⟨hb4,ve',vc',rfl,hse⟩;have HB4:=Km (bstep (show Below v1.heap.size v1 _ from(by first|exact HB3.out|exact HB3.out.drew)) hb4);have lc0:=belowCell HB4.out c0;have lc1:=belowCell HB4.out c1;have lc2:=belowCell HB4.out c2;have lc3:=belowCell HB4.out c3;have lc4:=belowCell HB4.out c4;have ld0:=belowCell HB4.out d0;have ld1:=belowCell HB4.out d1;have HSE:=Km hse;have HSQ2:=Km (HSQ.out.below (show Below v3.heap.size v3 _ from(by first|exact hb4|exact((Below.refl _ _).drew.trans hb4))));clear hb4 hse)))
  have HX4:=Km (HX1.out.below HB4.out);have HB5:=Km (bstep HBX.out HB4.out);clear HB3 HB4 HSQ jc0 lc0 jc1 lc1 jc2 lc2 jc3 lc3 jc4 lc4 jd0 ld0 jd1 ld1 c0 c1 c2 c3 c4 d0 d1;obtain⟨c0,c1,c2,c3,c4⟩:=five_cells_ HX4.out.b0
  obtain⟨hqc1,hqc2⟩:np<=qc' /\qc' <=maxLen:=by
   obtain⟨_,_,e,h1,h2,_⟩:=HSQ2.out;simp only[Value.slice.injEq] at e;obtain⟨_,h3,h4⟩:=e;rw[<- h3,<- h4] at h1;exact⟨h1,by rw[h4];exact h2⟩
  obtain⟨hvc1,hvc2⟩:np<=vc' /\vc' <=maxLen:=by
   obtain⟨_,_,e,h1,h2,_⟩:=HSE.out;simp only[Value.slice.injEq] at e;obtain⟨_,h3,h4⟩:=e;rw[<- h3,<- h4] at h1;exact⟨h1,by rw[h4];exact h2⟩
  unfold maxLen at hqc2 hvc2;go_wp2
  go_loopw [68] (fun iv wr=> ∃ (i:Nat),i<=np/\iv= .int .i64 i/\Kept (fitP D P Wd ql el i=true)/\Kept (Below v4.heap.size v4 wr)) (fun iv _=>np-(intOf iv).toNat)
  case atStart=>exact⟨0,Nat.zero_le _,rfl,⟨rfl⟩,⟨Below.refl _ _⟩⟩
  case round=>
   obtain⟨i,hin,rfl,hat,hbq⟩:=hrel;have hbw:=bstep HB5.out hbq.out
   by_cases hlt:i<np
   ·obtain⟨bw,ow,rfl,_,u0⟩:=(HWS.out.below hbw).news_ i (by rw[FFld.ints_len,HLW.out];exact hlt);obtain⟨bq,oq,rfl,_,u1⟩:=(HSQ2.out.below hbq.out).news_ i (by rw[FFld.ints_len,FFld.valsF_len,HLP.out];exact hlt);obtain⟨be,oe,rfl,_,u2⟩:=(HSE.out.below hbq.out).news_ i (by rw[FFld.ints_len,FFld.valsF_len,HLP.out];exact hlt);rw[FFld.ints_get] at u0 u1 u2;obtain⟨z,hz⟩:∃ y,Wd[i]?.getD 0=y:=⟨_,rfl⟩;obtain⟨x,hx⟩:∃ y,(FFld.valsF D ql P np)[i]?.getD 0=y:=⟨_,rfl⟩;obtain⟨y,hy⟩:∃ y,(FFld.valsF D el P np)[i]?.getD 0=y:=⟨_,rfl⟩;rw[hz] at u0;rw[hx] at u1;rw[hy] at u2;have hzq:z<D.p ^ D.k:=by rw[<- hz];exact HWQ.out _ (FFld.get_mem (by rw[HLW.out];exact hlt))
    have hyq:y<D.p ^ D.k:=by
     rw[<- hy];have h:=vals_get (D:=D) el P (j:=i) (by rw[HLP.out];exact hlt);rw[HLP.out] at h;rw[h];exact FFld.hornF_lt HK.out _ _ _
    obtain⟨t,ht⟩:∃ t,FFld.pmul D.p D.k D.m y D.k z=t:=⟨_,rfl⟩;have HM:Kept (∀ W,Below w.heap.size w W->Calls Tryz.prog 82 #[.pointer (some ⟨b,0,none⟩), .int .i64 (y:Nat), .int .i64 (z:Nat)] W (RB W (.int .i64 (t:Nat)))):=⟨fun W hW=>by rw[<- ht];exact HMU.out W y z hW hyq hzq⟩;have HBV:=Km hbw;have i0:=belowCell hbq.out c0;have HFT:Kept (((FFld.valsF D ql P P.length)[i]?.getD 0=FFld.pmul D.p D.k D.m ((FFld.valsF D el P P.length)[i]?.getD 0) D.k (Wd[i]?.getD 0))↔x=t):=⟨by rw[HLP.out,hx,hy,hz,ht]⟩;clear hz hx hy hzq hyq ht hbw
    have hcase:((x:Int)!=(t:Int))=decide (¬ x=t):=by
     by_cases h:x=t
     ·simp[h]
     ·rw[decide_eq_true h,bne_iff_ne];omega
    go_wp2_with fail
    go_upto_region 11 with fail
    by_cases hxt:x=t
    ·have HN:Kept (fitP D P Wd ql el (i+1)=true):=⟨by rw[fitP_next,hat.out,decide_eq_true (HFT.out.2 hxt)];rfl⟩;subst hxt;have e0:((x:Int)!=(x:Int))=false:=by simp
     clear hcase
     go_region_held3 (fun w' =>w'.cell? ⟨bq,oq+i,none⟩=some (.int .i64 (x:Nat))/\w'.cell? ⟨be,oe+i,none⟩=some (.int .i64 (y:Nat))/\w'.cell? ⟨w.heap.size,0,none⟩=some (.pointer (some ⟨b,0,none⟩)))
      (first|exact⟨ja,jb,jc⟩|exact⟨u1,u2,i0⟩|go_keep)
      ((first
        |(go_at_call 82;(with_reducible refine(HM.out _ ?h1).mono ?_);(case h1=>first|exact HBV.out|exact HBV.out.drew);rintro e v5 ⟨hb5,rfl⟩;have HB6:=Km (bstep (show Below wr.heap.size wr _ from(by first|exact Below.refl _ _|exact(Below.refl _ _).drew)) hb5);have ja:=belowCell HB6.out u1;have jb:=belowCell HB6.out u2;have jc:=belowCell HB6.out i0;clear hb5)))
     have HB7:=Km (bstep hbq.out HB6.out);go_wp2;go_roundw
     case rel=>exact⟨i+1,by omega,by go_num,HN,HB7⟩
     case measure=>simp[intOf]<;>omega
    ·have HN:Kept (fitP D P Wd ql el np=false):=⟨fitP_no hlt (fun h=>hxt (HFT.out.1 h))⟩;have e0:((x:Int)!=(t:Int))=true:=by rw[hcase,decide_eq_true hxt]
     have e1:((x:Int)==(t:Int))=false:=by rw[beq_eq_false_iff_ne];omega
     clear hcase hxt
     go_region_held3 (fun w' =>w'.cell? ⟨bq,oq+i,none⟩=some (.int .i64 (x:Nat))/\w'.cell? ⟨be,oe+i,none⟩=some (.int .i64 (y:Nat))/\w'.cell? ⟨w.heap.size,0,none⟩=some (.pointer (some ⟨b,0,none⟩)))
      (first|exact⟨ja,jb,jc⟩|exact⟨u1,u2,i0⟩|go_keep)
      ((first
        |(go_at_call 82;(with_reducible refine(HM.out _ ?h1).mono ?_);(case h1=>first|exact HBV.out|exact HBV.out.drew);rintro e v5 ⟨hb5,rfl⟩;have HB6:=Km (bstep (show Below wr.heap.size wr _ from(by first|exact Below.refl _ _|exact(Below.refl _ _).drew)) hb5);have ja:=belowCell HB6.out u1;have jb:=belowCell HB6.out u2;have jc:=belowCell HB6.out i0;clear hb5)))
     have HB7:=Km (bstep HB5.out (bstep hbq.out HB6.out));go_wp2
     go_ret
     exact⟨HB7.out,by rw[HN.out];rfl⟩
   ·obtain rfl:i=np:=by omega
    have HB7:=Km (bstep HB5.out hbq.out);go_wp2
    go_ret
    exact⟨HB7.out,by rw[hat.out];rfl⟩
 )
abbrev rfabox (u v:Value):Obj:= .cells #[u,v] 58
end
end Go.Proofs.YtdnheaafcbihbaaGreat
