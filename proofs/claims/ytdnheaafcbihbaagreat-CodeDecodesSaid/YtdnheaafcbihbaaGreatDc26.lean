/-
  Texts of the proof, merged by program: Lh3 Cdc Neu Cen.
-/
import Derived.Test.YtdnheaafcbihbaaGreatDc25
set_option linter.unusedSimpArgs false
set_option linter.unusedVariables false
set_option maxHeartbeats 16000000
namespace Go.Proofs.YtdnheaafcbihbaaGreat
open Go Go.RowKit Go.Deep
open FFld (ints)
theorem dif_nodup {L:List Nat}(h:L.Nodup):difB (ints L) L.length=true:=by
 unfold difB;rw[List.all_eq_true];intro i hi;unfold difAt;rw[List.all_eq_true];intro j hj;rw[List.mem_range] at hi hj;refine decide_eq_true fun e=> ?_
 rw[FFld.ints_get,FFld.ints_get] at e;exact nodup_get h hj hi (Int.ofNat.inj e)
structure TaAt (w:World)(o k:Int)(ao:Option Addr)(n cap g q:Nat)(pv:Value)(L:List Nat)(kk:Int)(W:World):Prop where
 bel:Below w.heap.size w W
 b0:W.heap[w.heap.size]? =some (rcdbox o ao n cap k)
 b1:W.heap[w.heap.size+1]? =some (rcdbox 0 none 0 0 0)
 bg:W.heap[g]? =some (.cells #[.int .i64 q,pv, .int .i64 kk] 24)
 mn:Mine 3 .i64 (g+1) W pv (ints L)
 lg:w.heap.size+1<g
section
variable {w : World} {o k : Int} {ao : Option Addr} {n cap g q : Nat} {pv : Value} {L : List Nat} {kk : Int} {W W' : World}
theorem TaAt.below (h:TaAt w o k ao n cap g q pv L kk W)(hb:Below W.heap.size W W'):TaAt w o k ao n cap g q pv L kk W' :=
 ⟨h.bel.trans (hb.mono h.bel.size),(hb.block _ (Array.getElem?_eq_some_iff.1 h.b0).1).trans h.b0,(hb.block _ (Array.getElem?_eq_some_iff.1 h.b1).1).trans h.b1,(hb.block _ (Array.getElem?_eq_some_iff.1 h.bg).1).trans h.bg,h.mn.below hb,h.lg⟩
theorem TaAt.push {v' :Value}{L' :List Nat}(h:TaAt w o k ao n cap g q pv L kk W)(hm:Mine 3 .i64 (g+1) W' v' (ints L'))(hg:W.grownBy W' pv.ownBlock):TaAt w o k ao n cap g q v' L' kk (W'.setCell ⟨g,1,none⟩ v'):=by
 have hl:=h.lg;have hgs:=(Array.getElem?_eq_some_iff.1 h.bg).1;have hne:∀ j,j<=g->some j≠pv.ownBlock:=fun j hj e=>by have:=(h.mn.own j e.symm).1;omega
 have hbx:∀ j,j<=g->W'.heap[j]? =W.heap[j]? :=fun j hj=>hg.block j (by omega) (hne j hj)
 have hot:∀ j,j<g->(W'.setCell ⟨g,1,none⟩ v').heap[j]? =W'.heap[j]? :=fun j hj=>heap_setCell_other W' ⟨g,1,none⟩ j v' (by simp;omega)
 refine⟨?_,(hot _ (by omega)).trans ((hbx _ (by omega)).trans h.b0),(hot _ (by omega)).trans ((hbx _ (by omega)).trans h.b1),?_,?_,hl⟩
 ·exact(h.bel.grown hg h.bel.size (fun j hj=>by have:=(h.mn.own j hj).1;omega)).setCell (p:=⟨g,1,none⟩) (by simp;omega) _
 ·have:=heap_setCell_same W' g 1 _ _ v' ((hbx g (Nat.le_refl _)).trans h.bg)
  simpa using this
 ·exact Mine.setOther hm (by omega)
theorem TaAt.dim (h:TaAt w o k ao n cap g q pv L kk W)(x:Int):TaAt w o k ao n cap g q pv L x (W.setCell ⟨g,2,none⟩ (.int .i64 x)):=by
 have hl:=h.lg;have hot:∀ j,j<g->(W.setCell ⟨g,2,none⟩ (.int .i64 x)).heap[j]? =W.heap[j]? :=fun j hj=>heap_setCell_other W ⟨g,2,none⟩ j _ (by simp;omega)
 refine⟨?_,(hot _ (by omega)).trans h.b0,(hot _ (by omega)).trans h.b1,?_,?_,hl⟩
 ·exact h.bel.setCell (p:=⟨g,2,none⟩) (by simp;omega) _
 ·have:=heap_setCell_same W g 2 _ _ (.int .i64 x) h.bg
  simpa using this
 ·exact Mine.setOther h.mn (by omega)
end
theorem TaAt.fin {w:World}{o k:Int}{ao:Option Addr}{n cap g q:Nat}{pv:Value}{L:List Nat}{kk:Int}{W:World}(h:TaAt w o k ao n cap g q pv L kk W)(a b c:Value):
 Below w.heap.size w (((W.setCell ⟨w.heap.size+1,0,none⟩ a).setCell ⟨w.heap.size+1,1,none⟩ b).setCell ⟨w.heap.size+1,2,none⟩ c)/\(((W.setCell ⟨w.heap.size+1,0,none⟩ a).setCell ⟨w.heap.size+1,1,none⟩ b).setCell ⟨w.heap.size+1,2,none⟩ c).heap[w.heap.size+1]? =some (.cells #[a,b,c] 24)/\Sl .i64 (((W.setCell ⟨w.heap.size+1,0,none⟩ a).setCell ⟨w.heap.size+1,1,none⟩ b).setCell ⟨w.heap.size+1,2,none⟩ c) pv (ints L):=by
 have hg:W.grownBy (((W.setCell ⟨w.heap.size+1,0,none⟩ a).setCell ⟨w.heap.size+1,1,none⟩ b).setCell ⟨w.heap.size+1,2,none⟩ c) (some (w.heap.size+1)):=growSet (growSet (growSet (growRefl _ _) _ _) _ _) _ _;refine⟨belowGrow hg h.bel (by omega),three_set h.b1 a b c,h.mn.sl.kept hg (fun j hj e=> ?_)⟩;have h1:=(h.mn.own j (live_own hj)).1;have h2:=h.lg
 cases e
 omega
theorem tcodeV {D:FFld.FD}(hD:D.Ok){L:List Nat}{m k:Nat}(hl:L.length=m)(hm:m<=64)(hn:L.Nodup)(hq:∀ a∈L,a<D.p ^ D.k)(k1:1<=k)(km:k<=m):CodeV D L m k:=CodeV.of hD hl hm k1 km hq (by rw[<- hl];exact dif_nodup hn)
def TaRet (most:Nat)(w:World)(e:Ending)(w' :World):Prop:=Below w.heap.size w w' /\ ∃ (D:FFld.FD) (va:Option Addr) (m vc k:Nat) (xs:List Nat),D.Ok/\D.q<=300/\CodeV D xs m k/\(m<=most\/m<=2)/\e= .returned (cdv D.q va m vc k)/\Sl .i64 w' (.slice va m vc) (ints xs)
set_option maxRecDepth 20000 in
theorem tame_any (o k:Int)(ao:Option Addr)(n cap most:Nat)(ys:List Int)(w:World)(hl:ys.length=n)(hs:Sl .i64 w (.slice ao n cap) ys)(hi:I64s ys)(o0: -9223372036854775808<=o)(o1:o<=9223372036854775807)(k0: -9223372036854775808<=k)(k1:k<=9223372036854775807)(hmost:most<=64):
 Calls Tryz.prog 30 #[cdv o ao n cap k, .int .i64 most] w (TaRet most w):=by
 have HX0:Kept (Bxs w [rcdbox o ao n cap k,rcdbox 0 none 0 0 0] ((w.alloc (rcdbox o ao n cap k)).alloc (rcdbox 0 none 0 0 0))):=⟨((Bxs.start w).alloc (by simp) _).alloc (by simp) _⟩;have HOR:=Km (fun W=>order3_any o 300 W o0 o1);have HSL:=Km hs;have HLN:=Km hl;have HBD:=Km hi
 have hcap:n<=cap/\cap<=9223372036854775807:=by
  obtain⟨_,_,e,h1,h2,_⟩:=hs;simp only[Value.slice.injEq] at e;obtain⟨_,rfl,rfl⟩:=e;unfold maxLen at h2;omega
 obtain⟨hcap1,hcap2⟩:=hcap;clear hs hl hi o0 o1
 go_enter Tryz.func30,Tryz.ntmps30
 obtain⟨c0,c1,c2,_⟩:=three_cells HX0.out.b0;go_wp2_with fail;(with_reducible refine(HOR.out _).mono ?_);rintro e w1 ⟨hb1,D,hD,hq0,rfl⟩;obtain⟨q,hq⟩:∃ q,D.q=q:=⟨_,rfl⟩;have hq3:q<=300:=by omega
 have hq1:1<=q:=by rw[<- hq];exact Nat.le_of_lt hD.pre.pk.one_lt
 have HDQ:Kept (D.Ok/\D.q=q):=⟨⟨hD,hq⟩⟩;rw[hq];have hx1:=HX0.out.below hb1;have hs2:=hx1.2.1;have HT0:Kept (TaAt w o k ao n cap w1.heap.size q (.slice none 0 0) [] 0 (w1.alloc (.cells #[.int .i64 q, .slice none 0 0, .int .i64 0] 24))):=⟨⟨(hx1.below ((Below.refl _ _).alloc (Nat.le_refl _) _)).1,(hx1.below ((Below.refl _ _).alloc (Nat.le_refl _) _)).b0,(hx1.below ((Below.refl _ _).alloc (Nat.le_refl _) _)).b1,heap_alloc_new w1 _,Mine.nil _ _ _ _,by simp at hs2;omega⟩⟩;have eq1:IntKind.u64.wrap (q:Int)=q:=by rw[IntKind.wrap_u64];omega
 have eq0: ¬ ((q:Int)=0):=by omega
 have eq2: ¬ (q=0):=by omega
 clear hb1 hD hq hq0 hx1 hs2 c0 c1 c2 HX0 HOR;go_wp2;obtain⟨g,hg⟩:∃ x,w1.heap.size=x:=⟨_,rfl⟩;rw[hg] at HT0
 try rw[hg]
 clear hg
 go_loopw [6] (fun iv wr=> ∃ (i c:Nat) (pv:Value) (L:List Nat),i<=n/\iv= .int .i64 i/\L.length=c/\c<=most/\Kept (L.Nodup/\ ∀ a∈L,a<q)/\Kept (TaAt w o k ao n cap g q pv L 0 wr)) (fun iv _=>n-(intOf iv).toNat)
 case atStart=>exact⟨0,0,_,[],Nat.zero_le _,rfl,rfl,Nat.zero_le _,⟨⟨List.nodup_nil,fun a ha=>by cases ha⟩⟩,HT0⟩
 case round=>
  clear HT0;obtain⟨i,c,pv,L,hin,rfl,hlc,hcm,hnd,htm⟩:=hrel;obtain⟨pa,pc,rfl,hpc,hpm⟩:=htm.out.mn.sl.form;rw[FFld.ints_len,hlc] at htm hpc
  try rw[FFld.ints_len,hlc]
  obtain⟨c0,c1,c2,_⟩:=three_cells htm.out.b0;obtain⟨d0,d1,d2,f0,f1,f2⟩:=three_cells htm.out.bg;have hbl:=htm.out.bel
  by_cases hlt:i<n
  ·by_cases hcl:c<most
   ·obtain⟨b,ob,rfl,hb,hcell⟩:=HSL.out.news_ i (by rw[HLN.out];exact hlt);obtain⟨a,ha⟩:∃ a,ys[i]?.getD 0=a:=⟨_,rfl⟩
    have hab: -9223372036854775808<=a/\a<=9223372036854775807:=by
     rw[<- ha,List.getElem?_eq_getElem (by rw[HLN.out];exact hlt)];exact HBD.out _ (List.getElem_mem _)
    obtain⟨a0,a1⟩:=hab;rw[ha] at hcell;have p0:=belowCell hbl hcell;obtain⟨U,r,hU,hr1,hr2,hrq,hr3,hUm⟩:=umod_nat q hq1 a;have ew:IntKind.i64.wrap (r:Int)=r:=wi (by omega) (by omega);have HHS:=Km (fun(W:World) (hW:Below wr.heap.size wr W)=>rhas_any (.slice pa c pc) (ints L) (r:Int) W (htm.out.mn.sl.below hW));rw[has_ints] at HHS;have HLC:=Km hlc;clear ha hcell hr3
    by_cases hm:r∈L
    ·rw[decide_eq_true hm] at HHS;clear hm;go_wp2_with fail
     go_upto_region 5 with fail
     go_region_held3 (fun w' =>w'.cell? ⟨w.heap.size,1,none⟩=some (.slice (some ⟨b,ob,none⟩) n cap)/\w'.cell? ⟨b,ob+i,none⟩=some (.int .i64 a)/\w'.cell? ⟨g,0,none⟩=some (.int .i64 q)) (first|exact⟨c1,p0,d0⟩|go_keep) (fail)
     have HDR:Kept (Below wr.heap.size wr wr.drew):=⟨(Below.refl _ _).drew⟩;have HTD:=Km (htm.out.below HDR.out);obtain⟨Wd,hWd⟩:∃ W,wr.drew=W:=⟨_,rfl⟩;rw[hWd] at HTD HDR ⊢;clear hWd c0 c1 c2 d0 d1 d2 f0 f1 f2 p0;obtain⟨c0,c1,c2,_⟩:=three_cells HTD.out.b0;obtain⟨d0,d1,d2,f0,f1,f2⟩:=three_cells HTD.out.bg;go_wp2_with fail;(with_reducible refine(HHS.out _ HDR.out).mono ?_);rintro e w3 ⟨rfl,rfl⟩;go_wp2;go_roundw
     case rel=>exact⟨i+1,c,_,L,by omega,by go_num,hlc,hcm,hnd,HTD⟩
     case measure=>simp[intOf]<;>omega
    ·rw[decide_eq_false hm] at HHS
     have HND:Kept ((L++ [r]).Nodup/\ ∀ a∈L++ [r],a<q):=⟨⟨by
      rw[List.nodup_append];refine⟨hnd.out.1,by simp,fun a ha b hb e=> ?_⟩;obtain rfl:=List.mem_singleton.1 hb
      exact hm (e ▸ ha),fun a ha=>by
      rcases List.mem_append.1 ha with h|h
      ·exact hnd.out.2 a h
      ·obtain rfl:=List.mem_singleton.1 h
       exact hrq⟩⟩
     clear hm;go_wp2_with fail
     go_upto_region 5 with fail
     go_region_held3 (fun w' =>w'.cell? ⟨w.heap.size,1,none⟩=some (.slice (some ⟨b,ob,none⟩) n cap)/\w'.cell? ⟨b,ob+i,none⟩=some (.int .i64 a)/\w'.cell? ⟨g,0,none⟩=some (.int .i64 q)) (first|exact⟨c1,p0,d0⟩|go_keep) (fail)
     have HDR:Kept (Below wr.heap.size wr wr.drew):=⟨(Below.refl _ _).drew⟩;have HTD:=Km (htm.out.below HDR.out);obtain⟨Wd,hWd⟩:∃ W,wr.drew=W:=⟨_,rfl⟩;rw[hWd] at HTD HDR ⊢;clear hWd c0 c1 c2 d0 d1 d2 f0 f1 f2 p0;obtain⟨c0,c1,c2,_⟩:=three_cells HTD.out.b0;obtain⟨d0,d1,d2,f0,f1,f2⟩:=three_cells HTD.out.bg;go_wp2_with fail;(with_reducible refine(HHS.out _ HDR.out).mono ?_);rintro e w3 ⟨rfl,rfl⟩;have hal:Below Wd.heap.size Wd (Wd.alloc (.cells #[.int .i64 (r:Nat)] 3)):=(Below.refl _ _).alloc (Nat.le_refl _) _;have HTB:=Km (HTD.out.below hal);have HM3:=Km HTB.out.mn;have HNW:=Km (new_one (K:= .i64) (x:=((r:Nat):Int)) (w:=Wd.alloc (.cells #[.int .i64 (r:Nat)] 3)) (b:=Wd.heap.size) (o:=0) (by exact(Row.new (E:=3) (K:= .i64) Wd [((r:Nat):Int)]).cell (i:=0) (by simp)));have hgs:=(Array.getElem?_eq_some_iff.1 HTD.out.bg).1;have HBB:Kept (g+1<=(Wd.alloc (.cells #[.int .i64 (r:Nat)] 3)).heap.size):=⟨by have:=hal.size;omega⟩;have H1:=Km (show((ints L).length+ [((r:Nat):Int)].length)*8<=140737488355328 by rw[FFld.ints_len,hlc];simp;omega);have H2:=Km (show(ints L).length+ [((r:Nat):Int)].length<=maxLen by rw[FFld.ints_len,hlc];unfold maxLen;simp;omega);clear hal
     go_wp2_with (at_builtin;refine wpList_append_parts _ rfl _ _ 22 (by rfl) 3 .i64 8 Tryz.underlying22 info_i64 (g+1) (.slice pa c pc) (ints L) (by rfl) HM3.out HBB.out ⟨Wd.heap.size,0,none⟩ 1 1 [((r:Nat):Int)] (by rfl) rfl HNW.out H1.out H2.out ?_)
     intro va nv vc w5 hlv hm5 hg5 hn5;have hown:=HM3.out.own;have HT5:=Km (HTB.out.push (L' :=L++ [r]) (by rw[FFld.ints_append];exact hm5) hg5);have hbox5:=(hg5.block g (Array.getElem?_eq_some_iff.1 HTB.out.bg).1 (fun e=>by have:=(hown g e.symm).1;omega)).trans HTB.out.bg;obtain⟨d0,d1,d2,f0,f1,f2⟩:=three_cells hbox5;clear hlv hm5 hg5 hn5 hown hbox5 HTB HM3;go_wp2;go_roundw
     case rel=>exact⟨i+1,c+1,_,_,by omega,by go_num,by simp[hlc],by omega,HND,HT5⟩
     case measure=>simp[intOf]<;>omega
   ·have HT:=htm;clear hbl
    by_cases hc0:c=0
    ·subst hc0;have hal:Below wr.heap.size wr (wr.alloc (.cells #[.int .i64 0, .int .i64 1] 3)):=(Below.refl _ _).alloc (Nat.le_refl _) _;have hgs:=(Array.getElem?_eq_some_iff.1 HT.out.bg).1;have HTA:=Km (HT.out.below hal);have HMN:Kept (Mine 3 .i64 (g+1) (wr.alloc (.cells #[.int .i64 0, .int .i64 1] 3)) (.slice (some ⟨wr.heap.size,0,none⟩) 2 2) (ints [0,1])):=⟨crow_mine (Row.new (E:=3) (K:= .i64) wr [0,1]) rfl (by unfold maxLen;omega) (by omega)⟩;have HT2:=Km (HT.out.push HMN.out (World.grownBy_alloc wr _ _));obtain⟨c0,c1,c2,_⟩:=three_cells HTA.out.b0;obtain⟨d0,d1,d2,f0,f1,f2⟩:=three_cells HTA.out.bg;obtain⟨W2,hW2⟩:∃ W,(wr.alloc (.cells #[.int .i64 0, .int .i64 1] 3)).setCell ⟨g,1,none⟩ (.slice (some ⟨wr.heap.size,0,none⟩) 2 2)=W:=⟨_,rfl⟩;rw[hW2] at HT2;have HLF:Kept (([0,1]:List Nat).length=2/\([0,1]:List Nat).Nodup/\ ∀ a∈([0,1]:List Nat),a<q):=⟨⟨rfl,by decide,fun a ha=>by have h2:=HDQ.out.1.pre.pk.one_lt;have h3:=HDQ.out.2;have h4:D.q=D.p ^ D.k:=rfl;rcases List.mem_cons.1 ha with rfl|ha;omega;obtain rfl:=List.mem_singleton.1 ha;omega⟩⟩;clear hal HTA HMN HT htm hnd hlc
     go_upto_region 12 with fail
     try rw[hW2]
     clear hW2 c0 c1 c2 d0 d1 d2 f0 f1 f2;have HT3:=Km (HT2.out.dim k);obtain⟨c0,c1,c2,_⟩:=three_cells HT2.out.b0;obtain⟨d0,d1,d2,f0,f1,f2⟩:=three_cells HT2.out.bg;obtain⟨W3,hW3⟩:∃ W,W2.setCell ⟨g,2,none⟩ (.int .i64 k)=W:=⟨_,rfl⟩;rw[hW3] at HT3
     go_upto_region 13 with fail
     try rw[hW3]
     clear hW3 c0 c1 c2 d0 d1 d2 f0 f1 f2 HT2;obtain⟨c0,c1,c2,_⟩:=three_cells HT3.out.b0;obtain⟨d0,d1,d2,f0,f1,f2⟩:=three_cells HT3.out.bg;obtain⟨y0,y1,y2,t0,t1,t2⟩:=three_cells HT3.out.b1
     by_cases hk1:k<1
     ·have g1:decide (k<1)=true:=decide_eq_true hk1;obtain⟨U2,r2,hU2,hs1,hs2,hrq2,_,hUm2⟩:=umod_nat 2 (by omega) k;have hs3:(U2:Int)%2=r2:=hs1;have hs4:(U2:Int).tmod 2=r2:=hs2;have ew2:IntKind.i64.wrap (r2:Int)=r2:=wi (by omega) (by omega);have eq3:IntKind.u64.wrap (2:Int)=2:=by rw[IntKind.wrap_u64];omega
      have eq4: ¬ ((2:Int)=0):=by omega
      have HCV:Kept (CodeV D [0,1] 2 (1+r2)):=⟨tcodeV HDQ.out.1 HLF.out.1 (by omega) HLF.out.2.1 (fun a ha=>by have h2:=HLF.out.2.2 a ha;have h3:=HDQ.out.2;have h4:D.q=D.p ^ D.k:=rfl;omega) (by omega) (by omega)⟩;have HT4:=Km (HT3.out.dim (1+(r2:Int)))
      go_upto_region 15 with fail
      obtain⟨W4,hW4⟩:∃ W,W3.setCell ⟨g,2,none⟩ (.int .i64 (1+(r2:Int)))=W:=⟨_,rfl⟩;rw[hW4] at HT4
      try rw[hW4]
      clear hW4 c0 c1 c2 d0 d1 d2 f0 f1 f2 y0 y1 y2 t0 t1 t2;obtain⟨d0,d1,d2,f0,f1,f2⟩:=three_cells HT4.out.bg;obtain⟨y0,y1,y2,t0,t1,t2⟩:=three_cells HT4.out.b1;obtain⟨z1,z2,z3⟩:=HT4.out.fin (.int .i64 q) (.slice (some ⟨wr.heap.size,0,none⟩) 2 2) (.int .i64 (1+(r2:Int)));have HZ1:=Km z1;have HZ2:=Km z2;have HZ3:=Km z3;clear z1 z2 z3;go_wp2;obtain⟨s0,s1,s2,_⟩:=three_cells HZ2.out;have e9:(.agg #[.int .i64 (q:Nat),(.slice (some ⟨wr.heap.size,0,none⟩) 2 2), .int .i64 (1+(r2:Int))]:Value)=cdv D.q (some ⟨wr.heap.size,0,none⟩) 2 2 ((1+r2:Nat):Int):=by rw[HDQ.out.2];rfl
      exact bodyPost_ret (v:= .agg #[.int .i64 (q:Nat),(.slice (some ⟨wr.heap.size,0,none⟩) 2 2), .int .i64 (1+(r2:Int))]) (by simp[results,Tryz.results30,go_sem,s0,s1,s2]) rfl ⟨HZ1.out,D,_,2,_,1+r2,[0,1],HDQ.out.1,by rw[HDQ.out.2];exact hq3,HCV.out,by omega,by rw[e9],HZ3.out⟩
     ·have g1:decide (k<1)=false:=decide_eq_false hk1
      by_cases hk2:(2:Int)<k
      ·have g2:decide ((2:Int)<k)=true:=decide_eq_true hk2;obtain⟨U2,r2,hU2,hs1,hs2,hrq2,_,hUm2⟩:=umod_nat 2 (by omega) k;have hs3:(U2:Int)%2=r2:=hs1;have hs4:(U2:Int).tmod 2=r2:=hs2;have ew2:IntKind.i64.wrap (r2:Int)=r2:=wi (by omega) (by omega);have eq3:IntKind.u64.wrap (2:Int)=2:=by rw[IntKind.wrap_u64];omega
       have eq4: ¬ ((2:Int)=0):=by omega
       have HCV:Kept (CodeV D [0,1] 2 (1+r2)):=⟨tcodeV HDQ.out.1 HLF.out.1 (by omega) HLF.out.2.1 (fun a ha=>by have h2:=HLF.out.2.2 a ha;have h3:=HDQ.out.2;have h4:D.q=D.p ^ D.k:=rfl;omega) (by omega) (by omega)⟩;have HT4:=Km (HT3.out.dim (1+(r2:Int)))
       go_upto_region 15 with fail
       obtain⟨W4,hW4⟩:∃ W,W3.setCell ⟨g,2,none⟩ (.int .i64 (1+(r2:Int)))=W:=⟨_,rfl⟩;rw[hW4] at HT4
       try rw[hW4]
       clear hW4 c0 c1 c2 d0 d1 d2 f0 f1 f2 y0 y1 y2 t0 t1 t2;obtain⟨d0,d1,d2,f0,f1,f2⟩:=three_cells HT4.out.bg;obtain⟨y0,y1,y2,t0,t1,t2⟩:=three_cells HT4.out.b1;obtain⟨z1,z2,z3⟩:=HT4.out.fin (.int .i64 q) (.slice (some ⟨wr.heap.size,0,none⟩) 2 2) (.int .i64 (1+(r2:Int)));have HZ1:=Km z1;have HZ2:=Km z2;have HZ3:=Km z3;clear z1 z2 z3;go_wp2;obtain⟨s0,s1,s2,_⟩:=three_cells HZ2.out;have e9:(.agg #[.int .i64 (q:Nat),(.slice (some ⟨wr.heap.size,0,none⟩) 2 2), .int .i64 (1+(r2:Int))]:Value)=cdv D.q (some ⟨wr.heap.size,0,none⟩) 2 2 ((1+r2:Nat):Int):=by rw[HDQ.out.2];rfl
       exact bodyPost_ret (v:= .agg #[.int .i64 (q:Nat),(.slice (some ⟨wr.heap.size,0,none⟩) 2 2), .int .i64 (1+(r2:Int))]) (by simp[results,Tryz.results30,go_sem,s0,s1,s2]) rfl ⟨HZ1.out,D,_,2,_,1+r2,[0,1],HDQ.out.1,by rw[HDQ.out.2];exact hq3,HCV.out,by omega,by rw[e9],HZ3.out⟩
      ·have g2:decide ((2:Int)<k)=false:=decide_eq_false hk2;obtain⟨k',rfl⟩:∃ k' :Nat,k=k' :=⟨k.toNat,by omega⟩;have HCV:Kept (CodeV D [0,1] 2 k'):=⟨tcodeV HDQ.out.1 HLF.out.1 (by omega) HLF.out.2.1 (fun a ha=>by have h2:=HLF.out.2.2 a ha;have h3:=HDQ.out.2;have h4:D.q=D.p ^ D.k:=rfl;omega) (by omega) (by omega)⟩;obtain⟨z1,z2,z3⟩:=HT3.out.fin (.int .i64 q) (.slice (some ⟨wr.heap.size,0,none⟩) 2 2) (.int .i64 (k' :Int));have HZ1:=Km z1;have HZ2:=Km z2;have HZ3:=Km z3;clear z1 z2 z3;go_wp2;obtain⟨s0,s1,s2,_⟩:=three_cells HZ2.out;have e9:(.agg #[.int .i64 (q:Nat),(.slice (some ⟨wr.heap.size,0,none⟩) 2 2), .int .i64 (k' :Int)]:Value)=cdv D.q (some ⟨wr.heap.size,0,none⟩) 2 2 k' :=by rw[HDQ.out.2]
       exact bodyPost_ret (v:= .agg #[.int .i64 (q:Nat),(.slice (some ⟨wr.heap.size,0,none⟩) 2 2), .int .i64 (k' :Int)]) (by simp[results,Tryz.results30,go_sem,s0,s1,s2]) rfl ⟨HZ1.out,D,_,2,_,k',[0,1],HDQ.out.1,by rw[HDQ.out.2];exact hq3,HCV.out,by omega,by rw[e9],HZ3.out⟩
    ·have e0:((c:Int)==0)=false:=by rw[beq_eq_false_iff_ne];omega
     have HLF:Kept (L.length=c/\L.Nodup/\ ∀ a∈L,a<q):=⟨⟨hlc,hnd.out⟩⟩;have hc1:1<=c:=by omega
     have hc64:c<=64:=by omega
     clear hlc hnd htm
     go_upto_region 12 with fail
     have HT3:=Km (HT.out.dim k);obtain⟨c0,c1,c2,_⟩:=three_cells HT.out.b0;obtain⟨d0,d1,d2,f0,f1,f2⟩:=three_cells HT.out.bg;obtain⟨W3,hW3⟩:∃ W,wr.setCell ⟨g,2,none⟩ (.int .i64 k)=W:=⟨_,rfl⟩;rw[hW3] at HT3
     go_upto_region 13 with fail
     try rw[hW3]
     clear hW3 c0 c1 c2 d0 d1 d2 f0 f1 f2 HT;obtain⟨c0,c1,c2,_⟩:=three_cells HT3.out.b0;obtain⟨d0,d1,d2,f0,f1,f2⟩:=three_cells HT3.out.bg;obtain⟨y0,y1,y2,t0,t1,t2⟩:=three_cells HT3.out.b1
     by_cases hk1:k<1
     ·have g1:decide (k<1)=true:=decide_eq_true hk1;obtain⟨U2,r2,hU2,hs1,hs2,hrq2,_,hUm2⟩:=umod_nat c (by omega) k;have ew2:IntKind.i64.wrap (r2:Int)=r2:=wi (by omega) (by omega);have eq3:IntKind.u64.wrap (c:Int)=c:=by rw[IntKind.wrap_u64];omega
      have eq4: ¬ ((c:Int)=0):=by omega
      have HCV:Kept (CodeV D L c (1+r2)):=⟨tcodeV HDQ.out.1 HLF.out.1 (by omega) HLF.out.2.1 (fun a ha=>by have h2:=HLF.out.2.2 a ha;have h3:=HDQ.out.2;have h4:D.q=D.p ^ D.k:=rfl;omega) (by omega) (by omega)⟩;have HT4:=Km (HT3.out.dim (1+(r2:Int)))
      go_upto_region 15 with fail
      obtain⟨W4,hW4⟩:∃ W,W3.setCell ⟨g,2,none⟩ (.int .i64 (1+(r2:Int)))=W:=⟨_,rfl⟩;rw[hW4] at HT4
      try rw[hW4]
      clear hW4 c0 c1 c2 d0 d1 d2 f0 f1 f2 y0 y1 y2 t0 t1 t2;obtain⟨d0,d1,d2,f0,f1,f2⟩:=three_cells HT4.out.bg;obtain⟨y0,y1,y2,t0,t1,t2⟩:=three_cells HT4.out.b1;obtain⟨z1,z2,z3⟩:=HT4.out.fin (.int .i64 q) (.slice pa c pc) (.int .i64 (1+(r2:Int)));have HZ1:=Km z1;have HZ2:=Km z2;have HZ3:=Km z3;clear z1 z2 z3;go_wp2;obtain⟨s0,s1,s2,_⟩:=three_cells HZ2.out;have e9:(.agg #[.int .i64 (q:Nat),(.slice pa c pc), .int .i64 (1+(r2:Int))]:Value)=cdv D.q pa c pc ((1+r2:Nat):Int):=by rw[HDQ.out.2];rfl
      exact bodyPost_ret (v:= .agg #[.int .i64 (q:Nat),(.slice pa c pc), .int .i64 (1+(r2:Int))]) (by simp[results,Tryz.results30,go_sem,s0,s1,s2]) rfl ⟨HZ1.out,D,_,c,_,1+r2,L,HDQ.out.1,by rw[HDQ.out.2];exact hq3,HCV.out,by omega,by rw[e9],HZ3.out⟩
     ·have g1:decide (k<1)=false:=decide_eq_false hk1
      by_cases hk2:(c:Int)<k
      ·have g2:decide ((c:Int)<k)=true:=decide_eq_true hk2;obtain⟨U2,r2,hU2,hs1,hs2,hrq2,_,hUm2⟩:=umod_nat c (by omega) k;have ew2:IntKind.i64.wrap (r2:Int)=r2:=wi (by omega) (by omega);have eq3:IntKind.u64.wrap (c:Int)=c:=by rw[IntKind.wrap_u64];omega
       have eq4: ¬ ((c:Int)=0):=by omega
       have HCV:Kept (CodeV D L c (1+r2)):=⟨tcodeV HDQ.out.1 HLF.out.1 (by omega) HLF.out.2.1 (fun a ha=>by have h2:=HLF.out.2.2 a ha;have h3:=HDQ.out.2;have h4:D.q=D.p ^ D.k:=rfl;omega) (by omega) (by omega)⟩;have HT4:=Km (HT3.out.dim (1+(r2:Int)))
       go_upto_region 15 with fail
       obtain⟨W4,hW4⟩:∃ W,W3.setCell ⟨g,2,none⟩ (.int .i64 (1+(r2:Int)))=W:=⟨_,rfl⟩;rw[hW4] at HT4
       try rw[hW4]
       clear hW4 c0 c1 c2 d0 d1 d2 f0 f1 f2 y0 y1 y2 t0 t1 t2;obtain⟨d0,d1,d2,f0,f1,f2⟩:=three_cells HT4.out.bg;obtain⟨y0,y1,y2,t0,t1,t2⟩:=three_cells HT4.out.b1;obtain⟨z1,z2,z3⟩:=HT4.out.fin (.int .i64 q) (.slice pa c pc) (.int .i64 (1+(r2:Int)));have HZ1:=Km z1;have HZ2:=Km z2;have HZ3:=Km z3;clear z1 z2 z3;go_wp2;obtain⟨s0,s1,s2,_⟩:=three_cells HZ2.out;have e9:(.agg #[.int .i64 (q:Nat),(.slice pa c pc), .int .i64 (1+(r2:Int))]:Value)=cdv D.q pa c pc ((1+r2:Nat):Int):=by rw[HDQ.out.2];rfl
       exact bodyPost_ret (v:= .agg #[.int .i64 (q:Nat),(.slice pa c pc), .int .i64 (1+(r2:Int))]) (by simp[results,Tryz.results30,go_sem,s0,s1,s2]) rfl ⟨HZ1.out,D,_,c,_,1+r2,L,HDQ.out.1,by rw[HDQ.out.2];exact hq3,HCV.out,by omega,by rw[e9],HZ3.out⟩
      ·have g2:decide ((c:Int)<k)=false:=decide_eq_false hk2;obtain⟨k',rfl⟩:∃ k' :Nat,k=k' :=⟨k.toNat,by omega⟩;have HCV:Kept (CodeV D L c k'):=⟨tcodeV HDQ.out.1 HLF.out.1 (by omega) HLF.out.2.1 (fun a ha=>by have h2:=HLF.out.2.2 a ha;have h3:=HDQ.out.2;have h4:D.q=D.p ^ D.k:=rfl;omega) (by omega) (by omega)⟩;obtain⟨z1,z2,z3⟩:=HT3.out.fin (.int .i64 q) (.slice pa c pc) (.int .i64 (k' :Int));have HZ1:=Km z1;have HZ2:=Km z2;have HZ3:=Km z3;clear z1 z2 z3;go_wp2;obtain⟨s0,s1,s2,_⟩:=three_cells HZ2.out;have e9:(.agg #[.int .i64 (q:Nat),(.slice pa c pc), .int .i64 (k' :Int)]:Value)=cdv D.q pa c pc k' :=by rw[HDQ.out.2]
       exact bodyPost_ret (v:= .agg #[.int .i64 (q:Nat),(.slice pa c pc), .int .i64 (k' :Int)]) (by simp[results,Tryz.results30,go_sem,s0,s1,s2]) rfl ⟨HZ1.out,D,_,c,_,k',L,HDQ.out.1,by rw[HDQ.out.2];exact hq3,HCV.out,by omega,by rw[e9],HZ3.out⟩
  ·obtain rfl:i=n:=by omega
   have HT:=htm;clear hbl
   by_cases hc0:c=0
   ·subst hc0;have hal:Below wr.heap.size wr (wr.alloc (.cells #[.int .i64 0, .int .i64 1] 3)):=(Below.refl _ _).alloc (Nat.le_refl _) _;have hgs:=(Array.getElem?_eq_some_iff.1 HT.out.bg).1;have HTA:=Km (HT.out.below hal);have HMN:Kept (Mine 3 .i64 (g+1) (wr.alloc (.cells #[.int .i64 0, .int .i64 1] 3)) (.slice (some ⟨wr.heap.size,0,none⟩) 2 2) (ints [0,1])):=⟨crow_mine (Row.new (E:=3) (K:= .i64) wr [0,1]) rfl (by unfold maxLen;omega) (by omega)⟩;have HT2:=Km (HT.out.push HMN.out (World.grownBy_alloc wr _ _));obtain⟨c0,c1,c2,_⟩:=three_cells HTA.out.b0;obtain⟨d0,d1,d2,f0,f1,f2⟩:=three_cells HTA.out.bg;obtain⟨W2,hW2⟩:∃ W,(wr.alloc (.cells #[.int .i64 0, .int .i64 1] 3)).setCell ⟨g,1,none⟩ (.slice (some ⟨wr.heap.size,0,none⟩) 2 2)=W:=⟨_,rfl⟩;rw[hW2] at HT2;have HLF:Kept (([0,1]:List Nat).length=2/\([0,1]:List Nat).Nodup/\ ∀ a∈([0,1]:List Nat),a<q):=⟨⟨rfl,by decide,fun a ha=>by have h2:=HDQ.out.1.pre.pk.one_lt;have h3:=HDQ.out.2;have h4:D.q=D.p ^ D.k:=rfl;rcases List.mem_cons.1 ha with rfl|ha;omega;obtain rfl:=List.mem_singleton.1 ha;omega⟩⟩;clear hal HTA HMN HT htm hnd hlc
    go_upto_region 12 with fail
    try rw[hW2]
    clear hW2 c0 c1 c2 d0 d1 d2 f0 f1 f2;have HT3:=Km (HT2.out.dim k);obtain⟨c0,c1,c2,_⟩:=three_cells HT2.out.b0;obtain⟨d0,d1,d2,f0,f1,f2⟩:=three_cells HT2.out.bg;obtain⟨W3,hW3⟩:∃ W,W2.setCell ⟨g,2,none⟩ (.int .i64 k)=W:=⟨_,rfl⟩;rw[hW3] at HT3
    go_upto_region 13 with fail
    try rw[hW3]
    clear hW3 c0 c1 c2 d0 d1 d2 f0 f1 f2 HT2;obtain⟨c0,c1,c2,_⟩:=three_cells HT3.out.b0;obtain⟨d0,d1,d2,f0,f1,f2⟩:=three_cells HT3.out.bg;obtain⟨y0,y1,y2,t0,t1,t2⟩:=three_cells HT3.out.b1
    by_cases hk1:k<1
    ·have g1:decide (k<1)=true:=decide_eq_true hk1;obtain⟨U2,r2,hU2,hs1,hs2,hrq2,_,hUm2⟩:=umod_nat 2 (by omega) k;have hs3:(U2:Int)%2=r2:=hs1;have hs4:(U2:Int).tmod 2=r2:=hs2;have ew2:IntKind.i64.wrap (r2:Int)=r2:=wi (by omega) (by omega);have eq3:IntKind.u64.wrap (2:Int)=2:=by rw[IntKind.wrap_u64];omega
     have eq4: ¬ ((2:Int)=0):=by omega
     have HCV:Kept (CodeV D [0,1] 2 (1+r2)):=⟨tcodeV HDQ.out.1 HLF.out.1 (by omega) HLF.out.2.1 (fun a ha=>by have h2:=HLF.out.2.2 a ha;have h3:=HDQ.out.2;have h4:D.q=D.p ^ D.k:=rfl;omega) (by omega) (by omega)⟩;have HT4:=Km (HT3.out.dim (1+(r2:Int)))
     go_upto_region 15 with fail
     obtain⟨W4,hW4⟩:∃ W,W3.setCell ⟨g,2,none⟩ (.int .i64 (1+(r2:Int)))=W:=⟨_,rfl⟩;rw[hW4] at HT4
     try rw[hW4]
     clear hW4 c0 c1 c2 d0 d1 d2 f0 f1 f2 y0 y1 y2 t0 t1 t2;obtain⟨d0,d1,d2,f0,f1,f2⟩:=three_cells HT4.out.bg;obtain⟨y0,y1,y2,t0,t1,t2⟩:=three_cells HT4.out.b1;obtain⟨z1,z2,z3⟩:=HT4.out.fin (.int .i64 q) (.slice (some ⟨wr.heap.size,0,none⟩) 2 2) (.int .i64 (1+(r2:Int)));have HZ1:=Km z1;have HZ2:=Km z2;have HZ3:=Km z3;clear z1 z2 z3;go_wp2;obtain⟨s0,s1,s2,_⟩:=three_cells HZ2.out;have e9:(.agg #[.int .i64 (q:Nat),(.slice (some ⟨wr.heap.size,0,none⟩) 2 2), .int .i64 (1+(r2:Int))]:Value)=cdv D.q (some ⟨wr.heap.size,0,none⟩) 2 2 ((1+r2:Nat):Int):=by rw[HDQ.out.2];rfl
     exact bodyPost_ret (v:= .agg #[.int .i64 (q:Nat),(.slice (some ⟨wr.heap.size,0,none⟩) 2 2), .int .i64 (1+(r2:Int))]) (by simp[results,Tryz.results30,go_sem,s0,s1,s2]) rfl ⟨HZ1.out,D,_,2,_,1+r2,[0,1],HDQ.out.1,by rw[HDQ.out.2];exact hq3,HCV.out,by omega,by rw[e9],HZ3.out⟩
    ·have g1:decide (k<1)=false:=decide_eq_false hk1
     by_cases hk2:(2:Int)<k
     ·have g2:decide ((2:Int)<k)=true:=decide_eq_true hk2;obtain⟨U2,r2,hU2,hs1,hs2,hrq2,_,hUm2⟩:=umod_nat 2 (by omega) k;have hs3:(U2:Int)%2=r2:=hs1;have hs4:(U2:Int).tmod 2=r2:=hs2;have ew2:IntKind.i64.wrap (r2:Int)=r2:=wi (by omega) (by omega);have eq3:IntKind.u64.wrap (2:Int)=2:=by rw[IntKind.wrap_u64];omega
      have eq4: ¬ ((2:Int)=0):=by omega
      have HCV:Kept (CodeV D [0,1] 2 (1+r2)):=⟨tcodeV HDQ.out.1 HLF.out.1 (by omega) HLF.out.2.1 (fun a ha=>by have h2:=HLF.out.2.2 a ha;have h3:=HDQ.out.2;have h4:D.q=D.p ^ D.k:=rfl;omega) (by omega) (by omega)⟩;have HT4:=Km (HT3.out.dim (1+(r2:Int)))
      go_upto_region 15 with fail
      obtain⟨W4,hW4⟩:∃ W,W3.setCell ⟨g,2,none⟩ (.int .i64 (1+(r2:Int)))=W:=⟨_,rfl⟩;rw[hW4] at HT4
      try rw[hW4]
      clear hW4 c0 c1 c2 d0 d1 d2 f0 f1 f2 y0 y1 y2 t0 t1 t2;obtain⟨d0,d1,d2,f0,f1,f2⟩:=three_cells HT4.out.bg;obtain⟨y0,y1,y2,t0,t1,t2⟩:=three_cells HT4.out.b1;obtain⟨z1,z2,z3⟩:=HT4.out.fin (.int .i64 q) (.slice (some ⟨wr.heap.size,0,none⟩) 2 2) (.int .i64 (1+(r2:Int)));have HZ1:=Km z1;have HZ2:=Km z2;have HZ3:=Km z3;clear z1 z2 z3;go_wp2;obtain⟨s0,s1,s2,_⟩:=three_cells HZ2.out;have e9:(.agg #[.int .i64 (q:Nat),(.slice (some ⟨wr.heap.size,0,none⟩) 2 2), .int .i64 (1+(r2:Int))]:Value)=cdv D.q (some ⟨wr.heap.size,0,none⟩) 2 2 ((1+r2:Nat):Int):=by rw[HDQ.out.2];rfl
      exact bodyPost_ret (v:= .agg #[.int .i64 (q:Nat),(.slice (some ⟨wr.heap.size,0,none⟩) 2 2), .int .i64 (1+(r2:Int))]) (by simp[results,Tryz.results30,go_sem,s0,s1,s2]) rfl ⟨HZ1.out,D,_,2,_,1+r2,[0,1],HDQ.out.1,by rw[HDQ.out.2];exact hq3,HCV.out,by omega,by rw[e9],HZ3.out⟩
     ·have g2:decide ((2:Int)<k)=false:=decide_eq_false hk2;obtain⟨k',rfl⟩:∃ k' :Nat,k=k' :=⟨k.toNat,by omega⟩;have HCV:Kept (CodeV D [0,1] 2 k'):=⟨tcodeV HDQ.out.1 HLF.out.1 (by omega) HLF.out.2.1 (fun a ha=>by have h2:=HLF.out.2.2 a ha;have h3:=HDQ.out.2;have h4:D.q=D.p ^ D.k:=rfl;omega) (by omega) (by omega)⟩;obtain⟨z1,z2,z3⟩:=HT3.out.fin (.int .i64 q) (.slice (some ⟨wr.heap.size,0,none⟩) 2 2) (.int .i64 (k' :Int));have HZ1:=Km z1;have HZ2:=Km z2;have HZ3:=Km z3;clear z1 z2 z3;go_wp2;obtain⟨s0,s1,s2,_⟩:=three_cells HZ2.out;have e9:(.agg #[.int .i64 (q:Nat),(.slice (some ⟨wr.heap.size,0,none⟩) 2 2), .int .i64 (k' :Int)]:Value)=cdv D.q (some ⟨wr.heap.size,0,none⟩) 2 2 k' :=by rw[HDQ.out.2]
      exact bodyPost_ret (v:= .agg #[.int .i64 (q:Nat),(.slice (some ⟨wr.heap.size,0,none⟩) 2 2), .int .i64 (k' :Int)]) (by simp[results,Tryz.results30,go_sem,s0,s1,s2]) rfl ⟨HZ1.out,D,_,2,_,k',[0,1],HDQ.out.1,by rw[HDQ.out.2];exact hq3,HCV.out,by omega,by rw[e9],HZ3.out⟩
   ·have e0:((c:Int)==0)=false:=by rw[beq_eq_false_iff_ne];omega
    have HLF:Kept (L.length=c/\L.Nodup/\ ∀ a∈L,a<q):=⟨⟨hlc,hnd.out⟩⟩;have hc1:1<=c:=by omega
    have hc64:c<=64:=by omega
    clear hlc hnd htm
    go_upto_region 12 with fail
    have HT3:=Km (HT.out.dim k);obtain⟨c0,c1,c2,_⟩:=three_cells HT.out.b0;obtain⟨d0,d1,d2,f0,f1,f2⟩:=three_cells HT.out.bg;obtain⟨W3,hW3⟩:∃ W,wr.setCell ⟨g,2,none⟩ (.int .i64 k)=W:=⟨_,rfl⟩;rw[hW3] at HT3
    go_upto_region 13 with fail
    try rw[hW3]
    clear hW3 c0 c1 c2 d0 d1 d2 f0 f1 f2 HT;obtain⟨c0,c1,c2,_⟩:=three_cells HT3.out.b0;obtain⟨d0,d1,d2,f0,f1,f2⟩:=three_cells HT3.out.bg;obtain⟨y0,y1,y2,t0,t1,t2⟩:=three_cells HT3.out.b1
    by_cases hk1:k<1
    ·have g1:decide (k<1)=true:=decide_eq_true hk1;obtain⟨U2,r2,hU2,hs1,hs2,hrq2,_,hUm2⟩:=umod_nat c (by omega) k;have ew2:IntKind.i64.wrap (r2:Int)=r2:=wi (by omega) (by omega);have eq3:IntKind.u64.wrap (c:Int)=c:=by rw[IntKind.wrap_u64];omega
     have eq4: ¬ ((c:Int)=0):=by omega
     have HCV:Kept (CodeV D L c (1+r2)):=⟨tcodeV HDQ.out.1 HLF.out.1 (by omega) HLF.out.2.1 (fun a ha=>by have h2:=HLF.out.2.2 a ha;have h3:=HDQ.out.2;have h4:D.q=D.p ^ D.k:=rfl;omega) (by omega) (by omega)⟩;have HT4:=Km (HT3.out.dim (1+(r2:Int)))
     go_upto_region 15 with fail
     obtain⟨W4,hW4⟩:∃ W,W3.setCell ⟨g,2,none⟩ (.int .i64 (1+(r2:Int)))=W:=⟨_,rfl⟩;rw[hW4] at HT4
     try rw[hW4]
     clear hW4 c0 c1 c2 d0 d1 d2 f0 f1 f2 y0 y1 y2 t0 t1 t2;obtain⟨d0,d1,d2,f0,f1,f2⟩:=three_cells HT4.out.bg;obtain⟨y0,y1,y2,t0,t1,t2⟩:=three_cells HT4.out.b1;obtain⟨z1,z2,z3⟩:=HT4.out.fin (.int .i64 q) (.slice pa c pc) (.int .i64 (1+(r2:Int)));have HZ1:=Km z1;have HZ2:=Km z2;have HZ3:=Km z3;clear z1 z2 z3;go_wp2;obtain⟨s0,s1,s2,_⟩:=three_cells HZ2.out;have e9:(.agg #[.int .i64 (q:Nat),(.slice pa c pc), .int .i64 (1+(r2:Int))]:Value)=cdv D.q pa c pc ((1+r2:Nat):Int):=by rw[HDQ.out.2];rfl
     exact bodyPost_ret (v:= .agg #[.int .i64 (q:Nat),(.slice pa c pc), .int .i64 (1+(r2:Int))]) (by simp[results,Tryz.results30,go_sem,s0,s1,s2]) rfl ⟨HZ1.out,D,_,c,_,1+r2,L,HDQ.out.1,by rw[HDQ.out.2];exact hq3,HCV.out,by omega,by rw[e9],HZ3.out⟩
    ·have g1:decide (k<1)=false:=decide_eq_false hk1
     by_cases hk2:(c:Int)<k
     ·have g2:decide ((c:Int)<k)=true:=decide_eq_true hk2;obtain⟨U2,r2,hU2,hs1,hs2,hrq2,_,hUm2⟩:=umod_nat c (by omega) k;have ew2:IntKind.i64.wrap (r2:Int)=r2:=wi (by omega) (by omega);have eq3:IntKind.u64.wrap (c:Int)=c:=by rw[IntKind.wrap_u64];omega
      have eq4: ¬ ((c:Int)=0):=by omega
      have HCV:Kept (CodeV D L c (1+r2)):=⟨tcodeV HDQ.out.1 HLF.out.1 (by omega) HLF.out.2.1 (fun a ha=>by have h2:=HLF.out.2.2 a ha;have h3:=HDQ.out.2;have h4:D.q=D.p ^ D.k:=rfl;omega) (by omega) (by omega)⟩;have HT4:=Km (HT3.out.dim (1+(r2:Int)))
      go_upto_region 15 with fail
      obtain⟨W4,hW4⟩:∃ W,W3.setCell ⟨g,2,none⟩ (.int .i64 (1+(r2:Int)))=W:=⟨_,rfl⟩;rw[hW4] at HT4
      try rw[hW4]
      clear hW4 c0 c1 c2 d0 d1 d2 f0 f1 f2 y0 y1 y2 t0 t1 t2;obtain⟨d0,d1,d2,f0,f1,f2⟩:=three_cells HT4.out.bg;obtain⟨y0,y1,y2,t0,t1,t2⟩:=three_cells HT4.out.b1;obtain⟨z1,z2,z3⟩:=HT4.out.fin (.int .i64 q) (.slice pa c pc) (.int .i64 (1+(r2:Int)));have HZ1:=Km z1;have HZ2:=Km z2;have HZ3:=Km z3;clear z1 z2 z3;go_wp2;obtain⟨s0,s1,s2,_⟩:=three_cells HZ2.out;have e9:(.agg #[.int .i64 (q:Nat),(.slice pa c pc), .int .i64 (1+(r2:Int))]:Value)=cdv D.q pa c pc ((1+r2:Nat):Int):=by rw[HDQ.out.2];rfl
      exact bodyPost_ret (v:= .agg #[.int .i64 (q:Nat),(.slice pa c pc), .int .i64 (1+(r2:Int))]) (by simp[results,Tryz.results30,go_sem,s0,s1,s2]) rfl ⟨HZ1.out,D,_,c,_,1+r2,L,HDQ.out.1,by rw[HDQ.out.2];exact hq3,HCV.out,by omega,by rw[e9],HZ3.out⟩
     ·have g2:decide ((c:Int)<k)=false:=decide_eq_false hk2;obtain⟨k',rfl⟩:∃ k' :Nat,k=k' :=⟨k.toNat,by omega⟩;have HCV:Kept (CodeV D L c k'):=⟨tcodeV HDQ.out.1 HLF.out.1 (by omega) HLF.out.2.1 (fun a ha=>by have h2:=HLF.out.2.2 a ha;have h3:=HDQ.out.2;have h4:D.q=D.p ^ D.k:=rfl;omega) (by omega) (by omega)⟩;obtain⟨z1,z2,z3⟩:=HT3.out.fin (.int .i64 q) (.slice pa c pc) (.int .i64 (k' :Int));have HZ1:=Km z1;have HZ2:=Km z2;have HZ3:=Km z3;clear z1 z2 z3;go_wp2;obtain⟨s0,s1,s2,_⟩:=three_cells HZ2.out;have e9:(.agg #[.int .i64 (q:Nat),(.slice pa c pc), .int .i64 (k' :Int)]:Value)=cdv D.q pa c pc k' :=by rw[HDQ.out.2]
      exact bodyPost_ret (v:= .agg #[.int .i64 (q:Nat),(.slice pa c pc), .int .i64 (k' :Int)]) (by simp[results,Tryz.results30,go_sem,s0,s1,s2]) rfl ⟨HZ1.out,D,_,c,_,k',L,HDQ.out.1,by rw[HDQ.out.2];exact hq3,HCV.out,by omega,by rw[e9],HZ3.out⟩
def GaRet2 {D:FFld.FD}(hD:D.Ok)(xs ys:List Nat)(n rad:Nat)(w:World)(e:Ending)(w' :World):Prop:=Below w.heap.size w w' /\ ∃ (aq:Option Addr) (cq:Nat) (av:Option Addr) (cv nQ nE:Nat) (Q E bf el:List Nat),e= .returned (.agg #[.slice aq nQ cq, .slice av nE cv])/\Q.length=nQ/\E.length=nE/\Sl .i64 w' (.slice aq nQ cq) (ints Q)/\Sl .i64 w' (.slice av nE cv) (ints E)/\FFld.GaoOk hD xs ys n bf Q el E/\Q.length+rad<=n/\n<bf.length+rad
theorem GaRet.two {D:FFld.FD}{hD:D.Ok}{xs ys:List Nat}{n rad:Nat}{w:World}{e:Ending}{w' :World}(h:GaRet hD xs ys n rad w e w'):GaRet2 hD xs ys n rad w e w' :=by
 obtain⟨hb,vq,ve,Q,E,bf,el,rfl,h1,h2,h3,h4,h5⟩:=h;obtain⟨aq,cq,rfl,_,_⟩:=h1.form;obtain⟨av,cv,rfl,_,_⟩:=h2.form;exact⟨hb,aq,cq,av,cv,_,_,Q,E,bf,el,rfl,(FFld.ints_len Q).symm,(FFld.ints_len E).symm,h1,h2,h3,h4,h5⟩
theorem good_of {D:FFld.FD}{xs ys Qu Rs:List Nat}{k rad:Nat}(h:goodB D xs ys Qu Rs k rad=true):Good D xs ys Qu Rs k rad:=Classical.byContradiction fun hn=>by
 rw[good_no hn] at h
 cases h
theorem good_not {D:FFld.FD}{xs ys Qu Rs:List Nat}{k rad:Nat}(h:goodB D xs ys Qu Rs k rad=false): ¬ Good D xs ys Qu Rs k rad:=fun hg=>by
 rw[good_yes hg] at h
 cases h
def NqRet (D:FFld.FD)(P W:List Nat)(k t:Nat)(w:World)(e:Ending)(w' :World):Prop:=Below w.heap.size w w' /\ ∃ (v:Value) (bb:Bool),e= .returned (.tuple #[v, .bool bb])/\(bb=true-> ∃ Po,Near D P W k t Po/\Sl .i64 w' v (ints Po))/\(bb=false-> ∀ Po,¬ Near D P W k t Po)
def DcRet (D:FFld.FD)(P W X:List Nat)(k t:Nat)(w:World)(e:Ending)(w' :World):Prop:=Below w.heap.size w w' /\((∃ Po v,Near D P W k t Po/\e= .returned (.tuple #[v, .int .i64 0])/\Sl .i64 w' v (ints (FFld.valsF D Po X X.length)))\/((∀ Po,¬ Near D P W k t Po)/\e= .returned (.tuple #[nilv, .int .i64 30])))
def DcOwn (D:FFld.FD)(P W X:List Nat)(k t:Nat)(w:World)(e:Ending)(w' :World):Prop:=Below w.heap.size w w' /\((∃ Po v,Near D P W k t Po/\e= .returned (.tuple #[v, .int .i64 0])/\Mine 3 .i64 w.heap.size w' v (ints (FFld.valsF D Po X X.length)))\/((∀ Po,¬ Near D P W k t Po)/\e= .returned (.tuple #[nilv, .int .i64 30])))
set_option maxRecDepth 20000 in
theorem cdecode_own {D:FFld.FD}(hD:D.Ok)(ax aw ae:Option Addr)(cx cw ce n m k:Nat)(xs ws:List Nat)(es:List Int)(w:World)(hx:Sl .i64 w (.slice ax n cx) (ints xs))(hw:Sl .i64 w (.slice aw n cw) (ints ws))(he:Sl .i64 w (.slice ae m ce) es)(hc:CodeV D xs n k)(lw:ws.length=n)(le:es.length=m)(hwq:∀ a∈ws,a<D.p ^ D.k)(hkm:m+k<=n)(hb:belB n es=true)(hd:difB es m=true):
 Calls Tryz.prog 25 #[cdv D.q ax n cx k, .slice aw n cw, .slice ae m ce] w (DcOwn D (kpL es n xs) (kpL es n ws) xs k ((n-m-k)/2) w):=by
 have HX0:Kept (Bxs w [cdbox D.q ax n cx k] (w.alloc (cdbox D.q ax n cx k))):=⟨(Bxs.start w).alloc (by simp) _⟩;have hRC:∀ W,Below w.heap.size w W->Calls Tryz.prog 90 #[cdv D.q ax n cx k, .slice aw n cw, .slice ae m ce] W (ReRet hD k ((n-m-k)/2) (kpL es n xs) (kpL es n ws) W):=fun W hW=>creceive_ok hD ax aw ae cx cw ce n m k xs ws es W (hx.below hW) (hw.below hW) (he.below hW) hc.len lw le hc.lt hwq hc.chk hc.k1 hkm hc.n64 hb hd
 have hkl:=kp_len hb hd le;have hPl:=kpL_len es n xs;have hWl:=kpL_len es n ws;have hPq:=kpL_lt (es:=es) hc.len hc.lt;have hWq:=kpL_lt (es:=es) lw hwq;have hPd:=kpL_dif (es:=es) hc.dif;obtain⟨P,hP⟩:∃ l,kpL es n xs=l:=⟨_,rfl⟩;obtain⟨Wd,hWd⟩:∃ l,kpL es n ws=l:=⟨_,rfl⟩;obtain⟨np,hnp⟩:∃ l,(kpF es n).length=l:=⟨_,rfl⟩;obtain⟨rad,hrad⟩:∃ r,(n-m-k)/2=r:=⟨_,rfl⟩;rw[hP,hWd,hrad] at hRC;rw[hP,hWd,hrad];rw[hP] at hPl hPq hPd;rw[hWd] at hWl hWq;rw[hnp] at hkl hPl hWl
 try rw[hnp]
 rw[hPl] at hPd;have hr1:2*rad+k<=np:=by omega
 have h64:=hc.n64;have hk1:=hc.k1;have hlx:=hc.len;have hxq:=hc.lt;have HRC:=Km hRC;have HPL:=Km hPl;have HWL:=Km hWl;have HPA:Kept (∀ W b pa ea pc ec,FldB D W b->Sl .i64 W (.slice pa np pc) (ints P)->Sl .i64 W (.slice ea np ec) (ints Wd)->Calls Tryz.prog 92 #[rcv b (.slice pa np pc) (.slice ea np ec) k rad] W (GaRet2 hD P Wd np rad W)):=⟨fun W b pa ea pc ec hf hp hq=>(cpair_any hD pa ea pc ec k rad np P Wd W hf hp hq hPl hWl hPq hWq hPd (by omega) (by omega) (by omega)).mono fun e w' h=>GaRet.two h⟩
 have HQU:Kept (∀ W b pa ea pc ec aq cq av cv nQ nE Q E bf el,FldB D W b->Sl .i64 W (.slice pa np pc) (ints P)->Sl .i64 W (.slice ea np ec) (ints Wd)->Sl .i64 W (.slice aq nQ cq) (ints Q)->Sl .i64 W (.slice av nE cv) (ints E)->Q.length=nQ->E.length=nE->FFld.GaoOk hD P Wd np bf Q el E->Q.length+rad<=np->np<bf.length+rad->Calls Tryz.prog 91 #[rcv b (.slice pa np pc) (.slice ea np ec) k rad, .agg #[.slice aq nQ cq, .slice av nE cv]] W (NqRet D P Wd k rad W)):=⟨fun W b pa ea pc ec aq cq av cv nQ nE Q E bf el hf hp hq hQ hE lQ lE g h1 h2=>by
  subst lQ lE;have g1:=g.len;have g2:=g.up;have h:=cquot_any hD pa ea aq av pc ec cq cv k rad np P Wd Q E W hf hp hq hPl hWl hPq hWq (by omega) (by omega) (by omega) hQ hE g.nlt g.elt g.tn g.te (by omega) (by omega) (by omega)
  exact h.mono fun e w' ⟨hb,v,he,hv⟩=>⟨hb,v,_,he,fun hg=>⟨_,good_near hD g (good_of hg),hv (good_of hg)⟩,fun hg Po hN=>good_not hg (near_good hD g hPl hPq hPd h1 h2 hr1 hN)⟩⟩
 have HVA:Kept (∀ W,Below w.heap.size w W-> ∀ b ap cp nP Po,FldB D W b->(∀ a∈Po,a<D.p ^ D.k)->Po.length<=64->Po.length=nP->Sl .i64 W (.slice ap nP cp) (ints Po)->Calls Tryz.prog 87 #[.pointer (some ⟨b,0,none⟩), .slice ax n cx, .slice ap nP cp] W (fun e w' =>Below W.heap.size W w' /\ ∃ v,e= .returned v/\Mine 3 .i64 w.heap.size w' v (ints (FFld.valsF D Po xs xs.length)))):=⟨fun W hW b ap cp nP Po hf hq h64 hnP hs=>by
  subst hnP;have h:=cvalues_any hD ax ap cx cp xs Po W hf (by rw[hlx];exact hx.below hW) hs hxq hq (by omega) (by omega);rw[hlx] at h ⊢
  exact h.mono fun e w' ⟨hb,he,hw⟩=>⟨hb,_,he,hw.mine hW.size (by rw[FFld.valsF_len,hlx]) (by unfold maxLen;omega)⟩⟩
 clear hx hw he lw le hwq hb hd hRC hPl hWl hPq hWq hPd hP hWd hnp hrad hlx hxq hc
 go_enter Tryz.func25,Tryz.ntmps25
 obtain⟨c0,c1,c2,_⟩:=three_cells HX0.out.b0;have hbx:=HX0.out.1;go_wp2_with fail;(with_reducible refine(HRC.out _ hbx).mono ?_);rintro e w1 ⟨hb1,b,pv,ev,rfl,hf,hp,hev⟩;obtain⟨pa,pc,rfl,_,_⟩:=hp.form;obtain⟨ea,ec,rfl,_,_⟩:=hev.form;rw[FFld.ints_len,HPL.out] at hp;rw[FFld.ints_len,HWL.out] at hev;rw[FFld.ints_len,FFld.ints_len,HPL.out,HWL.out];have HX1:=Km (HX0.out.below hb1);have hal:Below w1.heap.size w1 (w1.alloc (rcbox b (.slice pa np pc) (.slice ea np ec) k rad)):=(Below.refl _ _).alloc (Nat.le_refl _) _;have hbox:=heap_alloc_new w1 (rcbox b (.slice pa np pc) (.slice ea np ec) k rad);obtain⟨W2,hW2⟩:∃ W,w1.alloc (rcbox b (.slice pa np pc) (.slice ea np ec) k rad)=W:=⟨_,rfl⟩;rw[hW2] at hal hbox;have HX2:=Km (HX1.out.below hal);have HF2:=Km (hf.below hal);have HP2:=Km (hp.below hal);have HE2:=Km (hev.below hal);clear hb1 c0 c1 c2 HRC HX1 hal hf hp hev hbx;obtain⟨c0,c1,c2,_⟩:=three_cells HX2.out.b0;obtain⟨j0,j1,j2,j3,j4⟩:=five_cells_ hbox;go_wp2_with fail
 try rw[hW2]
 obtain⟨g,hg⟩:∃ x,w1.heap.size=x:=⟨_,rfl⟩
 try rw[hg]
 rw[hg] at j0 j1 j2 j3 j4 hbox;clear hW2 hg
 go_upto_region 4 with fail
 go_region_held3 (fun w' =>w'.cell? ⟨g,0,none⟩=some (.pointer (some ⟨b,0,none⟩))/\w'.cell? ⟨g,1,none⟩=some (.slice pa np pc)/\w'.cell? ⟨g,2,none⟩=some (.slice ea np ec)/\w'.cell? ⟨g,3,none⟩=some (.int .i64 k)/\w'.cell? ⟨g,4,none⟩=some (.int .i64 rad))
  (first|exact⟨l0,l1,l2,l3,l4⟩|exact⟨k0,k1,k2,k3,k4⟩|exact⟨j0,j1,j2,j3,j4⟩|go_keep)
  ((first
    |(go_at_call 92;(with_reducible refine(HPA.out _ _ _ _ _ _ ?h1 ?h2 ?h3).mono ?_);(case h1=>first|exact HF2.out|exact HF2.out.below (Below.refl _ _).drew);(case h2=>first|exact HP2.out|exact HP2.out.below (Below.refl _ _).drew);(case h3=>first|exact HE2.out|exact HE2.out.below (Below.refl _ _).drew);rintro e v1 ⟨hb3,aq,cq,av,cv,nQ,nE,Q,E,bf,el,rfl,lQ,lE,hsQ,hsE,hga,hl1,hl2⟩;have HB3:=Km (bstep (show Below W2.heap.size W2 _ from(by first|exact Below.refl _ _|exact(Below.refl _ _).drew)) hb3);have k0:=belowCell HB3.out j0;have k1:=belowCell HB3.out j1;have k2:=belowCell HB3.out j2;have k3:=belowCell HB3.out j3;have k4:=belowCell HB3.out j4;have HLQ:=Km lQ;have HLE:=Km lE;have HSQ:=Km hsQ;have HSE:=Km hsE;have HGA:=Km hga;have HL1:=Km hl1;have HL2:=Km hl2;clear hb3 lQ lE hsQ hsE hga hl1 hl2)
    |(go_at_call 91;(with_reducible refine(HQU.out _ _ _ _ _ _ _ _ _ _ _ _ Q E bf el ?h1 ?h2 ?h3 ?h4 ?h5 HLQ.out HLE.out HGA.out HL1.out HL2.out).mono ?_);(case h1=>first|exact HF2.out.below HB3.out|exact HF2.out.below HB3.out.drew);(case h2=>first|exact HP2.out.below HB3.out|exact HP2.out.below HB3.out.drew);(case h3=>first|exact HE2.out.below HB3.out|exact HE2.out.below HB3.out.drew);(case h4=>first|exact HSQ.out|exact HSQ.out.below (Below.refl _ _).drew);(case h5=>first|exact HSE.out|exact HSE.out.below (Below.refl _ _).drew);rintro e v2 ⟨hb4,vv,bb,rfl,hyes,hno⟩;have HB4:=Km (bstep (show Below W2.heap.size W2 _ from(by first|exact HB3.out|exact HB3.out.drew)) hb4);have l0:=belowCell HB4.out j0;have l1:=belowCell HB4.out j1;have l2:=belowCell HB4.out j2;have l3:=belowCell HB4.out j3;have l4:=belowCell HB4.out j4;have HYES:=Km hyes;have HNO:=Km hno;clear hb4 hyes hno)))
 have HX4:=Km (HX2.out.below HB4.out);have HF4:=Km (HF2.out.below HB4.out);clear HB3 HSQ HSE HGA HL1 HL2 HLQ HLE HPA HQU HP2 HE2 HF2 HX2 c0 c1 c2 k0 k1 k2 k3 k4 j0 j1 j2 j3 j4;obtain⟨c0,c1,c2,_⟩:=three_cells HX4.out.b0
 cases bb with
 | false=>
   have HN:=Km (HNO.out rfl);clear HYES HNO;go_wp2;exact bodyPost_ret (v:= .tuple #[nilv, .int .i64 30]) (by simp[results,Tryz.results25,go_sem]) rfl ⟨HX4.out.1, .inr ⟨HN.out,rfl⟩⟩
 | true=>
   obtain⟨Po,hN,hsl⟩:=HYES.out rfl;obtain⟨ap,cp,rfl,_,_⟩:=hsl.form;obtain⟨nP,hnP⟩:∃ x,Po.length=x:=⟨_,rfl⟩;rw[FFld.ints_len,hnP] at hsl;rw[FFld.ints_len,hnP];have HN:=Km hN;have HSL:=Km hsl;have HNP:=Km hnP;have hk6:Po.length<=64:=by have:=hN.len;omega
   have HK6:=Km hk6;have hbx:=HX4.out.1;clear HYES HNO hN hsl hnP hk6;go_wp2_with fail;(with_reducible refine(HVA.out _ hbx _ _ _ _ Po HF4.out HN.out.lt HK6.out HNP.out HSL.out).mono ?_);rintro e w5 ⟨hb5,v5,rfl,hs5⟩;have HB5:=Km (bstep hbx hb5);have HS5:=Km hs5;clear hb5 hs5;go_wp2;exact bodyPost_ret (v:= .tuple #[v5, .int .i64 0]) (by simp[results,Tryz.results25,go_sem]) rfl ⟨HB5.out, .inl ⟨Po,v5,HN.out,rfl,HS5.out⟩⟩
theorem cdecode_any {D:FFld.FD}(hD:D.Ok)(ax aw ae:Option Addr)(cx cw ce n m k:Nat)(xs ws:List Nat)(es:List Int)(w:World)(hx:Sl .i64 w (.slice ax n cx) (ints xs))(hw:Sl .i64 w (.slice aw n cw) (ints ws))(he:Sl .i64 w (.slice ae m ce) es)(hc:CodeV D xs n k)(lw:ws.length=n)(le:es.length=m)(hwq:∀ a∈ws,a<D.p ^ D.k)(hkm:m+k<=n)(hb:belB n es=true)(hd:difB es m=true):
 Calls Tryz.prog 25 #[cdv D.q ax n cx k, .slice aw n cw, .slice ae m ce] w (DcRet D (kpL es n xs) (kpL es n ws) xs k ((n-m-k)/2) w):=(cdecode_own hD ax aw ae cx cw ce n m k xs ws es w hx hw he hc lw le hwq hkm hb hd).mono fun e w' h=>by
 obtain⟨hb,⟨Po,v,h1,h2,h3⟩|h4⟩:=h
 ·exact⟨hb, .inl ⟨Po,v,h1,h2,h3.sl⟩⟩
 ·exact⟨hb, .inr h4⟩
theorem two_len (a b c:List Int):∀ n,n<=((List.range n).filter fun j:Nat=>decide (a[j]?.getD 0=c[j]?.getD 0)&&decide (b[j]?.getD 0=c[j]?.getD 0)).length+disF a c n+disF b c n
 |0=>Nat.zero_le _
 | n +1=>by
   have ih:=two_len a b c n;rw[List.range_succ,List.filter_append,List.filter_cons,List.filter_nil,disF,disF,List.length_append]
   by_cases h:a[n]?.getD 0=c[n]?.getD 0
   ·by_cases h' :b[n]?.getD 0=c[n]?.getD 0
    ·rw[if_pos (by rw[decide_eq_true h,decide_eq_true h'];rfl),if_pos h,if_pos h'];simp only[List.length_cons,List.length_nil];omega
    ·rw[if_neg (by rw[decide_eq_false h'];simp),if_pos h,if_neg h'];simp only[List.length_nil];omega
   ·rw[if_neg (by rw[decide_eq_false h];simp),if_neg h];simp only[List.length_nil]
    split<;>omega
theorem nodup_map_on {α β:Type}(f:α->β):∀ (L:List α),L.Nodup->(∀ a∈L,∀ b∈L,a≠b->f a≠f b)->(L.map f).Nodup
 | [],_,_=>List.nodup_nil
 | a::L,hn,hf=>by
   obtain⟨h1,h2⟩:=List.nodup_cons.1 hn;rw[List.map_cons,List.nodup_cons];refine⟨fun hm=> ?_,nodup_map_on f L h2 fun x hx y hy=>hf x (List.mem_cons_of_mem _ hx) y (List.mem_cons_of_mem _ hy)⟩;obtain⟨b,hb,e⟩:=List.mem_map.1 hm;exact hf a (List.mem_cons_self ..) b (List.mem_cons_of_mem _ hb) (fun hab=>h1 (hab ▸ hb)) e.symm
theorem near_uniq {D:FFld.FD}(hD:D.Ok){xs ys P P' :List Nat}{n k t:Nat}(lx:xs.length=n)(hx:∀ a∈xs,a<D.p ^ D.k)(hd:∀ i j,j<i->i<n->xs[i]?.getD 0≠xs[j]?.getD 0)(hk:2*t+k<=n)(h:Near D xs ys k t P)(h' :Near D xs ys k t P'):P=P' :=by
 have h1:=two_len (ints (FFld.valsF D P xs xs.length)) (ints (FFld.valsF D P' xs xs.length)) (ints ys) n;have h2:=h.dis;have h3:=h'.dis;rw[lx] at h1 h2 h3;obtain⟨G,hG⟩:∃ G,((List.range n).filter fun j:Nat=>decide ((ints (FFld.valsF D P xs n))[j]?.getD 0=(ints ys)[j]?.getD 0)&&decide ((ints (FFld.valsF D P' xs n))[j]?.getD 0=(ints ys)[j]?.getD 0))=G:=⟨_,rfl⟩
 have hGm:∀ j∈G,j<n/\(ints (FFld.valsF D P xs n))[j]?.getD 0=(ints ys)[j]?.getD 0/\(ints (FFld.valsF D P' xs n))[j]?.getD 0=(ints ys)[j]?.getD 0:=fun j hj=>by
  rw[<- hG] at hj;obtain⟨h4,h5⟩:=List.mem_filter.1 hj;rw[Bool.and_eq_true] at h5;exact⟨List.mem_range.1 h4,of_decide_eq_true h5.1,of_decide_eq_true h5.2⟩
 have hGn:G.Nodup:=by rw[<- hG];exact List.Pairwise.filter _ List.nodup_range
 rw[hG] at h1;have h6:=h.len;have h7:=h'.len;refine FFld.interp hD (n:=G.length) h.lt h'.lt h.tz h'.tz (by omega) (by omega) (G.map (FFld.plE hD xs)) (nodup_map_on _ G hGn fun a ha b hb hab e=> ?_) (by simp) fun r hr=> ?_
 ·have ha' :=(hGm a ha).1;have hb' :=(hGm b hb).1;have e' :=FFld.toE_inj hD.pre.pk (FFld.at_lt hD hx a) (FFld.at_lt hD hx b) e
  rcases Nat.lt_or_gt_of_ne hab with h8|h8
  ·exact hd b a h8 hb' e'.symm
  ·exact hd a b h8 ha' e'
 ·obtain⟨j,hj,rfl⟩:=List.mem_map.1 hr;obtain⟨h8,h9,h10⟩:=hGm j hj;have e1:=vals_ev hD h.lt h.tz hx (j:=j) (by rw[lx];exact h8);have e2:=vals_ev hD h'.lt h'.tz hx (j:=j) (by rw[lx];exact h8);rw[<- e1,<- e2,lx];rw[FFld.ints_get,FFld.ints_get] at h9 h10;rw[Int.ofNat.inj h9,Int.ofNat.inj h10]
theorem vals_map {D:FFld.FD}(P X:List Nat):FFld.valsF D P X X.length=X.map fun x=>FFld.hornF D (FFld.trm P) x (FFld.trm P).length:=by
 refine List.ext_getElem (by rw[FFld.valsF_len,List.length_map]) fun j h1 h2=> ?_
 have h3:j<X.length:=by rw[List.length_map] at h2;exact h2
 have h4:=vals_get (D:=D) P X h3;rw[List.getElem?_eq_getElem h1,List.getElem?_eq_getElem h3] at h4;rw[List.getElem_map];exact h4
theorem vals_kp {D:FFld.FD}(P:List Nat)(es:List Int){xs:List Nat}{n:Nat}(lx:xs.length=n):FFld.valsF D P (kpL es n xs) (kpL es n xs).length=kpL es n (FFld.valsF D P xs n):=by
 rw[vals_map];unfold kpL;rw[List.map_map];refine List.map_congr_left fun j hj=> ?_
 have h:=vals_get (D:=D) P xs (j:=j) (by rw[lx];exact kp_lt hj);rw[lx] at h;exact h.symm
def EnRet (D:FFld.FD)(xs ms:List Nat)(n:Nat)(w:World)(e:Ending)(w' :World):Prop:=Below w.heap.size w w' /\ ∃ (wa:Option Addr) (wc:Nat),e= .returned (.tuple #[.slice wa n wc, .int .i64 0])/\Sl .i64 w' (.slice wa n wc) (ints (FFld.valsF D ms xs n))
end Go.Proofs.YtdnheaafcbihbaaGreat
