/-
  Texts of the proof, merged by program: Rcx.
-/
import Derived.Test.YtdnheaafcbihbaaGreatDc24
import Derived.WalkMore
set_option linter.unusedSimpArgs false
set_option linter.unusedVariables false
set_option maxHeartbeats 16000000
namespace Go.Proofs.YtdnheaafcbihbaaGreat
open Go Go.RowKit Go.Deep
open FFld (ints)
theorem Sl.news_ {w:World}{ao:Option Addr}{n cap:Nat}{xs:List Int}(h:Sl .i64 w (.slice ao n cap) xs)(i:Nat)(hi:i<xs.length):∃ b o,ao=some ⟨b,o,none⟩/\b<w.heap.size/\w.cell? ⟨b,o+i,none⟩=some (.int .i64 (xs[i]?.getD 0)):=by
 obtain⟨ao',cap',e,hc,hm,hx⟩:=h;simp only[Value.slice.injEq] at e;obtain⟨rfl,_,_⟩:=e;exact hx i hi
theorem kpF_le (es:List Int)(i:Nat):(kpF es i).length<=i:=by
 unfold kpF;exact Nat.le_trans (List.length_filter_le _ _) (by simp)
theorem FldB.res5 {D:FFld.FD}{W W' :World}{b g:Nat}(h:FldB D W b)(hz:W.heap[g]? =some rczb)(hg:W.grownBy W' (some g)):FldB D W' b:=by
 obtain⟨h,ar,ms,ml,h1,h2,h3,h4⟩:=h
 have hbg:b≠g:=fun e=>by
  subst e;rw[hz] at h1;have:=congrArg (fun o:Option Obj=>match o with|some (.cells a _ _)=>a.size|_=>0) h1;simp at this
 refine⟨h,ar,ms,ml,(hg.block _ (Array.getElem?_eq_some_iff.1 h1).1 (by simpa using hbg)).trans h1,?_,?_,h4⟩
 ·rcases h2 with hv|⟨k2,gP,gL,q1,q,P,L,e,r1,r2,rest⟩
  ·exact .inl hv
  ·have ty:∀ x xs,Row 252 .u16 W x xs->x≠g:=fun x xs hr e=>by
    subst e;unfold Row at hr;rw[hz] at hr;have:=congrArg (fun o:Option Obj=>match o with|some (.cells _ t _)=>t|_=>0) hr;have h9:(119:TypeId)=252:=this;exact absurd h9 (by decide)
   exact .inr ⟨k2,gP,gL,q1,q,P,L,e,r1.grown hg (ty _ _ r1),r2.grown hg (ty _ _ r2),rest⟩
 ·refine h3.kept hg (fun k hk e=> ?_)
  cases e
  obtain⟨ao,cap,rfl,hc,hm,hx⟩:=h3
  by_cases hl:ml= []
  ·subst hl
   cases ao<;>simp[live,ints] at hk
  ·have hpos:0<ml.length:=List.length_pos_iff.2 hl;obtain⟨b',o,rfl,hb',hcell⟩:=hx (ml.length-1) (by rw[FFld.ints_len];omega);have hk' :=live_own hk;simp[Value.ownBlock] at hk';subst hk';rw[FFld.ints_get,cell_of_row W b' _ _ _ (0,0) hz] at hcell
   have hlast:ml[ml.length-1]?.getD 0≠0:=fun e=>h4.nz (by
    rw[List.getLast?_eq_getElem?,List.getElem?_eq_getElem (by omega)];rw[List.getElem?_eq_getElem (by omega)] at e
    simpa using e)
   generalize ml[ml.length-1]?.getD 0=z at hcell hlast;generalize o+(ml.length-1)=n at hcell;have:n=0\/n=1\/n=2\/n=3\/n=4\/5<=n:=by omega
   rcases this with rfl|rfl|rfl|rfl|rfl|h4
   ·simp at hcell
   ·simp at hcell
   ·simp at hcell
   ·simp at hcell;omega
   ·simp at hcell;omega
   ·rw[Array.getElem?_eq_none (by simpa using h4)] at hcell
    cases hcell
def ReRet {D:FFld.FD}(hD:D.Ok)(k rad:Nat)(P W:List Nat)(w:World)(e:Ending)(w' :World):Prop:=Below w.heap.size w w' /\ ∃ (b:Nat) (pv ev:Value),e= .returned (.tuple #[rcv b pv ev k rad, .int .i64 0])/\FldB D w' b/\Sl .i64 w' pv (ints P)/\Sl .i64 w' ev (ints W)
set_option maxRecDepth 20000 in
theorem creceive_ok {D:FFld.FD}(hD:D.Ok)(ax aw ae:Option Addr)(cx cw ce n m k:Nat)(xs ws:List Nat)(es:List Int)(w:World)(hx:Sl .i64 w (.slice ax n cx) (ints xs))(hw:Sl .i64 w (.slice aw n cw) (ints ws))(he:Sl .i64 w (.slice ae m ce) es)(lx:xs.length=n)(lw:ws.length=n)(le:es.length=m)(hxq:∀ a∈xs,a<D.p ^ D.k)(hwq:∀ a∈ws,a<D.p ^ D.k)(hchk:chkE D.q (ints xs) k=0)(hk1:1<=k)(hkm:m+k<=n)(hn:n<=64)(hb:belB n es=true)(hd:difB es m=true):
 Calls Tryz.prog 90 #[cdv D.q ax n cx k, .slice aw n cw, .slice ae m ce] w (ReRet hD k ((n-m-k)/2) ((kpF es n).map fun j=>xs[j]?.getD 0) ((kpF es n).map fun j=>ws[j]?.getD 0) w):=by
 have hq6:D.p ^ D.k<=65536:=hD.pre.small;have hq0:D.q=D.p ^ D.k:=rfl;have HX0:Kept (Bxs w [cdbox D.q ax n cx k,rczb] ((w.alloc (cdbox D.q ax n cx k)).alloc rczb)):=⟨((Bxs.start w).alloc (by simp) _).alloc (by simp) _⟩
 have HCK:Kept (∀ W,Below w.heap.size w W->Calls Tryz.prog 21 #[cdv D.q ax n cx k] W (RB W (.int .i64 0))):=⟨fun W hW=>by
  have h:=ccheck_any (D.q:Int) k ax cx (ints xs) W (by rw[FFld.ints_len,lx];exact hx.below hW) (by omega) (by omega) (by omega) (by omega);rw[hchk,FFld.ints_len,lx] at h
  exact h⟩
 have HB1:Kept (∀ W,Below w.heap.size w W->Calls Tryz.prog 85 #[.int .i64 D.q, .slice aw n cw] W (fun e w' =>W=w' /\e= .returned (.bool true))):=⟨fun W hW=>by
  have h:=careBelow_any (D.q:Int) _ (ints ws) W (hw.below hW);rw[bel_ints hwq] at h
  exact h⟩
 have HB2:Kept (∀ W,Below w.heap.size w W->Calls Tryz.prog 85 #[.int .i64 n, .slice ae m ce] W (fun e w' =>W=w' /\e= .returned (.bool true))):=⟨fun W hW=>by
  have h:=careBelow_any (n:Int) _ es W (he.below hW);rw[hb] at h
  exact h⟩
 have HD1:Kept (∀ W,Below w.heap.size w W->Calls Tryz.prog 86 #[.slice ae m ce] W (fun e w' =>W=w' /\e= .returned (.bool true))):=⟨fun W hW=>by
  have h:=careDifferent_any _ es W (he.below hW);rw[le,hd] at h
  exact h⟩
 have HNW:=Km (fun W=>fnew_any (D.q:Int) W (by omega) (by omega));have HD:=Km hD;have HXS:=Km hx;have HWS:=Km hw;have HES:=Km he;have HLX:=Km lx;have HLW:=Km lw;have HLE:=Km le;obtain⟨q,hq⟩:∃ q,D.q=q:=⟨_,rfl⟩;have HQ:=Km hq;rw[hq] at HX0 HCK HB1 HNW ⊢;obtain⟨rad,hrad⟩:∃ r,(n-m-k)/2=r:=⟨_,rfl⟩;have er1:(n:Int)-(m:Int)-(k:Int)=((n-m-k:Nat):Int):=by omega
 have er2:((n-m-k:Nat):Int).tdiv 2=rad:=by rw[Int.tdiv_eq_ediv_of_nonneg (by omega)];omega
 have er3:(n:Int)-(k:Int)=((n-k:Nat):Int):=by omega
 have er4:(n:Int)-(m:Int)=((n-m:Nat):Int):=by omega
 have er5:((n-m:Nat):Int)-(k:Int)=((n-m-k:Nat):Int):=by omega
 have er6:((n-m-k:Nat):Int)/2=rad:=by omega
 have g1:((n:Int)!=(n:Int))=false:=by simp
 have g2:decide (((n-k:Nat):Int)<(m:Int))=false:=decide_eq_false (by omega);rw[hrad];have hq6' :q<=65536:=by omega
 clear hx hw he lx lw le hxq hwq hchk hb hd hq hq0 hrad
 go_enter Tryz.func90,Tryz.ntmps90
 obtain⟨c0,c1,c2,_⟩:=three_cells HX0.out.b0;go_wp2_with fail
 go_step3
 go_wp2_with fail;have hbx:=HX0.out.1;(with_reducible refine(HCK.out _ hbx).mono ?_);rintro e w1 ⟨hb1,rfl⟩;have HX1:=Km (HX0.out.below hb1);clear hb1 c0 c1 c2 HCK hbx;have hbx:=HX1.out.1;obtain⟨c0,c1,c2,_⟩:=three_cells HX1.out.b0;go_wp2_with fail;(with_reducible refine(HB1.out _ hbx).mono ?_);rintro e w2 ⟨rfl,rfl⟩;go_wp2_with fail;(with_reducible refine(HB2.out _ hbx).mono ?_);rintro e w2 ⟨rfl,rfl⟩;go_wp2_with fail;(with_reducible refine(HD1.out _ hbx).mono ?_);rintro e w2 ⟨rfl,rfl⟩;go_wp2_with fail;(with_reducible refine(HNW.out _).mono ?_);rintro e w2 ⟨hb2,⟨D',b,hq',hle,rfl,hf⟩|⟨hno,rfl⟩⟩
 ·obtain rfl:D' =D:=FFld.FD.uniq hf.ok HD.out (by have:=HQ.out;omega);have HX2:=Km (HX1.out.below hb2);have HF2:=Km hf;clear hb2 hf hq' hle hbx HB1 HB2 HD1 HNW c0 c1 c2;obtain⟨c0,c1,c2,_⟩:=three_cells HX2.out.b0;have hal:Below w2.heap.size w2 (w2.alloc (rcbox b nilv nilv k rad)):=(Below.refl _ _).alloc (Nat.le_refl _) _;have HRC:Kept (RcAt b (w2.heap.size+1) w2.heap.size k rad nilv nilv ((kpF es 0).map fun j=>xs[j]?.getD 0) ((kpF es 0).map fun j=>ws[j]?.getD 0) (w2.alloc (rcbox b nilv nilv k rad))):=⟨⟨heap_alloc_new w2 _,Mine.nil _ _ _ _,Mine.nil _ _ _ _,fun j hj=>(by simp[Value.ownBlock] at hj),by omega⟩⟩;have HX3:=Km (HX2.out.below hal);have HBL:=Km hal;clear hal;go_wp2;obtain⟨g,hg⟩:∃ x,w2.heap.size=x:=⟨_,rfl⟩;have hgw:w.heap.size+1<g:=by have:=HX2.out.2.1;simp at this;omega
  obtain⟨W3,hW3⟩:∃ W,w2.alloc (rcbox b nilv nilv k rad)=W:=⟨_,rfl⟩;rw[hW3] at HRC HX3 HBL
  try rw[hW3]
  have HG2:=Km hg;rw[hg] at HRC HBL
  try rw[hg]
  clear hW3 hg c0 c1 c2 HX3
  go_step3
  go_wp2
  go_loopw [79] (fun iv wr=> ∃ (i:Nat) (pv ev:Value),i<=n/\iv= .int .i64 i/\Kept (RcAt b (g+1) g k rad pv ev ((kpF es i).map fun j=>xs[j]?.getD 0) ((kpF es i).map fun j=>ws[j]?.getD 0) wr)/\Kept (Below g w2 wr)) (fun iv _=>n-(intOf iv).toNat)
  case atStart=>exact⟨0,_,_,Nat.zero_le _,rfl,HRC,HBL⟩
  case round=>
   clear HRC HBL;obtain⟨i,pv,ev,hin,rfl,hrc,hb2⟩:=hrel;have hbx:=Km (HX2.out.below (show Below w2.heap.size w2 wr by rw[HG2.out];exact hb2.out));have hbl:=hbx.out.1
   by_cases hlt:i<n
   ·obtain⟨aw',cw',e,hcw,hmw,hxw⟩:=HWS.out.below hbl;simp only[Value.slice.injEq] at e;obtain⟨rfl,e2,rfl⟩:=e;clear e2;obtain⟨bw,ow,rfl,hbw,hcell⟩:=hxw i (by rw[FFld.ints_len,HLW.out];exact hlt);rw[FFld.ints_get] at hcell;rw[FFld.ints_len,HLW.out] at hcw;obtain⟨wv,hwv⟩:∃ x,ws[i]?.getD 0=x:=⟨_,rfl⟩;rw[hwv] at hcell;have HWV:=Km hwv;unfold maxLen at hmw;obtain⟨ae',ce',e,hce,hme,hxe⟩:=HES.out.below hbl;simp only[Value.slice.injEq] at e;obtain⟨rfl,e2,rfl⟩:=e;clear e2 hwv hxw;rw[HLE.out] at hce;have HXE:=Km hxe;unfold maxLen at hme;clear hxe;go_wp2
    go_loopw [86] (fun jv wv' => ∃ (j:Nat),j<=m/\jv= .int .i64 j/\Kept (∀ a,a<j->es[a]?.getD 0≠(i:Int))/\wr=wv') (fun jv _=>m-(intOf jv).toNat)
    case atStart=>exact⟨0,Nat.zero_le _,rfl,⟨fun a ha=>absurd ha (Nat.not_lt_zero _)⟩,rfl⟩
    case round=>
     obtain⟨j,hjm,rfl,hall,rfl⟩:=hrel
     by_cases hj:j<m
     ·obtain⟨be,oe,rfl,hbe,hce2⟩:=HXE.out j (by rw[HLE.out];exact hj);obtain⟨ev2,hev⟩:∃ x,es[j]?.getD 0=x:=⟨_,rfl⟩;rw[hev] at hce2;have HEV:=Km hev;clear hev
      by_cases heq:ev2=(i:Int)
      ·have e0:(ev2==(i:Int))=true:=beq_iff_eq.2 heq
       have HK:Kept (kpF es (i+1)=kpF es i):=⟨by
        rw[kpF_next,if_neg];intro hc;rw[List.all_eq_true] at hc;have:=hc (es[j]?.getD 0) (FFld.get_mem (by rw[HLE.out];exact hj));rw[HEV.out] at this
        simp[heq] at this⟩
       go_wp2;go_roundw
       case rel=>exact⟨i+1,pv,ev,by omega,by go_num,by rw[HK.out];exact hrc,hb2⟩
       case measure=>simp[intOf]<;>omega
      ·have e0:(ev2==(i:Int))=false:=beq_eq_false_iff_ne.2 heq
       have HA:Kept (∀ a,a<j+1->es[a]?.getD 0≠(i:Int)):=⟨fun a ha=>by
        by_cases e:a=j
        ·rw[e,HEV.out];exact heq
        ·exact hall.out a (by omega)⟩
       go_wp2;go_roundw
       case rel=>exact⟨j+1,by omega,by go_num,HA,trivial⟩
       case measure=>simp[intOf]<;>omega
     ·obtain rfl:j=m:=by omega
      have HK:Kept (kpF es (i+1)=kpF es i++ [i]):=⟨by
       rw[kpF_next,if_pos];rw[List.all_eq_true];intro x hx;obtain⟨a,ha,rfl⟩:=List.getElem_of_mem hx;have:=hall.out a (by rw[<- HLE.out];exact ha);rw[List.getElem?_eq_getElem ha] at this
       exact decide_eq_true this⟩
      obtain⟨c0,c1,c2,_⟩:=three_cells hbx.out.b0;obtain⟨ax',cx',e,hcx,hmx,hxp⟩:=HXS.out.below hbl;simp only[Value.slice.injEq] at e;obtain⟨rfl,e2,rfl⟩:=e;clear e2;obtain⟨bx,ox,rfl,hbx0,hpc⟩:=(HXS.out.news_ i (by rw[FFld.ints_len,HLX.out];exact hlt));rw[FFld.ints_get] at hpc;rw[FFld.ints_len,HLX.out] at hcx;obtain⟨x,hxv⟩:∃ y,xs[i]?.getD 0=y:=⟨_,rfl⟩;rw[hxv] at hpc;have HXV:=Km hxv;have p0:=belowCell hbl hpc;unfold maxLen at hmx;obtain⟨pa,pc,rfl,_,_⟩:=hrc.out.pm.sl.form;obtain⟨np,hnp⟩:∃ y,(ints ((kpF es i).map fun j=>xs[j]?.getD 0)).length=y:=⟨_,rfl⟩;have HNP:=Km hnp;have hnp64:np<=64:=by rw[<- hnp,FFld.ints_len,List.length_map];have:=kpF_le es i;omega
      rw[hnp] at hrc
      try rw[hnp]
      obtain⟨ea,ec,rfl,_,_⟩:=hrc.out.em.sl.form;obtain⟨ne,hne⟩:∃ y,(ints ((kpF es i).map fun j=>ws[j]?.getD 0)).length=y:=⟨_,rfl⟩;have HNE:=Km hne;have hne64:ne<=64:=by rw[<- hne,FFld.ints_len,List.length_map];have:=kpF_le es i;omega
      rw[hne] at hrc
      try rw[hne]
      clear hne;have hgl:=hrc.out.gB;have hsz:=hbl.size;have hgs:g<wr.heap.size:=(Array.getElem?_eq_some_iff.1 hrc.out.box).1;have hal:Below wr.heap.size wr ((wr.alloc (.cells #[.int .i64 (x:Nat)] 3)).drew):=((Below.refl _ _).alloc (Nat.le_refl _) _).drew;have HRA:=Km (hrc.out.below hal);have HBA:=Km (hb2.out.trans (hal.mono (Nat.le_of_lt hgs)));have HNW:Kept (∀ j u,([((x:Nat):Int)].map (Value.int .i64))[j]? =some u->((wr.alloc (.cells #[.int .i64 (x:Nat)] 3)).drew).cell? ((⟨wr.heap.size,0,none⟩:Addr).add j)=some u):=⟨new_one (K:= .i64) (x:=((x:Nat):Int)) (b:=wr.heap.size) (o:=0) (by exact(Row.new (E:=3) (K:= .i64) wr [((x:Nat):Int)]).cell (i:=0) (by simp))⟩;have HBB:Kept (g+1<=((wr.alloc (.cells #[.int .i64 (x:Nat)] 3)).drew).heap.size):=⟨by have:=hal.size;omega⟩;have H1:=Km (show((ints ((kpF es i).map fun j=>xs[j]?.getD 0)).length+ [((x:Nat):Int)].length)*8<=140737488355328 by rw[HNP.out];simp;omega);have H2:=Km (show(ints ((kpF es i).map fun j=>xs[j]?.getD 0)).length+ [((x:Nat):Int)].length<=maxLen by rw[HNP.out];unfold maxLen;simp;omega);have HMA:=Km HRA.out.pm;have a1:=belowCell hal c1;have a2:=belowCell hal p0;obtain⟨u0,u1,u2,u3,u4⟩:=five_cells_ hrc.out.box;have u1a:=belowCell hal u1;clear hnp hpc hxp hxv hcell
      go_upto_region 19 with fail
      refine wp_region_held_drew (S:=fun w' =>w'.cell? ⟨w.heap.size,1,none⟩=some (.slice (some ⟨bx,ox,none⟩) n cx)/\w'.cell? ⟨bx,ox+i,none⟩=some (.int .i64 (x:Nat))) (by kernel_rfl) ⟨c1,p0⟩ (fun hHeld=> ?_);refine wpAnyH_take (i:=0) (v:= ?_) rfl (by kernel_rfl) (by kernel_rfl) (by kernel_rfl) (fun _ _ _ h=>h) (Or.inl ⟨by rfl,?_⟩) (by assumption) ?_;rotate_left
      ·(intro w hSw;(try dsimp only at hSw);go_simp;(try with_reducible rfl))
      try simp only[Act.put,sA]
      refine wpAnyH_take (i:=2) (v:= ?_) rfl (by kernel_rfl) (by kernel_rfl) (by kernel_rfl) (fun _ _ _ h=>h) (Or.inl ⟨by rfl,?_⟩) (by assumption) ?_;rotate_left
      ·(intro w hSw;(try dsimp only at hSw);go_simp;(try with_reducible rfl))
      try simp only[Act.put,sA]
      refine wpAnyH_take (i:=3) (v:= ?_) rfl (by kernel_rfl) (by kernel_rfl) (by kernel_rfl) (fun _ _ _ h=>h) (Or.inl ⟨by rfl,?_⟩) (by assumption) ?_;rotate_left
      ·(intro w hSw;(try dsimp only at hSw);go_simp;(try with_reducible rfl))
      try simp only[Act.put,sA]
      refine wpAnyH_take (i:=4) (v:= ?_) rfl (by kernel_rfl) (by kernel_rfl) (by kernel_rfl) (fun _ _ _ h=>h) (Or.inl ⟨by rfl,?_⟩) (by assumption) ?_;rotate_left
      ·(intro w hSw;(try dsimp only at hSw);go_simp;(try with_reducible rfl))
      try simp only[Act.put,sA]
      refine wpAnyH_take (i:=5) (v:= ?_) rfl (by kernel_rfl) (by kernel_rfl) (by kernel_rfl) (fun _ _ _ h=>h) (Or.inl ⟨by rfl,?_⟩) (by assumption) ?_;rotate_left
      ·(intro w hSw;(try dsimp only at hSw);go_simp;(try with_reducible rfl))
      try simp only[Act.put,sA]
      refine wpAnyH_take (i:=6) (v:= ?_) rfl (by kernel_rfl) (by kernel_rfl) (by kernel_rfl) (fun _ _ _ h=>h) (Or.inl ⟨by rfl,?_⟩) (by assumption) ?_;rotate_left
      ·(intro w hSw;(try dsimp only at hSw);go_simp;(try with_reducible rfl))
      try simp only[Act.put,sA]
      refine wpAnyH_ready (rs:= [1,7]) (by kernel_rfl) (by simp) ?_;refine AllReadyH.cons rfl (fun K hK=> ?_) (AllReadyH.cons rfl (fun K hK=> ?_) AllReadyH.nil)
      ·go_simp
       refine hK.out _ _ ⟨c1,p0⟩ (fun hHeld=> ?_);clear hK K
       try simp only[Act.put,sA]
       refine wpAnyH_ready (rs:= [7]) (by kernel_rfl) (by simp) ?_;refine(AllReadyH.cons rfl (fun K hK=> ?_) AllReadyH.nil)
       go_simp
       refine hK.out _ _ ⟨a1,a2⟩ (fun hHeld=> ?_);clear hK K
       try simp only[Act.put,sA]
       obtain⟨W5,hW5⟩:∃ W,(wr.alloc (.cells #[.int .i64 (x:Nat)] 3)).drew=W:=⟨_,rfl⟩;rw[hW5] at hal HRA HBA HNW HBB HMA a1 a2 u1a ⊢;clear hW5;refine wpAnyH_ready (rs:= [8]) (by kernel_rfl) (by simp) ?_;refine(AllReadyH.cons rfl (fun K hK=> ?_) AllReadyH.nil);simp only[Act.put,sA];rw[if_pos (by simp[Region.wanted])];refine wp_append_parts _ _ _ 22 (by rfl) 3 .i64 8 Tryz.underlying22 info_i64 (g+1) (.slice pa np pc) (ints ((kpF es i).map fun j=>xs[j]?.getD 0)) (by rfl) HMA.out HBB.out ⟨wr.heap.size,0,none⟩ 1 1 [((x:Nat):Int)] (by rfl) (by rfl) HNW.out H1.out H2.out ?_;intro va nv vc w5 hlv hm5 hg5 hn5;have hown:=HMA.out.own;have HRC:=Km (HRA.out.point (x:=x) (by rw[FFld.ints_append];exact hm5) hg5 hn5);have HLV:=Km hlv;have b1:=hg5.cell (a:=⟨w.heap.size,1,none⟩) a1 (fun e=>by have:=(hown w.heap.size e.symm).1;omega);have b2:=hg5.cell (a:=⟨bx,ox+i,none⟩) a2 (fun e=>by have:=(hown bx e.symm).1;omega);have hbox5:=(hg5.block g (Array.getElem?_eq_some_iff.1 HRA.out.box).1 (fun e=>by have:=(hown g e.symm).1;omega)).trans HRA.out.box;obtain⟨v0,v1,v2,v3,v4⟩:=five_cells_ hbox5;obtain⟨f0,f1,f2,f3,f4⟩:=five_free hbox5;have HB5:=Km (HBA.out.grown hg5 (by have:=HBB.out;omega) (fun j hj=>by have:=(hown j hj).1;omega));clear hlv hm5 hg5 hn5 hown hbox5;refine hK.out _ _ ⟨b1,b2⟩ (fun hHeld=> ?_);clear hK K
       try simp only[Act.put,sA]
       refine wpAnyH_take (i:=9) (v:= ?_) rfl (by kernel_rfl) (by kernel_rfl) (by kernel_rfl) (fun _ _ _ h=>h) (Or.inl ⟨by rfl,?_⟩) (by assumption) ?_;rotate_left
       ·(intro w hSw;(try dsimp only at hSw);go_simp;(try with_reducible rfl))
       try simp only[Act.put,sA]
       refine wpAnyH_ready (rs:= [10]) (by kernel_rfl) (by simp) ?_;refine(AllReadyH.cons rfl (fun K hK=> ?_) AllReadyH.nil)
       go_simp
       have d1:=(World.cell?_of_block (heap_setCell_other w5 ⟨g,1,none⟩ w.heap.size (.slice va nv vc) (by simp;omega))).trans b1;have d2:=(World.cell?_of_block (heap_setCell_other w5 ⟨g,1,none⟩ bx (.slice va nv vc) (by simp;omega))).trans b2;refine hK.out _ _ ⟨d1,d2⟩ (fun hHeld=> ?_);clear hK K
       try simp only[Act.put,sA]
       refine wpAnyH_done (by kernel_rfl) ?_ _;have HB6:=Km (HB5.out.setCell (p:=⟨g,1,none⟩) (by simp) (.slice va nv vc));obtain⟨W6,hW6⟩:∃ W,w5.setCell ⟨g,1,none⟩ (.slice va nv vc)=W:=⟨_,rfl⟩;rw[hW6] at HRC HB6 ⊢;clear hW6 d1 d2 b1 b2 v0 v1 v2 v3 v4 f0 f1 f2 f3 f4 HB5 HRA HBA HNW HBB HMA a1 a2 u1a u0 u1 u2 u3 u4 H1 H2 hal c0 c1 c2 p0;have hal:Below W6.heap.size W6 (W6.alloc (.cells #[.int .i64 (wv:Nat)] 3)):=(Below.refl _ _).alloc (Nat.le_refl _) _;have HRB:=Km (HRC.out.below hal);have HME:=Km HRB.out.em;have HNW:Kept (∀ j u,([((wv:Nat):Int)].map (Value.int .i64))[j]? =some u->(W6.alloc (.cells #[.int .i64 (wv:Nat)] 3)).cell? ((⟨W6.heap.size,0,none⟩:Addr).add j)=some u):=⟨new_one (K:= .i64) (x:=((wv:Nat):Int)) (b:=W6.heap.size) (o:=0) (by exact(Row.new (E:=3) (K:= .i64) W6 [((wv:Nat):Int)]).cell (i:=0) (by simp))⟩;have hgs6:g<W6.heap.size:=(Array.getElem?_eq_some_iff.1 HRC.out.box).1;have HBB:Kept (g+1<=(W6.alloc (.cells #[.int .i64 (wv:Nat)] 3)).heap.size):=⟨by have:=hal.size;omega⟩;have H1:=Km (show((ints ((kpF es i).map fun j=>ws[j]?.getD 0)).length+ [((wv:Nat):Int)].length)*8<=140737488355328 by rw[HNE.out];simp;omega);have H2:=Km (show(ints ((kpF es i).map fun j=>ws[j]?.getD 0)).length+ [((wv:Nat):Int)].length<=maxLen by rw[HNE.out];unfold maxLen;simp;omega);have HB7:=Km (HB6.out.trans (hal.mono (Nat.le_of_lt hgs6)));obtain⟨u0,u1,u2,u3,u4⟩:=five_cells_ HRC.out.box;clear hal
       go_wp2_with (at_builtin;refine wpList_append_parts _ rfl _ _ 22 (by rfl) 3 .i64 8 Tryz.underlying22 info_i64 (g+1) (.slice ea ne ec) (ints ((kpF es i).map fun j=>ws[j]?.getD 0)) (by rfl) HME.out HBB.out ⟨W6.heap.size,0,none⟩ 1 1 [((wv:Nat):Int)] (by rfl) rfl HNW.out H1.out H2.out ?_)
       intro va2 nv2 vc2 w7 hlv2 hm7 hg7 hn7;have hown:=HME.out.own;have HRC2:=Km (HRB.out.element (x:=wv) (by rw[FFld.ints_append];exact hm7) hg7 (by simpa using hn7));have hbox7:=(hg7.block g (Array.getElem?_eq_some_iff.1 HRB.out.box).1 (fun e=>by have:=(hown g e.symm).1;omega)).trans HRB.out.box;obtain⟨v0,v1,v2,v3,v4⟩:=five_cells_ hbox7;obtain⟨f0,f1,f2,f3,f4⟩:=five_free hbox7;have HB8:=Km ((HB7.out.grown hg7 (by have:=HBB.out;omega) (fun j hj=>by have:=(hown j hj).1;omega)).setCell (p:=⟨g,2,none⟩) (by simp) (.slice va2 nv2 vc2));clear hlv2 hm7 hg7 hn7 hown hbox7 u0 u1 u2 u3 u4 HRB HME;go_wp2;go_roundw
       case rel=>exact⟨i+1,_,_,by omega,by go_num,by rw[HK.out,List.map_append,List.map_append,List.map_cons,List.map_nil,List.map_cons,List.map_nil,HXV.out,HWV.out];exact HRC2,HB8⟩
       case measure=>simp[intOf]<;>omega
      ·go_simp
       refine hK.out _ _ ⟨a1,a2⟩ (fun hHeld=> ?_);clear hK K
       try simp only[Act.put,sA]
       refine wpAnyH_ready (rs:= [1]) (by kernel_rfl) (by simp) ?_;refine(AllReadyH.cons rfl (fun K hK=> ?_) AllReadyH.nil)
       go_simp
       refine hK.out _ _ ⟨a1,a2⟩ (fun hHeld=> ?_);clear hK K
       try simp only[Act.put,sA]
       obtain⟨W5,hW5⟩:∃ W,(wr.alloc (.cells #[.int .i64 (x:Nat)] 3)).drew=W:=⟨_,rfl⟩;rw[hW5] at hal HRA HBA HNW HBB HMA a1 a2 u1a ⊢;clear hW5;refine wpAnyH_ready (rs:= [8]) (by kernel_rfl) (by simp) ?_;refine(AllReadyH.cons rfl (fun K hK=> ?_) AllReadyH.nil);simp only[Act.put,sA];rw[if_pos (by simp[Region.wanted])];refine wp_append_parts _ _ _ 22 (by rfl) 3 .i64 8 Tryz.underlying22 info_i64 (g+1) (.slice pa np pc) (ints ((kpF es i).map fun j=>xs[j]?.getD 0)) (by rfl) HMA.out HBB.out ⟨wr.heap.size,0,none⟩ 1 1 [((x:Nat):Int)] (by rfl) (by rfl) HNW.out H1.out H2.out ?_;intro va nv vc w5 hlv hm5 hg5 hn5;have hown:=HMA.out.own;have HRC:=Km (HRA.out.point (x:=x) (by rw[FFld.ints_append];exact hm5) hg5 hn5);have HLV:=Km hlv;have b1:=hg5.cell (a:=⟨w.heap.size,1,none⟩) a1 (fun e=>by have:=(hown w.heap.size e.symm).1;omega);have b2:=hg5.cell (a:=⟨bx,ox+i,none⟩) a2 (fun e=>by have:=(hown bx e.symm).1;omega);have hbox5:=(hg5.block g (Array.getElem?_eq_some_iff.1 HRA.out.box).1 (fun e=>by have:=(hown g e.symm).1;omega)).trans HRA.out.box;obtain⟨v0,v1,v2,v3,v4⟩:=five_cells_ hbox5;obtain⟨f0,f1,f2,f3,f4⟩:=five_free hbox5;have HB5:=Km (HBA.out.grown hg5 (by have:=HBB.out;omega) (fun j hj=>by have:=(hown j hj).1;omega));clear hlv hm5 hg5 hn5 hown hbox5;refine hK.out _ _ ⟨b1,b2⟩ (fun hHeld=> ?_);clear hK K
       try simp only[Act.put,sA]
       refine wpAnyH_take (i:=9) (v:= ?_) rfl (by kernel_rfl) (by kernel_rfl) (by kernel_rfl) (fun _ _ _ h=>h) (Or.inl ⟨by rfl,?_⟩) (by assumption) ?_;rotate_left
       ·(intro w hSw;(try dsimp only at hSw);go_simp;(try with_reducible rfl))
       try simp only[Act.put,sA]
       refine wpAnyH_ready (rs:= [10]) (by kernel_rfl) (by simp) ?_;refine(AllReadyH.cons rfl (fun K hK=> ?_) AllReadyH.nil)
       go_simp
       have d1:=(World.cell?_of_block (heap_setCell_other w5 ⟨g,1,none⟩ w.heap.size (.slice va nv vc) (by simp;omega))).trans b1;have d2:=(World.cell?_of_block (heap_setCell_other w5 ⟨g,1,none⟩ bx (.slice va nv vc) (by simp;omega))).trans b2;refine hK.out _ _ ⟨d1,d2⟩ (fun hHeld=> ?_);clear hK K
       try simp only[Act.put,sA]
       refine wpAnyH_done (by kernel_rfl) ?_ _;have HB6:=Km (HB5.out.setCell (p:=⟨g,1,none⟩) (by simp) (.slice va nv vc));obtain⟨W6,hW6⟩:∃ W,w5.setCell ⟨g,1,none⟩ (.slice va nv vc)=W:=⟨_,rfl⟩;rw[hW6] at HRC HB6 ⊢;clear hW6 d1 d2 b1 b2 v0 v1 v2 v3 v4 f0 f1 f2 f3 f4 HB5 HRA HBA HNW HBB HMA a1 a2 u1a u0 u1 u2 u3 u4 H1 H2 hal c0 c1 c2 p0;have hal:Below W6.heap.size W6 (W6.alloc (.cells #[.int .i64 (wv:Nat)] 3)):=(Below.refl _ _).alloc (Nat.le_refl _) _;have HRB:=Km (HRC.out.below hal);have HME:=Km HRB.out.em;have HNW:Kept (∀ j u,([((wv:Nat):Int)].map (Value.int .i64))[j]? =some u->(W6.alloc (.cells #[.int .i64 (wv:Nat)] 3)).cell? ((⟨W6.heap.size,0,none⟩:Addr).add j)=some u):=⟨new_one (K:= .i64) (x:=((wv:Nat):Int)) (b:=W6.heap.size) (o:=0) (by exact(Row.new (E:=3) (K:= .i64) W6 [((wv:Nat):Int)]).cell (i:=0) (by simp))⟩;have hgs6:g<W6.heap.size:=(Array.getElem?_eq_some_iff.1 HRC.out.box).1;have HBB:Kept (g+1<=(W6.alloc (.cells #[.int .i64 (wv:Nat)] 3)).heap.size):=⟨by have:=hal.size;omega⟩;have H1:=Km (show((ints ((kpF es i).map fun j=>ws[j]?.getD 0)).length+ [((wv:Nat):Int)].length)*8<=140737488355328 by rw[HNE.out];simp;omega);have H2:=Km (show(ints ((kpF es i).map fun j=>ws[j]?.getD 0)).length+ [((wv:Nat):Int)].length<=maxLen by rw[HNE.out];unfold maxLen;simp;omega);have HB7:=Km (HB6.out.trans (hal.mono (Nat.le_of_lt hgs6)));obtain⟨u0,u1,u2,u3,u4⟩:=five_cells_ HRC.out.box;clear hal
       go_wp2_with (at_builtin;refine wpList_append_parts _ rfl _ _ 22 (by rfl) 3 .i64 8 Tryz.underlying22 info_i64 (g+1) (.slice ea ne ec) (ints ((kpF es i).map fun j=>ws[j]?.getD 0)) (by rfl) HME.out HBB.out ⟨W6.heap.size,0,none⟩ 1 1 [((wv:Nat):Int)] (by rfl) rfl HNW.out H1.out H2.out ?_)
       intro va2 nv2 vc2 w7 hlv2 hm7 hg7 hn7;have hown:=HME.out.own;have HRC2:=Km (HRB.out.element (x:=wv) (by rw[FFld.ints_append];exact hm7) hg7 (by simpa using hn7));have hbox7:=(hg7.block g (Array.getElem?_eq_some_iff.1 HRB.out.box).1 (fun e=>by have:=(hown g e.symm).1;omega)).trans HRB.out.box;obtain⟨v0,v1,v2,v3,v4⟩:=five_cells_ hbox7;obtain⟨f0,f1,f2,f3,f4⟩:=five_free hbox7;have HB8:=Km ((HB7.out.grown hg7 (by have:=HBB.out;omega) (fun j hj=>by have:=(hown j hj).1;omega)).setCell (p:=⟨g,2,none⟩) (by simp) (.slice va2 nv2 vc2));clear hlv2 hm7 hg7 hn7 hown hbox7 u0 u1 u2 u3 u4 HRB HME;go_wp2;go_roundw
       case rel=>exact⟨i+1,_,_,by omega,by go_num,by rw[HK.out,List.map_append,List.map_append,List.map_cons,List.map_nil,List.map_cons,List.map_nil,HXV.out,HWV.out];exact HRC2,HB8⟩
       case measure=>simp[intOf]<;>omega
   ·obtain rfl:i=n:=by omega
    have hrc' :=hrc.out;obtain⟨pa,pc,rfl,_,_⟩:=hrc'.pm.sl.form;obtain⟨ea,ec,rfl,_,_⟩:=hrc'.em.sl.form;have hB1:=hbx.out.b1;obtain⟨t0,t1,t2,t3,t4⟩:=five_free hB1;obtain⟨y0,y1,y2,y3,y4⟩:=five_cells_ hB1;obtain⟨u0,u1,u2,u3,u4⟩:=five_cells_ hrc'.box;obtain⟨np,hnp⟩:∃ y,(ints ((kpF es i).map fun j=>xs[j]?.getD 0)).length=y:=⟨_,rfl⟩;obtain⟨ne,hne⟩:∃ y,(ints ((kpF es i).map fun j=>ws[j]?.getD 0)).length=y:=⟨_,rfl⟩;rw[hnp,hne] at hrc';rw[hnp] at u1;rw[hne] at u2
    try rw[hnp,hne]
    have hset:=five_set_ hB1 (.pointer (some ⟨b,0,none⟩)) (.slice pa np pc) (.slice ea ne ec) (.int .i64 k) (.int .i64 rad);have HSET:=Km hset;have hgr:wr.grownBy (((((wr.setCell ⟨w.heap.size+1,0,none⟩ (.pointer (some ⟨b,0,none⟩))).setCell ⟨w.heap.size+1,1,none⟩ (.slice pa np pc)).setCell ⟨w.heap.size+1,2,none⟩ (.slice ea ne ec)).setCell ⟨w.heap.size+1,3,none⟩ (.int .i64 k)).setCell ⟨w.heap.size+1,4,none⟩ (.int .i64 rad)) (some (w.heap.size+1)):=growSet (growSet (growSet (growSet (growSet (growRefl _ _) _ _) _ _) _ _) _ _) _ _;have HB9:=Km (belowGrow hgr hbl (by omega));have HF9:=Km ((HF2.out.below (show Below w2.heap.size w2 wr by rw[HG2.out];exact hb2.out)).res5 hB1 hgr);have HP9:=Km (hrc'.pm.sl.kept hgr (fun j hj e=>by have:=hrc'.pm.own j (live_own hj);cases e;omega));have HE9:=Km (hrc'.em.sl.kept hgr (fun j hj e=>by have:=hrc'.em.own j (live_own hj);cases e;omega));clear hset hgr hrc' hB1 hrc;go_wp2;obtain⟨s0,s1,s2,s3,s4⟩:=five_cells_ HSET.out;rw[Exit.noGoto_ret];exact bodyPost_ret (v:= .tuple #[rcv b (.slice pa np pc) (.slice ea ne ec) k rad, .int .i64 0]) (by simp[results,Tryz.results90,go_sem,s0,s1,s2,s3,s4]) rfl ⟨HB9.out,b,_,_,rfl,HF9.out,HP9.out,HE9.out⟩
 ·exact absurd ⟨D,HD.out,by have:=HQ.out;omega⟩ hno
end Go.Proofs.YtdnheaafcbihbaaGreat
