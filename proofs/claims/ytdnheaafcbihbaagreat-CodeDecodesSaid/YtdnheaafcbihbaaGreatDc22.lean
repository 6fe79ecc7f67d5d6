/-
  Texts of the proof, merged by program: Cpa Cer Ce2 Rc3 Rc4 Lma Lh1.
-/
import Derived.Test.YtdnheaafcbihbaaGreatDc21
import Derived.WalkMore
set_option linter.unusedSimpArgs false
set_option linter.unusedVariables false
set_option maxHeartbeats 16000000
namespace Go.Proofs.YtdnheaafcbihbaaGreat
open Go Go.RowKit Go.Deep
open FFld (ints)
abbrev rcv (b:Nat)(pv ev:Value)(k r:Nat):Value:= .agg #[.pointer (some ⟨b,0,none⟩),pv,ev, .int .i64 k, .int .i64 r]
abbrev rcbox (b:Nat)(pv ev:Value)(k r:Nat):Obj:= .cells #[.pointer (some ⟨b,0,none⟩),pv,ev, .int .i64 k, .int .i64 r] 119
abbrev fabox (u v:Value):Obj:= .cells #[u,v] 36
theorem five_cells_ {w:World}{g:Nat}{a b c d e:Value}{T:TypeId}(h:w.heap[g]? =some (.cells #[a,b,c,d,e] T (0,0))):
 w.cell? ⟨g,0,none⟩=some a/\w.cell? ⟨g,1,none⟩=some b/\w.cell? ⟨g,2,none⟩=some c/\w.cell? ⟨g,3,none⟩=some d/\w.cell? ⟨g,4,none⟩=some e:=
 ⟨by rw[cell_of_row w g 0 _ T (0,0) h];rfl,by rw[cell_of_row w g 1 _ T (0,0) h];rfl,by rw[cell_of_row w g 2 _ T (0,0) h];rfl,by rw[cell_of_row w g 3 _ T (0,0) h];rfl,by rw[cell_of_row w g 4 _ T (0,0) h];rfl⟩
set_option maxRecDepth 20000 in
theorem clongest_any (b n cx k rad:Nat)(ax:Option Addr)(ev:Value)(w:World)(hr:rad<=n)(hn:n<=1000):
 Calls Tryz.prog 164 #[rcv b (.slice ax n cx) ev k rad] w (RB w (.int .i64 ((n-rad:Nat):Int))):=by
 have HX0:Kept (Bxs w [rcbox b (.slice ax n cx) ev k rad] (w.alloc (rcbox b (.slice ax n cx) ev k rad))):=⟨(Bxs.start w).alloc (by simp) _⟩;obtain⟨c0,c1,c2,c3,c4⟩:=five_cells_ HX0.out.b0;have e1:((n-rad:Nat):Int)=(n:Int)-rad:=by omega
 rw[e1]
 go_enter Tryz.func164,Tryz.ntmps164
 go_wp2
 go_ret
 exact⟨HX0.out.1,rfl⟩
theorem Sl.not_box_ {K:IntKind}{w:World}{v:Value}{xs:List Int}{g:Nat}{cs:Array Value}{T:TypeId}{fr:Nat × Nat}(h:Sl K w v xs)(hg:w.heap[g]? =some (.cells cs T fr))(hc:∀ (i:Nat) (n:Int),cs[i]? ≠some (Value.int K n)):live v≠some g:=by
 intro hl;obtain⟨ao,cap,rfl,hcap,hm,hx⟩:=h
 by_cases h0:0<xs.length
 ·obtain⟨b,o,rfl,hb,hcell⟩:=hx 0 h0;have:=live_own hl;simp only[Value.ownBlock,Option.some.injEq] at this;subst this;rw[cell_of_row w b (o+0) cs T fr hg] at hcell;exact hc _ _ hcell
 ·have:xs.length=0:=by omega
  rw[this] at hl
  cases ao<;>simp[live] at hl
def GaRet {D:FFld.FD}(hD:D.Ok)(xs ys:List Nat)(n rad:Nat)(w:World)(e:Ending)(w' :World):Prop:=Below w.heap.size w w' /\ ∃ (vq ve:Value) (Q E bf el:List Nat),e= .returned (.agg #[vq,ve])/\Sl .i64 w' vq (ints Q)/\Sl .i64 w' ve (ints E)/\FFld.GaoOk hD xs ys n bf Q el E/\Q.length+rad<=n/\n<bf.length+rad
set_option maxRecDepth 20000 in
theorem cpair_any {D:FFld.FD}{b:Nat}(hD:D.Ok)(ax ay:Option Addr)(cx cy k rad n:Nat)(xs ys:List Nat)(w:World)(hf:FldB D w b)(hx:Sl .i64 w (.slice ax n cx) (ints xs))(hy:Sl .i64 w (.slice ay n cy) (ints ys))(lx:xs.length=n)(ly:ys.length=n)(hxq:∀ a∈xs,a<D.p ^ D.k)(hyq:∀ a∈ys,a<D.p ^ D.k)(hd:∀ i j,j<i->i<n->xs[i]?.getD 0≠xs[j]?.getD 0)(hn:n<=64)(hr:rad<=n)(hk6:k<=64):
 Calls Tryz.prog 92 #[rcv b (.slice ax n cx) (.slice ay n cy) k rad] w (GaRet hD xs ys n rad w):=by
 have hq6:D.p ^ D.k<=65536:=hD.pre.small;have hk:=hD.pre.pk;have hq1:=hk.one_lt;have HX0:Kept (Bxs w [rcbox b (.slice ax n cx) (.slice ay n cy) k rad,fabox (.slice none 0 0) (.slice none 0 0)] ((w.alloc (rcbox b (.slice ax n cx) (.slice ay n cy) k rad)).alloc (fabox (.slice none 0 0) (.slice none 0 0)))):=⟨((Bxs.start w).alloc (by simp) _).alloc (by simp) _⟩;obtain⟨mi,hmi⟩:∃ mi,FFld.padd D.p D.k 0 (FFld.pscl D.p D.k (D.p-1) 1)=mi:=⟨_,rfl⟩;have hmlt:mi<D.p ^ D.k:=by rw[<- hmi];exact FFld.padd_lt hk _ _
 have hmE:FFld.toE hk mi=(FFld.FD.dom hD.nzd).neg (FFld.FD.dom hD.nzd).one:=by
  rw[<- hmi,FFld.toE_add hD (Nat.pow_pos hk.p0) (FFld.pscl_lt hk _ _),FFld.toE_neg hD hq1,FFld.toE_zero hD,FFld.toE_one hD,FFld.Dom.zero_add]
 have HSB:=Km (fun(W:World) (hW:Below w.heap.size w W)=>fsub_any (0:Int) (1:Int) W (hf.below hW) (by omega) (by omega) (by omega) (by omega) 0 1 (by simp) (md_nat hq1) (Nat.pow_pos hk.p0) hq1);rw[hmi] at HSB;have HTH:=Km (fun(W:World) (hW:Below w.heap.size w W)=>fthrough_good hD (.slice ax n cx) (.slice ay n cy) xs ys n W (hf.below hW) (hx.below hW) (hy.below hW) hxq hyq lx ly (by omega));have HVN:=Km (fun(W:World) (hW:Below w.heap.size w W)=>cvanish_any hD ax cx xs W (hf.below hW) (by rw[lx];exact hx.below hW) hxq (by omega));rw[lx] at HVN;have HLO:=Km (fun(W:World)=>clongest_any b n cx k rad ax (.slice ay n cy) W hr (by omega))
 have HDV:=Km (fun(W:World) (hW:Below w.heap.size w W) (vp vq:Value) (pl ql:List Nat) (h1:Sl .i64 W vp (ints pl)) (h2:Sl .i64 W vq (ints ql)) (hp:∀ a∈pl,a<D.p ^ D.k) (hq:∀ a∈ql,a<D.p ^ D.k) (tp:FFld.Tz pl) (tq:FFld.Tz ql) (h0:0<ql.length) (lp:pl.length<=200) (lq:ql.length<=200)=>
  fpdivide_any vp vq pl ql W (hf.below hW) h1 h2 (cErr_poly hp tp lp) (cErr_poly hq tq lq) hD hp hq h0 tq (by omega) (by omega))
 have HPR:=Km (fun(W:World) (hW:Below w.heap.size w W) (af:Option Addr) (cf:Nat) (p q:List Nat) (hs:Sls W af [ints p,ints q]) (h1:2<=cf) (h2:cf<=maxLen) (hp:∀ a∈p,a<D.p ^ D.k) (hq:∀ a∈q,a<D.p ^ D.k) (tp:FFld.Tz p) (tq:FFld.Tz q) (lp:p.length<=100) (lq:q.length<=100)=>cproduct_any hD af cf [p,q] W (hf.below hW) hs h1 h2 (fun l hl=>by
  rcases List.mem_cons.1 hl with rfl|hl
  ·exact hp
  ·obtain rfl:=List.mem_singleton.1 hl
   exact hq) (fun l hl=>by
  rcases List.mem_cons.1 hl with rfl|hl
  ·exact tp
  ·obtain rfl:=List.mem_singleton.1 hl
   exact tq) (fun l hl=>by
  rcases List.mem_cons.1 hl with rfl|hl
  ·omega
  ·obtain rfl:=List.mem_singleton.1 hl
   omega) (fun i hi=>by
  have h1:=FFld.mulL_one (D:=D) hD hp tp
  rcases i with _|_|_|i
  ·simp[FFld.prodF]
  ·show(FFld.mulL D [1] p).length<=200
   rw[h1];omega
  ·show(FFld.mulL D (FFld.mulL D [1] p) q).length<=200
   rw[h1]
   by_cases hz:p.length=0\/q.length=0
   ·unfold FFld.mulL;rw[if_pos hz];simp
   ·rw[FFld.mulL_len_is (by omega) (by omega)];omega
  ·simp at hi) (by simp))
 have HPL:=Km (fun(W:World) (hW:Below w.heap.size w W) (ap aq:Option Addr) (cp cq:Nat) (pl ql:List Nat) (h1:Sl .i64 W (.slice ap pl.length cp) (ints pl)) (h2:Sl .i64 W (.slice aq ql.length cq) (ints ql)) (hp:∀ a∈pl,a<D.p ^ D.k) (hq:∀ a∈ql,a<D.p ^ D.k) (lp:pl.length<=200) (lq:ql.length<=200)=>cplus_any hD ap aq cp cq pl ql mi 0 W (hf.below hW) h1 h2 hp hq hmlt (by omega) (by omega));have HGS:=Km (fun(nw:List Nat) (h1:∀ a∈nw,a<D.p ^ D.k) (h2:FFld.Tz nw) (h3:nw.length<=n) (h4:∀ j,j<n->FFld.evE hD nw (FFld.plE hD xs j)=FFld.plE hD ys j)=>FFld.GaoOk.start hD hxq h1 h2 h3 (FFld.thV_tz hD (by omega)) h4);have HGN:=Km (fun(bf nw el e:List Nat) (h:FFld.GaoOk hD xs ys n bf nw el e) (h0:nw.length≠0)=>FFld.GaoOk.next hD h h0 hmlt hmE);have HNW:Kept ((∀ a,a<n->FFld.thA D xs a≠0)->FFld.GaoOk hD xs ys n (FFld.thV D xs n) (FFld.trm (FFld.thR D hD.pre.pk xs ys n n)) [] [1]):=⟨fun hA=>HGS.out _ (FFld.trm_lt (FFld.thR_lt hk xs ys n n)) (FFld.trm_tz _) (by have h1:=FFld.trm_len_le (FFld.thR D hk xs ys n n);rw[FFld.thR_len] at h1;exact h1) fun j hj=>by rw[FFld.evE_trm];exact FFld.thR_ev hD hxq hyq n (Nat.le_refl _) hA j hj⟩;have HVL:Kept (n<(FFld.thV D xs n).length+rad):=⟨by rw[FFld.thV_len];omega⟩;have HDS:=Km hd;have HNL:=Km (fun(bf nw el e:List Nat) (h:FFld.GaoOk hD xs ys n bf nw el e)=>(⟨by have:=h.len;have:=h.low;have:=h.up;omega,by have:=h.len;have:=h.low;have:=h.up;omega,by have:=h.len;have:=h.low;have:=h.up;omega,by have:=h.len;have:=h.low;have:=h.up;omega⟩:bf.length<=66/\nw.length<=66/\el.length<=66/\e.length<=66));clear hf hx hy lx ly hxq hyq hmi hmlt hmE hq1 hd HGS
 go_enter Tryz.func92,Tryz.ntmps92
 obtain⟨c0,c1,c2,c3,c4⟩:=five_cells_ HX0.out.b0;go_wp2_with fail;refine(HSB.out _ HX0.out.1).mono ?_;rintro e w1 ⟨hb1,rfl⟩;have HX1:=Km (HX0.out.below hb1);clear hb1 c0 c1 c2 c3 c4 HSB;obtain⟨c0,c1,c2,c3,c4⟩:=five_cells_ HX1.out.b0;go_wp2_with fail;refine(HTH.out _ HX1.out.1).mono ?_;rintro e w2 ⟨hb2,⟨i,j,hji,hin,hxx,rfl⟩|⟨hA,v4,rfl,hs4⟩⟩
 ·exact absurd hxx (HDS.out i j hji hin)
 ·have HGA:=Km (HNW.out hA);obtain⟨NW,hNW⟩:∃ l,FFld.trm (FFld.thR D hD.pre.pk xs ys n n)=l:=⟨_,rfl⟩;rw[hNW] at HGA hs4;obtain⟨a4,m4,rfl,_,_⟩:=hs4.form;have HX2:=Km (HX1.out.below hb2);have HS4:=Km hs4;clear hb2 hA hs4 hNW HNW c0 c1 c2 c3 c4;obtain⟨c0,c1,c2,c3,c4⟩:=five_cells_ HX2.out.b0;go_wp2_with fail;refine(HVN.out _ HX2.out.1).mono ?_;rintro e w3 ⟨hb3,v3,rfl,hs3⟩;have HX3:=Km (HX2.out.below hb3);have HS4' :=Km (HS4.out.below hb3);have HS3:=Km hs3;obtain⟨a3,m3,rfl,_,_⟩:=hs3.form;have hal:Below w3.heap.size w3 (w3.alloc (.cells #[.int .i64 1] 3)):=(Below.refl _ _).alloc (Nat.le_refl _) _;have HSe:Kept (Sl .i64 (w3.alloc (.cells #[.int .i64 1] 3)) (.slice (some ⟨w3.heap.size,0,none⟩) 1 1) (ints [1])):=⟨cone_sl w3 1⟩;have HSb:=Km (HS3.out.below hal);have HSn:=Km (HS4'.out.below hal);have HXb:=Km (HX3.out.below hal);have HSl:Kept (Sl .i64 (w3.alloc (.cells #[.int .i64 1] 3)) (.slice none 0 0) (ints [])):=⟨Sl.nil _ _⟩;clear hb3 hs3 hal HS4 HS4' HS3 HX3 HX2 HX1 c0 c1 c2 c3 c4 HTH HVN;go_wp2
  go_loopw [6,7,8,9] (fun bv nv lv ev wr=> ∃ (bf nw el e:List Nat),Kept (Sl .i64 wr bv (ints bf))/\Kept (Sl .i64 wr nv (ints nw))/\Kept (Sl .i64 wr lv (ints el))/\Kept (Sl .i64 wr ev (ints e))/\Kept (FFld.GaoOk hD xs ys n bf nw el e)/\Kept (n<bf.length+rad)/\Kept (Bxs w [rcbox b (.slice ax n cx) (.slice ay n cy) k rad,fabox (.slice none 0 0) (.slice none 0 0)] wr)) (fun _ nv _ _ _=>sliceLen nv)
  case atStart=>exact⟨_,_,_,_,HSb,HSn,HSl,HSe,HGA,HVL,HXb⟩
  case round=>
   clear HSb HSn HSl HSe HGA HVL HXb;obtain⟨bf,nw,el,e,hsb,hsn,hsl,hse,hga,hlo,hbx⟩:=hrel;obtain⟨hl1,hl2,hl3,hl4⟩:=HNL.out _ _ _ _ hga.out;obtain⟨an,mn,rfl,hmn,hmn'⟩:=hsn.out.form;obtain⟨ab,mb,rfl,_,_⟩:=hsb.out.form;obtain⟨al,ml,rfl,_,_⟩:=hsl.out.form;obtain⟨ae,me,rfl,hme,hme'⟩:=hse.out.form;simp only[FFld.ints_len] at hsb hsn hsl hse hmn hme ⊢;obtain⟨c0,c1,c2,c3,c4⟩:=five_cells_ hbx.out.b0;obtain⟨nn,hnn⟩:∃ x,nw.length=x:=⟨_,rfl⟩;have HNN:=Km hnn;have HHL:Kept (bf.length<=66/\nw.length<=66/\el.length<=66/\e.length<=66):=⟨⟨hl1,hl2,hl3,hl4⟩⟩;obtain⟨nb,hnb⟩:∃ x,bf.length=x:=⟨_,rfl⟩;obtain⟨nl,hnl⟩:∃ x,el.length=x:=⟨_,rfl⟩;obtain⟨ne,hne⟩:∃ x,e.length=x:=⟨_,rfl⟩;have HNE:=Km hne;have HNL2:=Km hnl;rw[hnn] at hsn hl2 hmn;rw[hnb] at hsb hl1;rw[hnl] at hsl hl3;rw[hne] at hse hl4 hme
   try rw[hnn,hnb,hnl,hne]
   clear hnn hnb hnl hne;go_wp2_with fail;refine(HLO.out _).mono ?_;rintro e' w4 ⟨hb4,rfl⟩;have HX4:=Km (hbx.out.below hb4);have HSB4:=Km (hsb.out.below hb4);have HSN4:=Km (hsn.out.below hb4);have HSL4:=Km (hsl.out.below hb4);have HSE4:=Km (hse.out.below hb4);clear hb4 hsb hsn hsl hse hbx c0 c1 c2 c3 c4;obtain⟨c0,c1,c2,c3,c4⟩:=five_cells_ HX4.out.b0
   by_cases hgo:n-rad<nn
   ·have g1:decide (((n-rad:Nat):Int)<nn)=true:=decide_eq_true (by omega);have hn0:nw.length≠0:=by rw[HNN.out];omega
    have HNX:=Km (HGN.out _ _ _ _ hga.out hn0);have HLT:=Km (FFld.rst_short hD hga.out.nlt hga.out.blt (by omega) (by rcases hga.out.tn with h|h;exact absurd h hn0;exact h));have HDC:=Km (HDV.out w4 HX4.out.1 _ _ bf nw HSB4.out HSN4.out hga.out.blt hga.out.nlt hga.out.tb hga.out.tn (by omega) (by have:=HHL.out.1;omega) (by have:=HHL.out.2.1;omega));have HQQ:=Km (FFld.quoF_lt (D:=D) hD.pre.pk nw (FFld.invT D hD.pre.pk nw) bf);have HQT:=Km (FFld.quo_tz hD hga.out.nlt hga.out.blt (by omega) (by rcases hga.out.tn with h|h;exact absurd h hn0;exact h) hga.out.tb);have HQL:=Km (FFld.quoF_len D nw (FFld.invT D hD.pre.pk nw) bf);have HML:=Km (FFld.mulL_lt (D:=D) hD.pre.pk (FFld.quoF D nw (FFld.invT D hD.pre.pk nw) bf) e)
    have HPE:Kept (FFld.prodF D [FFld.quoF D nw (FFld.invT D hD.pre.pk nw) bf,e] [FFld.quoF D nw (FFld.invT D hD.pre.pk nw) bf,e].length=FFld.mulL D (FFld.quoF D nw (FFld.invT D hD.pre.pk nw) bf) e):=⟨by
     show FFld.mulL D (FFld.mulL D [1] (FFld.quoF D nw (FFld.invT D hD.pre.pk nw) bf)) e=_
     rw[FFld.mulL_one hD HQQ.out HQT.out]⟩
    have HNLO:Kept (n<nw.length+rad):=⟨by rw[HNN.out];omega⟩;obtain⟨qu,hqu⟩:∃ l,FFld.quoF D nw (FFld.invT D hD.pre.pk nw) bf=l:=⟨_,rfl⟩;obtain⟨rs,hrs⟩:∃ l,FFld.rstF D nw (FFld.invT D hD.pre.pk nw) bf=l:=⟨_,rfl⟩;rw[hqu] at HNX HDC HQQ HQT HQL HML HPE;rw[hrs] at HNX HDC HLT;clear hqu hrs hn0;go_wp2_with fail;refine HDC.out.mono ?_;rintro e'' w5 ⟨hb5,vq,vr,rfl,hsq,hsr⟩;obtain⟨qa,qc,rfl,hqc,hqc'⟩:=hsq.form;obtain⟨ra,rc,rfl,hrc,hrc'⟩:=hsr.form;rw[FFld.ints_len] at hsq hqc hsr hrc ⊢;rw[FFld.ints_len];have HX5:=Km (HX4.out.below hb5);have HSN5:=Km (HSN4.out.below hb5);have HSL5:=Km (HSL4.out.below hb5);have HSE5:=Km (HSE4.out.below hb5);have HSQ5:=Km hsq;have HSR5:=Km hsr;obtain⟨nq,hnq⟩:∃ x,qu.length=x:=⟨_,rfl⟩;obtain⟨nr,hnr⟩:∃ x,rs.length=x:=⟨_,rfl⟩;have HNQ:=Km hnq;have HNR:=Km hnr;rw[hnq] at HSQ5 ⊢;rw[hnr] at HSR5 ⊢;clear hb5 hsq hsr hnq hnr HX4 HSB4 HSN4 HSL4 HSE4 HDC c0 c1 c2 c3 c4;obtain⟨c0,c1,c2,c3,c4⟩:=five_cells_ HX5.out.b0;obtain⟨PE,hPE⟩:∃ l,FFld.mulL D qu e=l:=⟨_,rfl⟩
    have HPLL:Kept (PE.length<=150):=⟨by
     rw[<- hPE]
     by_cases hz:qu.length=0\/e.length=0
     ·unfold FFld.mulL;rw[if_pos hz];simp
     ·rw[FFld.mulL_len_is (by omega) (by omega)];have:=HQL.out;have:=HHL.out
      omega⟩
    rw[hPE] at HNX HPE HML
    have HPX:Kept (∀ W,Below w.heap.size w W-> ∀ pa pc,Sl .i64 W (.slice al nl ml) (ints el)->Sl .i64 W (.slice pa PE.length pc) (ints PE)->Calls Tryz.prog 165 #[.pointer (some ⟨b,0,none⟩), .slice al nl ml, .slice pa PE.length pc, .int .i64 mi, .int .i64 0] W (fun e' w' =>Below W.heap.size W w' /\ ∃ v,e' = .returned v/\Sl .i64 w' v (ints (FFld.plusF D el PE mi 0)))):=⟨fun W hW pa pc h1 h2=>by
     have h:=HPL.out W hW al pa ml pc el PE (by rw[HNL2.out];exact h1) h2 hga.out.llt HML.out (by have:=HHL.out;omega) (by have:=HPLL.out;omega);rw[HNL2.out] at h;refine h.mono ?_;rintro e' w' ⟨hb,rfl,hw⟩;refine⟨hb,_,rfl,hw.sl rfl ?_ ?_⟩
     ·unfold FFld.plusF;refine Nat.le_trans (FFld.trm_len_le _) ?_;rw[FFld.addm_len,FFld.padF_len (by omega),HNL2.out];exact Nat.le_refl _
     ·have:=HPLL.out;unfold maxLen
      omega⟩
    have HPRX:Kept (∀ W,Below w.heap.size w W-> ∀ af,Sls W af [ints qu,ints e]->Calls Tryz.prog 166 #[.pointer (some ⟨b,0,none⟩), .slice af 2 2] W (fun e' w' =>Below W.heap.size W w' /\ ∃ v,e' = .returned v/\Sl .i64 w' v (ints PE))):=⟨fun W hW af h=>by
     have h2:=HPR.out W hW af 2 qu e h (Nat.le_refl _) (by decide) HQQ.out hga.out.elt HQT.out hga.out.te (by have:=HQL.out;have:=HHL.out;omega) (by have:=HHL.out;omega);rw[HPE.out] at h2
     exact h2⟩
    have hal:Below w5.heap.size w5 ((w5.alloc (.cells #[.slice qa nq qc, .slice ae ne me] 22)).drew):=((Below.refl _ _).alloc (Nat.le_refl _) _).drew;have hblk:((w5.alloc (.cells #[.slice qa nq qc, .slice ae ne me] 22)).drew).heap[w5.heap.size]? =some (.cells #[.slice qa nq qc, .slice ae ne me] 22 (0,0)):=heap_alloc_new w5 _;have e0:=belowCell hal c0;clear hPE HPR HPL HPE HDV
    go_upto_region 9 with fail
    refine wp_region_held_drew (S:=fun w' =>w'.cell? ⟨w.heap.size,0,none⟩=some (.pointer (some ⟨b,0,none⟩))) (by kernel_rfl) c0 (fun hHeld=> ?_);refine wpAnyH_take (i:=0) (v:= ?_) rfl (by kernel_rfl) (by kernel_rfl) (by kernel_rfl) (fun _ _ _ h=>h) (Or.inl ⟨by rfl,?_⟩) (by assumption) ?_;rotate_left
    ·(intro w hSw;(try dsimp only at hSw);go_simp;(try with_reducible rfl))
    try simp only[Act.put,sA]
    refine wpAnyH_take (i:=1) (v:= ?_) rfl (by kernel_rfl) (by kernel_rfl) (by kernel_rfl) (fun _ _ _ h=>h) (Or.inl ⟨by rfl,?_⟩) (by assumption) ?_;rotate_left
    ·(intro w hSw;(try dsimp only at hSw);go_simp;(try with_reducible rfl))
    try simp only[Act.put,sA]
    refine wpAnyH_take (i:=2) (v:= ?_) rfl (by kernel_rfl) (by kernel_rfl) (by kernel_rfl) (fun _ _ _ h=>h) (Or.inl ⟨by rfl,?_⟩) (by assumption) ?_;rotate_left
    ·(intro w hSw;(try dsimp only at hSw);go_simp;(try with_reducible rfl))
    try simp only[Act.put,sA]
    refine wpAnyH_take (i:=3) (v:= ?_) rfl (by kernel_rfl) (by kernel_rfl) (by kernel_rfl) (fun _ _ _ h=>h) (Or.inl ⟨by rfl,?_⟩) (by assumption) ?_;rotate_left
    ·(intro w hSw;(try dsimp only at hSw);go_simp;(try with_reducible rfl))
    try simp only[Act.put,sA]
    refine wpAnyH_take (i:=4) (v:= ?_) rfl (by kernel_rfl) (by kernel_rfl) (by kernel_rfl) (fun _ _ _ h=>h) (Or.inl ⟨by rfl,?_⟩) (by assumption) ?_;rotate_left
    ·(intro w hSw;(try dsimp only at hSw);go_simp;(try with_reducible rfl))
    try simp only[Act.put,sA]
    refine wpAnyH_take (i:=5) (v:= ?_) rfl (by kernel_rfl) (by kernel_rfl) (by kernel_rfl) (fun _ _ _ h=>h) (Or.inl ⟨by rfl,?_⟩) (by assumption) ?_;rotate_left
    ·(intro w hSw;(try dsimp only at hSw);go_simp;(try with_reducible rfl))
    try simp only[Act.put,sA]
    refine wpAnyH_take (i:=6) (v:= ?_) rfl (by kernel_rfl) (by kernel_rfl) (by kernel_rfl) (fun _ _ _ h=>h) (Or.inl ⟨by rfl,?_⟩) (by assumption) ?_;rotate_left
    ·(intro w hSw;(try dsimp only at hSw);go_simp;(try with_reducible rfl))
    try simp only[Act.put,sA]
    refine wpAnyH_take (i:=9) (v:= ?_) rfl (by kernel_rfl) (by kernel_rfl) (by kernel_rfl) (fun _ _ _ h=>h) (Or.inl ⟨by rfl,?_⟩) (by assumption) ?_;rotate_left
    ·(intro w hSw;(try dsimp only at hSw);go_simp;(try with_reducible rfl))
    try simp only[Act.put,sA]
    refine wpAnyH_ready (rs:= [7]) (by kernel_rfl) (by simp) ?_;refine(AllReadyH.cons rfl (fun K hK=> ?_) AllReadyH.nil)
    go_simp
    refine hK.out _ _ e0 (fun hHeld=> ?_);clear hK K
    try simp only[Act.put,sA]
    obtain⟨W6,hW6⟩:∃ W,(w5.alloc (.cells #[.slice qa nq qc, .slice ae ne me] 22)).drew=W:=⟨_,rfl⟩;rw[hW6] at hal hblk e0 ⊢;clear hW6;have HX6:=Km (HX5.out.below hal);have HSN6:=Km (HSN5.out.below hal);have HSL6:=Km (HSL5.out.below hal);have HSE6:=Km (HSE5.out.below hal);have HSR6:=Km (HSR5.out.below hal);have HSQ6:=Km (HSQ5.out.below hal)
    have HSS:Kept (Sls W6 (some ⟨w5.heap.size,0,none⟩) [ints qu,ints e]):=⟨fun i hi=>by
     obtain⟨k0,k1,_,_⟩:=two_cells hblk;have hl:w5.heap.size<W6.heap.size:=(Array.getElem?_eq_some_iff.1 hblk).1
     rcases i with _|_|i
     ·exact⟨w5.heap.size,0,_,rfl,hl,k0,HSQ6.out⟩
     ·exact⟨w5.heap.size,0,_,rfl,hl,k1,HSE6.out⟩
     ·simp at hi
      omega⟩
    clear hal hblk HX5 HSN5 HSL5 HSE5 HSR5 HSQ5;refine wpAnyH_ready (rs:= [8]) (by kernel_rfl) (by simp) ?_;refine(AllReadyH.cons rfl (fun K hK=> ?_) AllReadyH.nil)
    go_simp
    refine(HPRX.out _ HX6.out.1 _ HSS.out).mono ?_;rintro e' w7 ⟨hb7,vp,rfl,hsp⟩;obtain⟨pa,pc,rfl,_,_⟩:=hsp.form;rw[FFld.ints_len] at hsp ⊢;have HX7:=Km (HX6.out.below hb7);have HSN7:=Km (HSN6.out.below hb7);have HSL7:=Km (HSL6.out.below hb7);have HSE7:=Km (HSE6.out.below hb7);have HSR7:=Km (HSR6.out.below hb7);have HSP7:=Km hsp;have e7:=belowCell hb7 e0;clear hb7 hsp e0 HX6 HSN6 HSL6 HSE6 HSR6 HSQ6 HSS;refine hK.out _ _ e7 (fun hHeld=> ?_);clear hK K
    try simp only[Act.put,sA]
    refine wpAnyH_ready (rs:= [10]) (by kernel_rfl) (by simp) ?_;refine(AllReadyH.cons rfl (fun K hK=> ?_) AllReadyH.nil)
    go_simp
    refine(HPX.out _ HX7.out.1 _ _ HSL7.out HSP7.out).mono ?_;rintro e' w8 ⟨hb8,vs,rfl,hss⟩;obtain⟨sa,sc,rfl,_,_⟩:=hss.form;have HX8:=Km (HX7.out.below hb8);have HSN8:=Km (HSN7.out.below hb8);have HSE8:=Km (HSE7.out.below hb8);have HSR8:=Km (HSR7.out.below hb8);have HSS8:=Km hss;have e8:=belowCell hb8 e7;clear hb8 hss e7 HX7 HSN7 HSL7 HSE7 HSR7 HSP7;refine hK.out _ _ e8 (fun hHeld=> ?_);clear hK K
    try simp only[Act.put,sA]
    refine wpAnyH_ready (rs:= [11]) (by kernel_rfl) (by simp) ?_;refine(AllReadyH.cons rfl (fun K hK=> ?_) AllReadyH.nil)
    go_simp
    refine hK.out _ _ e8 (fun hHeld=> ?_);clear hK K
    try simp only[Act.put,sA]
    refine wpAnyH_done (by kernel_rfl) ?_ _;go_wp2;go_roundw
    case rel=>exact⟨_,_,_,_,HSN8,HSR8,HSE8,HSS8,HNX,HNLO,HX8⟩
    case measure=>
     have h1:=HLT.out;rw[HNR.out,HNN.out] at h1;simp only[sliceLen];omega
   ·have g1:decide (((n-rad:Nat):Int)<nn)=false:=decide_eq_false (by omega);obtain⟨d0,d1,f0,f1⟩:=two_cells HX4.out.b1;have HQL:Kept (nw.length+rad<=n):=⟨by rw[HNN.out];omega⟩;have hset:=two_set HX4.out.b1 (.slice an nn mn) (.slice ae ne me);have hgr:w4.grownBy ((w4.setCell ⟨w.heap.size+1,0,none⟩ (.slice an nn mn)).setCell ⟨w.heap.size+1,1,none⟩ (.slice ae ne me)) (some (w.heap.size+1)):=growSet (growSet (growRefl _ _) _ _) _ _;have HSN6:Kept (Sl .i64 ((w4.setCell ⟨w.heap.size+1,0,none⟩ (.slice an nn mn)).setCell ⟨w.heap.size+1,1,none⟩ (.slice ae ne me)) (.slice an nn mn) (ints nw)):=⟨HSN4.out.kept hgr (fun k hk e=>HSN4.out.not_box_ HX4.out.b1 (fun i m e=>by rcases i with _|_|i<;>simp at e) (hk.trans e.symm))⟩;have HSE6:Kept (Sl .i64 ((w4.setCell ⟨w.heap.size+1,0,none⟩ (.slice an nn mn)).setCell ⟨w.heap.size+1,1,none⟩ (.slice ae ne me)) (.slice ae ne me) (ints e)):=⟨HSE4.out.kept hgr (fun k hk e=>HSE4.out.not_box_ HX4.out.b1 (fun i m e=>by rcases i with _|_|i<;>simp at e) (hk.trans e.symm))⟩;have HB6:Kept (Below w.heap.size w ((w4.setCell ⟨w.heap.size+1,0,none⟩ (.slice an nn mn)).setCell ⟨w.heap.size+1,1,none⟩ (.slice ae ne me))):=⟨(HX4.out.1.setCell (p:=⟨w.heap.size+1,0,none⟩) (by simp) _).setCell (p:=⟨w.heap.size+1,1,none⟩) (by simp) _⟩;obtain⟨t0,t1,_,_⟩:=two_cells hset;clear hset hgr;go_wp2;exact bodyPost_ret (v:= .agg #[.slice an nn mn, .slice ae ne me]) (by simp[results,Tryz.results92,go_sem,t0,t1]) rfl ⟨HB6.out,_,_,_,_,_,_,rfl,HSN6.out,HSE6.out,hga.out,HQL.out,hlo.out⟩
abbrev nilv:Value:= .slice none 0 0
abbrev rczv:Value:= .agg #[.pointer none,nilv,nilv, .int .i64 0, .int .i64 0]
abbrev rczb:Obj:= .cells #[.pointer none,nilv,nilv, .int .i64 0, .int .i64 0] 119
theorem five_free {w:World}{g:Nat}{a b c d e:Value}{T:TypeId}(h:w.heap[g]? =some (.cells #[a,b,c,d,e] T (0,0))):
 w.frozen? ⟨g,0,none⟩=false/\w.frozen? ⟨g,1,none⟩=false/\w.frozen? ⟨g,2,none⟩=false/\w.frozen? ⟨g,3,none⟩=false/\w.frozen? ⟨g,4,none⟩=false:=
 ⟨frozen_of_row w g 0 _ T h,frozen_of_row w g 1 _ T h,frozen_of_row w g 2 _ T h,frozen_of_row w g 3 _ T h,frozen_of_row w g 4 _ T h⟩
theorem five_set_ {w:World}{g:Nat}{a b c d e:Value}{T:TypeId}(h:w.heap[g]? =some (.cells #[a,b,c,d,e] T (0,0)))(a' b' c' d' e' :Value):
 (((((w.setCell ⟨g,0,none⟩ a').setCell ⟨g,1,none⟩ b').setCell ⟨g,2,none⟩ c').setCell ⟨g,3,none⟩ d').setCell ⟨g,4,none⟩ e').heap[g]? =some (.cells #[a',b',c',d',e'] T (0,0)):=by
 have h1:=heap_setCell_same w g 0 _ T a' h;have h2:=heap_setCell_same _ g 1 _ T b' h1;have h3:=heap_setCell_same _ g 2 _ T c' h2;have h4:=heap_setCell_same _ g 3 _ T d' h3;have h5:=heap_setCell_same _ g 4 _ T e' h4
 simpa using h5
structure BadC (o k:Int)(ao:Option Addr)(n cap:Nat)(xs:List Int)(r:Nat)(w:World):Prop where
 sl:Sl .i64 w (.slice ao n cap) xs
 len:xs.length=n
 o0: -9223372036854775808<=o
 o1:o<=9223372036854775807
 k0: -9223372036854775808<=k
 k1:k<=9223372036854775807
 is:chkE o xs k=r
 ne:r≠0
section
variable {o k : Int} {ao : Option Addr} {n cap : Nat} {xs : List Int} {r : Nat}
end
section
variable {o k : Int} {ao : Option Addr} {n cap : Nat} {xs : List Int} {r : Nat}
end
set_option maxRecDepth 20000 in
theorem raw3_any (v:Value)(xs:List Int)(most:Nat)(w:World)(h:Sl .i64 w v xs)(hm:most<=1000):
 Calls Tryz.prog 18 #[v, .int .i64 most] w (RetM w (xs.take most)):=by
 obtain⟨ao,cap,rfl,hcap,hmax,hc⟩:=h;obtain⟨n,hN⟩:∃ n,xs.length=n:=⟨_,rfl⟩;obtain⟨k,hk⟩:∃ k,min n most=k:=⟨_,rfl⟩;have hlen:(xs.take most).length=k:=by rw[List.length_take,hN,<- hk];omega
 rw[hN] at hcap ⊢
 have HSL:Kept (Sl .i64 w (.slice ao k cap) (xs.take most)):=⟨⟨ao,cap,by rw[hlen],by omega,hmax,fun i hi=>by
  obtain⟨b,o,e,hb,hcell⟩:=hc i (by omega)
  exact⟨b,o,e,hb,by rw[hcell,List.getElem?_take,if_pos (by omega)]⟩⟩⟩
 have em:min (n:Int) (most:Int)=k:=by omega
 have hk0:(0:Int)<=(k:Int):=by omega
 have hk1:(k:Int)<=(cap:Int):=by omega
 have hk2:k<=cap:=by omega
 have H1:=Km (show(([]:List Int).length+(xs.take most).length)*8<=140737488355328 by rw[hlen];simp;omega);have H2:=Km (show([]:List Int).length+(xs.take most).length<=maxLen by rw[hlen];unfold maxLen;simp;omega);unfold maxLen at hmax;have hc0:=Km hc;have HN:=Km hN;clear hc hN hlen
 cases ao with
 | none=>
   clear H1 H2 HSL em hk0 hk1 hk2
   obtain rfl:xs= []:=by
    cases xs with
    |nil=>rfl
    |cons x t=>obtain⟨b,o,e,_⟩:=hc0.out 0 (by simp);cases e
   obtain rfl:n=0:=by have:=HN.out;simp at this;omega
   have hm0: ¬ (most:Int)<((0:Nat):Int):=by omega
   go_enter Tryz.func18,Tryz.ntmps18
   go_wp2
   go_ret
   exact⟨Below.refl _ _, .slice none 0 0,rfl,by first|exact Mine.nil _ _ _ _|(rw[List.take_nil];exact Mine.nil _ _ _ _)⟩
 | some ad=>
   clear hc0 HN
   by_cases hlt:most<n
   ·obtain rfl:k=most:=by omega
    have hlt' :(k:Int)<(n:Int):=by omega
    go_enter Tryz.func18,Tryz.ntmps18
    go_wp2_with (at_builtin;refine wpList_append_sl _ rfl _ _ 22 rfl 3 .i64 8 Tryz.underlying22 info_i64 w.heap.size _ [] rfl (Mine.nil _ _ _ _) (Nat.le_refl _) _ _ rfl HSL.out H1.out H2.out ?_)
    intro v' w5 hm5 hg5;have HM5:=Km hm5;have HB5:=Km ((Below.refl _ _).grown hg5 (Nat.le_refl _) (fun k hk=>by simp[Value.ownBlock] at hk));clear hm5 hg5;go_wp2
    go_ret
    exact⟨HB5.out,_,rfl,by simpa using HM5.out⟩
   ·obtain rfl:k=n:=by omega
    have hlt' : ¬ (most:Int)<(k:Int):=by omega
    go_enter Tryz.func18,Tryz.ntmps18
    go_wp2_with (at_builtin;refine wpList_append_sl _ rfl _ _ 22 rfl 3 .i64 8 Tryz.underlying22 info_i64 w.heap.size _ [] rfl (Mine.nil _ _ _ _) (Nat.le_refl _) _ _ rfl HSL.out H1.out H2.out ?_)
    intro v' w5 hm5 hg5;have HM5:=Km hm5;have HB5:=Km ((Below.refl _ _).grown hg5 (Nat.le_refl _) (fun k hk=>by simp[Value.ownBlock] at hk));clear hm5 hg5;go_wp2
    go_ret
    exact⟨HB5.out,_,rfl,by simpa using HM5.out⟩
theorem els_bel (D:FFld.FD)(xs:List Int):elsB D xs=belB (D.q:Int) xs:=rfl
set_option maxRecDepth 20000 in
theorem rtwice_any (v:Value)(xs:List Int)(w:World)(h:Sl .i64 w v xs):
 Calls Tryz.prog 83 #[v] w (RB w (.bool (!difB xs xs.length))):=by
 obtain⟨ao,cap,rfl,hcap,hmax,hc⟩:=h;obtain⟨n,hN⟩:∃ n,xs.length=n:=⟨_,rfl⟩;have HC:=Km hc;rw[hN] at hcap HC ⊢;clear hN;unfold maxLen at hmax;clear hc
 go_enter Tryz.func83,Tryz.ntmps83
 go_wp2
 go_loopw [3] (fun iv wr=> ∃ (i:Nat),i<=n/\iv= .int .i64 i/\Kept (difB xs i=true)/\Kept (Below w.heap.size w wr)) (fun iv _=>n-(intOf iv).toNat)
 case atStart=>exact⟨0,Nat.zero_le _,rfl,⟨rfl⟩,⟨Below.refl _ _⟩⟩
 case round=>
  obtain⟨i,hin,rfl,hat,hbw⟩:=hrel
  by_cases hlt:i<n
  ·obtain⟨g,o,rfl,hg,hcell⟩:=HC.out i hlt;obtain⟨a,ha⟩:∃ a,xs[i]?.getD 0=a:=⟨_,rfl⟩;rw[ha] at hcell;have HA:=Km ha;have hic:i<=cap:=by omega
   clear ha;go_wp2
   go_loopw [4] (fun jv wr=> ∃ (j:Nat),j<=i/\jv= .int .i64 j/\Kept (difAt xs i j=true)/\Kept (Below w.heap.size w wr)) (fun jv _=>i-(intOf jv).toNat)
   case atStart=>exact⟨0,Nat.zero_le _,rfl,⟨rfl⟩,hbw⟩
   case round=>
    obtain⟨j,hji,rfl,hdj,hbv⟩:=hrel
    by_cases hj:j<i
    ·have hjn:j<n:=by omega
     obtain⟨g',o',e',hg',hcell'⟩:=HC.out j (by omega);obtain⟨rfl,rfl⟩:g=g' /\o=o' :=by simpa using e'
     clear e';obtain⟨c,hcc⟩:∃ c,xs[j]?.getD 0=c:=⟨_,rfl⟩;rw[hcc] at hcell';have p0:=belowCell hbv.out hcell;have p1:=belowCell hbv.out hcell'
     by_cases hac:a=c
     ·have HE:Kept (difB xs n=false):=⟨difB_no hj hlt (by rw[HA.out,hcc];exact hac)⟩;have e0:(a==c)=true:=beq_iff_eq.2 hac;clear hcc;go_wp2
      go_region_held3 (fun w' =>w'.cell? ⟨g,o+i,none⟩=some (.int .i64 a)/\w'.cell? ⟨g,o+j,none⟩=some (.int .i64 c)) (first|exact⟨p0,p1⟩|go_keep) (fail)
      go_wp2
      go_ret
      exact⟨(hbv.out).drew,by rw[HE.out];rfl⟩
     ·have HT:Kept (difAt xs i (j+1)=true):=⟨by rw[difAt_succ,hdj.out,HA.out,hcc];simpa using hac⟩;have e0:(a==c)=false:=beq_eq_false_iff_ne.2 hac;have HB:=Km hbv.out.drew;clear hcc;go_wp2
      go_region_held3 (fun w' =>w'.cell? ⟨g,o+i,none⟩=some (.int .i64 a)/\w'.cell? ⟨g,o+j,none⟩=some (.int .i64 c)) (first|exact⟨p0,p1⟩|go_keep) (fail)
      go_wp2;go_roundw
      case rel=>exact⟨j+1,by omega,by go_num,HT,HB⟩
      case measure=>simp[intOf]<;>omega
    ·obtain rfl:j=i:=by omega
     have HT:Kept (difB xs (j+1)=true):=⟨by rw[difB_succ,hat.out,hdj.out];rfl⟩;go_wp2;go_roundw
     case rel=>exact⟨j+1,by omega,by go_num,HT,hbv⟩
     case measure=>simp[intOf]<;>omega
  ·obtain rfl:i=n:=by omega
   go_wp2
   go_ret
   exact⟨hbw.out,by rw[hat.out];rfl⟩
abbrev rcdbox (o:Int)(ao:Option Addr)(n cap:Nat)(k:Int):Obj:= .cells #[.int .i64 o, .slice ao n cap, .int .i64 k] 24
set_option maxRecDepth 20000 in
theorem give_any (o k:Int)(ao:Option Addr)(n cap:Nat)(w:World):
 Calls Tryz.prog 20 #[cdv o ao n cap k] w (RB w (cdv o ao n cap k)):=by
 have HX0:Kept (Bxs w [rcdbox o ao n cap k,cdbox 0 none 0 0 0] ((w.alloc (rcdbox o ao n cap k)).alloc (cdbox 0 none 0 0 0))):=⟨((Bxs.start w).alloc (by simp) _).alloc (by simp) _⟩;have HX1:Kept (Bxs w [rcdbox o ao n cap k,cdbox o ao n cap k] ((w.alloc (rcdbox o ao n cap k)).alloc (cdbox o ao n cap k))):=⟨((Bxs.start w).alloc (by simp) _).alloc (by simp) _⟩;obtain⟨c0,c1,c2,_⟩:=three_cells HX0.out.b0;obtain⟨d0,d1,d2,f0,f1,f2⟩:=three_cells HX0.out.b1
 go_enter Tryz.func20,Tryz.ntmps20
 go_wp2;obtain⟨s0,s1,s2,_⟩:=three_cells HX1.out.b1;exact bodyPost_ret (v:=cdv o ao n cap k) (by simp[results,Tryz.results20,go_sem,s0,s1,s2]) rfl ⟨HX1.out.1,rfl⟩
set_option maxRecDepth 20000 in
theorem rccheck_any (o k:Int)(ao:Option Addr)(cap:Nat)(xs:List Int)(w:World)(h:Sl .i64 w (.slice ao xs.length cap) xs)(o0: -9223372036854775808<=o)(o1:o<=9223372036854775807)(k0: -9223372036854775808<=k)(k1:k<=9223372036854775807):
 Calls Tryz.prog 19 #[cdv o ao xs.length cap k] w (RB w (.int .i64 (chkE o xs k:Nat))):=by
 have HX0:Kept (Bxs w [rcdbox o ao xs.length cap k] (w.alloc (rcdbox o ao xs.length cap k))):=⟨(Bxs.start w).alloc (by simp) _⟩;have HO:=Km (fun W=>rnew_any o W o0 o1);have HS:=Km h
 have hm:xs.length<=9223372036854775807:=by
  obtain⟨_,_,e,h1,h2,_⟩:=h;unfold maxLen at h2;omega
 have hnot:∀ (x:Bool) (w:World),(Op.unary .not (.bool x)).run Tryz.prog w= .ok (.bool (!x)) w:=fun _ _=>rfl
 have HC0:Kept (¬ FFld.Fit o->chkE o xs k=20):=⟨fun hn=>by unfold chkE;rw[if_neg hn]⟩;have HC1:Kept (FFld.Fit o->64<xs.length->chkE o xs k=2):=⟨fun hn h1=>by unfold chkE;rw[if_pos hn,if_pos h1]⟩;have HC2:Kept (FFld.Fit o-> ¬ 64<xs.length->(k<1\/(xs.length:Int)<k\/belB o xs=false\/difB xs xs.length=false)->chkE o xs k=1):=⟨fun hn h1 h2=>by unfold chkE;rw[if_pos hn,if_neg h1,if_pos h2]⟩;have HC3:Kept (FFld.Fit o-> ¬ 64<xs.length-> ¬ (k<1\/(xs.length:Int)<k\/belB o xs=false\/difB xs xs.length=false)->chkE o xs k=0):=⟨fun hn h1 h2=>by unfold chkE;rw[if_pos hn,if_neg h1,if_neg h2]⟩;obtain⟨r,hr⟩:∃ r,chkE o xs k=r:=⟨_,rfl⟩;rw[hr] at HC0 HC1 HC2 HC3 ⊢;obtain⟨n,hn⟩:∃ n,xs.length=n:=⟨_,rfl⟩;have HN:=Km hn;rw[hn] at HX0 HS HC1 HC2 HC3 hm ⊢;clear h hr hn
 go_enter Tryz.func19,Tryz.ntmps19
 obtain⟨c0,c1,c2,_⟩:=three_cells HX0.out.b0;go_wp2_with fail;refine(HO.out _).mono ?_;rintro e w1 ⟨hb1,⟨D,hD,hq,rfl⟩|⟨hf,rfl⟩⟩
 ·have hf:FFld.Fit o:=⟨D,hD,hq⟩;have HX1:=Km ((HX0.out.below hb1).below ((Below.refl w1.heap.size w1).alloc (Nat.le_refl _) (rbox D.q D.p D.k D.m)));replace HC1:=Km (HC1.out hf);replace HC2:=Km (HC2.out hf);replace HC3:=Km (HC3.out hf);have HS1:=Km (HS.out.below HX1.out.1);have HQ:=Km hq;clear hb1 hf c0 c1 c2 HC0 HO hq;obtain⟨c0,c1,c2,_⟩:=three_cells HX1.out.b0;obtain⟨i0,i1,i2,i3⟩:=four_cells (heap_alloc_new w1 (rbox D.q D.p D.k D.m))
  by_cases h64:64<n
  ·have d1:decide ((64:Int)<n)=true:=decide_eq_true (by omega);obtain rfl:=HC1.out h64;go_wp2
   go_ret
   exact⟨HX1.out.1,rfl⟩
  ·have d1:decide ((64:Int)<n)=false:=decide_eq_false (by omega)
   by_cases hk1:k<1
   ·have d2:decide (k<1)=true:=decide_eq_true hk1;obtain rfl:=HC2.out h64 (.inl hk1);go_wp2
    go_ret
    exact⟨HX1.out.1,rfl⟩
   ·have d2:decide (k<1)=false:=decide_eq_false hk1
    by_cases hk2:(n:Int)<k
    ·have d3:decide ((n:Int)<k)=true:=decide_eq_true hk2;obtain rfl:=HC2.out h64 (.inr (.inl hk2));go_wp2
     go_ret
     exact⟨HX1.out.1,rfl⟩
    ·have d3:decide ((n:Int)<k)=false:=decide_eq_false hk2;have HA:=Km (relements_any D (.slice ao n cap) xs (w1.alloc (rbox D.q D.p D.k D.m)) HS1.out);have HD:=Km (fun W hW=>rtwice_any (.slice ao n cap) xs W (HS1.out.below hW));rw[els_bel,<- HQ.out] at HA;rw[HN.out] at HD;obtain⟨t,ht⟩:∃ t,belB o xs=t:=⟨_,rfl⟩;obtain⟨u,hu⟩:∃ u,difB xs n=u:=⟨_,rfl⟩;rw[ht] at HA HC2 HC3;rw[hu] at HD HC2 HC3;clear ht hu;go_wp2_with fail;(with_reducible refine HA.out.mono ?_);rintro e w2 ⟨hb2,rfl⟩;have HX2:=Km (HX1.out.below hb2);have HD2:=Km (HD.out w2 hb2);clear hb2 c0 c1 c2 HD HA i0 i1 i2 i3;obtain⟨c0,c1,c2,_⟩:=three_cells HX2.out.b0
     cases t with
     | false=>
       obtain rfl:=HC2.out h64 (.inr (.inr (.inl rfl)));go_wp2
       go_ret
       exact⟨HX2.out.1,rfl⟩
     | true=>
       go_wp2_with fail;(with_reducible refine HD2.out.mono ?_);rintro e w3 ⟨hb3,rfl⟩;have HX3:=Km (HX2.out.below hb3);clear hb3
       cases u with
       | false=>
         obtain rfl:=HC2.out h64 (.inr (.inr (.inr rfl)));go_wp2
         go_ret
         exact⟨HX3.out.1,rfl⟩
       | true=>
         obtain rfl:=HC3.out h64 (by rintro(h|h|h|h)<;>first|omega|cases h);go_wp2
         go_ret
         exact⟨HX3.out.1,rfl⟩
 ·have HX1:=Km ((HX0.out.below hb1).below ((Below.refl w1.heap.size w1).alloc (Nat.le_refl _) rzbox));obtain rfl:=HC0.out hf;clear hb1 hf c0 c1 c2;obtain⟨c0,c1,c2,_⟩:=three_cells HX1.out.b0;go_wp2
  go_ret
  exact⟨HX1.out.1,rfl⟩

def hasB (l:List Int)(n:Int):Bool:=l.any fun a=>decide (a=n)
theorem hasB_iff {l:List Int}{n:Int} :hasB l n=true↔n∈l:=by
 unfold hasB;rw[List.any_eq_true];constructor
 ·rintro⟨a,ha,h⟩;exact of_decide_eq_true h ▸ ha
 ·exact fun h=>⟨n,h,decide_eq_true rfl⟩
set_option maxRecDepth 20000 in
theorem rhas_any (v:Value)(xs:List Int)(x:Int)(w:World)(h:Sl .i64 w v xs):
 Calls Tryz.prog 65 #[v, .int .i64 x] w (fun e w' =>w=w' /\e= .returned (.bool (hasB xs x))):=by
 obtain⟨ao,cap,rfl,hcap,hmax,hc⟩:=h;obtain⟨n,hN⟩:∃ n,xs.length=n:=⟨_,rfl⟩;have HC:=Km hc;rw[hN] at hcap ⊢;have HN:=Km hN;unfold maxLen at hmax;clear hc hN
 go_enter Tryz.func65,Tryz.ntmps65
 go_wp2
 go_loopw [5] (fun iv wr=> ∃ (i:Nat),i<=n/\iv= .int .i64 i/\Kept (hasB (xs.take i) x=false)/\w=wr) (fun iv _=>n-(intOf iv).toNat)
 case atStart=>exact⟨0,Nat.zero_le _,rfl,⟨rfl⟩,rfl⟩
 case round=>
  obtain⟨i,hin,rfl,hat,rfl⟩:=hrel
  by_cases hlt:i<n
  ·obtain⟨g,o,rfl,hg,hcell⟩:=HC.out i (by rw[HN.out];exact hlt);obtain⟨a,ha⟩:∃ a,xs[i]?.getD 0=a:=⟨_,rfl⟩;rw[ha] at hcell
   have hT:xs.take (i+1)=xs.take i++ [a]:=by
    rw[List.take_add_one]
    congr 1
    rw[<- ha,List.getElem?_eq_getElem (by rw[HN.out];exact hlt)];rfl
   have HM:Kept (a∈xs):=⟨by rw[<- ha];exact FFld.get_mem (by rw[HN.out];exact hlt)⟩
   have HT:Kept (hasB (xs.take (i+1)) x=decide (a=x)):=⟨by
    have:=hat.out;unfold hasB at this ⊢;rw[hT,List.any_append,this]
    simp only[List.any_cons,List.any_nil,Bool.or_false,Bool.false_or]⟩
   clear ha hT
   by_cases h1:a=x
   ·have HE:Kept (hasB xs x=true):=⟨hasB_iff.2 (h1 ▸ HM.out)⟩;have d1:(a==x)=true:=beq_iff_eq.2 h1;go_wp2
    go_ret
    exact⟨rfl,by rw[HE.out];rfl⟩
   ·have d1:(a==x)=false:=beq_eq_false_iff_ne.2 h1;have HT' :Kept (hasB (xs.take (i+1)) x=false):=⟨by rw[HT.out];exact decide_eq_false h1⟩;go_wp2;go_roundw
    case rel=>exact⟨i+1,by omega,by go_num,HT',trivial⟩
    case measure=>simp[intOf]<;>omega
  ·obtain rfl:i=n:=by omega
   have HE:Kept (hasB xs x=false):=⟨by have:=hat.out;rw[<- HN.out,List.take_length] at this;exact this⟩;go_wp2
   go_ret
   exact⟨rfl,by rw[HE.out];rfl⟩
set_option maxRecDepth 20000 in
theorem same3_eq (va vb:Value)(xs:List Int)(w:World)(ha:Sl .i64 w va xs)(hb:Sl .i64 w vb xs)(hn:xs.length<=1000000):
 Calls Tryz.prog 34 #[va,vb] w (RB w (.bool true)):=by
 obtain⟨a1,k1,rfl,hk1,hm1,hx1⟩:=ha;obtain⟨a2,k2,rfl,hk2,hm2,hx2⟩:=hb;obtain⟨n,hN⟩:∃ n,xs.length=n:=⟨_,rfl⟩;rw[hN] at hk1 hk2 hn ⊢;have HN:=Km hN;have H1:=Km hx1;have H2:=Km hx2;unfold maxLen at hm1 hm2;have e0:((n:Int)==(n:Int))=true:=by simp
 clear hx1 hx2 hN
 go_enter Tryz.func34,Tryz.ntmps34
 go_wp2
 go_loopw [5] (fun iv wr=> ∃ (i:Nat),i<=n/\iv= .int .i64 i/\Kept (Below w.heap.size w wr)) (fun iv _=>n-(intOf iv).toNat)
 case atStart=>exact⟨0,Nat.zero_le _,rfl,⟨Below.refl _ _⟩⟩
 case round=>
  obtain⟨i,hin,rfl,hbx⟩:=hrel
  by_cases hlt:i<n
  ·obtain⟨g1,o1,rfl,hg1,u1⟩:=H1.out i (by rw[HN.out];exact hlt);obtain⟨g2,o2,rfl,hg2,u2⟩:=H2.out i (by rw[HN.out];exact hlt);obtain⟨x,hx⟩:∃ x,xs[i]?.getD 0=x:=⟨_,rfl⟩;rw[hx] at u1 u2;have u1:=(hbx.out.cell (p:=⟨g1,o1+i,none⟩) hg1).trans u1;have u2:=(hbx.out.cell (p:=⟨g2,o2+i,none⟩) hg2).trans u2;clear hx;go_wp2
   go_quiet (fail)
   go_wp2;go_roundw
   case rel=>exact⟨i+1,by omega,by go_num,⟨below_drewN hbx.out _⟩⟩
   case measure=>simp[intOf]<;>omega
  ·obtain rfl:i=n:=by omega
   go_wp2
   go_ret
   exact⟨hbx.out,rfl⟩
def OdRet (n most:Int)(w:World)(e:Ending)(w' :World):Prop:=Below w.heap.size w w' /\ ∃ (D:FFld.FD),D.Ok/\((D.q:Int)<=most\/D.q<=16)/\e= .returned (.int .i64 D.q)
def s3L:List Nat:= [2,3,4,5,7,8,9,11,13,16]
theorem s3_fit (t:Nat)(ht:t<10):FFld.Fit ((s3L[t]?.getD 0:Nat):Int)/\s3L[t]?.getD 0<=16:=by
 have h:∀ p k:Nat,FFld.isP p=true->1<=k->p ^ k<=16->FFld.Fit ((p ^ k:Nat):Int)/\p ^ k<=16:=fun p k hp hk hq=>⟨FFld.fit_pow (FFld.prime_of hp) hk (by omega),hq⟩
 have:t=0\/t=1\/t=2\/t=3\/t=4\/t=5\/t=6\/t=7\/t=8\/t=9:=by omega
 rcases this with rfl|rfl|rfl|rfl|rfl|rfl|rfl|rfl|rfl|rfl
 ·exact h 2 1 (by decide) (by decide) (by decide)
 ·exact h 3 1 (by decide) (by decide) (by decide)
 ·exact h 2 2 (by decide) (by decide) (by decide)
 ·exact h 5 1 (by decide) (by decide) (by decide)
 ·exact h 7 1 (by decide) (by decide) (by decide)
 ·exact h 2 3 (by decide) (by decide) (by decide)
 ·exact h 3 2 (by decide) (by decide) (by decide)
 ·exact h 11 1 (by decide) (by decide) (by decide)
 ·exact h 13 1 (by decide) (by decide) (by decide)
 ·exact h 2 4 (by decide) (by decide) (by decide)
abbrev s3box:Obj:= .cells #[.int .i64 2, .int .i64 3, .int .i64 4, .int .i64 5, .int .i64 7, .int .i64 8, .int .i64 9, .int .i64 11, .int .i64 13, .int .i64 16] 109
theorem s3_cell {W:World}{g:Nat}(h:W.heap[g]? =some s3box)(t:Nat)(ht:t<10):W.cell? ⟨g,t,none⟩=some (.int .i64 ((s3L[t]?.getD 0:Nat):Int)):=by
 rw[cell_of_row W g t _ _ (0,0) h];have:t=0\/t=1\/t=2\/t=3\/t=4\/t=5\/t=6\/t=7\/t=8\/t=9:=by omega
 rcases this with rfl|rfl|rfl|rfl|rfl|rfl|rfl|rfl|rfl|rfl<;>rfl
set_option maxRecDepth 20000 in
theorem order3_any (n most:Int)(w:World)(h0: -9223372036854775808<=n)(h1:n<=9223372036854775807):
 Calls Tryz.prog 58 #[.int .i64 n, .int .i64 most] w (OdRet n most w):=by
 have HR:=Km (fun W=>rnew_any n W h0 h1);have HX0:Kept (Bxs w [s3box] (w.alloc s3box)):=⟨(Bxs.start w).alloc (by simp) _⟩;obtain⟨U,hU⟩:∃ U,IntKind.u64.wrap n=U:=⟨_,rfl⟩;obtain⟨hU0,hU1⟩:0<=U/\U<=18446744073709551615:=by rw[<- hU,IntKind.wrap_u64];omega
 obtain⟨t,ht⟩:∃ t:Nat,U%10=(t:Int):=⟨(U%10).toNat,by omega⟩;have ht10:t<10:=by omega
 obtain⟨sm,hsm⟩:∃ s,s3L[t]?.getD 0=s:=⟨_,rfl⟩;obtain⟨hfit,hs16⟩:=s3_fit t ht10;rw[hsm] at hfit hs16;obtain⟨D',hD',hq'⟩:=hfit;have HFIT:Kept (D'.Ok/\(D'.q:Int)=sm):=⟨⟨hD',hq'.symm⟩⟩;have hu0:0<=U%10:=by omega
 have hu1:U%10<10:=by omega
 have hu2:(U%10).toNat=t:=by omega
 clear hD' hq'
 go_enter Tryz.func58,Tryz.ntmps58
 go_wp2_with fail;refine(HR.out _).mono ?_;rintro e w1 ⟨hb1,h⟩;have HX1:=Km (HX0.out.below hb1);clear hb1 HX0
 rcases h with⟨D,hD,hq,rfl⟩|⟨hn,rfl⟩
 ·have HX2:=Km (HX1.out.below ((Below.refl _ _).alloc (Nat.le_refl _) (rbox D.q D.p D.k D.m)));clear HX1
  by_cases hle:n<=most
  ·have HRS:Kept (D.Ok/\(D.q:Int)=n/\n<=most):=⟨⟨hD,by omega,hle⟩⟩;have eg:decide (n<=most)=true:=decide_eq_true hle;clear hD hq ht hU hsm hle;go_wp2
   go_ret
   exact⟨HX2.out.1,D,HRS.out.1, .inl (by have:=HRS.out.2;omega),by rw[HRS.out.2.1];rfl⟩
  ·have eg:decide (n<=most)=false:=decide_eq_false hle;have hcell:=s3_cell HX2.out.b0 t ht10;rw[hsm] at hcell;clear hD hq hsm ht hle;go_wp2
   go_ret
   exact⟨HX2.out.1,D',HFIT.out.1, .inr (by have:=HFIT.out.2;omega),by rw[HFIT.out.2];rfl⟩
 ·have HX2:=Km (HX1.out.below ((Below.refl _ _).alloc (Nat.le_refl _) rzbox));have hcell:=s3_cell HX2.out.b0 t ht10;rw[hsm] at hcell;clear HX1 hn hsm ht;go_wp2
  go_ret
  exact⟨HX2.out.1,D',HFIT.out.1, .inr (by have:=HFIT.out.2;omega),by rw[HFIT.out.2];rfl⟩
end Go.Proofs.YtdnheaafcbihbaaGreat
