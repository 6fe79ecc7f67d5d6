/-
  Texts of the proof, merged by program: Cdd Awp Awc Law Crr Cmk Rmk Ren Lck Rwd Msg Cwd Rsm Rs2 Rth Rt2 Rwm.
-/
import Derived.Test.YtdnheaafcbihbaaGreatDc26
set_option linter.unusedSimpArgs false
set_option linter.unusedVariables false
set_option maxHeartbeats 16000000
namespace Go.Proofs.YtdnheaafcbihbaaGreat
open Go Go.RowKit Go.Deep
open FFld (ints)
def DyRet {D:FFld.FD}(hD:D.Ok)(P W:List Nat)(n k t:Nat)(w:World)(e:Ending)(w' :World):Prop:=Below w.heap.size w w' /\((∃ (vq ve:Value) (Q E bf el:List Nat),(∀ Po,¬ Near D P W k t Po)/\e= .returned (.tuple #[.agg #[vq,ve], .bool true])/\Sl .i64 w' vq (ints Q)/\Sl .i64 w' ve (ints E)/\FFld.GaoOk hD P W n bf Q el E/\Q.length+t<=n/\n<bf.length+t)\/((∃ Po,Near D P W k t Po)/\e= .returned (.tuple #[.agg #[nilv,nilv], .bool false])))
set_option maxRecDepth 20000 in
theorem cdeny_any {D:FFld.FD}(hD:D.Ok)(ax aw ae:Option Addr)(cx cw ce n m k:Nat)(xs ws:List Nat)(es:List Int)(w:World)(hx:Sl .i64 w (.slice ax n cx) (ints xs))(hw:Sl .i64 w (.slice aw n cw) (ints ws))(he:Sl .i64 w (.slice ae m ce) es)(hc:CodeV D xs n k)(lw:ws.length=n)(le:es.length=m)(hwq:∀ a∈ws,a<D.p ^ D.k)(hkm:m+k<=n)(hb:belB n es=true)(hd:difB es m=true):
 Calls Tryz.prog 26 #[cdv D.q ax n cx k, .slice aw n cw, .slice ae m ce] w (DyRet hD (kpL es n xs) (kpL es n ws) (kpF es n).length k ((n-m-k)/2) w):=by
 have HX0:Kept (Bxs w [cdbox D.q ax n cx k,fabox nilv nilv] ((w.alloc (cdbox D.q ax n cx k)).alloc (fabox nilv nilv))):=⟨((Bxs.start w).alloc (by simp) _).alloc (by simp) _⟩;have hRC:∀ W,Below w.heap.size w W->Calls Tryz.prog 90 #[cdv D.q ax n cx k, .slice aw n cw, .slice ae m ce] W (ReRet hD k ((n-m-k)/2) (kpL es n xs) (kpL es n ws) W):=fun W hW=>creceive_ok hD ax aw ae cx cw ce n m k xs ws es W (hx.below hW) (hw.below hW) (he.below hW) hc.len lw le hc.lt hwq hc.chk hc.k1 hkm hc.n64 hb hd
 have hkl:=kp_len hb hd le;have hPl:=kpL_len es n xs;have hWl:=kpL_len es n ws;have hPq:=kpL_lt (es:=es) hc.len hc.lt;have hWq:=kpL_lt (es:=es) lw hwq;have hPd:=kpL_dif (es:=es) hc.dif;obtain⟨P,hP⟩:∃ l,kpL es n xs=l:=⟨_,rfl⟩;obtain⟨Wd,hWd⟩:∃ l,kpL es n ws=l:=⟨_,rfl⟩;obtain⟨np,hnp⟩:∃ l,(kpF es n).length=l:=⟨_,rfl⟩;obtain⟨rad,hrad⟩:∃ r,(n-m-k)/2=r:=⟨_,rfl⟩;rw[hP,hWd,hrad] at hRC;rw[hP,hWd,hrad];rw[hP] at hPl hPq hPd;rw[hWd] at hWl hWq;rw[hnp] at hkl hPl hWl
 try rw[hnp]
 rw[hPl] at hPd;have hr1:2*rad+k<=np:=by omega
 have h64:=hc.n64;have hk1:=hc.k1;have hlx:=hc.len;have hxq:=hc.lt;have HRC:=Km hRC;have HPL:=Km hPl;have HWL:=Km hWl;have HPA:Kept (∀ W b pa ea pc ec,FldB D W b->Sl .i64 W (.slice pa np pc) (ints P)->Sl .i64 W (.slice ea np ec) (ints Wd)->Calls Tryz.prog 92 #[rcv b (.slice pa np pc) (.slice ea np ec) k rad] W (GaRet2 hD P Wd np rad W)):=⟨fun W b pa ea pc ec hf hp hq=>(cpair_any hD pa ea pc ec k rad np P Wd W hf hp hq hPl hWl hPq hWq hPd (by omega) (by omega) (by omega)).mono fun e w' h=>GaRet.two h⟩
 have HQU:Kept (∀ W b pa ea pc ec aq cq av cv nQ nE Q E bf el,FldB D W b->Sl .i64 W (.slice pa np pc) (ints P)->Sl .i64 W (.slice ea np ec) (ints Wd)->Sl .i64 W (.slice aq nQ cq) (ints Q)->Sl .i64 W (.slice av nE cv) (ints E)->Q.length=nQ->E.length=nE->FFld.GaoOk hD P Wd np bf Q el E->Q.length+rad<=np->np<bf.length+rad->Calls Tryz.prog 91 #[rcv b (.slice pa np pc) (.slice ea np ec) k rad, .agg #[.slice aq nQ cq, .slice av nE cv]] W (NqRet D P Wd k rad W)):=⟨fun W b pa ea pc ec aq cq av cv nQ nE Q E bf el hf hp hq hQ hE lQ lE g h1 h2=>by
  subst lQ lE;have g1:=g.len;have g2:=g.up;have h:=cquot_any hD pa ea aq av pc ec cq cv k rad np P Wd Q E W hf hp hq hPl hWl hPq hWq (by omega) (by omega) (by omega) hQ hE g.nlt g.elt g.tn g.te (by omega) (by omega) (by omega)
  exact h.mono fun e w' ⟨hb,v,he,hv⟩=>⟨hb,v,_,he,fun hg=>⟨_,good_near hD g (good_of hg),hv (good_of hg)⟩,fun hg Po hN=>good_not hg (near_good hD g hPl hPq hPd h1 h2 hr1 hN)⟩⟩
 have HVA:Kept (∀ W,Below w.heap.size w W-> ∀ b ap cp nP Po,FldB D W b->(∀ a∈Po,a<D.p ^ D.k)->Po.length<=64->Po.length=nP->Sl .i64 W (.slice ap nP cp) (ints Po)->Calls Tryz.prog 87 #[.pointer (some ⟨b,0,none⟩), .slice ax n cx, .slice ap nP cp] W (fun e w' =>Below W.heap.size W w' /\ ∃ v,e= .returned v/\Mine 3 .i64 w.heap.size w' v (ints (FFld.valsF D Po xs xs.length)))):=⟨fun W hW b ap cp nP Po hf hq h64 hnP hs=>by
  subst hnP;have h:=cvalues_any hD ax ap cx cp xs Po W hf (by rw[hlx];exact hx.below hW) hs hxq hq (by omega) (by omega);rw[hlx] at h ⊢
  exact h.mono fun e w' ⟨hb,he,hw⟩=>⟨hb,_,he,hw.mine hW.size (by rw[FFld.valsF_len,hlx]) (by unfold maxLen;omega)⟩⟩
 clear hx hw he lw le hwq hb hd hRC hPl hWl hPq hWq hPd hP hWd hnp hrad hlx hxq hc
 go_enter Tryz.func26,Tryz.ntmps26
 obtain⟨c0,c1,c2,_⟩:=three_cells HX0.out.b0;have hbx:=HX0.out.1;go_wp2_with fail;(with_reducible refine(HRC.out _ hbx).mono ?_);rintro e w1 ⟨hb1,b,pv,ev,rfl,hf,hp,hev⟩;obtain⟨pa,pc,rfl,_,_⟩:=hp.form;obtain⟨ea,ec,rfl,_,_⟩:=hev.form;rw[FFld.ints_len,HPL.out] at hp;rw[FFld.ints_len,HWL.out] at hev;rw[FFld.ints_len,FFld.ints_len,HPL.out,HWL.out];have HX1:=Km (HX0.out.below hb1);have hal:Below w1.heap.size w1 (w1.alloc (rcbox b (.slice pa np pc) (.slice ea np ec) k rad)):=(Below.refl _ _).alloc (Nat.le_refl _) _;have hbox:=heap_alloc_new w1 (rcbox b (.slice pa np pc) (.slice ea np ec) k rad);obtain⟨W2,hW2⟩:∃ W,w1.alloc (rcbox b (.slice pa np pc) (.slice ea np ec) k rad)=W:=⟨_,rfl⟩;rw[hW2] at hal hbox;have HX2:=Km (HX1.out.below hal);have HF2:=Km (hf.below hal);have HP2:=Km (hp.below hal);have HE2:=Km (hev.below hal);clear hb1 c0 c1 c2 HRC HX1 hal hf hp hev hbx;obtain⟨c0,c1,c2,_⟩:=three_cells HX2.out.b0;obtain⟨j0,j1,j2,j3,j4⟩:=five_cells_ hbox;go_wp2_with fail
 try rw[hW2]
 obtain⟨g,hg⟩:∃ x,w1.heap.size=x:=⟨_,rfl⟩
 try rw[hg]
 rw[hg] at j0 j1 j2 j3 j4 hbox;clear hW2 hg;go_wp2_with fail;(with_reducible refine(HPA.out _ _ _ _ _ _ HF2.out HP2.out HE2.out).mono ?_);rintro e w3 ⟨hb3,aq,cq,av,cv,nQ,nE,Q,E,bf,el,rfl,lQ,lE,hsQ,hsE,hga,hl1,hl2⟩;have hal:Below w3.heap.size w3 (w3.alloc (fabox (.slice aq nQ cq) (.slice av nE cv))):=(Below.refl _ _).alloc (Nat.le_refl _) _;have hfb:=heap_alloc_new w3 (fabox (.slice aq nQ cq) (.slice av nE cv));obtain⟨W4,hW4⟩:∃ W,w3.alloc (fabox (.slice aq nQ cq) (.slice av nE cv))=W:=⟨_,rfl⟩;rw[hW4] at hal hfb;have hb24:Below W2.heap.size W2 W4:=hb3.trans (hal.mono hb3.size);have k0:=belowCell hb24 j0;have k1:=belowCell hb24 j1;have k2:=belowCell hb24 j2;have k3:=belowCell hb24 j3;have k4:=belowCell hb24 j4;obtain⟨f0,f1,_,_⟩:=two_cells hfb;have HFB:=Km hfb;have HX4:=Km (HX2.out.below hb24);have HF4:=Km (HF2.out.below hb24);have HP4:=Km (HP2.out.below hb24);have HE4:=Km (HE2.out.below hb24);have HSQ:=Km (hsQ.below hal);have HSE:=Km (hsE.below hal);have HLQ:=Km lQ;have HLE:=Km lE;have HGA:=Km hga;have HL1:=Km hl1;have HL2:=Km hl2;clear hb3 hal hb24 hsQ hsE lQ lE hga hl1 hl2 HX2 HF2 HP2 HE2 c0 c1 c2 j0 j1 j2 j3 j4 hbox hfb;obtain⟨c0,c1,c2,_⟩:=three_cells HX4.out.b0;go_wp2_with fail
 try rw[hW4]
 obtain⟨g4,hg4⟩:∃ x,w3.heap.size=x:=⟨_,rfl⟩
 try rw[hg4]
 rw[hg4] at f0 f1 HFB;clear hW4 hg4;go_wp2_with fail;(with_reducible refine(HQU.out _ _ _ _ _ _ _ _ _ _ _ _ Q E bf el HF4.out HP4.out HE4.out HSQ.out HSE.out HLQ.out HLE.out HGA.out HL1.out HL2.out).mono ?_);rintro e w5 ⟨hb5,vv,bb,rfl,hyes,hno⟩;have HX5:=Km (HX4.out.below hb5);have HQ5:=Km (HSQ.out.below hb5);have HE5:=Km (HSE.out.below hb5);have q0:=belowCell hb5 f0;have q1:=belowCell hb5 f1;have HYES:=Km hyes;have HNO:=Km hno;clear hb5 hyes hno c0 c1 c2 k0 k1 k2 k3 k4 f0 f1 HX4 HSQ HSE;obtain⟨c0,c1,c2,_⟩:=three_cells HX5.out.b0;obtain⟨d0,d1,f0,f1⟩:=two_cells HX5.out.b1;have hx1:=HX5.out.1
 cases bb with
 | true=>
   obtain⟨Po,hN,_⟩:=HYES.out rfl;have HN:Kept (∃ Po,Near D P Wd k rad Po):=⟨⟨Po,hN⟩⟩;have HSET:=Km (two_set HX5.out.b1 nilv nilv);have HB2:Kept (Below w.heap.size w ((w5.setCell ⟨w.heap.size+1,0,none⟩ nilv).setCell ⟨w.heap.size+1,1,none⟩ nilv)):=⟨(hx1.setCell (p:=⟨w.heap.size+1,0,none⟩) (by simp) _).setCell (p:=⟨w.heap.size+1,1,none⟩) (by simp) _⟩;clear HYES HNO hN hx1;go_wp2;obtain⟨s0,s1,_,_⟩:=two_cells HSET.out;exact bodyPost_ret (v:= .tuple #[.agg #[nilv,nilv], .bool false]) (by simp[results,Tryz.results26,go_sem,s0,s1]) rfl ⟨HB2.out, .inr ⟨HN.out,rfl⟩⟩
 | false=>
   have HN:=Km (HNO.out rfl);have HSET:=Km (two_set HX5.out.b1 (.slice aq nQ cq) (.slice av nE cv));have HB2:Kept (Below w.heap.size w ((w5.setCell ⟨w.heap.size+1,0,none⟩ (.slice aq nQ cq)).setCell ⟨w.heap.size+1,1,none⟩ (.slice av nE cv))):=⟨(hx1.setCell (p:=⟨w.heap.size+1,0,none⟩) (by simp) _).setCell (p:=⟨w.heap.size+1,1,none⟩) (by simp) _⟩;have hnq:=HQ5.out.not_box_ HX5.out.b1 (by intro i n;rcases i with _|_|i<;>simp);have hne:=HE5.out.not_box_ HX5.out.b1 (by intro i n;rcases i with _|_|i<;>simp);have HQ6:Kept (Sl .i64 ((w5.setCell ⟨w.heap.size+1,0,none⟩ (.slice aq nQ cq)).setCell ⟨w.heap.size+1,1,none⟩ (.slice av nE cv)) (.slice aq nQ cq) (ints Q)):=⟨HQ5.out.kept (growSet (growSet (growRefl _ (some (w.heap.size+1))) _ _) _ _) (fun k hk e=>hnq (by cases e;exact hk))⟩;have HE6:Kept (Sl .i64 ((w5.setCell ⟨w.heap.size+1,0,none⟩ (.slice aq nQ cq)).setCell ⟨w.heap.size+1,1,none⟩ (.slice av nE cv)) (.slice av nE cv) (ints E)):=⟨HE5.out.kept (growSet (growSet (growRefl _ (some (w.heap.size+1))) _ _) _ _) (fun k hk e=>hne (by cases e;exact hk))⟩;clear hnq hne;clear HYES HNO hx1;go_wp2;obtain⟨s0,s1,_,_⟩:=two_cells HSET.out;exact bodyPost_ret (v:= .tuple #[.agg #[.slice aq nQ cq, .slice av nE cv], .bool true]) (by simp[results,Tryz.results26,go_sem,s0,s1]) rfl ⟨HB2.out, .inl ⟨_,_,Q,E,bf,el,HN.out,rfl,HQ6.out,HE6.out,HGA.out,HL1.out,HL2.out⟩⟩
theorem bm5 (g:Nat)(h:FFld.PK 5 1 5):(FFld.padF (FFld.bmF ⟨5,1,5,g⟩ h [1,2,4,3] 4).reg ((FFld.bmF ⟨5,1,5,g⟩ h [1,2,4,3] 4).len+1)).drop 1= [3]:=by kernel_rfl
theorem vals7 (g:Nat):FFld.valsF ⟨7,1,7,g⟩ [1,2] [0,1,2,3,4,5] 6= [1,3,5,0,2,4]:=by kernel_rfl
theorem tab7 (g:Nat):((List.range 7).all fun a=>(List.range 7).all fun b=>(Nat.blt 2 (disF (ints (FFld.valsF ⟨7,1,7,g⟩ [a,b] [0,1,2,3,4,5] 6)) (ints [1,3,5,0,0,0]) 6))||(Nat.beq a 1&&Nat.beq b 2))=true:=by kernel_rfl
theorem far7 (g:Nat):((List.range 7).all fun a=>(List.range 7).all fun b=>(Nat.blt 2 (disF (ints (FFld.valsF ⟨7,1,7,g⟩ [a,b] [0,1,2,3,4,5] 6)) (ints [1,3,6,6,0,0]) 6)))=true:=by kernel_rfl
theorem dis7 (g:Nat):disF (ints (FFld.valsF ⟨7,1,7,g⟩ [1,2] [0,1,2,3,4,5] 6)) (ints [1,3,5,0,0,0]) 6=2:=by kernel_rfl
theorem two_trm {P:List Nat}(h:FFld.Tz P)(hl:P.length<=2):∃ a b,a=P[0]?.getD 0/\b=P[1]?.getD 0/\FFld.trm [a,b]=P:=by
 refine⟨_,_,rfl,rfl,?_⟩
 match P,h,hl with
 | [],_,_=>rfl
 | [a],h,_=>
   refine FFld.trm_is (n:=1) (by simp) (fun i hi=> ?_) (.inr ?_)
   ·rcases i with _|_|i
    ·omega
    ·rfl
    ·rfl
   ·rcases h with h|h
    ·cases h
    ·exact h
 | [a,b],h,_=>
   refine FFld.trm_is (n:=2) (by simp) (fun i hi=> ?_) (.inr ?_)
   ·rcases i with _|_|i
    ·omega
    ·omega
    ·rfl
   ·rcases h with h|h
    ·cases h
    ·exact h
theorem vals_trm {D:FFld.FD}{P Q:List Nat}(h:FFld.trm P=Q)(tQ:FFld.Tz Q)(xs:List Nat)(i:Nat):FFld.valsF D P xs i=FFld.valsF D Q xs i:=by
 unfold FFld.valsF;rw[h,FFld.trm_self tQ]
theorem near7 {g:Nat}{P:List Nat}(h:Near ⟨7,1,7,g⟩ [0,1,2,3,4,5] [1,3,5,0,0,0] 2 2 P):P= [1,2]:=by
 obtain⟨a,b,ha,hb,e⟩:=two_trm h.tz h.len;have h1:a<7:=by rw[ha];exact FFld.getD_lt (p:=7) (show 0<7 by decide) (fun x hx=>h.lt x hx) 0
 have h2:b<7:=by rw[hb];exact FFld.getD_lt (p:=7) (show 0<7 by decide) (fun x hx=>h.lt x hx) 1
 have ht:=tab7 g;simp only[List.all_eq_true,List.mem_range] at ht;have ht' :=ht a h1 b h2;have hd:=h.dis;rw[<- vals_trm e h.tz] at hd;rw[Bool.or_eq_true,Bool.and_eq_true,Nat.blt_eq] at ht'
 rcases ht' with h3|⟨h3,h4⟩
 ·exact absurd hd (Nat.not_le.2 h3)
 ·rw[<- e,Nat.eq_of_beq_eq_true h3,Nat.eq_of_beq_eq_true h4];rfl
theorem near7_is (g:Nat):Near ⟨7,1,7,g⟩ [0,1,2,3,4,5] [1,3,5,0,0,0] 2 2 [1,2]:=⟨show ∀ a∈ [1,2],a<7 ^ 1 by decide, .inr (by decide),by decide,Nat.le_of_eq (dis7 g)⟩
theorem near7_no {g:Nat}{P:List Nat}(h:Near ⟨7,1,7,g⟩ [0,1,2,3,4,5] [1,3,6,6,0,0] 2 2 P):False:=by
 obtain⟨a,b,ha,hb,e⟩:=two_trm h.tz h.len;have h1:a<7:=by rw[ha];exact FFld.getD_lt (p:=7) (show 0<7 by decide) (fun x hx=>h.lt x hx) 0
 have h2:b<7:=by rw[hb];exact FFld.getD_lt (p:=7) (show 0<7 by decide) (fun x hx=>h.lt x hx) 1
 have ht:=far7 g;simp only[List.all_eq_true,List.mem_range] at ht;have ht' :=ht a h1 b h2;have hd:=h.dis;rw[<- vals_trm e h.tz] at hd;rw[Nat.blt_eq] at ht';exact absurd hd (Nat.not_le.2 ht')
theorem q7:∃ g,FFld.FD.Ok ⟨7,1,7,g⟩:=FFld.FD.prime_exists 7 (FFld.prime_of (by decide)) (by decide)
theorem q5' :∃ g,FFld.FD.Ok ⟨5,1,5,g⟩:=FFld.FD.prime_exists 5 (FFld.prime_of (by decide)) (by decide)
theorem caw_codeV {g:Nat}(hD:FFld.FD.Ok ⟨7,1,7,g⟩):CodeV ⟨7,1,7,g⟩ [0,1,2,3,4,5] 6 2:=CodeV.of hD rfl (by decide) (by decide) (by decide) (show ∀ a∈ [0,1,2,3,4,5],a<7 ^ 1 by decide) (by decide)
theorem kpl6 (xs:List Nat)(h:xs.length=6):kpL [] 6 xs=xs:=by
 unfold kpL;rw[kp_nil]
 match xs,h with
 | [a,b,c,d,e,f],_=>rfl
theorem kpf6:(kpF [] 6).length=6:=rfl
abbrev pt6 (a:Option Addr):Value:= .agg #[.int .i64 7, .slice a 6 6, .int .i64 2]
theorem caw_dec (ax aw:Option Addr)(W:World)(hx:Sl .i64 W (.slice ax 6 6) [0,1,2,3,4,5])(hw:Sl .i64 W (.slice aw 6 6) [1,3,5,0,0,0]):
 Calls Tryz.prog 25 #[pt6 ax, .slice aw 6 6,nilv] W (fun e w' =>Below W.heap.size W w' /\ ∃ b o c,e= .returned (.tuple #[.slice (some ⟨b,o,none⟩) 6 c, .int .i64 0])/\6<=c/\c<=maxLen/\w'.cell? ⟨b,o+4,none⟩=some (.int .i64 2)):=by
 obtain⟨g,hD⟩:=q7;have h:=cdecode_any hD ax aw none 6 6 0 6 0 2 [0,1,2,3,4,5] [1,3,5,0,0,0] [] W hx hw (Sl.nil _ W) (caw_codeV hD) rfl rfl (show ∀ a∈ [1,3,5,0,0,0],a<7 ^ 1 by decide) (by omega) rfl rfl;rw[kpl6 _ rfl,kpl6 _ rfl] at h;refine Calls.mono h ?_;rintro e w' ⟨hb,⟨Po,v,hN,rfl,hs⟩|⟨hno,_⟩⟩
 ·obtain rfl:=near7 hN;rw[show([0,1,2,3,4,5]:List Nat).length=6 from rfl,vals7] at hs;obtain⟨ao,c,rfl,hc,hm⟩:=hs.form;obtain⟨b,o,rfl,_,hcell⟩:=hs.news_ 4 (by decide);exact⟨hb,b,o,c,rfl,hc,hm,hcell⟩
 ·exact absurd (near7_is g) (hno _)
theorem caw_far (ax aw:Option Addr)(W:World)(hx:Sl .i64 W (.slice ax 6 6) [0,1,2,3,4,5])(hw:Sl .i64 W (.slice aw 6 6) [1,3,6,6,0,0]):
 Calls Tryz.prog 25 #[pt6 ax, .slice aw 6 6,nilv] W (fun e w' =>Below W.heap.size W w' /\e= .returned (.tuple #[nilv, .int .i64 30])):=by
 obtain⟨g,hD⟩:=q7;have h:=cdecode_any hD ax aw none 6 6 0 6 0 2 [0,1,2,3,4,5] [1,3,6,6,0,0] [] W hx hw (Sl.nil _ W) (caw_codeV hD) rfl rfl (show ∀ a∈ [1,3,6,6,0,0],a<7 ^ 1 by decide) (by omega) rfl rfl;rw[kpl6 _ rfl,kpl6 _ rfl] at h;refine Calls.mono h ?_;rintro e w' ⟨hb,⟨Po,v,hN,rfl,hs⟩|⟨hno,rfl⟩⟩
 ·exact(near7_no hN).elim
 ·exact⟨hb,rfl⟩
theorem caw_deny (ax aw:Option Addr)(W:World)(hx:Sl .i64 W (.slice ax 6 6) [0,1,2,3,4,5])(hw:Sl .i64 W (.slice aw 6 6) [1,3,6,6,0,0]):
 Calls Tryz.prog 26 #[pt6 ax, .slice aw 6 6,nilv] W (fun e w' =>Below W.heap.size W w' /\ ∃ (aq av:Option Addr) (nQ nE cq cv:Nat),e= .returned (.tuple #[.agg #[.slice aq nQ cq, .slice av nE cv], .bool true])/\1<=nE/\nE<=100/\nQ<=100):=by
 obtain⟨g,hD⟩:=q7;have h:=cdeny_any hD ax aw none 6 6 0 6 0 2 [0,1,2,3,4,5] [1,3,6,6,0,0] [] W hx hw (Sl.nil _ W) (caw_codeV hD) rfl rfl (show ∀ a∈ [1,3,6,6,0,0],a<7 ^ 1 by decide) (by omega) rfl rfl;rw[kpl6 _ rfl,kpl6 _ rfl,kpf6] at h;refine Calls.mono h ?_;rintro e w' ⟨hb,⟨vq,ve,Q,E,bf,el,hno,rfl,hq,he,hga,h1,h2⟩|⟨⟨Po,hN⟩,_⟩⟩
 ·obtain⟨aq,cq,rfl,_,_⟩:=hq.form;obtain⟨av,cv,rfl,_,_⟩:=he.form;have h3:=hga.len;have h4:=hga.up;refine⟨hb,aq,av,_,_,cq,cv,rfl,?_,?_,?_⟩<;>rw[FFld.ints_len]<;>omega
 ·exact(near7_no hN).elim
theorem caw_reg (as_:Option Addr)(W:World)(hs:Sl .i64 W (.slice as_ 4 4) [1,2,4,3]):
 Calls Tryz.prog 62 #[.int .i64 5, .slice as_ 4 4] W (fun e w' =>Below W.heap.size W w' /\ ∃ a c,e= .returned (.tuple #[.slice a 1 c, .int .i64 0])):=by
 obtain⟨g,hD⟩:=q5';have h:=cShortest_any hD as_ 4 4 [1,2,4,3] W hs rfl (show ∀ a∈ [1,2,4,3],a<5 ^ 1 by decide) (by omega);rw[bm5] at h;refine Calls.mono h ?_;rintro e w' ⟨hb,vt,rfl,ht⟩;obtain⟨a,c,rfl,_,_⟩:=ht.form;exact⟨hb,a,c,rfl⟩
abbrev awX:Obj:= .cells #[.int .i64 0, .int .i64 1, .int .i64 2, .int .i64 3, .int .i64 4, .int .i64 5] 3
abbrev awN:Obj:= .cells #[.int .i64 1, .int .i64 3, .int .i64 5, .int .i64 0, .int .i64 0, .int .i64 0] 3
abbrev awF:Obj:= .cells #[.int .i64 1, .int .i64 3, .int .i64 6, .int .i64 6, .int .i64 0, .int .i64 0] 3
abbrev awS:Obj:= .cells #[.int .i64 1, .int .i64 2, .int .i64 4, .int .i64 3] 3
abbrev awC (g:Nat):Obj:= .cells #[.int .i64 7, .slice (some ⟨g,0,none⟩) 6 6, .int .i64 2] 27
theorem row_six {W:World}{g:Nat}{a b c d e f:Int}(h:W.heap[g]? =some (.cells #[.int .i64 a, .int .i64 b, .int .i64 c, .int .i64 d, .int .i64 e, .int .i64 f] 3)):Sl .i64 W (.slice (some ⟨g,0,none⟩) 6 6) [a,b,c,d,e,f]:=
 Row.slAll (E:=3) (K:= .i64) (xs:= [a,b,c,d,e,f]) h (n:=6) (cap:=6) rfl (Nat.le_refl _) (by unfold maxLen;omega)
theorem row_four {W:World}{g:Nat}{a b c d:Int}(h:W.heap[g]? =some (.cells #[.int .i64 a, .int .i64 b, .int .i64 c, .int .i64 d] 3)):Sl .i64 W (.slice (some ⟨g,0,none⟩) 4 4) [a,b,c,d]:=
 Row.slAll (E:=3) (K:= .i64) (xs:= [a,b,c,d]) h (n:=4) (cap:=4) rfl (Nat.le_refl _) (by unfold maxLen;omega)
set_option maxRecDepth 20000 in
theorem cawake_any (w:World):Calls Tryz.prog 22 #[] w (RB w (.bool true)):=by
 have HX0:Kept (Bxs w [awX,awC w.heap.size,awN] (((w.alloc awX).alloc (awC w.heap.size)).alloc awN)):=⟨(((Bxs.start w).alloc (by simp) _).alloc (by simp) _).alloc (by simp) _⟩;have HD1:=Km (caw_dec (some ⟨w.heap.size,0,none⟩) (some ⟨w.heap.size+2,0,none⟩) _ (row_six HX0.out.b0) (row_six (HX0.out.2.2 2 _ rfl)))
 go_enter Tryz.func22,Tryz.ntmps22
 obtain⟨c0,c1,c2,_⟩:=three_cells HX0.out.b1;go_wp2_with fail;(with_reducible refine HD1.out.mono ?_);rintro e w1 ⟨hb1,b,o,c,rfl,hc6,hcm,hcell⟩;have HX1:=Km ((HX0.out.below hb1).below ((Below.refl _ _).alloc (Nat.le_refl _) awF));have hr1:=heap_alloc_new w1 awF;have q1:=belowCell ((Below.refl _ _).alloc (Nat.le_refl _) awF) hcell;have HD2:=Km (caw_far (some ⟨w.heap.size,0,none⟩) (some ⟨w1.heap.size,0,none⟩) _ (row_six HX1.out.b0) (row_six hr1));clear c0 c1 c2;obtain⟨c0,c1,c2,_⟩:=three_cells (HX0.out.below hb1).b1;clear hb1 hcell hr1 HX0 HD1;go_wp2_with fail;(with_reducible refine HD2.out.mono ?_);rintro e w2 ⟨hb2,rfl⟩;have HX2:=Km ((HX1.out.below hb2).below ((Below.refl _ _).alloc (Nat.le_refl _) awF));have hr2:=heap_alloc_new w2 awF;have q2:=belowCell ((Below.refl _ _).alloc (Nat.le_refl _) awF) (belowCell hb2 q1);have HD3:=Km (caw_deny (some ⟨w.heap.size,0,none⟩) (some ⟨w2.heap.size,0,none⟩) _ (row_six HX2.out.b0) (row_six hr2));clear c0 c1 c2;obtain⟨c0,c1,c2,_⟩:=three_cells (HX1.out.below hb2).b1;clear hb2 hr2 HX1 HD2 q1;go_wp2_with fail;(with_reducible refine HD3.out.mono ?_);rintro e w3 ⟨hb3,aq,av,nQ,nE,cq,cv,rfl,hn1,hn2,hn3⟩;have hal:Below w3.heap.size w3 ((w3.alloc (fabox (.slice aq nQ cq) (.slice av nE cv))).alloc awS):=((Below.refl _ _).alloc (Nat.le_refl _) _).alloc (by simp) _;have HX3:=Km ((HX2.out.below hb3).below hal);have hr3:=heap_alloc_new (w3.alloc (fabox (.slice aq nQ cq) (.slice av nE cv))) awS;have hfb:=heap_alloc_new w3 (fabox (.slice aq nQ cq) (.slice av nE cv));have q3:=belowCell hal (belowCell hb3 q2);have hes:(w3.alloc (fabox (.slice aq nQ cq) (.slice av nE cv))).heap.size=w3.heap.size+1:=by simp
 rw[hes] at hr3;have hfb2:=(heap_alloc_old (w3.alloc (fabox (.slice aq nQ cq) (.slice av nE cv))) awS (show w3.heap.size<(w3.alloc (fabox (.slice aq nQ cq) (.slice av nE cv))).heap.size by rw[hes];omega)).trans hfb;have HD4:=Km (caw_reg (some ⟨w3.heap.size+1,0,none⟩) _ (row_four hr3));clear hb3 hr3 hfb hal c0 c1 c2 HX2 HD3 q2 hes;go_wp2_with fail;(with_reducible refine HD4.out.mono ?_);rintro e w4 ⟨hb4,ta,tc,rfl⟩;have HB4:=Km (HX3.out.below hb4).1;have hfb3:=(hb4.block _ (Array.getElem?_eq_some_iff.1 hfb2).1).trans hfb2;obtain⟨f0,f1,_,_⟩:=two_cells hfb3;have q4:=belowCell hb4 q3;have g1:decide ((0:Int)<(nQ:Int)+(nE:Int))=true:=decide_eq_true (by omega);clear hb4 hfb2 hfb3 q3 HD4 HX3;go_wp2
 go_ret
 exact⟨HB4.out,rfl⟩
structure LwAt (w:World)(D:FFld.FD)(va:Option Addr)(m vc k:Nat)(xs:List Nat)(g7 g8:Nat)(W:World):Prop where
 bel:Below w.heap.size w W
 b7:W.heap[g7]? =some (rcdbox D.q va m vc k)
 b8:W.heap[g8]? =some (cdbox D.q va m vc k)
 sl:Sl .i64 W (.slice va m vc) (ints xs)
theorem LwAt.below {w:World}{D:FFld.FD}{va:Option Addr}{m vc k:Nat}{xs:List Nat}{g7 g8:Nat}{W W' :World}(h:LwAt w D va m vc k xs g7 g8 W)(hb:Below W.heap.size W W'):LwAt w D va m vc k xs g7 g8 W' :=
 ⟨h.bel.trans (hb.mono h.bel.size),(hb.block _ (Array.getElem?_eq_some_iff.1 h.b7).1).trans h.b7,(hb.block _ (Array.getElem?_eq_some_iff.1 h.b8).1).trans h.b8,h.sl.below hb⟩
def RetP (w:World)(l:List Nat)(n:Nat)(e:Ending)(w' :World):Prop:=Below w.heap.size w w' /\ ∃ (va:Option Addr) (vc:Nat),e= .returned (.slice va n vc)/\Mine 3 .i64 w.heap.size w' (.slice va n vc) (ints l)
theorem RetM.parts {w:World}{l:List Nat}{n:Nat}{e:Ending}{w' :World}(h:RetM w (ints l) e w')(hn:l.length=n):RetP w l n e w' :=by
 obtain⟨hb,v,rfl,hm⟩:=h;obtain⟨va,vc,rfl,_⟩:=hm.sl;rw[FFld.ints_len,hn] at hm ⊢;exact⟨hb,va,vc,rfl,hm⟩
def reE (D:FFld.FD)(n k:Nat)(vs es:List Int):Nat:=if vs.length≠n\/n<es.length+k then 7 else if belB D.q vs=true/\belB n es=true/\difB es es.length=true then 0 else 1
structure RecE (D:FFld.FD)(ax aw ae:Option Addr)(cx cw ce n nw m k:Nat)(xs:List Nat)(vs es:List Int)(r:Nat)(w:World):Prop where
 ok:D.Ok
 cd:CodeV D xs n k
 sx:Sl .i64 w (.slice ax n cx) (ints xs)
 sw:Sl .i64 w (.slice aw nw cw) vs
 se:Sl .i64 w (.slice ae m ce) es
 lw:vs.length=nw
 le:es.length=m
 is:reE D n k vs es=r
 ne:r≠0
section
variable {D : FFld.FD} {ax aw ae : Option Addr} {cx cw ce n nw m k : Nat} {xs : List Nat} {vs es : List Int} {r : Nat}
theorem RecE.below {w w' :World}(h:RecE D ax aw ae cx cw ce n nw m k xs vs es r w)(hb:Below w.heap.size w w'):RecE D ax aw ae cx cw ce n nw m k xs vs es r w' := {h with sx:=h.sx.below hb,sw:=h.sw.below hb,se:=h.se.below hb}
set_option maxRecDepth 20000 in
theorem creceive_err (w:World)(h:RecE D ax aw ae cx cw ce n nw m k xs vs es r w):Calls Tryz.prog 90 #[cdv D.q ax n cx k, .slice aw nw cw, .slice ae m ce] w (RB w (.tuple #[rczv, .int .i64 (r:Nat)])):=by
 have hq6:D.p ^ D.k<=65536:=h.ok.pre.small;have hq0:D.q=D.p ^ D.k:=rfl;have n64:=h.cd.n64;have k1:=h.cd.k1;have kn:=h.cd.kn;have HX0:Kept (Bxs w [cdbox D.q ax n cx k,rczb] ((w.alloc (cdbox D.q ax n cx k)).alloc (rczb))):=⟨(((Bxs.start w).alloc (by simp) _).alloc (by simp) _)⟩
 have HCK:Kept (∀ W,Below w.heap.size w W->Calls Tryz.prog 21 #[cdv D.q ax n cx k] W (RB W (.int .i64 0))):=⟨fun W hW=>by
  have h1:=ccheck_any (D.q:Int) k ax cx (ints xs) W (by rw[FFld.ints_len,h.cd.len];exact h.sx.below hW) (by omega) (by omega) (by omega) (by omega);rw[h.cd.chk,FFld.ints_len,h.cd.len] at h1
  exact h1⟩
 have HB1:=Km (fun W (hW:Below w.heap.size w W)=>careBelow_any (D.q:Int) _ vs W (h.sw.below hW));have HB2' :=Km (fun W (hW:Below w.heap.size w W)=>careBelow_any (n:Int) _ es W (h.se.below hW));have HD1:=Km (fun W (hW:Below w.heap.size w W)=>careDifferent_any _ es W (h.se.below hW));rw[h.le] at HD1;have hre:=h.is;have hlw:=h.lw;have hle:=h.le;have hne:=h.ne
 have hnw:nw<=maxLen:=by
  obtain⟨_,_,e,h1,h2,_⟩:=h.sw;simp only[Value.slice.injEq] at e;omega
 have hm:m<=maxLen:=by
  obtain⟨_,_,e,h1,h2,_⟩:=h.se;simp only[Value.slice.injEq] at e;omega
 unfold maxLen at hnw hm;have er3:(n:Int)-(k:Int)=((n-k:Nat):Int):=by omega
 obtain⟨q,hq⟩:∃ q,D.q=q:=⟨_,rfl⟩;unfold reE at hre;rw[hle,hlw] at hre;rw[hq] at HX0 HCK HB1 hre ⊢;have hq6' :q<=65536:=by omega
 clear h hq hq0 hlw hle
 go_enter Tryz.func90,Tryz.ntmps90
 obtain⟨c0,c1,c2,_⟩:=three_cells HX0.out.b0;go_wp2_with fail
 go_step3
 go_wp2_with fail;have hbx:=HX0.out.1;(with_reducible refine(HCK.out _ hbx).mono ?_);rintro e w1 ⟨hb1,rfl⟩;have HX1:=Km (HX0.out.below hb1);clear hb1 c0 c1 c2 HCK hbx;have hbx:=HX1.out.1;obtain⟨c0,c1,c2,_⟩:=three_cells HX1.out.b0;have HL1:=Km (HB1.out _ hbx);have HL2:=Km (HB2'.out _ hbx);have HL3:=Km (HD1.out _ hbx);clear hbx HB1 HB2' HD1;obtain⟨t0,t1,t2,t3,t4⟩:=five_free HX1.out.b1;obtain⟨u0,u1,u2,u3,u4⟩:=five_cells_ HX1.out.b1;have hset:=five_set_ HX1.out.b1 (.pointer none) nilv nilv (.int .i64 0) (.int .i64 0);have HSET:=Km hset;have HB2:Kept (Below w.heap.size w (((((w1.setCell ⟨w.heap.size+1,0,none⟩ (.pointer none)).setCell ⟨w.heap.size+1,1,none⟩ nilv).setCell ⟨w.heap.size+1,2,none⟩ nilv).setCell ⟨w.heap.size+1,3,none⟩ (.int .i64 0)).setCell ⟨w.heap.size+1,4,none⟩ (.int .i64 0))):=⟨((((HX1.out.1.setCell (p:=⟨w.heap.size+1,0,none⟩) (by simp) _).setCell (p:=⟨w.heap.size+1,1,none⟩) (by simp) _).setCell (p:=⟨w.heap.size+1,2,none⟩) (by simp) _).setCell (p:=⟨w.heap.size+1,3,none⟩) (by simp) _).setCell (p:=⟨w.heap.size+1,4,none⟩) (by simp) _⟩;clear hset
 by_cases hs1:nw=n
 ·subst hs1;have g1:((nw:Int)!=(nw:Int))=false:=by simp
  by_cases hs2:nw<m+k
  ·have g2:decide (((nw-k:Nat):Int)<(m:Int))=true:=decide_eq_true (by omega);have HR:Kept (r=7):=⟨by rw[if_pos (.inr hs2)] at hre;exact hre.symm⟩;clear hre;go_wp2;obtain⟨s0,s1,s2,s3,s4⟩:=five_cells_ HSET.out;rw[Exit.noGoto_ret];exact bodyPost_ret (v:= .tuple #[rczv, .int .i64 7]) (by simp[results,Tryz.results90,go_sem,s0,s1,s2,s3,s4]) rfl ⟨HB2.out,by rw[HR.out];rfl⟩
  ·have g2:decide (((nw-k:Nat):Int)<(m:Int))=false:=decide_eq_false (by omega);rw[if_neg (by omega)] at hre
   have HR:Kept (r=1):=⟨by
    rw[<- hre] at hne ⊢
    split at hne
    ·exact absurd rfl hne
    ·rename_i hc
     rw[if_neg hc]⟩
   cases hb1:belB q vs with
   | false=>
     rw[hb1] at HL1;clear hre hne hb1;go_wp2_with fail;(with_reducible refine HL1.out.mono ?_);rintro e w2 ⟨rfl,rfl⟩;go_wp2;obtain⟨s0,s1,s2,s3,s4⟩:=five_cells_ HSET.out;rw[Exit.noGoto_ret];exact bodyPost_ret (v:= .tuple #[rczv, .int .i64 1]) (by simp[results,Tryz.results90,go_sem,s0,s1,s2,s3,s4]) rfl ⟨HB2.out,by rw[HR.out];rfl⟩
   | true =>
     rw[hb1] at HL1
     cases hb2:belB nw es with
     | false=>
       rw[hb2] at HL2;clear hre hne hb1 hb2;go_wp2_with fail;(with_reducible refine HL1.out.mono ?_);rintro e w2 ⟨rfl,rfl⟩;go_wp2_with fail;(with_reducible refine HL2.out.mono ?_);rintro e w2 ⟨rfl,rfl⟩;go_wp2;obtain⟨s0,s1,s2,s3,s4⟩:=five_cells_ HSET.out;rw[Exit.noGoto_ret];exact bodyPost_ret (v:= .tuple #[rczv, .int .i64 1]) (by simp[results,Tryz.results90,go_sem,s0,s1,s2,s3,s4]) rfl ⟨HB2.out,by rw[HR.out];rfl⟩
     | true=>
       rw[hb2] at HL2
       have hb3:difB es m=false:=by
        cases hb3:difB es m with
        |false=>rfl
        | true=>
          rw[hb1,hb2,hb3,if_pos ⟨rfl,rfl,rfl⟩] at hre;exact absurd hre.symm hne
       rw[hb3] at HL3;clear hre hne hb1 hb2 hb3;go_wp2_with fail;(with_reducible refine HL1.out.mono ?_);rintro e w2 ⟨rfl,rfl⟩;go_wp2_with fail;(with_reducible refine HL2.out.mono ?_);rintro e w2 ⟨rfl,rfl⟩;go_wp2_with fail;(with_reducible refine HL3.out.mono ?_);rintro e w2 ⟨rfl,rfl⟩;go_wp2;obtain⟨s0,s1,s2,s3,s4⟩:=five_cells_ HSET.out;rw[Exit.noGoto_ret];exact bodyPost_ret (v:= .tuple #[rczv, .int .i64 1]) (by simp[results,Tryz.results90,go_sem,s0,s1,s2,s3,s4]) rfl ⟨HB2.out,by rw[HR.out];rfl⟩
 ·have g1:((nw:Int)!=(n:Int))=true:=by rw[bne_iff_ne];omega
  have HR:Kept (r=7):=⟨by rw[if_pos (.inl hs1)] at hre;exact hre.symm⟩;clear hre;go_wp2;obtain⟨s0,s1,s2,s3,s4⟩:=five_cells_ HSET.out;rw[Exit.noGoto_ret];exact bodyPost_ret (v:= .tuple #[rczv, .int .i64 7]) (by simp[results,Tryz.results90,go_sem,s0,s1,s2,s3,s4]) rfl ⟨HB2.out,by rw[HR.out];rfl⟩
set_option maxRecDepth 20000 in
theorem cdecode_err (w:World)(h:RecE D ax aw ae cx cw ce n nw m k xs vs es r w):Calls Tryz.prog 25 #[cdv D.q ax n cx k, .slice aw nw cw, .slice ae m ce] w (RB w (.tuple #[nilv, .int .i64 (r:Nat)])):=by
 have HX0:Kept (Bxs w [cdbox D.q ax n cx k] (w.alloc (cdbox D.q ax n cx k))):=⟨((Bxs.start w).alloc (by simp) _)⟩;have HC:=Km (creceive_err _ (h.below HX0.out.1));have e0:((r:Int)!=0)=true:=by rw[bne_iff_ne];have:=h.ne;omega
 have e1:((r:Int)==0)=false:=by rw[beq_eq_false_iff_ne];have:=h.ne;omega
 clear h
 go_enter Tryz.func25,Tryz.ntmps25
 obtain⟨c0,c1,c2,_⟩:=three_cells HX0.out.b0;go_wp2_with fail;refine HC.out.mono ?_;rintro e w1 ⟨hb1,rfl⟩;have HX1:=Km (HX0.out.below hb1);clear hb1 c0 c1 c2 HC;obtain⟨c0,c1,c2,_⟩:=three_cells HX1.out.b0;go_wp2;exact bodyPost_ret (v:= .tuple #[nilv, .int .i64 (r:Nat)]) (by simp[results,Tryz.results25,go_sem]) rfl ⟨bstep HX1.out.1 ((Below.refl w1.heap.size w1).alloc (Nat.le_refl _) rczb),rfl⟩
set_option maxRecDepth 20000 in
theorem cdeny_err (w:World)(h:RecE D ax aw ae cx cw ce n nw m k xs vs es r w):Calls Tryz.prog 26 #[cdv D.q ax n cx k, .slice aw nw cw, .slice ae m ce] w (RB w (.tuple #[.agg #[nilv,nilv], .bool false])):=by
 have HX0:Kept (Bxs w [cdbox D.q ax n cx k,fabox nilv nilv] ((w.alloc (cdbox D.q ax n cx k)).alloc (fabox nilv nilv))):=⟨(((Bxs.start w).alloc (by simp) _).alloc (by simp) _)⟩;have HC:=Km (creceive_err _ (h.below HX0.out.1));have e0:((r:Int)!=0)=true:=by rw[bne_iff_ne];have:=h.ne;omega
 have e1:((r:Int)==0)=false:=by rw[beq_eq_false_iff_ne];have:=h.ne;omega
 clear h
 go_enter Tryz.func26,Tryz.ntmps26
 obtain⟨c0,c1,c2,_⟩:=three_cells HX0.out.b0;go_wp2_with fail;refine HC.out.mono ?_;rintro e w1 ⟨hb1,rfl⟩;have HX1:=Km (HX0.out.below hb1);clear hb1 c0 c1 c2 HC;obtain⟨c0,c1,c2,_⟩:=three_cells HX1.out.b0;have HX2:=Km (HX1.out.below ((Below.refl w1.heap.size w1).alloc (Nat.le_refl _) rczb));obtain⟨d0,d1,f0,f1⟩:=two_cells HX2.out.b1;have HSET:=Km (two_set HX2.out.b1 nilv nilv);have HB2:Kept (Below w.heap.size w (((w1.alloc rczb).setCell ⟨w.heap.size+1,0,none⟩ nilv).setCell ⟨w.heap.size+1,1,none⟩ nilv)):=⟨(HX2.out.1.setCell (p:=⟨w.heap.size+1,0,none⟩) (by simp) _).setCell (p:=⟨w.heap.size+1,1,none⟩) (by simp) _⟩;go_wp2;obtain⟨s0,s1,_,_⟩:=two_cells HSET.out;exact bodyPost_ret (v:= .tuple #[.agg #[nilv,nilv], .bool false]) (by simp[results,Tryz.results26,go_sem,s0,s1]) rfl ⟨HB2.out,rfl⟩
end
def mkP (D:FFld.FD)(ts ss:List Nat)(i:Nat):Bool:=(List.range i).all fun j=>decide (j<ts.length\/FFld.difF D (1::ts) ss j (ts.length+1)=0)
open Classical in
noncomputable def mkE (o:Int)(ts ss:List Int):Nat:=if FFld.Fit o then(if 200<ss.length then 2 else if belB o ss=false then 1 else if ss.length<ts.length then 1 else if belB o ts=false then 1 else 0) else 20

theorem bxs_bel3 {w W:World}{os:List Obj}(h:Bxs w os W):Below w.heap.size w W:=h.1
theorem horn_trm {D:FFld.FD}(hD:D.Ok){ms:List Nat}{x:Nat}(hm:∀ a∈ms,a<D.p ^ D.k)(hx:x<D.p ^ D.k):FFld.hornF D ms x ms.length=FFld.hornF D (FFld.trm ms) x (FFld.trm ms).length:=by
 apply FFld.toE_inj hD.pre.pk (FFld.hornF_lt hD.pre.pk _ _ _) (FFld.hornF_lt hD.pre.pk _ _ _)
 rw[FFld.horn_ev hD hm hx,FFld.horn_ev hD (FFld.trm_lt hm) hx,FFld.evE_trm]
theorem vals_next {D:FFld.FD}(ms xs:List Nat){i:Nat}(hi:i<xs.length):(xs.take (i+1)).map (fun x=>FFld.hornF D (FFld.trm ms) x (FFld.trm ms).length)=(xs.take i).map (fun x=>FFld.hornF D (FFld.trm ms) x (FFld.trm ms).length)++ [FFld.hornF D (FFld.trm ms) (xs[i]?.getD 0) (FFld.trm ms).length]:=by
 rw[List.take_add_one,List.getElem?_eq_getElem hi,List.map_append];rfl
set_option maxRecDepth 20000 in
theorem rencode_any {D:FFld.FD}(hD:D.Ok)(ax am:Option Addr)(cx cm n nm:Nat)(k:Int)(xs ms:List Nat)(w:World)(hx:Sl .i64 w (.slice ax n cx) (ints xs))(hm:Sl .i64 w (.slice am nm cm) (ints ms))(lx:xs.length=n)(lm:ms.length=nm)(hxq:∀ a∈xs,a<D.p ^ D.k)(hmq:∀ a∈ms,a<D.p ^ D.k)(hn:n<=64)(hnm:nm<=200):
 Calls Tryz.prog 33 #[cdv D.q ax n cx k, .slice am nm cm] w (RetM w (ints (FFld.valsF D ms xs n))):=by
 have hq6:D.p ^ D.k<=65536:=hD.pre.small;have hq0:D.q=D.p ^ D.k:=rfl;have HX0:Kept (Bxs w [rcdbox D.q ax n cx k] (w.alloc (rcdbox D.q ax n cx k))):=⟨(Bxs.start w).alloc (by simp) _⟩;have HNW:=Km (fun W=>rnew_any (D.q:Int) W (by omega) (by omega))
 have HVA:Kept (∀ W x,Below w.heap.size w W->x<D.p ^ D.k->Calls Tryz.prog 44 #[rfv D.q D.p D.k D.m, .slice am nm cm, .int .i64 (x:Nat)] W (RB W (.int .i64 (FFld.hornF D (FFld.trm ms) x (FFld.trm ms).length:Nat)))):=⟨fun W x hW hxx=>by
  have h:=rvalue_any hD (.slice am nm cm) ms x W (hm.below hW) hmq hxx (by omega);rw[horn_trm hD hmq hxx] at h
  exact h⟩
 have HX:=Km hx;have HLX:=Km lx;have HXQ:=Km hxq;have HD:=Km hD;have HVM:Kept (FFld.valsF D ms xs n=xs.map fun x=>FFld.hornF D (FFld.trm ms) x (FFld.trm ms).length):=⟨by rw[<- lx];exact vals_map ms xs⟩
 have hcx:n<=cx/\cx<=9223372036854775807:=by
  obtain⟨_,_,e,h1,h2,_⟩:=hx;simp only[Value.slice.injEq] at e;obtain⟨_,e1,e2⟩:=e;unfold maxLen at h2;omega
 obtain⟨hcx1,hcx2⟩:=hcx;clear hx hm lx lm hxq hmq hq0
 go_enter Tryz.func33,Tryz.ntmps33
 obtain⟨c0,c1,c2,_⟩:=three_cells HX0.out.b0;go_wp2_with fail;(with_reducible refine(HNW.out _).mono ?_);rintro e w1 ⟨hb1,⟨D',hD',hq',rfl⟩|⟨hno,rfl⟩⟩
 ·obtain rfl:D' =D:=FFld.FD.uniq hD' HD.out (by omega);have hal:Below w1.heap.size w1 (w1.alloc (rbox D'.q D'.p D'.k D'.m)):=(Below.refl _ _).alloc (Nat.le_refl _) _;have hG:=heap_alloc_new w1 (rbox D'.q D'.p D'.k D'.m);have HX1:=Km ((HX0.out.below hb1).below hal);have hsz:=(HX0.out.below hb1).2.1;obtain⟨g5,hg⟩:∃ x,w1.heap.size=x:=⟨_,rfl⟩;obtain⟨W2,hW2⟩:∃ W,w1.alloc (rbox D'.q D'.p D'.k D'.m)=W:=⟨_,rfl⟩;rw[hW2,hg] at hG;rw[hW2] at HX1;have hg2:g5<W2.heap.size:=(Array.getElem?_eq_some_iff.1 hG).1;have hgw:w.heap.size+1<=g5:=by rw[<- hg];simpa using hsz
  have HG:=Km hG
  go_upto_region 2 with fail
  try rw[hW2]
  try rw[hg]
  clear hb1 hq' hal hg hW2 hD' HNW c0 c1 c2 hG hsz HX0;go_wp2
  go_loopw [7,8] (fun ov iv wr=> ∃ (i:Nat) (l:List Nat),i<=n/\iv= .int .i64 i/\l.length=i/\Kept ((xs.take i).map (fun x=>FFld.hornF D' (FFld.trm ms) x (FFld.trm ms).length)=l)/\Kept (Mine 3 .i64 W2.heap.size wr ov (ints l))/\Kept (Below W2.heap.size W2 wr)) (fun _ iv _=>n-(intOf iv).toNat)
  case atStart=>exact⟨0,[],Nat.zero_le _,rfl,rfl,⟨rfl⟩,⟨Mine.nil _ _ _ _⟩,⟨Below.refl _ _⟩⟩
  case round=>
   obtain⟨i,l,hin,rfl,hll,hat,hmn,hbw⟩:=hrel;have hxr:=HX1.out.below hbw.out;obtain⟨c0,i4,c2,_⟩:=three_cells hxr.b0;obtain⟨ov0,oc,rfl,hoc,hom⟩:=hmn.out.sl.form;rw[FFld.ints_len,hll] at hoc hmn ⊢
   by_cases hlt:i<n
   ·obtain⟨bx,ox,rfl,hbx,i5⟩:=(HX.out.below (bxs_bel3 hxr)).news_ i (by rw[FFld.ints_len,HLX.out];exact hlt);rw[FFld.ints_get] at i5;obtain⟨x,hxv⟩:∃ y,xs[i]?.getD 0=y:=⟨_,rfl⟩;rw[hxv] at i5;have hxx:x<D'.p ^ D'.k:=by rw[<- hxv];exact HXQ.out _ (FFld.get_mem (by rw[HLX.out];exact hlt))
    obtain⟨r,hr⟩:∃ r,FFld.hornF D' (FFld.trm ms) x (FFld.trm ms).length=r:=⟨_,rfl⟩;have HI:Kept (∀ W,Below w.heap.size w W->Calls Tryz.prog 44 #[rfv D'.q D'.p D'.k D'.m, .slice am nm cm, .int .i64 (x:Nat)] W (RB W (.int .i64 (r:Nat)))):=⟨fun W hW=>by rw[<- hr];exact HVA.out W x hW hxx⟩;have HL:Kept ((xs.take (i+1)).map (fun x=>FFld.hornF D' (FFld.trm ms) x (FFld.trm ms).length)=l++ [r]):=⟨by rw[vals_next ms xs (by rw[HLX.out];exact hlt),hat.out,hxv,hr]⟩;obtain⟨i0,i1,i2,i3⟩:=four_cells ((hbw.out.block _ (Array.getElem?_eq_some_iff.1 HG.out).1).trans HG.out);have H1:=Km (show((ints l).length+ [(r:Int)].length)*8<=140737488355328 by rw[FFld.ints_len,hll];simp;omega);have H2:=Km (show(ints l).length+ [(r:Int)].length<=maxLen by rw[FFld.ints_len,hll];unfold maxLen;simp;omega);have hbwl:bx<wr.heap.size:=hbx;have hws:=bxs_bel3 hxr;have HWR:=Km hws;have hwsz:=hws.size;have hbw2:=hbw.out.size
    have hbxW:bx<W2.heap.size:=by
     obtain⟨_,_,e9,h9,_⟩:=(HX.out.below (bxs_bel3 HX1.out)).news_ i (by rw[FFld.ints_len,HLX.out];exact hlt);simp only[Option.some.injEq,Addr.mk.injEq,and_true] at e9;rw[e9.1];exact h9
    clear hr hxv hxx c0 c2 hxr;go_wp2_with fail;have hal:∀ W:World,Below W.heap.size W (W.alloc (.cells #[.int .i64 (r:Int)] 3)):=fun W=>(Below.refl _ _).alloc (Nat.le_refl _) _
    go_upto_region 6 with fail
    go_region_held3 (fun w' =>w'.cell? ⟨g5,0,none⟩=some (.int .i64 D'.q)/\w'.cell? ⟨g5,1,none⟩=some (.int .i64 D'.p)/\w'.cell? ⟨g5,2,none⟩=some (.int .i64 D'.k)/\w'.cell? ⟨g5,3,none⟩=some (.int .i64 D'.m)/\w'.cell? ⟨w.heap.size,1,none⟩=some (.slice (some ⟨bx,ox,none⟩) n cx)/\w'.cell? ⟨bx,ox+i,none⟩=some (.int .i64 (x:Nat)))
     (first|exact⟨m0,m1,m2,m3,m4,m5⟩|exact⟨k0,k1,k2,k3,k4,k5⟩|exact⟨j0,j1,j2,j3,j4,j5⟩|exact⟨i0,i1,i2,i3,i4,i5⟩|go_keep)
     ((first
       |(go_at_call 44;(with_reducible refine(HI.out _ ?h1).mono ?_);(case h1=>first|exact HWR.out|exact HWR.out.drew);rintro e w3 ⟨hb3,rfl⟩;have HB3:=Km (bstep (show Below wr.heap.size wr _ from(by first|exact Below.refl _ _|exact(Below.refl _ _).drew)) hb3);clear hb3;have j0:=belowCell HB3.out i0;have j1:=belowCell HB3.out i1;have j2:=belowCell HB3.out i2;have j3:=belowCell HB3.out i3;have j4:=belowCell HB3.out i4;have j5:=belowCell HB3.out i5;have k0:=belowCell (hal w3) j0;have k1:=belowCell (hal w3) j1;have k2:=belowCell (hal w3) j2;have k3:=belowCell (hal w3) j3;have k4:=belowCell (hal w3) j4;have k5:=belowCell (hal w3) j5;have HBW3:=Km (bstep hbw.out HB3.out);have hs3:=HBW3.out.size;have HM3:=Km ((hmn.out.below HB3.out).alloc (.cells #[.int .i64 (r:Int)] 3));have HNW:=Km (new_one (K:= .i64) (x:=(r:Int)) (w:=w3.alloc (.cells #[.int .i64 (r:Int)] 3)) (b:=w3.heap.size) (o:=0) (by exact(Row.new (E:=3) (K:= .i64) w3 [(r:Int)]).cell (i:=0) (by simp)));have HBB:=Km (show W2.heap.size<=(w3.alloc (.cells #[.int .i64 (r:Int)] 3)).heap.size by simp;omega);have HBA:=Km (bstep HBW3.out (hal w3));have HOW:=Km HM3.out.own)
       |((refine step_append_mine _ (by rfl) _ _ 22 (by rfl) 3 .i64 8 Tryz.underlying22 info_i64 W2.heap.size (.slice ov0 i oc) (ints l) (by rfl) HM3.out HBB.out ⟨w3.heap.size,0,none⟩ 1 1 [(r:Int)] (by rfl) (by rfl) HNW.out H1.out H2.out ?_);intro v' w5 hM5 hg5 hn5;have HM5:=Km hM5;have m0:=(hg5.cell (a:=⟨g5,0,none⟩) k0 (fun e=>by have:=HOW.out _ e.symm;simp at this;omega));have m1:=(hg5.cell (a:=⟨g5,1,none⟩) k1 (fun e=>by have:=HOW.out _ e.symm;simp at this;omega));have m2:=(hg5.cell (a:=⟨g5,2,none⟩) k2 (fun e=>by have:=HOW.out _ e.symm;simp at this;omega));have m3:=(hg5.cell (a:=⟨g5,3,none⟩) k3 (fun e=>by have:=HOW.out _ e.symm;simp at this;omega));have m4:=(hg5.cell (a:=⟨w.heap.size,1,none⟩) k4 (fun e=>by have:=HOW.out _ e.symm;simp at this;omega));have m5:=(hg5.cell (a:=⟨bx,ox+i,none⟩) k5 (fun e=>by have:=HOW.out _ e.symm;simp at this;omega)))))
    have HB5:=Km (HBA.out.grown hg5 HBB.out (fun j hj=>(HOW.out j hj).1));go_wp2;go_roundw
    case rel=>exact⟨i+1,l++ [r],by omega,by go_num,by simp[hll],HL,⟨by rw[FFld.ints_append];exact HM5.out⟩,HB5⟩
    case measure=>simp[intOf]<;>omega
   ·obtain rfl:i=n:=by omega
    have HE:Kept (FFld.valsF D' ms xs i=l):=⟨by rw[HVM.out,<- hat.out,List.take_of_length_le (by rw[HLX.out];exact Nat.le_refl _)]⟩;have hbe:=(bxs_bel3 HX1.out);have HBE:=Km (hbe.trans (hbw.out.mono hbe.size));have hsz:=hbe.size;go_wp2
    go_ret
    exact⟨HBE.out,_,rfl,by rw[HE.out];exact hmn.out.lower (by omega)⟩
 ·exact absurd ⟨D,HD.out,rfl⟩ hno
theorem bxs_bel {w W:World}{os:List Obj}(h:Bxs w os W):Below w.heap.size w W:=h.1
set_option maxRecDepth 20000 in
theorem rword_ok {D:FFld.FD}(hD:D.Ok)(ax av:Option Addr)(cx cv n:Nat)(k:Int)(vs:List Int)(w:World)(hv:Sl .i64 w (.slice av n cv) vs)(he:elsB D vs=true):
 Calls Tryz.prog 35 #[cdv D.q ax n cx k, .slice av n cv] w (RB w (.int .i64 0)):=by
 have hq6:D.p ^ D.k<=65536:=hD.pre.small;have hq0:D.q=D.p ^ D.k:=rfl;have HX0:Kept (Bxs w [rcdbox D.q ax n cx k] (w.alloc (rcdbox D.q ax n cx k))):=⟨(Bxs.start w).alloc (by simp) _⟩;have HNW:=Km (fun W=>rnew_any (D.q:Int) W (by omega) (by omega))
 have HEL:Kept (∀ W,Below w.heap.size w W->Calls Tryz.prog 32 #[rfv D.q D.p D.k D.m, .slice av n cv] W (RB W (.bool true))):=⟨fun W hW=>by
  have h:=relements_any D (.slice av n cv) vs W (hv.below hW);rw[he] at h
  exact h⟩
 have HD:=Km hD;clear hv he hq0
 go_enter Tryz.func35,Tryz.ntmps35
 obtain⟨c0,c1,c2,_⟩:=three_cells HX0.out.b0;go_wp2_with fail;(with_reducible refine(HNW.out _).mono ?_);rintro e w1 ⟨hb1,⟨D',hD',hq',rfl⟩|⟨hno,rfl⟩⟩
 ·obtain rfl:D' =D:=FFld.FD.uniq hD' HD.out (by omega);have hal:Below w1.heap.size w1 (w1.alloc (rbox D'.q D'.p D'.k D'.m)):=(Below.refl _ _).alloc (Nat.le_refl _) _;have hG:=heap_alloc_new w1 (rbox D'.q D'.p D'.k D'.m);have HX1:=Km ((HX0.out.below hb1).below hal);obtain⟨g5,hg⟩:∃ x,w1.heap.size=x:=⟨_,rfl⟩;obtain⟨W2,hW2⟩:∃ W,w1.alloc (rbox D'.q D'.p D'.k D'.m)=W:=⟨_,rfl⟩;rw[hW2,hg] at hG;rw[hW2] at HX1
  go_upto_region 2 with fail
  try rw[hW2]
  try rw[hg]
  clear hb1 hq' hal hg hW2 hD' HNW c0 c1 c2 HX0;obtain⟨c0,c1,c2,_⟩:=three_cells HX1.out.b0;obtain⟨i0,i1,i2,i3⟩:=four_cells hG;have hbx:=bxs_bel HX1.out;go_wp2_with fail;(with_reducible refine(HEL.out _ hbx).mono ?_);rintro e w3 ⟨hb3,rfl⟩;have HB:=Km (bstep hbx hb3);clear hb3;go_wp2
  go_ret
  exact⟨HB.out,rfl⟩
 ·exact absurd ⟨D,HD.out,rfl⟩ hno
set_option maxRecDepth 20000 in
theorem rreceived_ok {D:FFld.FD}(hD:D.Ok)(ax av ae:Option Addr)(cx cv ce n m k:Nat)(vs es:List Int)(w:World)(hv:Sl .i64 w (.slice av n cv) vs)(hs:Sl .i64 w (.slice ae m ce) es)(le:es.length=m)(he:elsB D vs=true)(hb:belB n es=true)(hd:difB es m=true)(hkm:m+k<=n)(hn:n<=1000):
 Calls Tryz.prog 38 #[cdv D.q ax n cx k, .slice av n cv, .slice ae m ce] w (RB w (.int .i64 0)):=by
 have HX0:Kept (Bxs w [rcdbox D.q ax n cx k] (w.alloc (rcdbox D.q ax n cx k))):=⟨(Bxs.start w).alloc (by simp) _⟩;have HWD:=Km (fun(W:World) (hW:Below w.heap.size w W)=>rword_ok hD ax av cx cv n (k:Int) vs W (hv.below hW) he)
 have HTW:Kept (∀ W,Below w.heap.size w W->Calls Tryz.prog 83 #[.slice ae m ce] W (RB W (.bool false))):=⟨fun W hW=>by
  have h:=rtwice_any (.slice ae m ce) es W (hs.below hW);rw[le,hd] at h
  exact h⟩
 have HS:=Km hs;have HL:=Km le
 have HBE:Kept (∀ i,i<m-> ∃ y:Nat,es[i]?.getD 0=(y:Int)/\y<n):=⟨fun i hi=>by
  unfold belB at hb;rw[List.all_eq_true] at hb
  have hm:es[i]?.getD 0∈es:=by
   rw[List.getElem?_eq_getElem (by omega)];exact List.getElem_mem _
  have h:=hb _ hm;simp only[Bool.and_eq_true,decide_eq_true_eq] at h
  exact⟨(es[i]?.getD 0).toNat,by omega,by omega⟩⟩
 have er1:(n:Int)-(k:Int)=((n-k:Nat):Int):=by omega
 have q1: ¬ (n-k<m):=by omega
 have q2: ¬ (((n-k:Nat):Int)<(m:Int)):=by omega
 have q3:m<=n-k:=by omega
 have hcx:m<=ce/\ce<=9223372036854775807:=by
  obtain⟨_,_,e,h1,h2,_⟩:=hs;simp only[Value.slice.injEq] at e;obtain⟨_,e1,e2⟩:=e;unfold maxLen at h2;omega
 obtain⟨hcx1,hcx2⟩:=hcx;clear hv hs le he hb hd
 go_enter Tryz.func38,Tryz.ntmps38
 obtain⟨c0,c1,c2,_⟩:=three_cells HX0.out.b0;have hbx:=bxs_bel HX0.out;go_wp2_with fail;(with_reducible refine(HWD.out _ hbx).mono ?_);rintro e w1 ⟨hb1,rfl⟩;have HX1:=Km (HX0.out.below hb1);clear hb1 c0 c1 c2 hbx;obtain⟨c0,c1,c2,_⟩:=three_cells HX1.out.b0;have hbx:=bxs_bel HX1.out;go_wp2_with fail;(with_reducible refine(HTW.out _ hbx).mono ?_);rintro e w2 ⟨hb2,rfl⟩;have HX2:=Km (HX1.out.below hb2);clear hb2 c0 c1 c2 hbx;go_wp2
 go_loopw [7] (fun iv wr=> ∃ (i:Nat),i<=m/\iv= .int .i64 i/\Kept (Below w2.heap.size w2 wr)) (fun iv _=>m-(intOf iv).toNat)
 case atStart=>exact⟨0,Nat.zero_le _,rfl,⟨Below.refl _ _⟩⟩
 case round=>
  obtain⟨i,hin,rfl,hbw⟩:=hrel;have HBW:=Km (bstep (bxs_bel HX2.out) hbw.out)
  by_cases hlt:i<m
  ·obtain⟨bx,ox,rfl,hbx,u1⟩:=(HS.out.below HBW.out).news_ i (by rw[HL.out];exact hlt);obtain⟨y,hy,hyn⟩:=HBE.out i hlt;rw[hy] at u1;have p0: ¬ ((y:Int)<0):=by omega
   have p1: ¬ (n<=y):=by omega
   have p2: ¬ ((n:Int)<=(y:Int)):=by omega
   clear hy;go_wp2;go_roundw
   case rel=>exact⟨i+1,by omega,by go_num,hbw⟩
   case measure=>simp[intOf]<;>omega
  ·obtain rfl:i=m:=by omega
   go_wp2
   go_ret
   exact⟨HBW.out,rfl⟩
def wdE (D:FFld.FD)(n:Nat)(vs:List Int):Nat:=if vs.length≠n then 7 else if elsB D vs=false then 1 else 0
def wdL (D:FFld.FD)(h:FFld.PK D.p D.k D.m)(xs ws:List Nat)(n:Nat):List Nat:=FFld.lgO D h xs ws n n
section
variable {D : FFld.FD} (hD : D.Ok)
end
def MsRet (k:Nat)(L:List Nat)(w:World)(e:Ending)(w' :World):Prop:=Below w.heap.size w w' /\((k<L.length/\e= .returned (.tuple #[nilv, .int .i64 30]))\/(L.length<=k/\ ∃ (a:Option Addr) (c:Nat),e= .returned (.tuple #[.slice a k c, .int .i64 0])/\Sl .i64 w' (.slice a k c) (ints (FFld.padF L k))))




set_option maxRecDepth 20000 in
theorem rword3_any {D:FFld.FD}(hD:D.Ok)(ax aw:Option Addr)(cx cw n k nw:Nat)(xs:List Nat)(vs:List Int)(w:World)(hx:Sl .i64 w (.slice ax n cx) (ints xs))(hw:Sl .i64 w (.slice aw nw cw) vs)(hc:CodeV D xs n k)(lw:vs.length=nw):
 Calls Tryz.prog 35 #[cdv D.q ax n cx k, .slice aw nw cw] w (RB w (.int .i64 (wdE D n vs:Nat))):=by
 have HX0:Kept (Bxs w [rcdbox D.q ax n cx k] (w.alloc (rcdbox D.q ax n cx k))):=⟨(Bxs.start w).alloc (by simp) _⟩;have hq6:D.p ^ D.k<=65536:=hD.pre.small;have hq0:D.q=D.p ^ D.k:=rfl;have h64:=hc.n64;have HNW:=Km (fun W=>rnew_any (D.q:Int) W (by omega) (by omega));have HEL:=Km (fun(W:World) (hW:Below w.heap.size w W)=>relements_any D (.slice aw nw cw) vs W (hw.below hW));obtain⟨bb,hbb⟩:∃ x,elsB D vs=x:=⟨_,rfl⟩;have HW:Kept (wdE D n vs=if nw≠n then 7 else if bb=false then 1 else 0):=⟨by unfold wdE;rw[lw,hbb]⟩;rw[hbb] at HEL
 have hnw:nw<=9223372036854775807:=by
  obtain⟨_,_,e,h1,h2,_⟩:=hw;simp only[Value.slice.injEq] at e;unfold maxLen at h2;omega
 have HD:=Km hD;clear hx hw hc lw hq0 hbb
 go_enter Tryz.func35,Tryz.ntmps35
 obtain⟨c0,c1,c2,_⟩:=three_cells HX0.out.b0;go_wp2_with fail;(with_reducible refine(HNW.out _).mono ?_);rintro e w1 ⟨hb1,⟨D',hD',hq',rfl⟩|⟨hno,rfl⟩⟩;rotate_left
 ·exact absurd ⟨D,HD.out,rfl⟩ hno
 obtain rfl:D' =D:=FFld.FD.uniq hD' HD.out (by omega);have hal:Below w1.heap.size w1 (w1.alloc (rbox D'.q D'.p D'.k D'.m)):=(Below.refl _ _).alloc (Nat.le_refl _) _;have hG:=heap_alloc_new w1 (rbox D'.q D'.p D'.k D'.m);have HX1:=Km ((HX0.out.below hb1).below hal);obtain⟨g5,hg⟩:∃ x,w1.heap.size=x:=⟨_,rfl⟩;obtain⟨W2,hW2⟩:∃ W,w1.alloc (rbox D'.q D'.p D'.k D'.m)=W:=⟨_,rfl⟩;rw[hW2,hg] at hG;rw[hW2] at HX1
 go_upto_region 2 with fail
 try rw[hW2]
 try rw[hg]
 clear hb1 hq' hal hg hW2 hD' HNW c0 c1 c2 HX0;obtain⟨c0,c1,c2,_⟩:=three_cells HX1.out.b0;obtain⟨i0,i1,i2,i3⟩:=four_cells hG;have hbx:=HX1.out.1
 by_cases hl:nw=n
 ·subst hl;have e0:((nw:Int)!=(nw:Int))=false:=by simp
  rw[if_neg (fun e=>e rfl)] at HW;go_wp2_with fail;(with_reducible refine(HEL.out _ hbx).mono ?_);rintro e w3 ⟨hb3,rfl⟩;have HB:=Km (bstep hbx hb3);clear hb3
  cases bb with
  | false=>
    rw[if_pos rfl] at HW;go_wp2
    go_ret
    exact⟨HB.out,by rw[HW.out];try rfl⟩
  | true=>
    rw[if_neg (by simp)] at HW;go_wp2
    go_ret
    exact⟨HB.out,by rw[HW.out];try rfl⟩
 ·have e0:((nw:Int)!=(n:Int))=true:=by rw[bne_iff_ne];omega
  rw[if_pos hl] at HW;clear hl;go_wp2
  go_ret
  exact⟨hbx,by rw[HW.out];try rfl⟩
def RmsRet (k:Nat)(L:List Nat)(w:World)(e:Ending)(w' :World):Prop:=Below w.heap.size w w' /\((k<L.length/\e= .returned (.tuple #[nilv, .bool false]))\/(L.length<=k/\ ∃ (a:Option Addr) (c:Nat),e= .returned (.tuple #[.slice a k c, .bool true])/\Sl .i64 w' (.slice a k c) (ints (FFld.padF L k))))
end Go.Proofs.YtdnheaafcbihbaaGreat
