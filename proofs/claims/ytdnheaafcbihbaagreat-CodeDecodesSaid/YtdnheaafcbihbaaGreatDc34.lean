/-
  Texts of the proof, merged by program: Cde Dsm Dnf Lmk Ldt.
-/
import Derived.Test.YtdnheaafcbihbaaGreatDc33
set_option linter.unusedSimpArgs false
set_option linter.unusedVariables false
set_option maxHeartbeats 16000000
namespace Go.Proofs.YtdnheaafcbihbaaGreat
open Go Go.RowKit Go.Deep
open FFld (ints)
set_option maxRecDepth 20000 in
theorem cquot_nil {D:FFld.FD}{b:Nat}(hD:D.Ok)(ax ay aq ae:Option Addr)(cx cy cq ce k rad n nq:Nat)(Q:List Nat)(w:World)(hf:FldB D w b)(hQ:Sl .i64 w (.slice aq nq cq) (ints Q))(hE:Sl .i64 w (.slice ae 0 ce) (ints []))(lQ:Q.length=nq)(qQ:∀ a∈Q,a<D.p ^ D.k)(tQ:FFld.Tz Q)(hn:nq<=200):
 Calls Tryz.prog 91 #[rcv b (.slice ax n cx) (.slice ay n cy) k rad, .agg #[.slice aq nq cq, .slice ae 0 ce]] w (RB w (.tuple #[nilv, .bool false])):=by
 have HX0:Kept (Bxs w [rcbox b (.slice ax n cx) (.slice ay n cy) k rad,fabox (.slice aq nq cq) (.slice ae 0 ce)] ((w.alloc (rcbox b (.slice ax n cx) (.slice ay n cy) k rad)).alloc (fabox (.slice aq nq cq) (.slice ae 0 ce)))):=⟨((Bxs.start w).alloc (by simp) _).alloc (by simp) _⟩;have HDV:=Km (fun(W:World) (hW:Below w.heap.size w W)=>fpdivide_zero (.slice aq nq cq) (.slice ae 0 ce) Q [] W (hf.below hW) (hQ.below hW) (hE.below hW) (cErr_poly qQ tQ (by omega)) (cErr_poly (D:=D) (l:= []) (fun a ha=>by cases ha) (.inl rfl) (by simp)) rfl);clear hf hQ hE lQ qQ tQ
 go_enter Tryz.func91,Tryz.ntmps91
 obtain⟨c0,c1,c2,c3,c4⟩:=five_cells_ HX0.out.b0;obtain⟨d0,d1,_,_⟩:=two_cells HX0.out.b1;go_wp2_with fail;refine(HDV.out _ HX0.out.1).mono ?_;rintro e w1 ⟨rfl,rfl⟩;go_wp2;exact bodyPost_ret (v:= .tuple #[nilv, .bool false]) (by simp[results,Tryz.results91,go_sem]) rfl ⟨HX0.out.1,rfl⟩
set_option maxRecDepth 20000 in
theorem cdenies_no {D:FFld.FD}(hD:D.Ok)(ax aw ae qa va:Option Addr)(cx cw ce qc vc n m k nq ne:Nat)(xs ws:List Nat)(es Q E:List Int)(w:World)(hx:Sl .i64 w (.slice ax n cx) (ints xs))(hw:Sl .i64 w (.slice aw n cw) (ints ws))(he:Sl .i64 w (.slice ae m ce) es)(hQ:Sl .i64 w (.slice qa nq qc) Q)(hE:Sl .i64 w (.slice va ne vc) E)(hc:CodeV D xs n k)(lw:ws.length=n)(le:es.length=m)(lQ:Q.length=nq)(lE:E.length=ne)(hwq:∀ a∈ws,a<D.p ^ D.k)(hkm:m+k<=n)(hb:belB n es=true)(hd:difB es m=true)(hfi:∀ W b pa ea pc ec,Below w.heap.size w W->FldB D W b->Sl .i64 W (.slice pa (kpF es n).length pc) (ints (kpL es n xs))->Sl .i64 W (.slice ea (kpF es n).length ec) (ints (kpL es n ws))->Calls Tryz.prog 98 #[rcv b (.slice pa (kpF es n).length pc) (.slice ea (kpF es n).length ec) k ((n-m-k)/2), .agg #[.slice qa nq qc, .slice va ne vc]] W (RB W (.bool false))):
 Calls Tryz.prog 29 #[cdv D.q ax n cx k, .slice aw n cw, .slice ae m ce, .agg #[.slice qa nq qc, .slice va ne vc]] w (RB w (.bool false)):=by
 have HX0:Kept (Bxs w [cdbox D.q ax n cx k,fabox (.slice qa nq qc) (.slice va ne vc)] ((w.alloc (cdbox D.q ax n cx k)).alloc (fabox (.slice qa nq qc) (.slice va ne vc)))):=⟨((Bxs.start w).alloc (by simp) _).alloc (by simp) _⟩;have hRC:∀ W,Below w.heap.size w W->Calls Tryz.prog 90 #[cdv D.q ax n cx k, .slice aw n cw, .slice ae m ce] W (ReRet hD k ((n-m-k)/2) (kpL es n xs) (kpL es n ws) W):=fun W hW=>creceive_ok hD ax aw ae cx cw ce n m k xs ws es W (hx.below hW) (hw.below hW) (he.below hW) hc.len lw le hc.lt hwq hc.chk hc.k1 hkm hc.n64 hb hd
 have hkl:=kp_len hb hd le;have hPl:=kpL_len es n xs;have hWl:=kpL_len es n ws;have hPq:=kpL_lt (es:=es) hc.len hc.lt;have hWq:=kpL_lt (es:=es) lw hwq;have h64:=hc.n64;have hk1:=hc.k1;obtain⟨P,hP⟩:∃ l,kpL es n xs=l:=⟨_,rfl⟩;obtain⟨Wd,hWd⟩:∃ l,kpL es n ws=l:=⟨_,rfl⟩;obtain⟨np,hnp⟩:∃ l,(kpF es n).length=l:=⟨_,rfl⟩;obtain⟨rad,hrad⟩:∃ r,(n-m-k)/2=r:=⟨_,rfl⟩;rw[hP,hWd,hrad] at hRC;rw[hP,hWd,hnp,hrad] at hfi;rw[hP] at hPl hPq;rw[hWd] at hWl hWq;rw[hnp] at hkl hPl hWl;have HRC:=Km hRC;have HPL:=Km hPl;have HWL:=Km hWl;have HFI:=Km hfi;clear hx hw he hQ hE lw le lQ lE hwq hb hd hRC hPl hWl hPq hWq hP hWd hnp hrad hc hfi
 go_enter Tryz.func29,Tryz.ntmps29
 obtain⟨c0,c1,c2,_⟩:=three_cells HX0.out.b0;obtain⟨d0,d1,_,_⟩:=two_cells HX0.out.b1;have hbx:=HX0.out.1;go_wp2_with fail;(with_reducible refine(HRC.out _ hbx).mono ?_);rintro e w1 ⟨hb1,b,pv,ev,rfl,hf,hp,hev⟩;obtain⟨pa,pc,rfl,_,_⟩:=hp.form;obtain⟨ea,ec,rfl,_,_⟩:=hev.form;rw[FFld.ints_len,HPL.out] at hp;rw[FFld.ints_len,HWL.out] at hev;rw[FFld.ints_len,FFld.ints_len,HPL.out,HWL.out];have HX1:=Km (HX0.out.below hb1);have hal:Below w1.heap.size w1 (w1.alloc (rcbox b (.slice pa np pc) (.slice ea np ec) k rad)):=(Below.refl _ _).alloc (Nat.le_refl _) _;have hbox:=heap_alloc_new w1 (rcbox b (.slice pa np pc) (.slice ea np ec) k rad);obtain⟨W2,hW2⟩:∃ W,w1.alloc (rcbox b (.slice pa np pc) (.slice ea np ec) k rad)=W:=⟨_,rfl⟩;rw[hW2] at hal hbox;have HX2:=Km (HX1.out.below hal);have HF2:=Km (hf.below hal);have HP2:=Km (hp.below hal);have HE2:=Km (hev.below hal);clear hb1 c0 c1 c2 d0 d1 HRC HX1 hal hf hp hev hbx;obtain⟨c0,c1,c2,_⟩:=three_cells HX2.out.b0;obtain⟨d0,d1,_,_⟩:=two_cells HX2.out.b1;obtain⟨j0,j1,j2,j3,j4⟩:=five_cells_ hbox;have hbx:=HX2.out.1;go_wp2_with fail
 try rw[hW2]
 obtain⟨g,hg⟩:∃ x,w1.heap.size=x:=⟨_,rfl⟩
 try rw[hg]
 rw[hg] at j0 j1 j2 j3 j4 hbox;clear hW2 hg;go_wp2_with fail;(with_reducible refine(HFI.out _ _ _ _ _ _ hbx HF2.out HP2.out HE2.out).mono ?_);rintro e w3 ⟨hb3,rfl⟩;have HX3:=Km (HX2.out.below hb3);have HF3:=Km (HF2.out.below hb3);have HP3:=Km (HP2.out.below hb3);have HE3:=Km (HE2.out.below hb3);have j0:=belowCell hb3 j0;have j1:=belowCell hb3 j1;have j2:=belowCell hb3 j2;have j3:=belowCell hb3 j3;have j4:=belowCell hb3 j4;clear hb3 hbx HX2 HF2 HP2 HE2 HFI c0 c1 c2 d0 d1 hbox;obtain⟨d0,d1,_,_⟩:=two_cells HX3.out.b1;have hbx:=HX3.out.1;go_wp2
 go_ret
 exact⟨hbx,rfl⟩
set_option maxRecDepth 20000 in
theorem cdenies_yes {D:FFld.FD}(hD:D.Ok)(ax aw ae qa va:Option Addr)(cx cw ce qc vc n m k nq ne:Nat)(xs ws:List Nat)(es Q E:List Int)(w:World)(hx:Sl .i64 w (.slice ax n cx) (ints xs))(hw:Sl .i64 w (.slice aw n cw) (ints ws))(he:Sl .i64 w (.slice ae m ce) es)(hQ:Sl .i64 w (.slice qa nq qc) Q)(hE:Sl .i64 w (.slice va ne vc) E)(hc:CodeV D xs n k)(lw:ws.length=n)(le:es.length=m)(lQ:Q.length=nq)(lE:E.length=ne)(hwq:∀ a∈ws,a<D.p ^ D.k)(hkm:m+k<=n)(hb:belB n es=true)(hd:difB es m=true)(bb:Bool)(hfi:∀ W b pa ea pc ec,Below w.heap.size w W->FldB D W b->Sl .i64 W (.slice pa (kpF es n).length pc) (ints (kpL es n xs))->Sl .i64 W (.slice ea (kpF es n).length ec) (ints (kpL es n ws))->Calls Tryz.prog 98 #[rcv b (.slice pa (kpF es n).length pc) (.slice ea (kpF es n).length ec) k ((n-m-k)/2), .agg #[.slice qa nq qc, .slice va ne vc]] W (RB W (.bool true)))(hqu:∀ W b pa ea pc ec,Below w.heap.size w W->FldB D W b->Sl .i64 W (.slice pa (kpF es n).length pc) (ints (kpL es n xs))->Sl .i64 W (.slice ea (kpF es n).length ec) (ints (kpL es n ws))->Calls Tryz.prog 91 #[rcv b (.slice pa (kpF es n).length pc) (.slice ea (kpF es n).length ec) k ((n-m-k)/2), .agg #[.slice qa nq qc, .slice va ne vc]] W (fun e w' =>Below W.heap.size W w' /\ ∃ v,e= .returned (.tuple #[v, .bool bb]))):
 Calls Tryz.prog 29 #[cdv D.q ax n cx k, .slice aw n cw, .slice ae m ce, .agg #[.slice qa nq qc, .slice va ne vc]] w (RB w (.bool (!bb))):=by
 have HX0:Kept (Bxs w [cdbox D.q ax n cx k,fabox (.slice qa nq qc) (.slice va ne vc)] ((w.alloc (cdbox D.q ax n cx k)).alloc (fabox (.slice qa nq qc) (.slice va ne vc)))):=⟨((Bxs.start w).alloc (by simp) _).alloc (by simp) _⟩;have hRC:∀ W,Below w.heap.size w W->Calls Tryz.prog 90 #[cdv D.q ax n cx k, .slice aw n cw, .slice ae m ce] W (ReRet hD k ((n-m-k)/2) (kpL es n xs) (kpL es n ws) W):=fun W hW=>creceive_ok hD ax aw ae cx cw ce n m k xs ws es W (hx.below hW) (hw.below hW) (he.below hW) hc.len lw le hc.lt hwq hc.chk hc.k1 hkm hc.n64 hb hd
 have hkl:=kp_len hb hd le;have hPl:=kpL_len es n xs;have hWl:=kpL_len es n ws;have hPq:=kpL_lt (es:=es) hc.len hc.lt;have hWq:=kpL_lt (es:=es) lw hwq;have h64:=hc.n64;have hk1:=hc.k1;obtain⟨P,hP⟩:∃ l,kpL es n xs=l:=⟨_,rfl⟩;obtain⟨Wd,hWd⟩:∃ l,kpL es n ws=l:=⟨_,rfl⟩;obtain⟨np,hnp⟩:∃ l,(kpF es n).length=l:=⟨_,rfl⟩;obtain⟨rad,hrad⟩:∃ r,(n-m-k)/2=r:=⟨_,rfl⟩;rw[hP,hWd,hnp,hrad] at hqu;have HQU:=Km hqu;clear hqu;rw[hP,hWd,hrad] at hRC;rw[hP,hWd,hnp,hrad] at hfi;rw[hP] at hPl hPq;rw[hWd] at hWl hWq;rw[hnp] at hkl hPl hWl;have HRC:=Km hRC;have HPL:=Km hPl;have HWL:=Km hWl;have HFI:=Km hfi;clear hx hw he hQ hE lw le lQ lE hwq hb hd hRC hPl hWl hPq hWq hP hWd hnp hrad hc hfi
 go_enter Tryz.func29,Tryz.ntmps29
 obtain⟨c0,c1,c2,_⟩:=three_cells HX0.out.b0;obtain⟨d0,d1,_,_⟩:=two_cells HX0.out.b1;have hbx:=HX0.out.1;go_wp2_with fail;(with_reducible refine(HRC.out _ hbx).mono ?_);rintro e w1 ⟨hb1,b,pv,ev,rfl,hf,hp,hev⟩;obtain⟨pa,pc,rfl,_,_⟩:=hp.form;obtain⟨ea,ec,rfl,_,_⟩:=hev.form;rw[FFld.ints_len,HPL.out] at hp;rw[FFld.ints_len,HWL.out] at hev;rw[FFld.ints_len,FFld.ints_len,HPL.out,HWL.out];have HX1:=Km (HX0.out.below hb1);have hal:Below w1.heap.size w1 (w1.alloc (rcbox b (.slice pa np pc) (.slice ea np ec) k rad)):=(Below.refl _ _).alloc (Nat.le_refl _) _;have hbox:=heap_alloc_new w1 (rcbox b (.slice pa np pc) (.slice ea np ec) k rad);obtain⟨W2,hW2⟩:∃ W,w1.alloc (rcbox b (.slice pa np pc) (.slice ea np ec) k rad)=W:=⟨_,rfl⟩;rw[hW2] at hal hbox;have HX2:=Km (HX1.out.below hal);have HF2:=Km (hf.below hal);have HP2:=Km (hp.below hal);have HE2:=Km (hev.below hal);clear hb1 c0 c1 c2 d0 d1 HRC HX1 hal hf hp hev hbx;obtain⟨c0,c1,c2,_⟩:=three_cells HX2.out.b0;obtain⟨d0,d1,_,_⟩:=two_cells HX2.out.b1;obtain⟨j0,j1,j2,j3,j4⟩:=five_cells_ hbox;have hbx:=HX2.out.1;go_wp2_with fail
 try rw[hW2]
 obtain⟨g,hg⟩:∃ x,w1.heap.size=x:=⟨_,rfl⟩
 try rw[hg]
 rw[hg] at j0 j1 j2 j3 j4 hbox;clear hW2 hg;go_wp2_with fail;(with_reducible refine(HFI.out _ _ _ _ _ _ hbx HF2.out HP2.out HE2.out).mono ?_);rintro e w3 ⟨hb3,rfl⟩;have HX3:=Km (HX2.out.below hb3);have HF3:=Km (HF2.out.below hb3);have HP3:=Km (HP2.out.below hb3);have HE3:=Km (HE2.out.below hb3);have j0:=belowCell hb3 j0;have j1:=belowCell hb3 j1;have j2:=belowCell hb3 j2;have j3:=belowCell hb3 j3;have j4:=belowCell hb3 j4;clear hb3 hbx HX2 HF2 HP2 HE2 HFI c0 c1 c2 d0 d1 hbox;obtain⟨d0,d1,_,_⟩:=two_cells HX3.out.b1;have hbx:=HX3.out.1;go_wp2_with fail;(with_reducible refine(HQU.out _ _ _ _ _ _ hbx HF3.out HP3.out HE3.out).mono ?_);rintro e w4 ⟨hb4,vv,rfl⟩;have HB4:=Km (bstep hbx hb4);clear hb4;go_wp2
 go_ret
 exact⟨HB4.out,rfl⟩
structure DnSame (D:FFld.FD)(ax aw ae:Option Addr)(cx cw ce n m k nq ne:Nat)(xs ws:List Nat)(es Q E:List Int)(bb:Bool):Prop where
 own:∀ (qa va:Option Addr) (qc vc:Nat) (W:World),Sl .i64 W (.slice ax n cx) (ints xs)->Sl .i64 W (.slice aw n cw) (ints ws)->Sl .i64 W (.slice ae m ce) es->Sl .i64 W (.slice qa nq qc) Q->Sl .i64 W (.slice va ne vc) E->Calls Tryz.prog 29 #[cdv D.q ax n cx k, .slice aw n cw, .slice ae m ce, .agg #[.slice qa nq qc, .slice va ne vc]] W (RB W (.bool bb))
 ref:∀ (qa va:Option Addr) (qc vc:Nat) (W:World),Sl .i64 W (.slice ax n cx) (ints xs)->Sl .i64 W (.slice aw n cw) (ints ws)->Sl .i64 W (.slice ae m ce) es->Sl .i64 W (.slice qa nq qc) Q->Sl .i64 W (.slice va ne vc) E->Calls Tryz.prog 40 #[cdv D.q ax n cx k, .slice aw n cw, .slice ae m ce, .agg #[.slice qa nq qc, .slice va ne vc]] W (RB W (.bool bb))
theorem denies_poly3 {D:FFld.FD}(hD:D.Ok)(ax aw ae:Option Addr)(cx cw ce n m k nq ne:Nat)(xs ws:List Nat)(es:List Int)(hc:CodeV D xs n k)(lw:ws.length=n)(le:es.length=m)(hwq:∀ a∈ws,a<D.p ^ D.k)(hkm:m+k<=n)(hb:belB n es=true)(hd:difB es m=true)(ql el:List Nat)(lQ:ql.length=nq)(lE:el.length=ne)
 (hqq:∀ a∈ql,a<D.p ^ D.k) (heq:∀ a∈el,a<D.p ^ D.k) (tq:FFld.Tz ql) (te:FFld.Tz el) (hlq:nq+(n-m-k)/2<=n-m) (hle:ne<=(n-m-k)/2+1) (h3: ¬ (nq=0/\ne=0)) (bb:Bool) (hbb:bb=(rfitP D xs ws ql el es n&&(decide (ne=0)||decide (¬ (FFld.rstF D el (FFld.invT D hD.pre.pk el) ql= []/\(FFld.quoF D el (FFld.invT D hD.pre.pk el) ql).length<=k/\disK (ints (FFld.valsF D (FFld.quoF D el (FFld.invT D hD.pre.pk el) ql) xs n)) (ints ws) es n<=(n-m-k)/2))))):DnSame D ax aw ae cx cw ce n m k nq ne xs ws es (ints ql) (ints el) bb:=by
 have h64:=hc.n64;have hk1:=hc.k1;have hkl:=kp_len hb hd le;have hwe:=elsB_ints hwq;have hpx:=kpL_lt (es:=es) hc.len hc.lt;have hpw:=kpL_lt (es:=es) lw hwq;refine⟨fun qa va qc vc W hx hw he hQ hE=> ?_,fun qa va qc vc W hx hw he hQ hE=>rdenies_poly hD ax aw ae qa va cx cw ce qc vc n m k nq ne xs ws ql el es W hx hw he hQ hE hc le hwe hkm hb hd lw lQ lE hwq hqq heq tq te hlq hle (by omega) bb hbb⟩
 have hfit:∀ W' b pa ea pc ec,Below W.heap.size W W' ->FldB D W' b->Sl .i64 W' (.slice pa (kpF es n).length pc) (ints (kpL es n xs))->Sl .i64 W' (.slice ea (kpF es n).length ec) (ints (kpL es n ws))->Calls Tryz.prog 98 #[rcv b (.slice pa (kpF es n).length pc) (.slice ea (kpF es n).length ec) k ((n-m-k)/2), .agg #[.slice qa nq qc, .slice va ne vc]] W' (RB W' (.bool (rfitP D xs ws ql el es n))):=fun W' b pa ea pc ec hW hf hp hv=>by
  have h:=cfits_ok hD pa ea qa va pc ec qc vc k ((n-m-k)/2) (kpF es n).length nq ne (kpL es n xs) (kpL es n ws) ql el W' hf hp hv (hQ.below hW) (hE.below hW) (kpL_len _ _ _) (kpL_len _ _ _) lQ lE hpx hpw (by omega) (by omega) (by omega) hqq heq tq te (by omega) (by omega) (by omega);rw[fit_same tq te] at h;exact h
 cases hfi:rfitP D xs ws ql el es n with
 | false=>
   rw[hfi] at hfit hbb;rw[hbb,Bool.false_and];exact cdenies_no hD ax aw ae qa va cx cw ce qc vc n m k nq ne xs ws es _ _ W hx hw he hQ hE hc lw le (by rw[FFld.ints_len];exact lQ) (by rw[FFld.ints_len];exact lE) hwq hkm hb hd hfit
 | true=>
   rw[hfi] at hfit hbb;rw[Bool.true_and] at hbb;have hnb:bb= !(!bb):=by simp
   rw[hnb];refine cdenies_yes hD ax aw ae qa va cx cw ce qc vc n m k nq ne xs ws es _ _ W hx hw he hQ hE hc lw le (by rw[FFld.ints_len];exact lQ) (by rw[FFld.ints_len];exact lE) hwq hkm hb hd (!bb) hfit fun W' b pa ea pc ec hW hf hp hv=> ?_
   by_cases h0:ne=0
   ·have hel:el= []:=List.length_eq_zero_iff.1 (lE.trans h0);subst h0 hel;rw[decide_eq_true rfl,Bool.true_or] at hbb;rw[hbb];refine(cquot_nil hD pa ea qa va pc ec qc vc k ((n-m-k)/2) (kpF es n).length nq ql W' hf (hQ.below hW) (hE.below hW) lQ hqq tq (by omega)).mono fun e w' h=> ?_
    obtain⟨h5,rfl⟩:=h;exact⟨h5,_,rfl⟩
   ·rw[decide_eq_false h0,Bool.false_or] at hbb;subst lQ lE;refine(cquot_any hD pa ea qa va pc ec qc vc k ((n-m-k)/2) (kpF es n).length (kpL es n xs) (kpL es n ws) ql el W' hf hp hv (kpL_len _ _ _) (kpL_len _ _ _) hpx hpw (by omega) (by omega) (by omega) (hQ.below hW) (hE.below hW) hqq heq tq te (by omega) (by omega) (by omega)).mono fun e w' h=> ?_
    obtain⟨h5,v,rfl,_⟩:=h;refine⟨h5,v,?_⟩
    have hg:goodB D (kpL es n xs) (kpL es n ws) (FFld.quoF D el (FFld.invT D hD.pre.pk el) ql) (FFld.rstF D el (FFld.invT D hD.pre.pk el) ql) k ((n-m-k)/2)= !bb:=by
     rw[hbb];have hds:=dis_same (D:=D) (FFld.quoF D el (FFld.invT D hD.pre.pk el) ql) es (xs:=xs) ws hc.len
     by_cases hG:Good D (kpL es n xs) (kpL es n ws) (FFld.quoF D el (FFld.invT D hD.pre.pk el) ql) (FFld.rstF D el (FFld.invT D hD.pre.pk el) ql) k ((n-m-k)/2)
     ·rw[good_yes hG];unfold Good at hG;rw[hds] at hG;rw[decide_eq_false (fun h=>h hG)];rfl
     ·rw[good_no hG];unfold Good at hG;rw[hds] at hG;rw[decide_eq_true hG];rfl
    rw[hg]
theorem vals_lt3 {D:FFld.FD}(hk:FFld.PK D.p D.k D.m)(ms xs:List Nat)(i:Nat):∀ a∈FFld.valsF D ms xs i,a<D.p ^ D.k:=fun a ha=>by
 unfold FFld.valsF at ha;obtain⟨j,_,rfl⟩:=List.mem_map.1 ha
 split
 ·exact FFld.hornF_lt hk _ _ _
 ·exact Nat.pow_pos hk.p0
theorem gao_fit {D:FFld.FD}(hD:D.Ok){P W bf Q el E:List Nat}{n:Nat}(g:FFld.GaoOk hD P W n bf Q el E)(lP:P.length=n)(hP:∀ a∈P,a<D.p ^ D.k)(hW:∀ a∈W,a<D.p ^ D.k):fitP D P W Q E n=true:=by
 have h0:=Nat.pow_pos (n:=D.k) hD.pre.pk.p0;unfold fitP;rw[List.all_eq_true];intro j hj;have hj' :=List.mem_range.1 hj;refine decide_eq_true ?_
 apply FFld.toE_inj hD.pre.pk (FFld.getD_lt h0 (vals_lt3 hD.pre.pk _ _ _) j) (FFld.pmul_lt hD.pre.pk _ _ _)
 rw[FFld.toE_mul hD (FFld.getD_lt h0 (vals_lt3 hD.pre.pk _ _ _) j) (FFld.getD_lt h0 hW j),vals_ev hD g.nlt g.tn hP (by rw[lP];exact hj'),vals_ev hD g.elt g.te hP (by rw[lP];exact hj')];exact g.ev2 j hj'
theorem denies_far3 {D:FFld.FD}(hD:D.Ok)(ax aw ae:Option Addr)(cx cw ce n m k:Nat)(xs ws:List Nat)(es:List Int)(hc:CodeV D xs n k)(lw:ws.length=n)(le:es.length=m)(hwq:∀ a∈ws,a<D.p ^ D.k)(hkm:m+k<=n)(hb:belB n es=true)(hd:difB es m=true){bf Q el E:List Nat}
 (g:FFld.GaoOk hD (kpL es n xs) (kpL es n ws) (kpF es n).length bf Q el E) (hQ:Q.length+(n-m-k)/2<=(kpF es n).length) (hbf:(kpF es n).length<bf.length+(n-m-k)/2) (hno:∀ Po,¬ Near D (kpL es n xs) (kpL es n ws) k ((n-m-k)/2) Po):
 DnSame D ax aw ae cx cw ce n m k Q.length E.length xs ws es (ints Q) (ints E) true:=by
 have hkl:=kp_len hb hd le;have g1:=g.len;have g2:=g.up;refine denies_poly3 hD ax aw ae cx cw ce n m k _ _ xs ws es hc lw le hwq hkm hb hd Q E rfl rfl g.nlt g.elt g.tn g.te (by omega) (by omega) (by omega) true ?_;have hf:=gao_fit hD g (kpL_len es n xs) (kpL_lt hc.len hc.lt) (kpL_lt lw hwq);rw[fit_same g.tn g.te] at hf;have hds:=dis_same (D:=D) (FFld.quoF D E (FFld.invT D hD.pre.pk E) Q) es (xs:=xs) ws hc.len;rw[hf,Bool.true_and,decide_eq_true (p:= ¬ _) fun h=>hno _ (good_near hD g ⟨h.1,h.2.1,by rw[hds];exact h.2.2⟩),Bool.or_true]
structure MkSt (w:World)(o:Int)(la:Option Addr)(lc ln:Nat)(xs:List Int)(ta:Option Addr)(tc tn:Nat)(ts:List Int)(g9 q p kq m:Nat)(okb:Bool)(W:World):Prop where
 bel:Below w.heap.size w W
 sl:Sl .i64 W (.slice la ln lc) xs
 ll:xs.length=ln
 l201:ln<=201
 st:Sl .i64 W (.slice ta tn tc) ts
 lt:ts.length=tn
 t202:tn<=202
 o0: -9223372036854775808<=o
 o1:o<=9223372036854775807
 b9:W.heap[g9]? =some (rbox q p kq m)
 yes:okb=true-> ∃ D:FFld.FD,D.Ok/\o=D.q/\q=D.q/\p=D.p/\kq=D.k/\m=D.m
 no:okb=false-> ¬ FFld.Fit o
theorem bel_nats {D:FFld.FD}{xs:List Int}(h:belB (D.q:Int) xs=true):∃ l:List Nat,xs=ints l/\ ∀ a∈l,a<D.p ^ D.k:=by
 refine⟨xs.map Int.toNat,?_,fun a ha=> ?_⟩
 ·unfold ints belB at*;rw[List.all_eq_true] at h;rw[List.map_map]
  have h2:∀ x∈xs,((x.toNat:Nat):Int)=x:=fun x hx=>by
   have:=of_decide_eq_true (h x hx);omega
  have h3:xs.map (fun x=>((x.toNat:Nat):Int))=xs:=by
   have h4:xs.map (fun x=>((x.toNat:Nat):Int))=xs.map id:=List.map_congr_left fun x hx=>h2 x hx
   rw[h4,List.map_id]
  exact h3.symm
 ·obtain⟨x,hx,rfl⟩:=List.mem_map.1 ha;unfold belB at h;rw[List.all_eq_true] at h;have:=of_decide_eq_true (h x hx);have h2:D.q=D.p ^ D.k:=rfl;omega
abbrev rfbox (u v:Value):Obj:= .cells #[u,v] 58
structure DcSt (w:World)(D:FFld.FD)(va:Option Addr)(m vc kk:Nat)(xs:List Nat)(g7 g8:Nat)(wa:Option Addr)(nw wc:Nat)(V:List Int)(ea:Option Addr)(ne ec:Nat)(E:List Int)(W:World):Prop where
 lw:LwAt w D va m vc kk xs g7 g8 W
 sv:Sl .i64 W (.slice wa nw wc) V
 se:Sl .i64 W (.slice ea ne ec) E
 lv:V.length=nw
 le:E.length=ne
 nw20:nw<=20
 ne20:ne<=20
theorem DcSt.below {w:World}{D:FFld.FD}{va:Option Addr}{m vc kk:Nat}{xs:List Nat}{g7 g8:Nat}{wa:Option Addr}{nw wc:Nat}{V:List Int}{ea:Option Addr}{ne ec:Nat}{E:List Int}{W W' :World}(h:DcSt w D va m vc kk xs g7 g8 wa nw wc V ea ne ec E W)(hb:Below W.heap.size W W'):DcSt w D va m vc kk xs g7 g8 wa nw wc V ea ne ec E W' :=
 {h with lw:=h.lw.below hb,sv:=h.sv.below hb,se:=h.se.below hb}
def seekAt (n:Nat):Code->Option Code
 | .seq a b=>match headIs n a with
   |true=>some (.seq a b)
   | false=>match seekAt n a with
     |some c=>some c
     |none=>seekAt n b
 | .scope c=>seekAt n c
 | .block _ c=>seekAt n c
 | .loop c=>seekAt n c
 | .cond _ a b=>match seekAt n a with
   |some c=>some c
   |none=>seekAt n b
 |_=>none
noncomputable def dc20:Code:=(seekAt 20 (Tryz.f5.body.getD .skip)).getD .skip
set_option maxRecDepth 100000 in
theorem decodes_end {K:Act->World->Prop}{Post:Exit->Act->World->Prop}{w WQ:World}{D:FFld.FD}{va a1 a2:Option Addr}{m vc kk g7 g8 n1 c1 n2 c2 mo c kx:Nat}{xs L:List Nat}{xs1:List Int}(HD:Kept D.Ok)(HCV:Kept (CodeV D xs m kk))(hq1:1<=D.q)(hq3:D.q<=300)(hkk1:1<=kk)(hkkm:kk<=m)(hm12:m<=12)(ed:(m:Int)-(kk:Int)=(mo:Nat))(hmo:m-kk=mo)(hcm:c<=mo)(HLC:Kept (L.length=c))(hk3:kx<3)(hn1c:n1<=c1)(hc1:c1<=9223372036854775807)(HI1:Kept (I64s xs1))(HN1:Kept (xs1.length=n1))
 (HSA:Kept (∀ W,Below w.heap.size w W->Sl .i64 W (.slice a1 n1 c1) xs1))
 (HPL:Kept (∀ W,Below w.heap.size w W->Calls Tryz.prog 41 #[.slice a2 n2 c2, .int .i64 m, .int .i64 (mo:Nat)] W (RetP W L c)))
 (HELm:Kept (∀ W,Below w.heap.size w W->Calls Tryz.prog 37 #[.int .i64 D.q, .slice a1 n1 c1, .int .i64 m] W (RetP W (elL D.q xs1 m) m)))
 (HELk:Kept (∀ W,Below w.heap.size w W->Calls Tryz.prog 37 #[.int .i64 D.q, .slice a1 n1 c1, .int .i64 kk] W (RetP W (elL D.q xs1 kk) kk)))
 (HSQ:Kept (LwAt w D va m vc kk xs g7 g8 WQ))
 {t0 t3 t4 t5 t6 t8 t9 t10 t12 t13 t14 t15 t16 t17 t18 t19 t20 t21 t22 t23 t24 t25 t26 t27 t28 t29 t30 t31 t32 t33 t34 t35 t36 t37 t38 t39 t40 t41 t42 t43 t44 t45 t46 t47 t48 t49 t50 t51 t52 t53 t54 t55 t56 t57 t58 t59 t60 t61 t62 t63 t64 t65 t66 t67 t68 t69 t70 t71 t72 t73 t74 t75 t76 t77 t78 t79 t80 t81 t82 t83 t84 t85 t86 t87 t88 t89 t90 t91 t92 t93 t94 t95 t96 t97 t98 t99 t100 t101 t102 t103 t104 t105 t106 t107 t108 t109 t110 t111 t112 t113 t114 t115 t116 t117 t118 t119 t120 t121 t122 t123 t124 t125 t126 t127 t128 t129 t130 t131 t132 t133 t134 t135 t136 t137 t138 t139 t140 t141 t142 t143 t144 t145 t146 t147 t148 t149 t150 t151 t152 t153 t154 t155 t156 t157 t158 t159 t160 t161 t162 t163 t164 t165 t166 t167 t168 t169 t170 t171 t172 t173 t174 t175 t176 t177 t178 t179 t180 t181 t182 t183 t184 t185 t186 t187 t188 t189 t190 t191:Value} (HQP:Kept (∀ ch (a:Act) dst v W,Post (.panic ch) (a.put dst v) W->Post (.panic ch) a W)) (hK:Kept (∀ a w',Code.wp Tryz.prog (sndOf dc20) Post a w' ->K a w')) (hP:∀ (s9 s10 s20 s21 s136 s137 s138 s139 s140 s141 s142 s143 s144 s145 s146 s147 s148 s149 s150 s151 s152 s153 s154 s155 s156 s157 s158 s159 s160 s161 s162 s163 s164 s165 s166 s167 s168 s169 s170 s171 s172 s173 s174 s175 s176 s177 s178 s179 s180 s181 s182 s183 s184 s185 s186 s187 s188 s189 s190:Value) (W:World) (nw wc ne ec:Nat) (wa ea:Option Addr) (V E:List Int),s9= .slice wa nw wc->s10= .slice ea ne ec->Kept (DcSt w D va m vc kk xs g7 g8 wa nw wc V ea ne ec E W)->Post .normal ⟨#[t0, .slice a1 n1 c1, .slice a2 n2 c2,t3,t4,t5,t6, .pointer (some ⟨g7,0,none⟩),t8,s9,s10, .int .i64 (kx:Nat),t12,t13,t14,t15,t16,t17,t18,t19,s20,s21,t22,t23,t24,t25,t26,t27,t28,t29,t30,t31,t32,t33,t34,t35,t36,t37,t38,t39,t40,t41,t42,t43,t44,t45,t46,t47,t48,t49,t50,t51,t52,t53,t54,t55,t56,t57,t58,t59,t60,t61,t62,t63,t64,t65,t66,t67,t68,t69,t70,t71,t72,t73,t74,t75,t76,t77,t78,t79,t80,t81,t82,t83,t84,t85,t86,t87,t88,t89,t90,t91,t92,t93,t94,t95,t96,t97,t98,t99,t100,t101,t102,t103,t104,t105,t106,t107,t108,t109,t110,t111,t112,t113,t114,t115,t116,t117,t118,t119,t120,t121,t122,t123,t124,t125,t126,t127,t128,t129,t130,t131,t132,t133,t134,t135,s136,s137,s138,s139,s140,s141,s142,s143,s144,s145,s146,s147,s148,s149,s150,s151,s152,s153,s154,s155,s156,s157,s158,s159,s160,s161,s162,s163,s164,s165,s166,s167,s168,s169,s170,s171,s172,s173,s174,s175,s176,s177,s178,s179,s180,s181,s182,s183,s184,s185,s186,s187,s188,s189,s190,t191],[]⟩ W):
 Code.wp Tryz.prog (fstOf dc20) (Exit.then K Post) ⟨#[t0, .slice a1 n1 c1, .slice a2 n2 c2,t3,t4,t5,t6, .pointer (some ⟨g7,0,none⟩),t8,t9,t10, .int .i64 (kx:Nat),t12,t13,t14,t15,t16,t17,t18,t19,t20,t21,t22,t23,t24,t25,t26,t27,t28,t29,t30,t31,t32,t33,t34,t35,t36,t37,t38,t39,t40,t41,t42,t43,t44,t45,t46,t47,t48,t49,t50,t51,t52,t53,t54,t55,t56,t57,t58,t59,t60,t61,t62,t63,t64,t65,t66,t67,t68,t69,t70,t71,t72,t73,t74,t75,t76,t77,t78,t79,t80,t81,t82,t83,t84,t85,t86,t87,t88,t89,t90,t91,t92,t93,t94,t95,t96,t97,t98,t99,t100,t101,t102,t103,t104,t105,t106,t107,t108,t109,t110,t111,t112,t113,t114,t115,t116,t117,t118,t119,t120,t121,t122,t123,t124,t125,t126,t127,t128,t129,t130,t131,t132,t133,t134,t135,t136,t137,t138,t139,t140,t141,t142,t143,t144,t145,t146,t147,t148,t149,t150,t151,t152,t153,t154,t155,t156,t157,t158,t159,t160,t161,t162,t163,t164,t165,t166,t167,t168,t169,t170,t171,t172,t173,t174,t175,t176,t177,t178,t179,t180,t181,t182,t183,t184,t185,t186,t187,t188,t189,t190,t191],[]⟩ WQ:=by
 have HPP:=Km hP;clear hP
 conv=>arg 2;whnf
 obtain⟨p0,p1,p2,_⟩:=three_cells HSQ.out.b7;obtain⟨r0,r1,r2,_⟩:=three_cells HSQ.out.b8;go_wp2;refine hK.out _ _ ?_;clear hK
 conv=>arg 2;whnf
 go_wp2_with fail;(with_reducible refine(HPL.out _ HSQ.out.bel).mono ?_);rintro e z1 ⟨hb1,pa,pc,rfl,hmp⟩;have HPS:=Km hmp.sl;have HZ1:=Km (HSQ.out.below hb1);clear hmp hb1 HSQ p0 p1 p2 r0 r1 r2;obtain⟨p0,p1,p2,_⟩:=three_cells HZ1.out.b7;obtain⟨r0,r1,r2,_⟩:=three_cells HZ1.out.b8
 by_cases hk0:kx=0
 ·subst hk0;go_wp2_with fail;(with_reducible refine(HELm.out _ HZ1.out.bel).mono ?_);rintro e z2 ⟨hb2,ya,yc,rfl,hme⟩;have HST9:Kept (DcSt w D va m vc kk xs g7 g8 ya m yc (ints (elL D.q xs1 m)) pa c pc (ints L) z2):=⟨⟨HZ1.out.below hb2,hme.sl,HPS.out.below hb2,by rw[FFld.ints_len,elL_len],by rw[FFld.ints_len,HLC.out],by omega,by omega⟩⟩;clear hb2 hme HZ1 HPS p0 p1 p2 r0 r1 r2;go_wp2;exact HPP.out _ _ _ _ _ _ _ _ _ _ _ _ _ _ _ _ _ _ _ _ _ _ _ _ _ _ _ _ _ _ _ _ _ _ _ _ _ _ _ _ _ _ _ _ _ _ _ _ _ _ _ _ _ _ _ _ _ _ _ _ _ _ _ _ _ _ _ _ rfl rfl HST9
 ·have ek0:((kx:Int)==0)=false:=by rw[beq_eq_false_iff_ne];omega
  have HEK1:Kept (∀ W,Below z1.heap.size z1 W->Calls Tryz.prog 37 #[.int .i64 D.q, .slice a1 n1 c1, .int .i64 kk] W (RetP W (elL D.q xs1 kk) kk)):=⟨fun W hW=>HELk.out W (HZ1.out.bel.trans (hW.mono HZ1.out.bel.size))⟩;have HEN1:Kept (∀ W sa sc,Below z1.heap.size z1 W->Sl .i64 W (.slice sa kk sc) (ints (elL D.q xs1 kk))->Calls Tryz.prog 33 #[cdv D.q va m vc kk, .slice sa kk sc] W (RetP W (FFld.valsF D (elL D.q xs1 kk) xs m) m)):=⟨fun W sa sc hW hs=>(rencode_any HD.out va sa vc sc m kk (kk:Int) xs (elL D.q xs1 kk) W (HZ1.out.sl.below hW) hs HCV.out.len (elL_len _ _ _) HCV.out.lt (elL_lt (q:=D.q) hq1 _ _) HCV.out.n64 (by omega)).mono fun e w' h=>h.parts (by rw[FFld.valsF_len];exact HCV.out.len)⟩;obtain⟨us,hus⟩:∃ l,FFld.valsF D (elL D.q xs1 kk) xs m=l:=⟨_,rfl⟩;have HUL:Kept (us.length=m):=⟨by rw[<- hus,FFld.valsF_len];exact HCV.out.len⟩;have HUQ:Kept (∀ a∈us,a<D.p ^ D.k):=⟨by rw[<- hus];exact vals_lt3 HD.out.pre.pk _ _ _⟩;rw[hus] at HEN1;clear hus;go_wp2_with fail
  go_upto_region 24 with fail
  go_region_held3 (fun w' =>w'.cell? ⟨g7,0,none⟩=some (.int .i64 D.q)/\w'.cell? ⟨g7,1,none⟩=some (.slice va m vc)/\w'.cell? ⟨g7,2,none⟩=some (.int .i64 kk))
   (first|exact⟨l0,l1,l2⟩|exact⟨j0,j1,j2⟩|exact⟨p0,p1,p2⟩|go_keep)
   ((first
     |(go_at_call 37;(with_reducible refine(HEK1.out _ ?h1).mono ?_);(case h1=>first|exact Below.refl _ _|exact(Below.refl _ _).drew);rintro e v1 ⟨hb5,sa,sc,rfl,hms⟩;have HB5:=Km (bstep (show Below z1.heap.size z1 _ from(by first|exact Below.refl _ _|exact(Below.refl _ _).drew)) hb5);have j0:=belowCell HB5.out p0;have j1:=belowCell HB5.out p1;have j2:=belowCell HB5.out p2;have HMS:=Km hms.sl;clear hb5 hms)
     |(go_at_call 33;(with_reducible refine(HEN1.out _ _ _ ?h1 ?h2).mono ?_);(case h1=>first|exact HB5.out|exact HB5.out.drew);(case h2=>first|exact HMS.out|exact HMS.out.below (Below.refl _ _).drew);rintro e WV ⟨hb6,ua,uc,rfl,hmu⟩;have HB6:=Km (bstep (show Below z1.heap.size z1 _ from(by first|exact HB5.out|exact HB5.out.drew)) hb6);have l0:=belowCell HB6.out p0;have l1:=belowCell HB6.out p1;have l2:=belowCell HB6.out p2;have HMU:=Km (hmu.lower HB5.out.size);clear hb6 hmu)))
  have HPS6:=Km (HPS.out.below HB6.out);have HZ6:=Km (HZ1.out.below HB6.out);have HMV:=Km HMU.out;obtain⟨gv,cv,he9,hgB,hgl,hcv1,hcv2,_,_⟩:=HMV.out.at (i:=0) (by rw[FFld.ints_len,HUL.out];have:=HCV.out.k1;have:=HCV.out.kn;omega);rw[FFld.ints_len,HUL.out] at he9 hcv1;simp only[Value.slice.injEq] at he9;obtain⟨rfl,_,rfl⟩:=he9;have HV6:=Km HMV.out.wv;unfold maxLen at hcv2;have hgw7:g7<z1.heap.size:=(Array.getElem?_eq_some_iff.1 HZ1.out.b7).1;have hq0: ¬ ((D.q:Int)=0):=by omega
  have hq00: ¬ (D.q=0):=by omega
  have eq1:IntKind.u64.wrap (D.q:Int)=D.q:=by rw[IntKind.wrap_u64];omega
  have HWN:Kept (Sl .i64 z1 (.slice a1 n1 c1) xs1):=⟨HSA.out _ HZ1.out.bel⟩;obtain⟨wz,hwz⟩:∃ W,WV=W:=⟨_,rfl⟩;rw[hwz] at HV6 HB6 HZ6 HPS6 ⊢;clear hwz HMU HMV HMS HB5 HEK1 HEN1 j0 j1 j2 l0 l1 l2 p0 p1 p2 r0 r1 r2 HZ6 HPS6;obtain⟨p0,p1,p2,_⟩:=three_cells HZ1.out.b7;go_wp2
  go_loopw [21] (fun iv wr=> ∃ (i:Nat) (VS:List Nat),i<=m/\i<=n1/\iv= .int .i64 i/\VS.length=m/\Kept (∀ a∈VS,a<D.p ^ D.k)/\Kept (Wv wr gv VS)/\Kept (Below z1.heap.size z1 wr)) (fun iv _=>m-(intOf iv).toNat)
  case atStart=>exact⟨0,us,Nat.zero_le _,Nat.zero_le _,rfl,HUL.out,HUQ,HV6,HB6⟩
  case round=>
   clear HV6 HB6;obtain⟨i,VS,him,hin1,rfl,hvl,hvs,hwv,hbq⟩:=hrel
   by_cases hlt:i<n1/\i<m
   ·obtain⟨hlt1,hlt2⟩:=hlt;have pq:=belowCell hbq.out p0;obtain⟨bw,ow,rfl,hbw,hcw⟩:=HWN.out.news_ i (by rw[HN1.out];exact hlt1);obtain⟨a,ha⟩:∃ a,xs1[i]?.getD 0=a:=⟨_,rfl⟩
    have hab: -9223372036854775808<=a/\a<=9223372036854775807:=by
     rw[<- ha,List.getElem?_eq_getElem (by rw[HN1.out];exact hlt1)];exact HI1.out _ (List.getElem_mem _)
    obtain⟨a0,a1'⟩:=hab;rw[ha] at hcw;have pe:=belowCell hbq.out hcw;obtain⟨t3,ht3⟩:∃ t3,a.tmod 3=t3:=⟨_,rfl⟩;have HB2d:=Km hbq.out
    by_cases h30:t3=0
    ·subst h30;obtain⟨U,r,hU,hr1,hr2,hrq,hr3,hUm⟩:=umod_nat D.q hq1 a;have ew3:IntKind.i64.wrap (r:Int)=r:=wi (by omega) (by omega);have k1:=hwv.out.free i;have k0:=hwv.out.cell (i:=i) (by rw[hvl];exact hlt2);have HN2:Kept (∀ a∈VS.set i r,a<D.p ^ D.k):=⟨set_lt hvs.out hrq⟩;have HW2:Kept (Wv (wr.drew.setCell ⟨gv,i,none⟩ (.int .i64 (r:Nat))) gv (VS.set i r)):=⟨(hwv.out.below (Below.refl _ _).drew).set r⟩;have HB2:=Km (hbq.out.drew.setCell (p:=⟨gv,i,none⟩) hgB (.int .i64 (r:Nat)));have sd1:=(World.cell?_of_block (a:=⟨bw,ow+i,none⟩) (heap_setCell_other wr.drew ⟨gv,i,none⟩ bw (.int .i64 (r:Nat)) (by simp;omega))).trans (show wr.drew.cell? _=_ from pe);have sd2:=(World.cell?_of_block (a:=⟨g7,0,none⟩) (heap_setCell_other wr.drew ⟨gv,i,none⟩ g7 (.int .i64 (r:Nat)) (by simp;omega))).trans (show wr.drew.cell? _=_ from pq);clear ha hcw hr3 hrq;go_wp2_with fail
     go_upto_region 29 with fail
     refine wp_region_held_drew (S:=(fun w' =>w'.cell? ⟨bw,ow+i,none⟩=some (.int .i64 a)/\w'.cell? ⟨g7,0,none⟩=some (.int .i64 D.q))) (by kernel_rfl) ⟨pe,pq⟩ (fun hHeld=> ?_);refine wpAnyH_take (i:=0) (v:= ?_) rfl (by kernel_rfl) (by kernel_rfl) (by kernel_rfl) (fun _ _ _ h=>HQP.out _ _ _ _ _ h) (Or.inl ⟨by rfl,?_⟩) (by assumption) ?_;rotate_left
     ·(intro w hSw;(try dsimp only at hSw);go_simp;(try with_reducible rfl))
     try simp only[Act.put,sA]
     refine wpAnyH_take (i:=1) (v:= ?_) rfl (by kernel_rfl) (by kernel_rfl) (by kernel_rfl) (fun _ _ _ h=>HQP.out _ _ _ _ _ h) (Or.inl ⟨by rfl,?_⟩) (by assumption) ?_;rotate_left
     ·(intro w hSw;(try dsimp only at hSw);go_simp;(try with_reducible rfl))
     try simp only[Act.put,sA]
     refine wpAnyH_take (i:=2) (v:= ?_) rfl (by kernel_rfl) (by kernel_rfl) (by kernel_rfl) (fun _ _ _ h=>HQP.out _ _ _ _ _ h) (Or.inl ⟨by rfl,?_⟩) (by assumption) ?_;rotate_left
     ·(intro w hSw;(try dsimp only at hSw);go_simp;(try with_reducible rfl))
     try simp only[Act.put,sA]
     refine wpAnyH_take (i:=3) (v:= ?_) rfl (by kernel_rfl) (by kernel_rfl) (by kernel_rfl) (fun _ _ _ h=>HQP.out _ _ _ _ _ h) (Or.inl ⟨by rfl,?_⟩) (by assumption) ?_;rotate_left
     ·(intro w hSw;(try dsimp only at hSw);go_simp;(try with_reducible rfl))
     try simp only[Act.put,sA]
     refine wpAnyH_take (i:=4) (v:= ?_) rfl (by kernel_rfl) (by kernel_rfl) (by kernel_rfl) (fun _ _ _ h=>HQP.out _ _ _ _ _ h) (Or.inl ⟨by rfl,?_⟩) (by assumption) ?_;rotate_left
     ·(intro w hSw;(try dsimp only at hSw);go_simp;(try with_reducible rfl))
     try simp only[Act.put,sA]
     refine wpAnyH_take (i:=5) (v:= ?_) rfl (by kernel_rfl) (by kernel_rfl) (by kernel_rfl) (fun _ _ _ h=>HQP.out _ _ _ _ _ h) (Or.inl ⟨by rfl,?_⟩) (by assumption) ?_;rotate_left
     ·(intro w hSw;(try dsimp only at hSw);go_simp;(try with_reducible rfl))
     try simp only[Act.put,sA]
     refine wpAnyH_take (i:=6) (v:= ?_) rfl (by kernel_rfl) (by kernel_rfl) (by kernel_rfl) (fun _ _ _ h=>HQP.out _ _ _ _ _ h) (Or.inl ⟨by rfl,?_⟩) (by assumption) ?_;rotate_left
     ·(intro w hSw;(try dsimp only at hSw);go_simp;(try with_reducible rfl))
     try simp only[Act.put,sA]
     refine wpAnyH_take (i:=7) (v:= ?_) rfl (by kernel_rfl) (by kernel_rfl) (by kernel_rfl) (fun _ _ _ h=>HQP.out _ _ _ _ _ h) (Or.inl ⟨by rfl,?_⟩) (by assumption) ?_;rotate_left
     ·(intro w hSw;(try dsimp only at hSw);go_simp;(try with_reducible rfl))
     try simp only[Act.put,sA]
     refine wpAnyH_take (i:=8) (v:= ?_) rfl (by kernel_rfl) (by kernel_rfl) (by kernel_rfl) (fun _ _ _ h=>HQP.out _ _ _ _ _ h) (Or.inl ⟨by rfl,?_⟩) (by assumption) ?_;rotate_left
     ·(intro w hSw;(try dsimp only at hSw);go_simp;(try with_reducible rfl))
     try simp only[Act.put,sA]
     refine wpAnyH_take (i:=9) (v:= ?_) rfl (by kernel_rfl) (by kernel_rfl) (by kernel_rfl) (fun _ _ _ h=>HQP.out _ _ _ _ _ h) (Or.inl ⟨by rfl,?_⟩) (by assumption) ?_;rotate_left
     ·(intro w hSw;(try dsimp only at hSw);go_simp;(try with_reducible rfl))
     try simp only[Act.put,sA]
     refine wpAnyH_take (i:=10) (v:= ?_) rfl (by kernel_rfl) (by kernel_rfl) (by kernel_rfl) (fun _ _ _ h=>HQP.out _ _ _ _ _ h) (Or.inl ⟨by rfl,?_⟩) (by assumption) ?_;rotate_left
     ·(intro w hSw;(try dsimp only at hSw);go_simp;(try with_reducible rfl))
     try simp only[Act.put,sA]
     refine wpAnyH_take (i:=11) (v:= ?_) rfl (by kernel_rfl) (by kernel_rfl) (by kernel_rfl) (fun _ _ _ h=>HQP.out _ _ _ _ _ h) (Or.inl ⟨by rfl,?_⟩) (by assumption) ?_;rotate_left
     ·(intro w hSw;(try dsimp only at hSw);go_simp;(try with_reducible rfl))
     try simp only[Act.put,sA]
     refine wpAnyH_take (i:=12) (v:= ?_) rfl (by kernel_rfl) (by kernel_rfl) (by kernel_rfl) (fun _ _ _ h=>HQP.out _ _ _ _ _ h) (Or.inl ⟨by rfl,?_⟩) (by assumption) ?_;rotate_left
     ·(intro w hSw;(try dsimp only at hSw);go_simp;(try with_reducible rfl))
     try simp only[Act.put,sA]
     refine wpAnyH_ready (rs:= [13]) (by kernel_rfl) (by simp) ?_;refine(AllReadyH.cons rfl (fun K hK=> ?_) AllReadyH.nil)
     go_simp
     refine hK.out _ _ ⟨sd1,sd2⟩ (fun hHeld=> ?_);clear hK K
     try simp only[Act.put,sA]
     refine wpAnyH_done (by kernel_rfl) ?_ _;go_wp2;go_roundw
     case rel=>exact⟨i+1,_,by omega,by omega,by go_num,by rw[List.length_set];exact hvl,HN2,HW2,HB2⟩
     case measure=>simp[intOf]<;>omega
    ·have e30:(t3==0)=false:=by rw[beq_eq_false_iff_ne];exact h30
     clear ha hcw;go_wp2;go_roundw
     case rel=>exact⟨i+1,VS,by omega,by omega,by go_num,hvl,hvs,hwv,hbq⟩
     case measure=>simp[intOf]<;>omega
   ·have HST9:Kept (DcSt w D va m vc kk xs g7 g8 (some ⟨gv,0,none⟩) m uc (ints VS) pa c pc (ints L) wr):=⟨⟨HZ1.out.below hbq.out,hwv.out.sl hvl.symm hcv1 (by unfold maxLen;omega),HPS.out.below hbq.out,by rw[FFld.ints_len,hvl],by rw[FFld.ints_len,HLC.out],by omega,by omega⟩⟩;clear hvs hwv hbq
    by_cases hlt1:i<n1
    ·have hlt2: ¬ i<m:=fun h=>hlt ⟨hlt1,h⟩
     clear hlt;go_wp2;exact HPP.out _ _ _ _ _ _ _ _ _ _ _ _ _ _ _ _ _ _ _ _ _ _ _ _ _ _ _ _ _ _ _ _ _ _ _ _ _ _ _ _ _ _ _ _ _ _ _ _ _ _ _ _ _ _ _ _ _ _ _ _ _ _ _ _ _ _ _ _ rfl rfl HST9
    ·clear hlt;go_wp2;exact HPP.out _ _ _ _ _ _ _ _ _ _ _ _ _ _ _ _ _ _ _ _ _ _ _ _ _ _ _ _ _ _ _ _ _ _ _ _ _ _ _ _ _ _ _ _ _ _ _ _ _ _ _ _ _ _ _ _ _ _ _ _ _ _ _ _ _ _ _ _ rfl rfl HST9
end Go.Proofs.YtdnheaafcbihbaaGreat
