/-
  Texts of the proof, merged by program: Ldc.
-/
import Derived.Test.YtdnheaafcbihbaaGreatDc34
set_option linter.unusedSimpArgs false
set_option linter.unusedVariables false
set_option maxHeartbeats 16000000
namespace Go.Proofs.YtdnheaafcbihbaaGreat
open Go Go.RowKit Go.Deep
open FFld (ints)
set_option maxRecDepth 20000 in
theorem codeDecodes_any (o:Int)(ao:Option Addr)(n0 cap:Nat)(k:Int)(ys:List Int)(v1:Value)(xs1:List Int)(v2:Value)(xs2:List Int)(w:World)(hl:ys.length=n0)(hs:Sl .i64 w (.slice ao n0 cap) ys)(hi:I64s ys)(o0: -9223372036854775808<=o)(o1:o<=9223372036854775807)(k0: -9223372036854775808<=k)(k1:k<=9223372036854775807)(s1:Sl .i64 w v1 xs1)(w1:I64s xs1)(s2:Sl .i64 w v2 xs2)(w2:I64s xs2):
 Calls Tryz.prog 5 #[cdv o ao n0 cap k,v1,v2] w (RB w (.bool true)):=by
 obtain⟨a1,c1,rfl,hn1,hm1⟩:=s1.form;obtain⟨n1,hn1'⟩:∃ x,xs1.length=x:=⟨_,rfl⟩;rw[hn1'] at s1 hn1 ⊢;obtain⟨a2,c2,rfl,hn2,hm2⟩:=s2.form;obtain⟨n2,hn2'⟩:∃ x,xs2.length=x:=⟨_,rfl⟩;rw[hn2'] at s2 hn2 ⊢;unfold maxLen at hm1 hm2;have hc1x:c1<=9223372036854775807:=hm1;have HX0:Kept (Bxs w [rcdbox o ao n0 cap k] (w.alloc (rcdbox o ao n0 cap k))):=⟨(Bxs.start w).alloc (by simp) _⟩;have HTM:Kept (∀ W,Below w.heap.size w W->Calls Tryz.prog 30 #[cdv o ao n0 cap k, .int .i64 12] W (TaRet 12 W)):=⟨fun W hW=>tame_any o k ao n0 cap 12 ys W hl (hs.below hW) hi o0 o1 k0 k1 (by omega)⟩;have HAW:=Km (fun W=>cawake_any W);have HEA:Kept (∀ W,Below w.heap.size w W-> ∀ q len:Nat,1<=q->q<=300->len<=20->Calls Tryz.prog 37 #[.int .i64 q, .slice a1 n1 c1, .int .i64 len] W (RetP W (elL q xs1 len) len)):=⟨fun W hW q len hq1 hq3 hk=>(elements_any q len (.slice a1 n1 c1) xs1 W (s1.below hW) w1 hq1 (by omega) (by omega)).mono fun e w' h=>h.parts (elL_len _ _ _)⟩;have HPB:Kept (∀ W,Below w.heap.size w W-> ∀ q most:Nat,1<=q->q<=20->most<=20->Calls Tryz.prog 41 #[.slice a2 n2 c2, .int .i64 q, .int .i64 most] W (RetM W (ints (plF xs2 q most xs2.length)))):=⟨fun W hW q most hq1 hq3 hm=>places_any q most (.slice a2 n2 c2) xs2 W (s2.below hW) w2 hq1 (by omega) (by omega)⟩
 have HRA:Kept (∀ W,Below w.heap.size w W->Calls Tryz.prog 18 #[.slice a1 n1 c1, .int .i64 14] W (fun e w' =>Below W.heap.size W w' /\ ∃ (va:Option Addr) (vc m:Nat),e= .returned (.slice va m vc)/\(xs1.take 14).length=m/\m<=20/\Sl .i64 w' (.slice va m vc) (xs1.take 14))):=⟨fun W hW=>(raw3_any (.slice a1 n1 c1) xs1 14 W (s1.below hW) (by omega)).mono fun e w' ⟨hb,v',he,hmm⟩=>by
  obtain⟨va,vc,rfl,_,_⟩:=hmm.sl.form
  exact⟨hb,va,vc,_,he,rfl,by rw[List.length_take];omega,hmm.sl⟩⟩
 have HRB:Kept (∀ W,Below w.heap.size w W->Calls Tryz.prog 18 #[.slice a2 n2 c2, .int .i64 14] W (fun e w' =>Below W.heap.size W w' /\ ∃ (va:Option Addr) (vc m:Nat),e= .returned (.slice va m vc)/\(xs2.take 14).length=m/\m<=20/\Sl .i64 w' (.slice va m vc) (xs2.take 14))):=⟨fun W hW=>(raw3_any (.slice a2 n2 c2) xs2 14 W (s2.below hW) (by omega)).mono fun e w' ⟨hb,v',he,hmm⟩=>by
  obtain⟨va,vc,rfl,_,_⟩:=hmm.sl.form
  exact⟨hb,va,vc,_,he,rfl,by rw[List.length_take];omega,hmm.sl⟩⟩
 have HSA:Kept (∀ W,Below w.heap.size w W->Sl .i64 W (.slice a1 n1 c1) xs1):=⟨fun W hW=>s1.below hW⟩;have HI1:=Km w1;have HN1:=Km hn1';clear hl hs hi o0 o1 k0 k1 s1 w1 s2 w2 hn2 hn1' hn2'
 go_enter Tryz.func5,Tryz.ntmps5
 obtain⟨c0,c1,c2,_⟩:=three_cells HX0.out.b0;have hbx:=HX0.out.1;go_wp2_with fail;(with_reducible refine(HTM.out _ hbx).mono ?_);rintro e w1 ⟨hb1,D,va,m,vc,kk,xs,hD,hq3,hcv,hmm,rfl,hsl⟩;have HD:=Km hD;have HCV:=Km hcv;have hm1:m<=12:=by omega
 have hkk1:=hcv.k1;have hkkm:=hcv.kn;have hq1:1<=D.q:=Nat.le_of_lt hD.pre.pk.one_lt;have hal:Below w1.heap.size w1 (w1.alloc (rcdbox D.q va m vc kk)):=(Below.refl _ _).alloc (Nat.le_refl _) _;have hg7:=heap_alloc_new w1 (rcdbox D.q va m vc kk);have hbw:Below w.heap.size w (w1.alloc (rcdbox D.q va m vc kk)):=(hbx.trans (hb1.mono hbx.size)).trans (hal.mono (Nat.le_trans hbx.size hb1.size));have hsl2:=hsl.below hal;obtain⟨g7,hg⟩:∃ x,w1.heap.size=x:=⟨_,rfl⟩;obtain⟨W2,hW2⟩:∃ W,w1.alloc (rcdbox D.q va m vc kk)=W:=⟨_,rfl⟩;rw[hW2,hg] at hg7;rw[hW2] at hbw hsl2;have HG7:=Km hg7;have HBW:=Km hbw;have HSL:=Km hsl2;obtain⟨p0,p1,p2,_⟩:=three_cells hg7;have HGI:=Km (give_any (D.q:Int) (kk:Int) va m vc W2)
 go_upto_region 2 with fail
 try rw[hW2]
 try rw[hg]
 clear hbx hb1 hD hcv hmm hsl hal hg7 hbw hsl2 c0 c1 c2 hW2 hg HX0 HTM;go_wp2_with fail;(with_reducible refine HGI.out.mono ?_);rintro e w3 ⟨hb3,rfl⟩;have hal:Below w3.heap.size w3 (w3.alloc (cdbox D.q va m vc kk)):=(Below.refl _ _).alloc (Nat.le_refl _) _;have hg8:=heap_alloc_new w3 (cdbox D.q va m vc kk);have hb4:=bstep hb3 hal;obtain⟨g8,hg⟩:∃ x,w3.heap.size=x:=⟨_,rfl⟩;obtain⟨W4,hW4⟩:∃ W,w3.alloc (cdbox D.q va m vc kk)=W:=⟨_,rfl⟩;rw[hW4,hg] at hg8;rw[hW4] at hb4;have HL4:Kept (LwAt w D va m vc kk xs g7 g8 W4):=⟨⟨HBW.out.trans (hb4.mono HBW.out.size),(hb4.block _ (Array.getElem?_eq_some_iff.1 HG7.out).1).trans HG7.out,hg8,HSL.out.below hb4⟩⟩
 go_upto_region 3 with fail
 try rw[hW4]
 try rw[hg]
 clear hb3 hal hg8 hb4 hg hW4 p0 p1 p2 HGI HBW HG7 HSL;obtain⟨p0,p1,p2,_⟩:=three_cells HL4.out.b7;obtain⟨r0,r1,r2,_⟩:=three_cells HL4.out.b8;obtain⟨mo,hmo⟩:∃ x,m-kk=x:=⟨_,rfl⟩;have ed:(m:Int)-(kk:Int)=(mo:Nat):=by omega
 obtain⟨L,hL⟩:∃ l,plF xs2 m mo xs2.length=l:=⟨_,rfl⟩;obtain⟨c,hc⟩:∃ x,L.length=x:=⟨_,rfl⟩;have HLC:=Km hc;have hcm:c<=mo:=by have h:=(plF_len xs2 m mo xs2.length).1;rw[hL,hc] at h;omega
 have HPL:Kept (∀ W,Below w.heap.size w W->Calls Tryz.prog 41 #[.slice a2 n2 c2, .int .i64 m, .int .i64 (mo:Nat)] W (RetP W L c)):=⟨fun W hW=>(HPB.out W hW m mo (by omega) (by omega) (by omega)).mono fun e w' h=>(by rw[hL] at h;exact h.parts hc)⟩;have HELm:Kept (∀ W,Below w.heap.size w W->Calls Tryz.prog 37 #[.int .i64 D.q, .slice a1 n1 c1, .int .i64 m] W (RetP W (elL D.q xs1 m) m)):=⟨fun W hW=>HEA.out W hW D.q m hq1 hq3 (by omega)⟩;have HELk:Kept (∀ W,Below w.heap.size w W->Calls Tryz.prog 37 #[.int .i64 D.q, .slice a1 n1 c1, .int .i64 kk] W (RetP W (elL D.q xs1 kk) kk)):=⟨fun W hW=>HEA.out W hW D.q kk hq1 hq3 (by omega)⟩;clear hL hc HPB HEA;go_wp2_with fail;(with_reducible refine(HRA.out _ HL4.out.bel).mono ?_);rintro e w5 ⟨hb5,wa,wc,nw,rfl,hlv,hw20,hsv⟩;have HL5:=Km (HL4.out.below hb5);have HSV:=Km hsv;have HLV:=Km hlv;clear hb5 hsv hlv HL4 p0 p1 p2 r0 r1 r2 HRA;go_wp2_with fail;(with_reducible refine(HRB.out _ HL5.out.bel).mono ?_);rintro e w6 ⟨hb6,ea,ec,ne,rfl,hle,he20,hse⟩;have HST:Kept (DcSt w D va m vc kk xs g7 g8 wa nw wc (xs1.take 14) ea ne ec (xs2.take 14) w6):=⟨⟨HL5.out.below hb6,HSV.out.below hb6,hse,HLV.out,hle,hw20,he20⟩⟩;clear hb6 hse hle HL5 HSV HLV HRB;go_wp2
 go_loopw [9,10,11] (fun vv ev kv wr=> ∃ (kx nw wc ne ec:Nat) (wa ea:Option Addr) (V E:List Int),kx<=3/\vv= .slice wa nw wc/\ev= .slice ea ne ec/\kv= .int .i64 kx/\Kept (DcSt w D va m vc kk xs g7 g8 wa nw wc V ea ne ec E wr)) (fun _ _ kv _=>3-(intOf kv).toNat)
 case atStart=>exact⟨0,nw,wc,ne,ec,wa,ea,_,_,by omega,rfl,rfl,rfl,HST⟩
 case round=>
  clear HST;obtain⟨kx,nw,wc,ne,ec,wa,ea,V,E,hk3,rfl,rfl,rfl,hst⟩:=hrel;have hnw20:=hst.out.nw20;have hne20:=hst.out.ne20
  by_cases hlt:kx<3
  ·obtain⟨r,hr⟩:∃ r,reE D m kk V E=r:=⟨_,rfl⟩;have hr7:r<=7:=by rw[<- hr];unfold reE;split<;>(try split)<;>omega
   by_cases hr0:r≠0
   ·focus (
     have HRE:Kept (RecE D va wa ea vc wc ec m nw ne kk xs V E r wr):=⟨⟨HD.out,HCV.out,hst.out.lw.sl,hst.out.sv,hst.out.se,hst.out.lv,hst.out.le,hr,hr0⟩⟩;have HDE:=Km (cdecode_err wr HRE.out);have HDY:=Km (fun W (hW:Below wr.heap.size wr W)=>cdeny_err W (HRE.out.below hW));have HRC:Kept (∀ W,Below wr.heap.size wr W->Calls Tryz.prog 38 #[cdv D.q va m vc kk, .slice wa nw wc, .slice ea ne ec] W (RB W (.int .i64 (r:Nat)))):=⟨fun W hW=>by rw[<- hr];exact rreceived_any HD.out va wa ea vc wc ec m nw ne kk xs V E W (hst.out.lw.sl.below hW) (hst.out.sv.below hW) (hst.out.se.below hW) HCV.out hst.out.lv hst.out.le⟩;have e0:((r:Int)!=(r:Int))=false:=by simp
     have e1:((r:Int)!=0)=true:=by rw[bne_iff_ne];omega
     clear hr hr0;obtain⟨p0,p1,p2,_⟩:=three_cells hst.out.lw.b7;obtain⟨r0,r1,r2,_⟩:=three_cells hst.out.lw.b8;go_wp2_with fail;(with_reducible refine HDE.out.mono ?_);rintro e w1 ⟨hb1,rfl⟩;have HB1:=Km hb1;have HS1:=Km (hst.out.below hb1);clear hb1 hst p0 p1 p2 r0 r1 r2;obtain⟨p0,p1,p2,_⟩:=three_cells HS1.out.lw.b7;obtain⟨r0,r1,r2,_⟩:=three_cells HS1.out.lw.b8;clear HDE HRE;go_wp2_with fail;(with_reducible refine(HDY.out _ HB1.out).mono ?_);rintro e w2 ⟨hb2,rfl⟩;have HB2:=Km (bstep HB1.out hb2);have HS2:=Km (HS1.out.below hb2);clear hb2 HS1 p0 p1 p2 r0 r1 r2;obtain⟨p0,p1,p2,_⟩:=three_cells HS2.out.lw.b7;obtain⟨r0,r1,r2,_⟩:=three_cells HS2.out.lw.b8;clear HDY HB1;have hal1:Below w2.heap.size w2 (w2.alloc (fabox (nilv) (nilv))):=(Below.refl _ _).alloc (Nat.le_refl _) _;have hf1:=heap_alloc_new w2 (fabox (nilv) (nilv));obtain⟨g14,hg14⟩:∃ x,w2.heap.size=x:=⟨_,rfl⟩;obtain⟨W3,hW3⟩:∃ W,w2.alloc (fabox (nilv) (nilv))=W:=⟨_,rfl⟩;rw[hW3,hg14] at hf1;rw[hW3] at hal1;have hal2:Below W3.heap.size W3 (W3.alloc (rfbox (nilv) (nilv))):=(Below.refl _ _).alloc (Nat.le_refl _) _;have hf2:=heap_alloc_new W3 (rfbox (nilv) (nilv));obtain⟨g16,hg16⟩:∃ x,W3.heap.size=x:=⟨_,rfl⟩;obtain⟨W4,hW4⟩:∃ W,W3.alloc (rfbox (nilv) (nilv))=W:=⟨_,rfl⟩;rw[hW4,hg16] at hf2;rw[hW4] at hal2;have HF1:=Km ((hal2.block _ (Array.getElem?_eq_some_iff.1 hf1).1).trans hf1);have HF2:=Km hf2;have HS4:=Km ((HS2.out.below hal1).below hal2);have HB4:=Km (bstep (bstep HB2.out hal1) hal2);obtain⟨f0,f1,_,_⟩:=two_cells hf1;have HW3:=Km hW3;have HW4:=Km hW4;have HG14:=Km hg14;have HG16:=Km hg16;clear hg14 hg16 hW3 hW4
     go_upto_region 9 with fail
     try rw[HW3.out]
     try rw[HG14.out]
     go_upto_region 10 with fail
     try rw[HW4.out]
     try rw[HG16.out]
     clear hal1 hal2 hf1 hf2 HG14 HG16 HW3 HW4 HS2 p0 p1 p2 r0 r1 r2 f0 f1;obtain⟨p0,p1,p2,_⟩:=three_cells HS4.out.lw.b7;obtain⟨r0,r1,r2,_⟩:=three_cells HS4.out.lw.b8;obtain⟨f0,f1,_,_⟩:=two_cells HF1.out;obtain⟨y0,y1,_,_⟩:=two_cells HF2.out;go_wp2_with fail;(with_reducible refine(HRC.out _ HB4.out).mono ?_);rintro e w5 ⟨hb5,rfl⟩;have HB5:=Km (bstep HB4.out hb5);have HG1:=Km ((hb5.block _ (Array.getElem?_eq_some_iff.1 HF1.out).1).trans HF1.out);have HG2:=Km ((hb5.block _ (Array.getElem?_eq_some_iff.1 HF2.out).1).trans HF2.out);clear f0 f1 y0 y1;have HS5:=Km (HS4.out.below hb5);clear hb5 HS4 p0 p1 p2 r0 r1 r2;obtain⟨p0,p1,p2,_⟩:=three_cells HS5.out.lw.b7;obtain⟨r0,r1,r2,_⟩:=three_cells HS5.out.lw.b8;clear HF1 HF2;obtain⟨f0,f1,_,_⟩:=two_cells HG1.out;obtain⟨y0,y1,_,_⟩:=two_cells HG2.out
     go_upto_region 20 with fail
     obtain⟨WQ,hWQ⟩:∃ W,w5=W:=⟨_,rfl⟩;have HSQ:=HS5;rw[hWQ] at HSQ ⊢;clear hWQ HS5 p0 p1 p2 r0 r1 r2 f0 f1 y0 y1 HG1 HG2 HB2 HB4 HB5 HRC e0 e1
    )
    exact decodes_end HD HCV hq1 hq3 hkk1 hkkm (by omega) ed hmo hcm HLC hlt hn1 hc1x HI1 HN1 HSA HPL HELm HELk ⟨HSQ.out.lw⟩ ⟨fun _ _ dst _ _ h=>by cases dst<;>exact h⟩ ⟨by assumption⟩ (fun s9 s10 s20 s21 s136 s137 s138 s139 s140 s141 s142 s143 s144 s145 s146 s147 s148 s149 s150 s151 s152 s153 s154 s155 s156 s157 s158 s159 s160 s161 s162 s163 s164 s165 s166 s167 s168 s169 s170 s171 s172 s173 s174 s175 s176 s177 s178 s179 s180 s181 s182 s183 s184 s185 s186 s187 s188 s189 s190 W nw wc ne ec wa ea V E h9 h10 HST9=>by
     subst h9 h10;go_wp2;go_roundw
     case rel=>exact⟨kx+1,nw,wc,ne,ec,wa,ea,V,E,by omega,rfl,rfl,by go_num,HST9⟩
     case measure=>simp[intOf]<;>omega)
   ·obtain rfl:r=0:=by omega
    clear hr0 hr7;obtain⟨hv1,hv2,hv3,hv4,hv5⟩:=reE_nil hr;obtain⟨ws,rfl,hwq⟩:=bel_nats hv3;have hlv:=hst.out.lv;have hle:=hst.out.le;rw[hlv] at hv1;have hnw:m=nw:=hv1.symm;subst hnw;rw[hle] at hv2 hv5;rw[FFld.ints_len] at hlv;have HWQ:=Km hwq
    have HRC:Kept (∀ W,Below wr.heap.size wr W->Calls Tryz.prog 38 #[cdv D.q va m vc kk, .slice wa m wc, .slice ea ne ec] W (RB W (.int .i64 (0:Nat)))):=⟨fun W hW=>by
     have h:=rreceived_any HD.out va wa ea vc wc ec m m ne kk xs (ints ws) E W (hst.out.lw.sl.below hW) (hst.out.sv.below hW) (hst.out.se.below hW) HCV.out hst.out.lv hst.out.le;rw[hr] at h
     exact h⟩
    obtain⟨t,ht⟩:∃ x,(m-ne-kk)/2=x:=⟨_,rfl⟩;have hdc:=cdecode_any HD.out va wa ea vc wc ec m ne kk xs ws E wr hst.out.lw.sl hst.out.sv hst.out.se HCV.out hlv hle hwq hv2 hv4 hv5;have hdy:=fun W (hW:Below wr.heap.size wr W)=>cdeny_any HD.out va wa ea vc wc ec m ne kk xs ws E W (hst.out.lw.sl.below hW) (hst.out.sv.below hW) (hst.out.se.below hW) HCV.out hlv hle hwq hv2 hv4 hv5
    have hrd:=fun W (hW:Below wr.heap.size wr W)=>rdecode_any HD.out va wa ea vc wc ec m ne kk xs ws E W (hst.out.lw.sl.below hW) (hst.out.sv.below hW) (hst.out.se.below hW) HCV.out hlv hle hwq hv2 hv4 hv5
    have hun:∀ P P',Near D (kpL E m xs) (kpL E m ws) kk t P->Near D (kpL E m xs) (kpL E m ws) kk t P' ->P=P' :=fun P P' h1 h2=>by
     have hkl:=kp_len hv4 hv5 hle;have hkd:=kpL_dif (es:=E) HCV.out.dif;rw[kpL_len] at hkd;exact near_uniq HD.out (kpL_len E m xs) (kpL_lt HCV.out.len HCV.out.lt) hkd (by omega) h1 h2
    have HFAR:=Km (fun(bf Q el Ee:List Nat) g h1 h2 h3=>denies_far3 HD.out va wa ea vc wc ec m ne kk xs ws E HCV.out hlv hle hwq hv2 hv4 hv5 (bf:=bf) (Q:=Q) (el:=el) (E:=Ee) g h1 h2 h3);rw[ht] at hdc hdy hrd HFAR;obtain⟨P,hP⟩:∃ l,kpL E m xs=l:=⟨_,rfl⟩;obtain⟨Wd,hWd⟩:∃ l,kpL E m ws=l:=⟨_,rfl⟩;rw[hP,hWd] at hdc hdy hrd hun HFAR
    by_cases hN:∃ Po,Near D P Wd kk t Po
    ·focus (
      obtain⟨Po,hN⟩:=hN;obtain⟨us,hus⟩:∃ l,FFld.valsF D Po xs xs.length=l:=⟨_,rfl⟩;have HUL:Kept (us.length=m):=⟨by rw[<- hus,FFld.valsF_len];exact HCV.out.len⟩
      have HDE:Kept (Calls Tryz.prog 25 #[cdv D.q va m vc kk, .slice wa m wc, .slice ea ne ec] wr (fun e w' =>Below wr.heap.size wr w' /\ ∃ (da:Option Addr) (dc:Nat),e= .returned (.tuple #[.slice da m dc, .int .i64 0])/\Sl .i64 w' (.slice da m dc) (ints us))):=⟨hdc.mono fun e w' h=>by
       obtain⟨hb,⟨P',v,h1,rfl,h3⟩|⟨h1,_⟩⟩:=h
       ·obtain rfl:=hun _ _ h1 hN;rw[hus] at h3;obtain⟨da,dc,rfl,_,_⟩:=h3.form;rw[FFld.ints_len,HUL.out] at h3 ⊢;exact⟨hb,da,dc,rfl,h3⟩
       ·exact absurd hN (h1 _)⟩
      have HDY:Kept (∀ W,Below wr.heap.size wr W->Calls Tryz.prog 26 #[cdv D.q va m vc kk, .slice wa m wc, .slice ea ne ec] W (RB W (.tuple #[.agg #[nilv,nilv], .bool false]))):=⟨fun W hW=>(hdy W hW).mono fun e w' h=>by
       obtain⟨hb,⟨_,_,_,_,_,_,h1,_⟩|⟨_,rfl⟩⟩:=h
       ·exact absurd hN (h1 _)
       ·exact⟨hb,rfl⟩⟩
      have HRD:Kept (∀ W,Below wr.heap.size wr W->Calls Tryz.prog 39 #[cdv D.q va m vc kk, .slice wa m wc, .slice ea ne ec] W (fun e w' =>Below W.heap.size W w' /\ ∃ (da:Option Addr) (dc:Nat),e= .returned (.tuple #[.slice da m dc, .bool true])/\Sl .i64 w' (.slice da m dc) (ints us))):=⟨fun W hW=>(hrd W hW).mono fun e w' h=>by
       obtain⟨hb,⟨P',v,h1,rfl,h3⟩|⟨h1,_⟩⟩:=h
       ·obtain rfl:=hun _ _ h1 hN;rw[hus] at h3;obtain⟨da,dc,rfl,_,_⟩:=h3.form;rw[FFld.ints_len,HUL.out] at h3 ⊢;exact⟨hb,da,dc,rfl,h3⟩
       ·exact absurd hN (h1 _)⟩
      clear hr hv2 hv3 hv4 hv5 hwq hlv hle ht hdc hdy hrd hun HFAR hP hWd hN hus HWQ;obtain⟨p0,p1,p2,_⟩:=three_cells hst.out.lw.b7;obtain⟨r0,r1,r2,_⟩:=three_cells hst.out.lw.b8;go_wp2_with fail;(with_reducible refine HDE.out.mono ?_);rintro e w1 ⟨hb1,da,dc,rfl,hsd⟩;have HB1:=Km hb1;have HSD:=Km hsd;clear hsd;have HS1:=Km (hst.out.below hb1);clear hb1 hst p0 p1 p2 r0 r1 r2;obtain⟨p0,p1,p2,_⟩:=three_cells HS1.out.lw.b7;obtain⟨r0,r1,r2,_⟩:=three_cells HS1.out.lw.b8;clear HDE;go_wp2_with fail;(with_reducible refine(HDY.out _ HB1.out).mono ?_);rintro e w2 ⟨hb2,rfl⟩;have HB2:=Km (bstep HB1.out hb2);have HSD2:=Km (HSD.out.below hb2);have HS2:=Km (HS1.out.below hb2);clear hb2 HS1 p0 p1 p2 r0 r1 r2;obtain⟨p0,p1,p2,_⟩:=three_cells HS2.out.lw.b7;obtain⟨r0,r1,r2,_⟩:=three_cells HS2.out.lw.b8;clear HDY HB1 HSD;have hal1:Below w2.heap.size w2 (w2.alloc (fabox (nilv) (nilv))):=(Below.refl _ _).alloc (Nat.le_refl _) _;have hf1:=heap_alloc_new w2 (fabox (nilv) (nilv));obtain⟨g14,hg14⟩:∃ x,w2.heap.size=x:=⟨_,rfl⟩;obtain⟨W3,hW3⟩:∃ W,w2.alloc (fabox (nilv) (nilv))=W:=⟨_,rfl⟩;rw[hW3,hg14] at hf1;rw[hW3] at hal1;have hal2:Below W3.heap.size W3 (W3.alloc (rfbox (nilv) (nilv))):=(Below.refl _ _).alloc (Nat.le_refl _) _;have hf2:=heap_alloc_new W3 (rfbox (nilv) (nilv));obtain⟨g16,hg16⟩:∃ x,W3.heap.size=x:=⟨_,rfl⟩;obtain⟨W4,hW4⟩:∃ W,W3.alloc (rfbox (nilv) (nilv))=W:=⟨_,rfl⟩;rw[hW4,hg16] at hf2;rw[hW4] at hal2;have HF1:=Km ((hal2.block _ (Array.getElem?_eq_some_iff.1 hf1).1).trans hf1);have HF2:=Km hf2;have HS4:=Km ((HS2.out.below hal1).below hal2);have HB4:=Km (bstep (bstep HB2.out hal1) hal2);have HSD4:=Km ((HSD2.out.below hal1).below hal2);obtain⟨f0,f1,_,_⟩:=two_cells hf1;have HW3:=Km hW3;have HW4:=Km hW4;have HG14:=Km hg14;have HG16:=Km hg16;clear hg14 hg16 hW3 hW4
      go_upto_region 9 with fail
      try rw[HW3.out]
      try rw[HG14.out]
      go_upto_region 10 with fail
      try rw[HW4.out]
      try rw[HG16.out]
      clear hal1 hal2 hf1 hf2 HG14 HG16 HW3 HW4 HS2 p0 p1 p2 r0 r1 r2 f0 f1;obtain⟨p0,p1,p2,_⟩:=three_cells HS4.out.lw.b7;obtain⟨r0,r1,r2,_⟩:=three_cells HS4.out.lw.b8;obtain⟨f0,f1,_,_⟩:=two_cells HF1.out;obtain⟨y0,y1,_,_⟩:=two_cells HF2.out;clear HSD2;go_wp2_with fail;(with_reducible refine(HRC.out _ HB4.out).mono ?_);rintro e w5 ⟨hb5,rfl⟩;have HB5:=Km (bstep HB4.out hb5);have HG1:=Km ((hb5.block _ (Array.getElem?_eq_some_iff.1 HF1.out).1).trans HF1.out);have HG2:=Km ((hb5.block _ (Array.getElem?_eq_some_iff.1 HF2.out).1).trans HF2.out);have HSD5:=Km (HSD4.out.below hb5);clear f0 f1 y0 y1;have HS5:=Km (HS4.out.below hb5);clear hb5 HS4 p0 p1 p2 r0 r1 r2;obtain⟨p0,p1,p2,_⟩:=three_cells HS5.out.lw.b7;obtain⟨r0,r1,r2,_⟩:=three_cells HS5.out.lw.b8;clear HF1 HF2;obtain⟨f0,f1,_,_⟩:=two_cells HG1.out;obtain⟨y0,y1,_,_⟩:=two_cells HG2.out;clear HSD4;go_wp2_with fail;(with_reducible refine(HRD.out _ HB5.out).mono ?_);rintro e w6 ⟨hb6,ga,gc,rfl,hsg⟩;have HSM:=Km (same3_eq (.slice da m dc) (.slice ga m gc) (ints us) w6 (HSD5.out.below hb6) hsg (by rw[FFld.ints_len,HUL.out];omega));have HG3:=Km ((hb6.block _ (Array.getElem?_eq_some_iff.1 HG1.out).1).trans HG1.out);clear hsg f0 f1 y0 y1;have HS6:=Km (HS5.out.below hb6);clear hb6 HS5 p0 p1 p2 r0 r1 r2;obtain⟨p0,p1,p2,_⟩:=three_cells HS6.out.lw.b7;obtain⟨r0,r1,r2,_⟩:=three_cells HS6.out.lw.b8;obtain⟨f0,f1,_,_⟩:=two_cells HG3.out;go_wp2_with fail;(with_reducible refine HSM.out.mono ?_);rintro e w7 ⟨hb7,rfl⟩;have HG4:=Km ((hb7.block _ (Array.getElem?_eq_some_iff.1 HG3.out).1).trans HG3.out);clear f0 f1;have HS7:=Km (HS6.out.below hb7);clear hb7 HS6 p0 p1 p2 r0 r1 r2;obtain⟨p0,p1,p2,_⟩:=three_cells HS7.out.lw.b7;obtain⟨r0,r1,r2,_⟩:=three_cells HS7.out.lw.b8;obtain⟨f0,f1,_,_⟩:=two_cells HG4.out
      go_upto_region 20 with fail
      obtain⟨WQ,hWQ⟩:∃ W,w7=W:=⟨_,rfl⟩;have HSQ:=HS7;rw[hWQ] at HSQ ⊢;clear hWQ HS7 p0 p1 p2 r0 r1 r2 f0 f1 HG1 HG2 HG3 HG4 HSM HSD5 HB2 HB4 HB5 HRC HRD HUL
     )
     exact decodes_end HD HCV hq1 hq3 hkk1 hkkm (by omega) ed hmo hcm HLC hlt hn1 hc1x HI1 HN1 HSA HPL HELm HELk ⟨HSQ.out.lw⟩ ⟨fun _ _ dst _ _ h=>by cases dst<;>exact h⟩ ⟨by assumption⟩ (fun s9 s10 s20 s21 s136 s137 s138 s139 s140 s141 s142 s143 s144 s145 s146 s147 s148 s149 s150 s151 s152 s153 s154 s155 s156 s157 s158 s159 s160 s161 s162 s163 s164 s165 s166 s167 s168 s169 s170 s171 s172 s173 s174 s175 s176 s177 s178 s179 s180 s181 s182 s183 s184 s185 s186 s187 s188 s189 s190 W nw wc ne ec wa ea V E h9 h10 HST9=>by
      subst h9 h10;go_wp2;go_roundw
      case rel=>exact⟨kx+1,nw,wc,ne,ec,wa,ea,V,E,by omega,rfl,rfl,by go_num,HST9⟩
      case measure=>simp[intOf]<;>omega)
    ·focus (
      have hno:∀ Po,¬ Near D P Wd kk t Po:=fun Po h=>hN ⟨Po,h⟩
      have HDE:Kept (Calls Tryz.prog 25 #[cdv D.q va m vc kk, .slice wa m wc, .slice ea ne ec] wr (RB wr (.tuple #[nilv, .int .i64 30]))):=⟨hdc.mono fun e w' h=>by
       obtain⟨hb,⟨P',v,h1,_⟩|⟨_,rfl⟩⟩:=h
       ·exact absurd h1 (hno _)
       ·exact⟨hb,rfl⟩⟩
      have HDY:Kept (∀ W,Below wr.heap.size wr W->Calls Tryz.prog 26 #[cdv D.q va m vc kk, .slice wa m wc, .slice ea ne ec] W (fun e w' =>Below W.heap.size W w' /\ ∃ (qa fa:Option Addr) (qc fc nq nf:Nat) (Q F:List Int),e= .returned (.tuple #[.agg #[.slice qa nq qc, .slice fa nf fc], .bool true])/\Sl .i64 w' (.slice qa nq qc) Q/\Sl .i64 w' (.slice fa nf fc) F/\DnSame D va wa ea vc wc ec m ne kk nq nf xs ws E Q F true)):=⟨fun W hW=>(hdy W hW).mono fun e w' h=>by
       obtain⟨hb,⟨vq,ve,Q,F,bf,el,_,rfl,h3,h4,h5,h6,h7⟩|⟨⟨P',h1⟩,_⟩⟩:=h
       ·obtain⟨qa,qc,rfl,_,_⟩:=h3.form;obtain⟨fa,fc,rfl,_,_⟩:=h4.form;rw[FFld.ints_len] at h3 h4 ⊢
        try rw[FFld.ints_len]
        exact⟨hb,qa,fa,qc,fc,_,_,_,_,rfl,h3,h4,HFAR.out _ _ _ _ h5 h6 h7 hno⟩
       ·exact absurd h1 (hno _)⟩
      have HRD:Kept (∀ W,Below wr.heap.size wr W->Calls Tryz.prog 39 #[cdv D.q va m vc kk, .slice wa m wc, .slice ea ne ec] W (RB W (.tuple #[nilv, .bool false]))):=⟨fun W hW=>(hrd W hW).mono fun e w' h=>by
       obtain⟨hb,⟨P',v,h1,_⟩|⟨_,rfl⟩⟩:=h
       ·exact absurd h1 (hno _)
       ·exact⟨hb,rfl⟩⟩
      clear hr hv2 hv3 hv4 hv5 hwq hlv hle ht hdc hdy hrd hun HFAR hP hWd hN hno HWQ;have HX9:=Km hst.out;obtain⟨p0,p1,p2,_⟩:=three_cells hst.out.lw.b7;obtain⟨r0,r1,r2,_⟩:=three_cells hst.out.lw.b8;go_wp2_with fail;(with_reducible refine HDE.out.mono ?_);rintro e w1 ⟨hb1,rfl⟩;have HB1:=Km hb1;have HS1:=Km (hst.out.below hb1);clear hb1 hst p0 p1 p2 r0 r1 r2;obtain⟨p0,p1,p2,_⟩:=three_cells HS1.out.lw.b7;obtain⟨r0,r1,r2,_⟩:=three_cells HS1.out.lw.b8;clear HDE;go_wp2_with fail;(with_reducible refine(HDY.out _ HB1.out).mono ?_);rintro e w2 ⟨hb2,qa,fa,qc,fc,nq,nf,Q,F,rfl,hsq,hsf,hdn⟩;have HB2:=Km (bstep HB1.out hb2);have HSQ2:=Km hsq;have HSF2:=Km hsf;have HDN:=Km hdn
      have hnq:nq<=9223372036854775807:=by
       obtain⟨_,_,e,h1,h2,_⟩:=hsq;simp only[Value.slice.injEq] at e;unfold maxLen at h2;omega
      have hnf:nf<=9223372036854775807:=by
       obtain⟨_,_,e,h1,h2,_⟩:=hsf;simp only[Value.slice.injEq] at e;unfold maxLen at h2;omega
      clear hsq hsf hdn;have HS2:=Km (HS1.out.below hb2);clear hb2 HS1 p0 p1 p2 r0 r1 r2;obtain⟨p0,p1,p2,_⟩:=three_cells HS2.out.lw.b7;obtain⟨r0,r1,r2,_⟩:=three_cells HS2.out.lw.b8;clear HDY HB1;have hal1:Below w2.heap.size w2 (w2.alloc (fabox (.slice qa nq qc) (.slice fa nf fc))):=(Below.refl _ _).alloc (Nat.le_refl _) _;have hf1:=heap_alloc_new w2 (fabox (.slice qa nq qc) (.slice fa nf fc));obtain⟨g14,hg14⟩:∃ x,w2.heap.size=x:=⟨_,rfl⟩;obtain⟨W3,hW3⟩:∃ W,w2.alloc (fabox (.slice qa nq qc) (.slice fa nf fc))=W:=⟨_,rfl⟩;rw[hW3,hg14] at hf1;rw[hW3] at hal1;have hal2:Below W3.heap.size W3 (W3.alloc (rfbox (.slice qa nq qc) (.slice fa nf fc))):=(Below.refl _ _).alloc (Nat.le_refl _) _;have hf2:=heap_alloc_new W3 (rfbox (.slice qa nq qc) (.slice fa nf fc));obtain⟨g16,hg16⟩:∃ x,W3.heap.size=x:=⟨_,rfl⟩;obtain⟨W4,hW4⟩:∃ W,W3.alloc (rfbox (.slice qa nq qc) (.slice fa nf fc))=W:=⟨_,rfl⟩;rw[hW4,hg16] at hf2;rw[hW4] at hal2;have HF1:=Km ((hal2.block _ (Array.getElem?_eq_some_iff.1 hf1).1).trans hf1);have HF2:=Km hf2;have HS4:=Km ((HS2.out.below hal1).below hal2);have HB4:=Km (bstep (bstep HB2.out hal1) hal2);have HSQ4:=Km ((HSQ2.out.below hal1).below hal2);have HSF4:=Km ((HSF2.out.below hal1).below hal2);obtain⟨f0,f1,_,_⟩:=two_cells hf1;have HW3:=Km hW3;have HW4:=Km hW4;have HG14:=Km hg14;have HG16:=Km hg16;clear hg14 hg16 hW3 hW4
      go_upto_region 9 with fail
      try rw[HW3.out]
      try rw[HG14.out]
      go_upto_region 10 with fail
      try rw[HW4.out]
      try rw[HG16.out]
      clear hal1 hal2 hf1 hf2 HG14 HG16 HW3 HW4 HS2 p0 p1 p2 r0 r1 r2 f0 f1;obtain⟨p0,p1,p2,_⟩:=three_cells HS4.out.lw.b7;obtain⟨r0,r1,r2,_⟩:=three_cells HS4.out.lw.b8;obtain⟨f0,f1,_,_⟩:=two_cells HF1.out;obtain⟨y0,y1,_,_⟩:=two_cells HF2.out;clear HSQ2 HSF2;go_wp2_with fail;(with_reducible refine(HRC.out _ HB4.out).mono ?_);rintro e w5 ⟨hb5,rfl⟩;have HB5:=Km (bstep HB4.out hb5);have HG1:=Km ((hb5.block _ (Array.getElem?_eq_some_iff.1 HF1.out).1).trans HF1.out);have HG2:=Km ((hb5.block _ (Array.getElem?_eq_some_iff.1 HF2.out).1).trans HF2.out);have HSQ5:=Km (HSQ4.out.below hb5);have HSF5:=Km (HSF4.out.below hb5);clear f0 f1 y0 y1;have HS5:=Km (HS4.out.below hb5);clear hb5 HS4 p0 p1 p2 r0 r1 r2;obtain⟨p0,p1,p2,_⟩:=three_cells HS5.out.lw.b7;obtain⟨r0,r1,r2,_⟩:=three_cells HS5.out.lw.b8;clear HF1 HF2;obtain⟨f0,f1,_,_⟩:=two_cells HG1.out;obtain⟨y0,y1,_,_⟩:=two_cells HG2.out;clear HSQ4 HSF4;go_wp2_with fail;(with_reducible refine(HRD.out _ HB5.out).mono ?_);rintro e w6 ⟨hb6,rfl⟩;have HSQ6:=Km (HSQ5.out.below hb6);have HSF6:=Km (HSF5.out.below hb6);have HG3:=Km ((hb6.block _ (Array.getElem?_eq_some_iff.1 HG1.out).1).trans HG1.out);have HG4:=Km ((hb6.block _ (Array.getElem?_eq_some_iff.1 HG2.out).1).trans HG2.out);clear f0 f1 y0 y1;have HS6:=Km (HS5.out.below hb6);clear hb6 HS5 p0 p1 p2 r0 r1 r2;obtain⟨p0,p1,p2,_⟩:=three_cells HS6.out.lw.b7;obtain⟨r0,r1,r2,_⟩:=three_cells HS6.out.lw.b8;obtain⟨f0,f1,_,_⟩:=two_cells HG3.out;obtain⟨y0,y1,_,_⟩:=two_cells HG4.out;have HD1:=Km (HDN.out.ref qa fa qc fc w6 HS6.out.lw.sl HS6.out.sv HS6.out.se HSQ6.out HSF6.out);go_wp2_with fail;(with_reducible refine HD1.out.mono ?_);rintro e w7 ⟨hb7,rfl⟩;have HSQ7:=Km (HSQ6.out.below hb7);have HSF7:=Km (HSF6.out.below hb7);have HG5:=Km ((hb7.block _ (Array.getElem?_eq_some_iff.1 HG3.out).1).trans HG3.out);clear f0 f1 y0 y1;have HS7:=Km (HS6.out.below hb7);clear hb7 HS6 p0 p1 p2 r0 r1 r2;obtain⟨p0,p1,p2,_⟩:=three_cells HS7.out.lw.b7;obtain⟨r0,r1,r2,_⟩:=three_cells HS7.out.lw.b8;obtain⟨f0,f1,_,_⟩:=two_cells HG5.out;have HD2:=Km (HDN.out.own qa fa qc fc w7 HS7.out.lw.sl HS7.out.sv HS7.out.se HSQ7.out HSF7.out);go_wp2_with fail;(with_reducible refine HD2.out.mono ?_);rintro e w8 ⟨hb8,rfl⟩;clear f0 f1;have HS8:=Km (HS7.out.below hb8);clear hb8 HS7 p0 p1 p2 r0 r1 r2;obtain⟨p0,p1,p2,_⟩:=three_cells HS8.out.lw.b7;obtain⟨r0,r1,r2,_⟩:=three_cells HS8.out.lw.b8
      go_upto_region 20 with fail
      obtain⟨WQ,hWQ⟩:∃ W,w8=W:=⟨_,rfl⟩;have HSQ:=HS8;rw[hWQ] at HSQ ⊢;clear hWQ HS8 p0 p1 p2 r0 r1 r2 HG1 HG2 HG3 HG4 HG5 HD1 HD2 HDN HSQ5 HSQ6 HSQ7 HSF5 HSF6 HSF7 HB2 HB4 HB5 HRC HRD HX9
     )
     exact decodes_end HD HCV hq1 hq3 hkk1 hkkm (by omega) ed hmo hcm HLC hlt hn1 hc1x HI1 HN1 HSA HPL HELm HELk ⟨HSQ.out.lw⟩ ⟨fun _ _ dst _ _ h=>by cases dst<;>exact h⟩ ⟨by assumption⟩ (fun s9 s10 s20 s21 s136 s137 s138 s139 s140 s141 s142 s143 s144 s145 s146 s147 s148 s149 s150 s151 s152 s153 s154 s155 s156 s157 s158 s159 s160 s161 s162 s163 s164 s165 s166 s167 s168 s169 s170 s171 s172 s173 s174 s175 s176 s177 s178 s179 s180 s181 s182 s183 s184 s185 s186 s187 s188 s189 s190 W nw wc ne ec wa ea V E h9 h10 HST9=>by
      subst h9 h10;go_wp2;go_roundw
      case rel=>exact⟨kx+1,nw,wc,ne,ec,wa,ea,V,E,by omega,rfl,rfl,by go_num,HST9⟩
      case measure=>simp[intOf]<;>omega)
  ·obtain rfl:kx=3:=by omega
   obtain⟨p0,p1,p2,_⟩:=three_cells hst.out.lw.b7;go_wp2_with fail;(with_reducible refine(HAW.out _).mono ?_);rintro e w12 ⟨hb12,rfl⟩;have HBZ:=Km (hst.out.lw.bel.trans (hb12.mono hst.out.lw.bel.size));clear hb12 hst p0 p1 p2;go_wp2
   go_ret
   exact⟨HBZ.out,rfl⟩
end Go.Proofs.YtdnheaafcbihbaaGreat
