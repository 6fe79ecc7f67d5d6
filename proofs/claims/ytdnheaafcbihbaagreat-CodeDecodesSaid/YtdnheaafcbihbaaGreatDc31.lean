/-
  Texts of the proof, merged by program: Rdo Nev Dns.
-/
import Derived.Test.YtdnheaafcbihbaaGreatDc30
set_option linter.unusedSimpArgs false
set_option linter.unusedVariables false
set_option maxHeartbeats 16000000
namespace Go.Proofs.YtdnheaafcbihbaaGreat
open Go Go.RowKit Go.Deep
open FFld (ints)
def rfitP (D:FFld.FD)(xs ws ql el:List Nat)(es:List Int):Nat->Bool
 |0=>true
 |i+1=>rfitP D xs ws ql el es i&&(hasB es (i:Int)||decide (FFld.hornF D ql (xs[i]?.getD 0) ql.length=FFld.pmul D.p D.k D.m (FFld.hornF D el (xs[i]?.getD 0) el.length) D.k (ws[i]?.getD 0)))
theorem rfit_down {D:FFld.FD}{xs ws ql el:List Nat}{es:List Int}{i:Nat} :∀ n,i<=n->rfitP D xs ws ql el es i=false->rfitP D xs ws ql el es n=false
 | 0,hi,h=>by
   obtain rfl:i=0:=by omega
   exact h
 | n+1,hi,h=>by
   by_cases h1:i=n+1
   ·exact h1 ▸ h
   ·rw[rfitP,rfit_down n (by omega) h,Bool.false_and]
set_option maxRecDepth 20000 in
theorem rdenies_poly {D:FFld.FD}(hD:D.Ok)(ax aw ae qa va:Option Addr)(cx cw ce qc vc n m k nq ne:Nat)(xs ws:List Nat)(ql el:List Nat)(es:List Int)(w:World)(hx:Sl .i64 w (.slice ax n cx) (ints xs))(hw:Sl .i64 w (.slice aw n cw) (ints ws))(he:Sl .i64 w (.slice ae m ce) es)(hQ:Sl .i64 w (.slice qa nq qc) (ints ql))(hE:Sl .i64 w (.slice va ne vc) (ints el))(hc:CodeV D xs n k)(le:es.length=m)(hwe:elsB D (ints ws)=true)(hkm:m+k<=n)(hb:belB n es=true)(hd:difB es m=true)(lw:ws.length=n)(lq:ql.length=nq)(ll:el.length=ne)(hwq:∀ a∈ws,a<D.p ^ D.k)(hqq:∀ a∈ql,a<D.p ^ D.k)(heq:∀ a∈el,a<D.p ^ D.k)(tq:FFld.Tz ql)(te:FFld.Tz el)(hlq:nq+(n-m-k)/2<=n-m)(hle:ne<=(n-m-k)/2+1)(hne:nq≠0\/ne≠0)(bb:Bool)(hbb:bb=(rfitP D xs ws ql el es n&&(decide (ne=0)||decide (¬ (FFld.rstF D el (FFld.invT D hD.pre.pk el) ql= []/\(FFld.quoF D el (FFld.invT D hD.pre.pk el) ql).length<=k/\disK (ints (FFld.valsF D (FFld.quoF D el (FFld.invT D hD.pre.pk el) ql) xs n)) (ints ws) es n<=(n-m-k)/2))))):
 Calls Tryz.prog 40 #[cdv D.q ax n cx k, .slice aw n cw, .slice ae m ce, .agg #[.slice qa nq qc, .slice va ne vc]] w (RB w (.bool bb)):=by
 have hq6:D.p ^ D.k<=65536:=hD.pre.small;have hq0:D.q=D.p ^ D.k:=rfl;have h64:=hc.n64;have HX0:Kept (Bxs w [rcdbox D.q ax n cx k,rfabox (.slice qa nq qc) (.slice va ne vc)] ((w.alloc (rcdbox D.q ax n cx k)).alloc (rfabox (.slice qa nq qc) (.slice va ne vc)))):=⟨((Bxs.start w).alloc (by simp) _).alloc (by simp) _⟩
 have HCK:Kept (∀ W,Below w.heap.size w W->Calls Tryz.prog 19 #[cdv D.q ax n cx k] W (RB W (.int .i64 0))):=⟨fun W hW=>by
  have h:=rccheck_any D.q k ax cx (ints xs) W (by rw[FFld.ints_len,hc.len];exact hx.below hW) (by omega) (by omega) (by omega) (by have:=hc.kn;omega);rw[FFld.ints_len,hc.len,hc.chk] at h
  exact h⟩
 have HRC:=Km (fun(W:World) (hW:Below w.heap.size w W)=>rreceived_ok hD ax aw ae cx cw ce n m k (ints ws) es W (hw.below hW) (he.below hW) le hwe hb hd hkm (by omega));have HNW:=Km (fun W=>rnew_any (D.q:Int) W (by omega) (by omega));obtain⟨t,ht⟩:∃ r,(n-m-k)/2=r:=⟨_,rfl⟩
 have HRA:Kept (∀ W,Calls Tryz.prog 42 #[cdv D.q ax n cx k, .int .i64 m] W (RB W (.int .i64 (t:Nat)))):=⟨fun W=>by
  have h:=rradius_any D.q ax n cx k m W hkm (by omega);rw[ht] at h
  exact h⟩
 have HCQ:=Km (fun(W:World) (hW:Below w.heap.size w W)=>rcheck_any D (.slice qa nq qc) (ints ql) W (hQ.below hW));have HCE:=Km (fun(W:World) (hW:Below w.heap.size w W)=>rcheck_any D (.slice va ne vc) (ints el) W (hE.below hW));have htn:t+m<=n:=by omega
 have hnl:nq<=9223372036854775807/\ne<=9223372036854775807:=by
  obtain⟨_,_,e,h1,h2,_⟩:=hQ;obtain⟨_,_,e',h1',h2',_⟩:=hE;simp only[Value.slice.injEq] at e e';unfold maxLen at h2 h2';omega
 obtain⟨hnl1,hnl2⟩:=hnl;have er1:(n:Int)-(m:Int)=((n-m:Nat):Int):=by omega
 have er2:((n-m:Nat):Int)-(t:Int)=((n-m-t:Nat):Int):=by omega
 have HD:=Km hD;rw[ht] at hlq hle hbb;rw[cErr_poly hqq tq (by omega)] at HCQ;rw[cErr_poly heq te (by omega)] at HCE;have HXS:=Km hx;have HWS:=Km hw;have HLX:=Km hc.len;have HLW:=Km lw;have HXQ:=Km hc.lt;have HWQ:=Km hwq;have HHS:=Km (fun(W:World) (hW:Below w.heap.size w W) (i:Nat)=>rhas_any (.slice ae m ce) es (i:Int) W (he.below hW));have HVQS:=Km (fun(W:World) (x:Nat) (hW:Below w.heap.size w W) (hxx:x<D.p ^ D.k)=>rvalue_any hD (.slice qa nq qc) ql x W (hQ.below hW) hqq hxx (by omega));have HVES:=Km (fun(W:World) (x:Nat) (hW:Below w.heap.size w W) (hxx:x<D.p ^ D.k)=>rvalue_any hD (.slice va ne vc) el x W (hE.below hW) heq hxx (by omega));have HMUS:=Km (fun W a b (ha:a<D.p ^ D.k) (hb:b<D.p ^ D.k)=>rmul_any D.q D.p D.k D.m a b W hD.pre.pk.p2 hD.pre.pk.k1 ha hb hq6 (md_ok hD));obtain⟨Qu,hQu⟩:∃ l,FFld.quoF D el (FFld.invT D hD.pre.pk el) ql=l:=⟨_,rfl⟩;obtain⟨Rs,hRs⟩:∃ l,FFld.rstF D el (FFld.invT D hD.pre.pk el) ql=l:=⟨_,rfl⟩;obtain⟨d,hdd⟩:∃ d,disK (ints (FFld.valsF D Qu xs n)) (ints ws) es n=d:=⟨_,rfl⟩;have hquq:∀ a∈Qu,a<D.p ^ D.k:=by rw[<- hQu];exact FFld.quoF_lt hD.pre.pk _ _ _
 rw[hQu,hRs,hdd] at hbb;have HBB:=Km hbb
 have HDV:Kept (ne≠0-> ∀ W,Below w.heap.size w W->Calls Tryz.prog 105 #[rfv D.q D.p D.k D.m, .slice qa nq qc, .slice va ne vc] W (fun e w' =>Below W.heap.size W w' /\ ∃ (vq vr:Value),e= .returned (.tuple #[vq,vr])/\Sl .i64 w' vq (ints Qu)/\Sl .i64 w' vr (ints Rs))):=⟨fun h0 W hW=>by
  have htz:el[el.length-1]?.getD 0≠0:=by
   rcases te with h|h
   ·omega
   ·exact h
  have h:=rpdivide_any hD (.slice qa nq qc) (.slice va ne vc) ql el W (hQ.below hW) (hE.below hW) hqq heq (by omega) htz (by omega) (by omega);rw[<- hQu,<- hRs]
  exact h⟩
 have HQL:Kept (Qu.length<=200\/ne=0):=⟨by
  by_cases h0:ne=0
  ·exact .inr h0
  ·left;rw[<- hQu];have h:=FFld.quoF_len D el (FFld.invT D hD.pre.pk el) ql
   omega⟩
 have HEN:Kept (∀ W am cm,Below w.heap.size w W->Qu.length<=200->Sl .i64 W (.slice am Qu.length cm) (ints Qu)->Calls Tryz.prog 33 #[cdv D.q ax n cx k, .slice am Qu.length cm] W (fun e w' =>Below W.heap.size W w' /\ ∃ v,e= .returned v/\Sl .i64 w' v (ints (FFld.valsF D Qu xs n)))):=⟨fun W am cm hW hl hs=>(rencode_any hD ax am cx cm n Qu.length (k:Int) xs Qu W (hx.below hW) hs hc.len rfl hc.lt hquq h64 hl).mono fun e w' h=>(by obtain⟨hb,v,rfl,hm⟩:=h;exact⟨hb,v,rfl,hm.sl⟩)⟩
 have HDI:Kept (∀ W v,Below w.heap.size w W->Sl .i64 W v (ints (FFld.valsF D Qu xs n))->Calls Tryz.prog 106 #[v, .slice aw n cw, .slice ae m ce] W (RB W (.int .i64 (d:Nat)))):=⟨fun W v hW hs=>by
  rw[<- hdd]
  exact rdistance_any v (.slice aw n cw) (.slice ae m ce) _ (ints ws) es n W hs (hw.below hW) (he.below hW) (by rw[FFld.ints_len,FFld.valsF_len];exact hc.len) (by rw[FFld.ints_len];exact lw) (by omega)⟩
 clear hQu hRs hdd hquq hbb;clear hx hw he hQ hE hc le hwe hb hd ht hq0 lw lq ll hwq hqq heq tq te;have q1: ¬ (n-m-t<nq):=by omega
 have q2: ¬ (((n-m-t:Nat):Int)<(nq:Int)):=by omega
 have q3:nq<=n-m-t:=by omega
 have q4:(nq:Int)<=((n-m-t:Nat):Int):=by omega
 have r1: ¬ (t+1<ne):=by omega
 have r2: ¬ (((t:Int)+1)<(ne:Int)):=by omega
 have r3:ne<=t+1:=by omega
 have r4:(ne:Int)<=(t:Int)+1:=by omega
 have hcase:(((nq:Int)==0)=false/\True)\/(((nq:Int)==0)=true/\((ne:Int)==0)=false):=by
  by_cases h:nq=0
  ·right;rw[beq_iff_eq,beq_eq_false_iff_ne];omega
  ·left;rw[beq_eq_false_iff_ne];exact⟨by omega,trivial⟩
 clear hne
 rcases hcase with⟨s1,s2⟩|⟨s1,s2⟩<;>(
  go_enter Tryz.func40,Tryz.ntmps40
  obtain⟨c0,c1,c2,_⟩:=three_cells HX0.out.b0;obtain⟨d0,d1,_,_⟩:=two_cells HX0.out.b1;have hbx:=HX0.out.1;go_wp2_with fail;refine(HCK.out _ hbx).mono ?_;rintro e w1 ⟨hb1,rfl⟩;have HX1:=Km (HX0.out.below hb1);clear hb1 c0 c1 c2 d0 d1 hbx HX0 HCK;obtain⟨c0,c1,c2,_⟩:=three_cells HX1.out.b0;obtain⟨d0,d1,_,_⟩:=two_cells HX1.out.b1;have hbx:=HX1.out.1;go_wp2_with fail;refine(HRC.out _ hbx).mono ?_;rintro e w2 ⟨hb2,rfl⟩;have HX2:=Km (HX1.out.below hb2);clear hb2 c0 c1 c2 d0 d1 hbx HX1 HRC;obtain⟨c0,c1,c2,_⟩:=three_cells HX2.out.b0;obtain⟨d0,d1,_,_⟩:=two_cells HX2.out.b1;go_wp2_with fail;refine(HNW.out _).mono ?_;rintro e w3 ⟨hb3,⟨D',hD',hq',rfl⟩|⟨hno',rfl⟩⟩
  ·obtain rfl:D' =D:=FFld.FD.uniq hD' HD.out (by omega);have hal:Below w3.heap.size w3 (w3.alloc (rbox D'.q D'.p D'.k D'.m)):=(Below.refl _ _).alloc (Nat.le_refl _) _;have hG:=heap_alloc_new w3 (rbox D'.q D'.p D'.k D'.m);have HX3:=Km ((HX2.out.below hb3).below hal);obtain⟨g5,hg⟩:∃ x,w3.heap.size=x:=⟨_,rfl⟩;obtain⟨W4,hW4⟩:∃ W,w3.alloc (rbox D'.q D'.p D'.k D'.m)=W:=⟨_,rfl⟩;rw[hW4,hg] at hG;rw[hW4] at HX3
   go_upto_region 4 with fail
   try rw[hW4]
   try rw[hg]
   clear hb3 hq' hal hg hW4 hD' HNW c0 c1 c2 d0 d1 HX2;obtain⟨c0,c1,c2,_⟩:=three_cells HX3.out.b0;obtain⟨d0,d1,_,_⟩:=two_cells HX3.out.b1;have HG:=Km hG;clear hG;go_wp2_with fail;refine(HRA.out _).mono ?_;rintro e w5 ⟨hb5,rfl⟩;have HG5:=Km ((hb5.block _ (Array.getElem?_eq_some_iff.1 HG.out).1).trans HG.out);have HX5:=Km (HX3.out.below hb5);clear hb5 c0 c1 c2 d0 d1 HX3 HRA HG;obtain⟨c0,c1,c2,_⟩:=three_cells HX5.out.b0;obtain⟨d0,d1,_,_⟩:=two_cells HX5.out.b1;obtain⟨i0,i1,i2,i3⟩:=four_cells HG5.out;have hbx:=HX5.out.1;go_wp2_with fail;(with_reducible refine(HCQ.out _ hbx).mono ?_);rintro e w6 ⟨hb6,rfl⟩;have HG5:=Km ((hb6.block _ (Array.getElem?_eq_some_iff.1 HG5.out).1).trans HG5.out);have HX5:=Km (HX5.out.below hb6);clear hb6 c0 c1 c2 d0 d1 i0 i1 i2 i3 hbx;obtain⟨c0,c1,c2,_⟩:=three_cells HX5.out.b0;obtain⟨d0,d1,_,_⟩:=two_cells HX5.out.b1;obtain⟨i0,i1,i2,i3⟩:=four_cells HG5.out;have hbx:=HX5.out.1;go_wp2_with fail;(with_reducible refine(HCE.out _ hbx).mono ?_);rintro e w6 ⟨hb6,rfl⟩;have HG5:=Km ((hb6.block _ (Array.getElem?_eq_some_iff.1 HG5.out).1).trans HG5.out);have HX5:=Km (HX5.out.below hb6);clear hb6 c0 c1 c2 d0 d1 i0 i1 i2 i3 hbx;obtain⟨c0,c1,c2,_⟩:=three_cells HX5.out.b0;obtain⟨d0,d1,_,_⟩:=two_cells HX5.out.b1;obtain⟨i0,i1,i2,i3⟩:=four_cells HG5.out;have hbx:=HX5.out.1;go_wp2
   go_loopw [12] (fun iv wr=> ∃ (i:Nat),i<=n/\iv= .int .i64 i/\Kept (rfitP D' xs ws ql el es i=true)/\Kept (Below w6.heap.size w6 wr)) (fun iv _=>n-(intOf iv).toNat)
   case atStart=>exact⟨0,Nat.zero_le _,rfl,⟨rfl⟩,⟨Below.refl _ _⟩⟩
   case round=>
    obtain⟨i,hin,rfl,hat,hbw⟩:=hrel;have HBW:=Km (bstep hbx hbw.out);have HXR:=Km (HX5.out.below hbw.out);have HGR:=Km ((hbw.out.block _ (Array.getElem?_eq_some_iff.1 HG5.out).1).trans HG5.out);clear c0 c1 c2 d0 d1 i0 i1 i2 i3 hbx
    by_cases hlt:i<n
    ·obtain⟨c0,u4,c2,_⟩:=three_cells HXR.out.b0;obtain⟨u5,u6,_,_⟩:=two_cells HXR.out.b1;obtain⟨u0,u1,u2,u3⟩:=four_cells HGR.out;obtain⟨bx,ox,rfl,hbx,u7⟩:=(HXS.out.below HBW.out).news_ i (by rw[FFld.ints_len,HLX.out];exact hlt);obtain⟨bw,ow,rfl,hbw',u8⟩:=(HWS.out.below HBW.out).news_ i (by rw[FFld.ints_len,HLW.out];exact hlt);rw[FFld.ints_get] at u7 u8;obtain⟨x,hxv⟩:∃ y,xs[i]?.getD 0=y:=⟨_,rfl⟩;obtain⟨y,hyv⟩:∃ y,ws[i]?.getD 0=y:=⟨_,rfl⟩;rw[hxv] at u7;rw[hyv] at u8;have hxx:x<D'.p ^ D'.k:=by rw[<- hxv];exact HXQ.out _ (FFld.get_mem (by rw[HLX.out];exact hlt))
     have hyy:y<D'.p ^ D'.k:=by rw[<- hyv];exact HWQ.out _ (FFld.get_mem (by rw[HLW.out];exact hlt))
     obtain⟨a,ha⟩:∃ r,FFld.hornF D' ql x ql.length=r:=⟨_,rfl⟩;obtain⟨c,hcc⟩:∃ r,FFld.hornF D' el x el.length=r:=⟨_,rfl⟩;obtain⟨r,hr⟩:∃ r,FFld.pmul D'.p D'.k D'.m c D'.k y=r:=⟨_,rfl⟩;have hcq:c<D'.p ^ D'.k:=by rw[<- hcc];exact FFld.hornF_lt HD.out.pre.pk _ _ _
     have HST:Kept (rfitP D' xs ws ql el es (i+1)=(hasB es (i:Int)||decide (a=r))):=⟨by rw[rfitP,hat.out,hxv,hyv,ha,hcc,hr,Bool.true_and]⟩;have HHI:=Km (fun(W:World) (hW:Below w.heap.size w W)=>HHS.out W hW i);have HVQ:Kept (∀ W,Below w.heap.size w W->Calls Tryz.prog 44 #[rfv D'.q D'.p D'.k D'.m, .slice qa nq qc, .int .i64 (x:Nat)] W (RB W (.int .i64 (a:Nat)))):=⟨fun W hW=>by rw[<- ha];exact HVQS.out W x hW hxx⟩;have HVE:Kept (∀ W,Below w.heap.size w W->Calls Tryz.prog 44 #[rfv D'.q D'.p D'.k D'.m, .slice va ne vc, .int .i64 (x:Nat)] W (RB W (.int .i64 (c:Nat)))):=⟨fun W hW=>by rw[<- hcc];exact HVES.out W x hW hxx⟩;have HMU:Kept (∀ W,Below w.heap.size w W->Calls Tryz.prog 103 #[rfv D'.q D'.p D'.k D'.m, .int .i64 (c:Nat), .int .i64 (y:Nat)] W (RB W (.int .i64 (r:Nat)))):=⟨fun W hW=>by rw[<- hr];exact HMUS.out W c y hcq hyy⟩;have HBC:=Km (Below.refl wr.heap.size wr);clear ha hcc hr hxv hyv hxx hyy hcq c0 c2 s1 s2
     cases hh:hasB es (i:Int) with
     | true=>
       rw[hh] at HHI;have HN:Kept (rfitP D' xs ws ql el es (i+1)=true):=⟨by rw[HST.out,hh];rfl⟩;clear hh;go_wp2_with fail
       go_upto_region 10 with fail
       refine wp_region_held_drew (S:=(fun _=>True)) (by kernel_rfl) trivial (fun hHeld=> ?_);refine wpAnyH_take (i:=0) (v:= ?_) rfl (by kernel_rfl) (by kernel_rfl) (by kernel_rfl) (fun _ _ _ h=>h) (Or.inl ⟨by rfl,?_⟩) (by assumption) ?_;rotate_left
       ·(intro w hSw;(try dsimp only at hSw);go_simp;(try with_reducible rfl))
       try simp only[Act.put,sA]
       refine wpAnyH_take (i:=1) (v:= ?_) rfl (by kernel_rfl) (by kernel_rfl) (by kernel_rfl) (fun _ _ _ h=>h) (Or.inl ⟨by rfl,?_⟩) (by assumption) ?_;rotate_left
       ·(intro w hSw;(try dsimp only at hSw);go_simp;(try with_reducible rfl))
       try simp only[Act.put,sA]
       refine wpAnyH_ready (rs:= [2]) (by kernel_rfl) (by simp) ?_;refine(AllReadyH.cons rfl (fun K hK=> ?_) AllReadyH.nil)
       go_simp
       (with_reducible refine(HHI.out _ HBW.out.drew).mono ?_);rintro e w8 ⟨rfl,rfl⟩;refine hK.out _ _ trivial (fun hHeld=> ?_);clear hK K
       try simp only[Act.put,sA]
       refine wpAnyH_take (i:=3) (v:= ?_) rfl (by kernel_rfl) (by kernel_rfl) (by kernel_rfl) (fun _ _ _ h=>h) (Or.inl ⟨by rfl,?_⟩) (by assumption) ?_;rotate_left
       ·(intro w hSw;(try dsimp only at hSw);go_simp;(try with_reducible rfl))
       try simp only[Act.put,sA]
       refine wpAnyH_take (i:=4) (v:= ?_) rfl (by kernel_rfl) (by kernel_rfl) (by kernel_rfl) (fun _ _ _ h=>h) (Or.inl ⟨by rfl,?_⟩) (by assumption) ?_;rotate_left
       ·(intro w hSw;(try dsimp only at hSw);go_simp;(try with_reducible rfl))
       try simp only[Act.put,sA]
       refine wpAnyH_take (i:=5) (v:=undef) rfl (by kernel_rfl) (by kernel_rfl) (by kernel_rfl) (fun _ _ _ h=>h) (Or.inr ⟨by rfl,rfl⟩) (by assumption) ?_
       try simp only[Act.put,sA]
       refine wpAnyH_take (i:=6) (v:=undef) rfl (by kernel_rfl) (by kernel_rfl) (by kernel_rfl) (fun _ _ _ h=>h) (Or.inr ⟨by rfl,rfl⟩) (by assumption) ?_
       try simp only[Act.put,sA]
       refine wpAnyH_take (i:=7) (v:=undef) rfl (by kernel_rfl) (by kernel_rfl) (by kernel_rfl) (fun _ _ _ h=>h) (Or.inr ⟨by rfl,rfl⟩) (by assumption) ?_
       try simp only[Act.put,sA]
       refine wpAnyH_take (i:=8) (v:=undef) rfl (by kernel_rfl) (by kernel_rfl) (by kernel_rfl) (fun _ _ _ h=>h) (Or.inr ⟨by rfl,rfl⟩) (by assumption) ?_
       try simp only[Act.put,sA]
       refine wpAnyH_take (i:=9) (v:=undef) rfl (by kernel_rfl) (by kernel_rfl) (by kernel_rfl) (fun _ _ _ h=>h) (Or.inr ⟨by rfl,rfl⟩) (by assumption) ?_
       try simp only[Act.put,sA]
       refine wpAnyH_take (i:=10) (v:=undef) rfl (by kernel_rfl) (by kernel_rfl) (by kernel_rfl) (fun _ _ _ h=>h) (Or.inr ⟨by rfl,rfl⟩) (by assumption) ?_
       try simp only[Act.put,sA]
       refine wpAnyH_take (i:=11) (v:=undef) rfl (by kernel_rfl) (by kernel_rfl) (by kernel_rfl) (fun _ _ _ h=>h) (Or.inr ⟨by rfl,rfl⟩) (by assumption) ?_
       try simp only[Act.put,sA]
       refine wpAnyH_take (i:=12) (v:=undef) rfl (by kernel_rfl) (by kernel_rfl) (by kernel_rfl) (fun _ _ _ h=>h) (Or.inr ⟨by rfl,rfl⟩) (by assumption) ?_
       try simp only[Act.put,sA]
       refine wpAnyH_take (i:=13) (v:=undef) rfl (by kernel_rfl) (by kernel_rfl) (by kernel_rfl) (fun _ _ _ h=>h) (Or.inr ⟨by rfl,rfl⟩) (by assumption) ?_
       try simp only[Act.put,sA]
       refine wpAnyH_take (i:=14) (v:=undef) rfl (by kernel_rfl) (by kernel_rfl) (by kernel_rfl) (fun _ _ _ h=>h) (Or.inr ⟨by rfl,rfl⟩) (by assumption) ?_
       try simp only[Act.put,sA]
       refine wpAnyH_take (i:=15) (v:=undef) rfl (by kernel_rfl) (by kernel_rfl) (by kernel_rfl) (fun _ _ _ h=>h) (Or.inr ⟨by rfl,rfl⟩) (by assumption) ?_
       try simp only[Act.put,sA]
       refine wpAnyH_take (i:=16) (v:=undef) rfl (by kernel_rfl) (by kernel_rfl) (by kernel_rfl) (fun _ _ _ h=>h) (Or.inr ⟨by rfl,rfl⟩) (by assumption) ?_
       try simp only[Act.put,sA]
       refine wpAnyH_take (i:=17) (v:=undef) rfl (by kernel_rfl) (by kernel_rfl) (by kernel_rfl) (fun _ _ _ h=>h) (Or.inr ⟨by rfl,rfl⟩) (by assumption) ?_
       try simp only[Act.put,sA]
       refine wpAnyH_take (i:=18) (v:=undef) rfl (by kernel_rfl) (by kernel_rfl) (by kernel_rfl) (fun _ _ _ h=>h) (Or.inr ⟨by rfl,rfl⟩) (by assumption) ?_
       try simp only[Act.put,sA]
       refine wpAnyH_take (i:=19) (v:=undef) rfl (by kernel_rfl) (by kernel_rfl) (by kernel_rfl) (fun _ _ _ h=>h) (Or.inr ⟨by rfl,rfl⟩) (by assumption) ?_
       try simp only[Act.put,sA]
       refine wpAnyH_take (i:=20) (v:=undef) rfl (by kernel_rfl) (by kernel_rfl) (by kernel_rfl) (fun _ _ _ h=>h) (Or.inr ⟨by rfl,rfl⟩) (by assumption) ?_
       try simp only[Act.put,sA]
       refine wpAnyH_take (i:=21) (v:=undef) rfl (by kernel_rfl) (by kernel_rfl) (by kernel_rfl) (fun _ _ _ h=>h) (Or.inr ⟨by rfl,rfl⟩) (by assumption) ?_
       try simp only[Act.put,sA]
       refine wpAnyH_take (i:=22) (v:=undef) rfl (by kernel_rfl) (by kernel_rfl) (by kernel_rfl) (fun _ _ _ h=>h) (Or.inr ⟨by rfl,rfl⟩) (by assumption) ?_
       try simp only[Act.put,sA]
       refine wpAnyH_take (i:=23) (v:=undef) rfl (by kernel_rfl) (by kernel_rfl) (by kernel_rfl) (fun _ _ _ h=>h) (Or.inr ⟨by rfl,rfl⟩) (by assumption) ?_
       try simp only[Act.put,sA]
       refine wpAnyH_take (i:=24) (v:=undef) rfl (by kernel_rfl) (by kernel_rfl) (by kernel_rfl) (fun _ _ _ h=>h) (Or.inr ⟨by rfl,rfl⟩) (by assumption) ?_
       try simp only[Act.put,sA]
       refine wpAnyH_take (i:=25) (v:=undef) rfl (by kernel_rfl) (by kernel_rfl) (by kernel_rfl) (fun _ _ _ h=>h) (Or.inr ⟨by rfl,rfl⟩) (by assumption) ?_
       try simp only[Act.put,sA]
       refine wpAnyH_take (i:=26) (v:=undef) rfl (by kernel_rfl) (by kernel_rfl) (by kernel_rfl) (fun _ _ _ h=>h) (Or.inr ⟨by rfl,rfl⟩) (by assumption) ?_
       try simp only[Act.put,sA]
       refine wpAnyH_take (i:=27) (v:=undef) rfl (by kernel_rfl) (by kernel_rfl) (by kernel_rfl) (fun _ _ _ h=>h) (Or.inr ⟨by rfl,rfl⟩) (by assumption) ?_
       try simp only[Act.put,sA]
       refine wpAnyH_take (i:=28) (v:=undef) rfl (by kernel_rfl) (by kernel_rfl) (by kernel_rfl) (fun _ _ _ h=>h) (Or.inr ⟨by rfl,rfl⟩) (by assumption) ?_
       try simp only[Act.put,sA]
       refine wpAnyH_take (i:=29) (v:=undef) rfl (by kernel_rfl) (by kernel_rfl) (by kernel_rfl) (fun _ _ _ h=>h) (Or.inr ⟨by rfl,rfl⟩) (by assumption) ?_
       try simp only[Act.put,sA]
       refine wpAnyH_take (i:=30) (v:= ?_) rfl (by kernel_rfl) (by kernel_rfl) (by kernel_rfl) (fun _ _ _ h=>h) (Or.inl ⟨by rfl,?_⟩) (by assumption) ?_;rotate_left
       ·(intro w hSw;(try dsimp only at hSw);go_simp;(try with_reducible rfl))
       try simp only[Act.put,sA]
       refine wpAnyH_done (by kernel_rfl) ?_ _;go_wp2;go_roundw
       case rel=>exact⟨i+1,by omega,by go_num,HN,⟨bstep hbw.out (by first|exact HBC.out|exact HBC.out.drew)⟩⟩
       case measure=>simp[intOf]<;>omega
     | false=>
       rw[hh] at HHI
       by_cases hab:a=r
       ·have HN:Kept (rfitP D' xs ws ql el es (i+1)=true):=⟨by rw[HST.out,hh];simpa using hab⟩;subst hab;have e0:((a:Int)!=(a:Int))=false:=by simp
        clear hh;go_wp2_with fail
        go_region_held3 (fun w' =>w'.cell? ⟨g5,0,none⟩=some (.int .i64 D'.q)/\w'.cell? ⟨g5,1,none⟩=some (.int .i64 D'.p)/\w'.cell? ⟨g5,2,none⟩=some (.int .i64 D'.k)/\w'.cell? ⟨g5,3,none⟩=some (.int .i64 D'.m)/\w'.cell? ⟨w.heap.size,1,none⟩=some (.slice (some ⟨bx,ox,none⟩) n cx)/\w'.cell? ⟨w.heap.size+1,0,none⟩=some (.slice qa nq qc)/\w'.cell? ⟨w.heap.size+1,1,none⟩=some (.slice va ne vc)/\w'.cell? ⟨bx,ox+i,none⟩=some (.int .i64 (x:Nat))/\w'.cell? ⟨bw,ow+i,none⟩=some (.int .i64 (y:Nat)))
         (first|exact⟨k0,k1,k2,k3,k4,k5,k6,k7,k8⟩|exact⟨u0,u1,u2,u3,u4,u5,u6,u7,u8⟩|go_keep)
         ((first
           |(go_at_call 65;(with_reducible refine(HHI.out _ ?h1).mono ?_);(case h1=>first|exact HBW.out.trans (HBC.out.mono HBW.out.size)|exact(HBW.out.trans (HBC.out.mono HBW.out.size)).drew);rintro e w8 ⟨rfl,rfl⟩)
           |(go_at_call 44;(with_reducible refine(HVQ.out _ ?h1).mono ?_);(case h1=>first|exact HBW.out.trans (HBC.out.mono HBW.out.size)|exact(HBW.out.trans (HBC.out.mono HBW.out.size)).drew);rintro e w8 ⟨hb8,rfl⟩;have HBC:=Km (bstep (show Below wr.heap.size wr _ from(by first|exact HBC.out|exact HBC.out.drew)) hb8);clear hb8;have k0:=belowCell HBC.out u0;have k1:=belowCell HBC.out u1;have k2:=belowCell HBC.out u2;have k3:=belowCell HBC.out u3;have k4:=belowCell HBC.out u4;have k5:=belowCell HBC.out u5;have k6:=belowCell HBC.out u6;have k7:=belowCell HBC.out u7;have k8:=belowCell HBC.out u8)
           |(go_at_call 44;(with_reducible refine(HVE.out _ ?h1).mono ?_);(case h1=>first|exact HBW.out.trans (HBC.out.mono HBW.out.size)|exact(HBW.out.trans (HBC.out.mono HBW.out.size)).drew);rintro e w8 ⟨hb8,rfl⟩;have HBC:=Km (bstep (show Below wr.heap.size wr _ from(by first|exact HBC.out|exact HBC.out.drew)) hb8);clear hb8;have k0:=belowCell HBC.out u0;have k1:=belowCell HBC.out u1;have k2:=belowCell HBC.out u2;have k3:=belowCell HBC.out u3;have k4:=belowCell HBC.out u4;have k5:=belowCell HBC.out u5;have k6:=belowCell HBC.out u6;have k7:=belowCell HBC.out u7;have k8:=belowCell HBC.out u8)
           |(go_at_call 103;(with_reducible refine(HMU.out _ ?h1).mono ?_);(case h1=>first|exact HBW.out.trans (HBC.out.mono HBW.out.size)|exact(HBW.out.trans (HBC.out.mono HBW.out.size)).drew);rintro e w8 ⟨hb8,rfl⟩;have HBC:=Km (bstep (show Below wr.heap.size wr _ from(by first|exact HBC.out|exact HBC.out.drew)) hb8);clear hb8;have k0:=belowCell HBC.out u0;have k1:=belowCell HBC.out u1;have k2:=belowCell HBC.out u2;have k3:=belowCell HBC.out u3;have k4:=belowCell HBC.out u4;have k5:=belowCell HBC.out u5;have k6:=belowCell HBC.out u6;have k7:=belowCell HBC.out u7;have k8:=belowCell HBC.out u8)))
        go_wp2;go_roundw
        case rel=>exact⟨i+1,by omega,by go_num,HN,⟨bstep hbw.out (by first|exact HBC.out|exact HBC.out.drew)⟩⟩
        case measure=>simp[intOf]<;>omega
       ·have e0:((a:Int)!=(r:Int))=true:=by rw[bne_iff_ne];omega
        have e1:((a:Int)==(r:Int))=false:=by rw[beq_eq_false_iff_ne];omega
        have HNO:Kept (bb=false):=⟨by rw[HBB.out,rfit_down (i:=i+1) n (by omega) (by rw[HST.out,hh,decide_eq_false hab];rfl),Bool.false_and]⟩;clear hh hab;go_wp2_with fail
        go_region_held3 (fun w' =>w'.cell? ⟨g5,0,none⟩=some (.int .i64 D'.q)/\w'.cell? ⟨g5,1,none⟩=some (.int .i64 D'.p)/\w'.cell? ⟨g5,2,none⟩=some (.int .i64 D'.k)/\w'.cell? ⟨g5,3,none⟩=some (.int .i64 D'.m)/\w'.cell? ⟨w.heap.size,1,none⟩=some (.slice (some ⟨bx,ox,none⟩) n cx)/\w'.cell? ⟨w.heap.size+1,0,none⟩=some (.slice qa nq qc)/\w'.cell? ⟨w.heap.size+1,1,none⟩=some (.slice va ne vc)/\w'.cell? ⟨bx,ox+i,none⟩=some (.int .i64 (x:Nat))/\w'.cell? ⟨bw,ow+i,none⟩=some (.int .i64 (y:Nat)))
         (first|exact⟨k0,k1,k2,k3,k4,k5,k6,k7,k8⟩|exact⟨u0,u1,u2,u3,u4,u5,u6,u7,u8⟩|go_keep)
         ((first
           |(go_at_call 65;(with_reducible refine(HHI.out _ ?h1).mono ?_);(case h1=>first|exact HBW.out.trans (HBC.out.mono HBW.out.size)|exact(HBW.out.trans (HBC.out.mono HBW.out.size)).drew);rintro e w8 ⟨rfl,rfl⟩)
           |(go_at_call 44;(with_reducible refine(HVQ.out _ ?h1).mono ?_);(case h1=>first|exact HBW.out.trans (HBC.out.mono HBW.out.size)|exact(HBW.out.trans (HBC.out.mono HBW.out.size)).drew);rintro e w8 ⟨hb8,rfl⟩;have HBC:=Km (bstep (show Below wr.heap.size wr _ from(by first|exact HBC.out|exact HBC.out.drew)) hb8);clear hb8;have k0:=belowCell HBC.out u0;have k1:=belowCell HBC.out u1;have k2:=belowCell HBC.out u2;have k3:=belowCell HBC.out u3;have k4:=belowCell HBC.out u4;have k5:=belowCell HBC.out u5;have k6:=belowCell HBC.out u6;have k7:=belowCell HBC.out u7;have k8:=belowCell HBC.out u8)
           |(go_at_call 44;(with_reducible refine(HVE.out _ ?h1).mono ?_);(case h1=>first|exact HBW.out.trans (HBC.out.mono HBW.out.size)|exact(HBW.out.trans (HBC.out.mono HBW.out.size)).drew);rintro e w8 ⟨hb8,rfl⟩;have HBC:=Km (bstep (show Below wr.heap.size wr _ from(by first|exact HBC.out|exact HBC.out.drew)) hb8);clear hb8;have k0:=belowCell HBC.out u0;have k1:=belowCell HBC.out u1;have k2:=belowCell HBC.out u2;have k3:=belowCell HBC.out u3;have k4:=belowCell HBC.out u4;have k5:=belowCell HBC.out u5;have k6:=belowCell HBC.out u6;have k7:=belowCell HBC.out u7;have k8:=belowCell HBC.out u8)
           |(go_at_call 103;(with_reducible refine(HMU.out _ ?h1).mono ?_);(case h1=>first|exact HBW.out.trans (HBC.out.mono HBW.out.size)|exact(HBW.out.trans (HBC.out.mono HBW.out.size)).drew);rintro e w8 ⟨hb8,rfl⟩;have HBC:=Km (bstep (show Below wr.heap.size wr _ from(by first|exact HBC.out|exact HBC.out.drew)) hb8);clear hb8;have k0:=belowCell HBC.out u0;have k1:=belowCell HBC.out u1;have k2:=belowCell HBC.out u2;have k3:=belowCell HBC.out u3;have k4:=belowCell HBC.out u4;have k5:=belowCell HBC.out u5;have k6:=belowCell HBC.out u6;have k7:=belowCell HBC.out u7;have k8:=belowCell HBC.out u8)))
        have HBF:=Km (bstep HBW.out (show Below wr.heap.size wr _ from(by first|exact HBC.out|exact HBC.out.drew)));go_wp2
        go_ret
        exact⟨HBF.out,by rw[HNO.out];try rfl⟩
    ·obtain rfl:i=n:=by omega
     have HB2:Kept (bb=(decide (ne=0)||decide (¬ (Rs= []/\Qu.length<=k/\d<=t)))):=⟨by rw[HBB.out,hat.out,Bool.true_and]⟩;obtain⟨c0,c1,c2,_⟩:=three_cells HXR.out.b0;obtain⟨d0,d1,_,_⟩:=two_cells HXR.out.b1;obtain⟨i0,i1,i2,i3⟩:=four_cells HGR.out;clear hat HHS HVQS HVES HMUS HXS HWS HXQ HWQ HLX HLW HX5 HG5;clear s1
     by_cases hz:ne=0
     ·have s3:((ne:Int)==0)=true:=by rw[beq_iff_eq];omega
      have HT:Kept (bb=true):=⟨by rw[HB2.out,decide_eq_true hz,Bool.true_or]⟩;clear hz
      first
       |exact absurd (s2.symm.trans s3) (by simp)
       | (clear s2
          go_wp2
          go_ret
          exact⟨HBW.out,by rw[HT.out];try rfl⟩)
     ·have s3:((ne:Int)==0)=false:=by rw[beq_eq_false_iff_ne];omega
      have HDW:=Km (HDV.out hz)
      have hq2:Qu.length<=200:=by
       rcases HQL.out with h|h
       ·exact h
       ·exact absurd h hz
      have HB3:Kept (bb=decide (¬ (Rs= []/\Qu.length<=k/\d<=t))):=⟨by rw[HB2.out,decide_eq_false hz,Bool.false_or]⟩;clear hz s2 HDV HB2;go_wp2_with fail;(with_reducible refine(HDW.out _ HBW.out).mono ?_);rintro e w8 ⟨hb8,vq,vr,rfl,hsq,hsr⟩;obtain⟨qa',qc',rfl,hqc1,hqc2⟩:=hsq.form;obtain⟨ra',rc',rfl,hrc1,hrc2⟩:=hsr.form;rw[FFld.ints_len] at hsq hqc1;rw[FFld.ints_len] at hsr hrc1;rw[FFld.ints_len,FFld.ints_len];obtain⟨lr,hlr⟩:∃ x,Rs.length=x:=⟨_,rfl⟩;obtain⟨lu,hlu⟩:∃ x,Qu.length=x:=⟨_,rfl⟩;rw[hlr] at hrc1;rw[hlu] at hqc1 hq2;have HLR:=Km hlr;have HLU:=Km hlu;have HSQ:=Km hsq;have HB8:=Km (bstep HBW.out hb8);have HX8:=Km (HXR.out.below hb8);rw[hlr,hlu];unfold maxLen at hqc2 hrc2;clear hb8 hsq hsr c0 c1 c2 d0 d1 i0 i1 i2 i3 HXR HGR HBW hlr hlu;obtain⟨c0,c1,c2,_⟩:=three_cells HX8.out.b0
      by_cases hr0:lr=0
      ·have m1: ¬ (0<lr):=by omega
       have m2: ¬ ((0:Int)<(lr:Int)):=by omega
       have HR0:Kept (Rs= []):=⟨List.length_eq_zero_iff.1 (HLR.out.trans hr0)⟩;clear hr0
       by_cases hk0:lu<=k
       ·have m3: ¬ (k<lu):=by omega
        have m4: ¬ ((k:Int)<(lu:Int)):=by omega
        have HQ2:Kept (Qu.length<=200/\Qu.length<=k):=⟨by rw[HLU.out];exact⟨hq2,hk0⟩⟩;have HEM:Kept (Calls Tryz.prog 33 #[cdv D'.q ax i cx k, .slice qa' lu qc'] w8 (fun e w' =>Below w8.heap.size w8 w' /\ ∃ v,e= .returned v/\Sl .i64 w' v (ints (FFld.valsF D' Qu xs i)))):=⟨by have h:=HEN.out w8 qa' qc' HB8.out HQ2.out.1 HSQ.out;rw[HLU.out] at h;exact h⟩;go_wp2_with fail;(with_reducible refine HEM.out.mono ?_);rintro e w9 ⟨hb9,vv,rfl,hsv⟩;have HB9:=Km (bstep HB8.out hb9);have HSV:=Km hsv;clear hb9 hsv;go_wp2_with fail;(with_reducible refine(HDI.out _ _ HB9.out HSV.out).mono ?_);rintro e w10 ⟨hb10,rfl⟩;have HB10:=Km (bstep HB9.out hb10);clear hb10
        by_cases hdt:t<d
        ·have m5:(t:Int)<(d:Int):=by omega
         have HT:Kept (bb=true):=⟨by rw[HB3.out];exact decide_eq_true (fun h=>by have:=h.2.2;omega)⟩;go_wp2
         go_ret
         exact⟨HB10.out,by rw[HT.out];try rfl⟩
        ·have m5: ¬ ((t:Int)<(d:Int)):=by omega
         have HT:Kept (bb=false):=⟨by rw[HB3.out];exact decide_eq_false (fun h=>h ⟨HR0.out,HQ2.out.2,by omega⟩)⟩;go_wp2
         go_ret
         exact⟨HB10.out,by rw[HT.out];try rfl⟩
       ·have m3:k<lu:=by omega
        have m4:(k:Int)<(lu:Int):=by omega
        have HT:Kept (bb=true):=⟨by rw[HB3.out];exact decide_eq_true (fun h=>by have:=h.2.1;rw[HLU.out] at this;omega)⟩;clear hk0;go_wp2
        go_ret
        exact⟨HB8.out,by rw[HT.out];try rfl⟩
      ·have m1:0<lr:=by omega
       have m2:(0:Int)<(lr:Int):=by omega
       have HT:Kept (bb=true):=⟨by rw[HB3.out];exact decide_eq_true (fun h=>by have h1:=HLR.out;rw[h.1] at h1;simp at h1;omega)⟩;clear hr0;go_wp2
       go_ret
       exact⟨HB8.out,by rw[HT.out];try rfl⟩
  ·exact absurd ⟨D,HD.out,rfl⟩ hno'
 )
def cntF (K:List Nat)(u v:List Nat):Nat:=(K.filter fun j=>decide (u[j]?.getD 0≠v[j]?.getD 0)).length
theorem disF_cnt (u v:List Nat)(K:List Nat):∀ n,n<=K.length->disF (ints (K.map fun j=>u[j]?.getD 0)) (ints (K.map fun j=>v[j]?.getD 0)) n=cntF (K.take n) u v
 |0,_=>rfl
 | n+1,hn=>by
   have ih:=disF_cnt u v K n (by omega);have hk:n<K.length:=by omega
   unfold disF;rw[FFld.ints_get,FFld.ints_get,ih,List.take_add_one,List.getElem?_eq_getElem hk];unfold cntF;rw[List.filter_append,List.length_append];simp only[List.getElem?_map,List.getElem?_eq_getElem hk,Option.map_some,Option.getD_some,Option.toList_some,List.filter_cons,List.filter_nil]
   by_cases h:u[K[n]]?.getD 0=v[K[n]]?.getD 0
   ·rw[if_pos (by rw[h]),if_neg (by simpa using h)];rfl
   ·rw[if_neg (show ¬ ((u[K[n]]?.getD 0:Nat):Int)=((v[K[n]]?.getD 0:Nat):Int) from fun e=>h (Int.ofNat.inj e)),if_pos (by simpa using h)];rfl
theorem disF_kp (es:List Int)(n:Nat)(u v:List Nat):disF (ints (kpL es n u)) (ints (kpL es n v)) (kpF es n).length=cntF (kpF es n) u v:=by
 have h:=disF_cnt u v (kpF es n) (kpF es n).length (Nat.le_refl _);rw[List.take_length] at h;exact h
theorem set_lt {q:Nat}{v:List Nat}{k x:Nat}(hv:∀ a∈v,a<q)(hx:x<q):∀ a∈v.set k x,a<q:=fun a ha=>by
 rcases List.mem_or_eq_of_mem_set ha with h|h
 ·exact hv a h
 ·exact h ▸ hx
theorem set_get {v:List Nat}{k x j:Nat}(hj:j≠k):(v.set k x)[j]?.getD 0=v[j]?.getD 0:=by
 rw[List.getElem?_set_ne (fun e=>hj e.symm)]
theorem has_kp (j:Nat):∀ es:List Int,(es.all fun e=>decide (e≠(j:Int)))= !hasB es (j:Int)
 | []=>rfl
 | a::es=>by
   have ih:=has_kp j es;unfold hasB at ih ⊢;rw[List.all_cons,ih,List.any_cons]
   by_cases h:a=(j:Int)<;>simp[h]
theorem kp_has {es:List Int}{n j:Nat} :j∈kpF es n↔j<n/\hasB es (j:Int)=false:=by
 unfold kpF;rw[List.mem_filter,List.mem_range,has_kp];simp
theorem rfit_all (D:FFld.FD)(xs ws ql el:List Nat)(es:List Int):∀ i,rfitP D xs ws ql el es i=(List.range i).all fun j=>hasB es (j:Int)||decide (FFld.hornF D ql (xs[j]?.getD 0) ql.length=FFld.pmul D.p D.k D.m (FFld.hornF D el (xs[j]?.getD 0) el.length) D.k (ws[j]?.getD 0))
 |0=>rfl
 | i+1=>by
   rw[rfitP,rfit_all D xs ws ql el es i,List.range_succ,List.all_append,List.all_cons,List.all_nil,Bool.and_true]
theorem kpL_at {es:List Int}{n:Nat}(xs:List Nat){i:Nat}(hi:i<(kpF es n).length):(kpL es n xs)[i]?.getD 0=xs[(kpF es n)[i]]?.getD 0:=by
 unfold kpL;rw[List.getElem?_map,List.getElem?_eq_getElem hi];rfl
theorem fit_same {D:FFld.FD}{xs ws ql el:List Nat}{es:List Int}{n:Nat}(tq:FFld.Tz ql)(te:FFld.Tz el):fitP D (kpL es n xs) (kpL es n ws) ql el (kpF es n).length=rfitP D xs ws ql el es n:=by
 have hat:∀ i (hi:i<(kpF es n).length) (l:List Nat),FFld.Tz l->(FFld.valsF D l (kpL es n xs) (kpL es n xs).length)[i]?.getD 0=FFld.hornF D l (xs[(kpF es n)[i]]?.getD 0) l.length:=fun i hi l tl=>by
  rw[vals_get l (kpL es n xs) (by rw[kpL_len];exact hi),FFld.trm_self tl,kpL_at xs hi]
 rw[Bool.eq_iff_iff,rfit_all];unfold fitP;rw[List.all_eq_true,List.all_eq_true];constructor
 ·intro h j hj
  cases hh:hasB es (j:Int) with
  |true=>rfl
  | false=>
    obtain⟨i,hi,e⟩:=List.getElem_of_mem (kp_has.2 ⟨List.mem_range.1 hj,hh⟩);have h1:=h i (List.mem_range.2 hi);rw[hat i hi ql tq,hat i hi el te,kpL_at ws hi,e] at h1;exact h1
 ·intro h i hi;have hi' :=List.mem_range.1 hi;rw[hat i hi' ql tq,hat i hi' el te,kpL_at ws hi'];have h2:=kp_has.1 (List.getElem_mem hi');have h1:=h _ (List.mem_range.2 h2.1);rw[h2.2] at h1;exact h1
theorem disK_kp (es:List Int)(u v:List Nat):∀ n,disK (ints u) (ints v) es n=cntF (kpF es n) u v
 |0=>rfl
 | n +1=>by
   have ih:=disK_kp es u v n;rw[kpF_next,has_kp];unfold disK;rw[FFld.ints_get,FFld.ints_get]
   cases hh:hasB es (n:Int) with
   | true=>
     rw[if_pos (.inr rfl),if_neg (by simp)];exact ih
   | false=>
     rw[if_pos (show(!false)=true from rfl)];unfold cntF at ih ⊢;rw[List.filter_append,List.length_append,List.filter_cons,List.filter_nil,ih]
     by_cases h:u[n]?.getD 0=v[n]?.getD 0
     ·rw[if_pos (.inl (by rw[h])),if_neg (by simpa using h)];rfl
     ·rw[if_neg (fun h2=>h2.elim (fun e=>h (Int.ofNat.inj e)) (fun e=>by cases e)),if_pos (by simpa using h)];rfl
theorem dis_same {D:FFld.FD}(P:List Nat)(es:List Int){xs:List Nat}(ws:List Nat){n:Nat}(lx:xs.length=n):disF (ints (FFld.valsF D P (kpL es n xs) (kpL es n xs).length)) (ints (kpL es n ws)) (kpL es n xs).length=disK (ints (FFld.valsF D P xs n)) (ints ws) es n:=by
 rw[vals_kp P es lx,kpL_len,disF_kp,disK_kp]
end Go.Proofs.YtdnheaafcbihbaaGreat
