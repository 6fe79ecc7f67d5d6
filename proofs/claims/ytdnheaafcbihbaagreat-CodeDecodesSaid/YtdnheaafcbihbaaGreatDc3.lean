/-
  Texts of the proof, merged by program: Fp Fq Ft Fu Fw Ma Dg Sl Row.
-/
import Derived.Test.YtdnheaafcbihbaaGreatDc2
import Derived.WalkKit
import Derived.WalkSpells
import Derived.WalkLawsBesides
import Derived.Lib.Hide
set_option linter.unusedSectionVars false
set_option linter.unusedSimpArgs false
set_option linter.unusedVariables false
set_option maxHeartbeats 16000000
namespace Go.Proofs.YtdnheaafcbihbaaGreat
namespace FFld
structure Facs (n:Nat)(l:List Nat):Prop where
 mem:∀ f,f∈l↔Prime f/\f∣n
 nodup:l.Nodup
 len:l.length<=300
structure PfAt (n0 d n:Nat)(l:List Nat):Prop where
 n1:1<=n
 dv:n∣n0
 mem:∀ f,f∈l->Prime f/\f∣n0/\f<d
 all:∀ f,Prime f->f∣n0->f∈l\/f∣n
 non:∀ i,2<=i->i<d-> ¬ i∣n
 nodup:l.Nodup
 len:l.length+1<=d
theorem PfAt.start {n:Nat}(h:1<=n):PfAt n 2 n []:=⟨h,Nat.dvd_refl _,fun f h=>by simp at h,fun f _ h=> .inr h,fun i h1 h2=>by omega,List.nodup_nil,by simp⟩
theorem PfAt.prime {n0 d n:Nat}{l:List Nat}(h:PfAt n0 d n l)(h2:2<=d)(hd:d∣n):Prime d:=prime_least h2 hd h.non
structure PgAt (n0 d n:Nat)(l:List Nat):Prop where
 n1:1<=n
 dv:n∣n0
 mem:∀ f,f∈l->Prime f/\f∣n0/\f<d+1
 all:∀ f,Prime f->f∣n0->f∈l\/f∣n
 non:∀ i,2<=i->i<d-> ¬ i∣n
 nodup:l.Nodup
 len:l.length+1<=d+1
 has:d∣n->d∈l
theorem PfAt.put {n0 d n:Nat}{l:List Nat}(h:PfAt n0 d n l)(h2:2<=d)(hd:d∣n):PgAt n0 d n (l++ [d]):=by
 refine⟨h.n1,h.dv,fun f hf=> ?_,fun f hp hf=> ?_,h.non,?_,by have:=h.len;simp;omega,fun _=>by simp⟩
 ·rcases List.mem_append.1 hf with h1|h1
  ·obtain⟨a,b,c⟩:=h.mem f h1;exact⟨a,b,by omega⟩
  ·rw[List.mem_singleton.1 h1];exact⟨h.prime h2 hd,Nat.dvd_trans hd h.dv,by omega⟩
 ·rcases h.all f hp hf with h1|h1
  ·exact .inl (List.mem_append_left _ h1)
  ·exact .inr h1
 ·rw[List.nodup_append];refine⟨h.nodup,by simp,fun a ha b hb e=> ?_⟩;rw[List.mem_singleton.1 hb] at e;have:=(h.mem a ha).2.2;omega
theorem PfAt.skip {n0 d n:Nat}{l:List Nat}(h:PfAt n0 d n l)(hd: ¬ d∣n):PgAt n0 d n l:=
 ⟨h.n1,h.dv,fun f hf=>by obtain⟨a,b,c⟩:=h.mem f hf;exact⟨a,b,by omega⟩,h.all,h.non,h.nodup,by have:=h.len;omega,fun h=>absurd h hd⟩
theorem PgAt.next {n0 d n:Nat}{l:List Nat}(h:PgAt n0 d n l)(h2:2<=d)(hd:d∣n):PgAt n0 d (n/d) l:=by
 have e:n=d*(n/d):=(Nat.mul_div_cancel' hd).symm;have hn:=h.n1;have hdv:n/d∣n:=⟨d,by rw[Nat.mul_comm];exact e⟩;refine⟨?_,Nat.dvd_trans hdv h.dv,h.mem,fun f hp hf=> ?_,fun i h1 h2 h3=>h.non i h1 h2 (Nat.dvd_trans h3 hdv),h.nodup,h.len,fun _=>h.has hd⟩
 ·rcases Nat.eq_zero_or_pos (n/d) with h0|h0
  ·rw[h0] at e;omega
  ·exact h0
 ·rcases h.all f hp hf with h1|h1
  ·exact .inl h1
  ·rw[e] at h1
   rcases hp.dvd_mul h1 with h3|h3
   ·have hpd:=(h.mem d (h.has hd)).1
    rcases hpd.2 f h3 with h4|h4
    ·have:=hp.1;omega
    ·rw[h4];exact .inl (h.has hd)
   ·exact .inr h3
theorem PgAt.done {n0 d n:Nat}{l:List Nat}(h:PgAt n0 d n l)(hd: ¬ d∣n):PfAt n0 (d+1) n l:=
 ⟨h.n1,h.dv,h.mem,h.all,fun i h1 h2 h3=>by
  by_cases e:i=d
  ·subst e;exact hd h3
  ·exact h.non i h1 (by omega) h3,h.nodup,h.len⟩
theorem PfAt.last {n0 d n:Nat}{l:List Nat}(h:PfAt n0 d n l)(h2:2<=d)(hn:n<d*d)(hn1:1<n)(hl:l.length<=299):Facs n0 (l++ [n]):=by
 have hp:Prime n:=by rw[<- isP_iff,isP_none h2 h.non hn];exact decide_eq_true hn1
 refine⟨fun f=>⟨fun hf=> ?_,fun hf=> ?_⟩,?_,by simp;omega⟩
 ·rcases List.mem_append.1 hf with h1|h1
  ·exact⟨(h.mem f h1).1,(h.mem f h1).2.1⟩
  ·rw[List.mem_singleton.1 h1];exact⟨hp,h.dv⟩
 ·rcases h.all f hf.1 hf.2 with h1|h1
  ·exact List.mem_append_left _ h1
  ·rcases hp.2 f h1 with h3|h3
   ·have:=hf.1.1;omega
   ·rw[h3];simp
 ·rw[List.nodup_append];refine⟨h.nodup,by simp,fun a ha b hb e=> ?_⟩;rw[List.mem_singleton.1 hb] at e;obtain⟨ha1,_,ha3⟩:=h.mem a ha;subst e;exact h.non a ha1.1 ha3 (Nat.dvd_refl _)
theorem PfAt.full {n0 d:Nat}{l:List Nat}(h:PfAt n0 d 1 l)(hl:l.length<=300):Facs n0 l:=
 ⟨fun f=>⟨fun hf=>⟨(h.mem f hf).1,(h.mem f hf).2.1⟩,fun hf=>by
  rcases h.all f hf.1 hf.2 with h1|h1
  ·exact h1
  ·have:=Nat.le_of_dvd (by omega) h1;have:=hf.1.1;omega⟩,h.nodup,hl⟩
theorem Facs.one {n p:Nat}(h:Facs n [p]):Prime p/\p∣n/\ ∀ f,Prime f->f∣n->f=p:=by
 have:=(h.mem p).1 (by simp);exact⟨this.1,this.2,fun f h1 h2=>by simpa using(h.mem f).2 ⟨h1,h2⟩⟩
theorem Facs.two {n p q:Nat}{l:List Nat}(h:Facs n (p::q::l)): ¬ Fit (n:Int):=by
 have h1:=(h.mem p).1 (by simp);have h2:=(h.mem q).1 (by simp);refine Fit.more h1.1 h2.1 (fun e=> ?_) h1.2 h2.2;have:=h.nodup;subst e;simp at this
theorem Facs.nil {n:Nat}(h:Facs n [])(hn:2<=n):False:=by
 obtain⟨f,hf,hd⟩:=exists_prime n hn;have:=(h.mem f).2 ⟨hf,hd⟩;simp at this
end FFld
end Go.Proofs.YtdnheaafcbihbaaGreat
namespace Go.Proofs.YtdnheaafcbihbaaGreat
namespace FFld
theorem ofd_split (p:Nat)(f:Nat->Nat)(j:Nat):∀ n,ofd p f (j+n)=ofd p f j+p ^ j*ofd p (fun i=>f (i+j)) n:=by
 intro n
 induction n with
 |zero=>simp[ofd]
 | succ n ih=>
   rw[<- Nat.add_assoc,ofd_succ,ih,ofd_succ,Nat.mul_add,Nat.add_assoc,Nat.pow_add,Nat.mul_assoc]
   congr 3
   rw[Nat.add_comm]
theorem DlAt.top {p k j n u a:Nat}{f:Nat->Nat}(h:DlAt p f k j n u)(hp:2<=p)(ha:a<p ^ k)(hf:∀ i,j<=i->f i=dig p a i):n+a/p ^ j*u=ofd p f k:=by
 have hjk:=h.jk;obtain⟨r,rfl⟩:∃ r,k=j+r:=⟨k-j,by omega⟩;rw[ofd_split,<- h.n,h.u,Nat.mul_comm]
 congr 2
 have hlt:a/p ^ j<p ^ r:=by
  rw[Nat.pow_add] at ha;exact Nat.div_lt_of_lt_mul ha
 rw[<- ofd_dig (by omega) r _ hlt];refine ofd_congr r fun i _=> ?_
 rw[hf (i+j) (by omega)];unfold dig;rw[Nat.div_div_eq_div_mul,<- Nat.pow_add,Nat.add_comm j i]
theorem pmul_fuel {p k m:Nat}(h:PK p k m)(a:Nat):∀ (n c:Nat),c<p ^ n->pmul p k m a (n+1) c=pmul p k m a n c:=by
 intro n
 induction n with
 |zero=>intro c hc;simp at hc;subst hc;rw[pmul_zero_right h];rfl
 | succ n ih=>
   intro c hc;have h1:=ih (c/p) (div_lt_pow h.p0 hc)
   show padd p k (pscl p k (c%p) a) (pshf p k m (pmul p k m a (n+1) (c/p)))=padd p k (pscl p k (c%p) a) (pshf p k m (pmul p k m a n (c/p)))
   rw[h1]
theorem pmul_step {p k m:Nat}(h:PK p k m)(a b:Nat)(hb:b<p ^ k):pmul p k m a k b=padd p k (pscl p k (b%p) a) (pshf p k m (pmul p k m a k (b/p))):=by
 obtain⟨n,rfl⟩:∃ n,k=n+1:=⟨k-1,by have:=h.k1;omega⟩;have h1:=pmul_fuel h a n (b/p) (div_lt_pow h.p0 hb);rw[h1];rfl
theorem pshf_over {p k m:Nat}(h:PK p k m)(a:Nat)(ha:a<p ^ k)(h1:p ^ k<=m)(h2:m<2*p ^ k):
 pshf p k m a=padd p k (a%p ^ (k-1)*p) (pscl p k (a/p ^ (k-1)) (pscl p k (p-1) (m-p ^ k))):=by
 have hk:=h.k1;refine dig_ext h.p0 k _ _ (pshf_lt h _) (padd_lt h _ _) fun i hi=> ?_
 rw[dig_pshf h _ _ hi,dig_padd h _ _ _ hi,dig_pscl h _ _ _ hi,neg_dig h];rw[dig_ofd k _ i (fun _=>Nat.mod_lt _ h.p0) hi]
 have hprv:dig p (a%p ^ (k-1)*p) i=prv p a i:=by
  cases i with
  |zero=>rw[dig_zero,Nat.mul_mod_left];rfl
  | succ i=>
    rw[dig_succ,Nat.mul_div_cancel _ h.p0];simp only[prv];unfold dig;obtain⟨r,hr⟩:∃ r,k-1=i+(r+1):=⟨k-2-i,by omega⟩;rw[hr,Nat.pow_add,Nat.mod_mul_right_div_self,Nat.pow_succ',Nat.mod_mul_right_mod]
 have htop:dig p a (k-1)=a/p ^ (k-1):=by
  unfold dig;refine Nat.mod_eq_of_lt (Nat.div_lt_of_lt_mul ?_);rw[<- Nat.pow_succ,show(k-1).succ=k from by omega];exact ha
 have hdm:dig p (m-p ^ k) i=dig p m i:=by
  unfold dig;obtain⟨lo,hlo⟩:∃ lo,m=p ^ k+lo:=⟨m-p ^ k,by omega⟩;obtain⟨r,hr⟩:∃ r,k=i+(r+1):=⟨k-1-i,by omega⟩;rw[hlo,Nat.add_sub_cancel_left,hr,Nat.pow_add,Nat.mul_add_div (Nat.pow_pos h.p0),Nat.pow_succ',Nat.mul_add_mod]
 rw[hprv,htop,hdm];generalize a/p ^ (k-1)=x;generalize p-dig p m i=d;rw[Nat.mod_mul_mod,Nat.add_mod_mod,Nat.mul_comm]
theorem last_eq {p k:Nat}(hp:2<=p)(hk:1<=k):p ^ k/p=p ^ (k-1):=by
 obtain⟨n,rfl⟩:∃ n,k=n+1:=⟨k-1,by omega⟩;rw[Nat.pow_succ,Nat.mul_div_cancel _ (by omega)];rfl
theorem padd_xor {k m:Nat}(h:PK 2 k m)(a b:Nat)(ha:a<2 ^ k)(hb:b<2 ^ k):padd 2 k a b=a ^^^ b:=by
 refine dig_ext h.p0 k _ _ (padd_lt h _ _) (Nat.xor_lt_two_pow ha hb) fun i hi=> ?_
 rw[dig_padd h _ _ _ hi]
 have key:∀ x:Nat,dig 2 x i=(x.testBit i).toNat:=fun x=>by
  unfold dig;rw[Nat.testBit_eq_decide_div_mod_eq];have:=Nat.mod_two_eq_zero_or_one (x/2 ^ i)
  rcases this with e|e<;>rw[e]<;>rfl
 rw[key,key,key,Nat.testBit_xor]
 cases a.testBit i<;>cases b.testBit i<;>rfl
end FFld
end Go.Proofs.YtdnheaafcbihbaaGreat
namespace Go.Proofs.YtdnheaafcbihbaaGreat
namespace FFld
section
variable {p k m : Nat} (h : PK p k m)
include h
theorem ppow_zero (a:Nat)(ha:a<p ^ k):ppow h a 0=1:=by rw[ppow_of h a 0 ha];rfl
theorem ppow_one (a:Nat)(ha:a<p ^ k):ppow h a 1=a:=by
 rw[ppow_of h a 1 ha];simp only[Rng.pow];rw[(rng h).one_mul]
theorem ppow_succ (a n:Nat)(ha:a<p ^ k):ppow h a (n+1)=pmul p k m (ppow h a n) k a:=by
 rw[ppow_of h a _ ha,ppow_of h a _ ha];rfl
theorem ppow_add (a i j:Nat)(ha:a<p ^ k):pmul p k m (ppow h a i) k (ppow h a j)=ppow h a (i+j):=by
 rw[ppow_of h a _ ha,ppow_of h a _ ha,ppow_of h a _ ha,(rng h).pow_add];rfl
theorem ppow_mul (a i n:Nat)(ha:a<p ^ k):ppow h (ppow h a i) n=ppow h a (i*n):=by
 rw[ppow_of h a (i*n) ha,(rng h).pow_mul,ppow_of h (ppow h a i) n (ppow_lt h a i)]
 congr 2
 exact Subtype.ext (ppow_of h a i ha)
end
theorem FD.Ok.g_ne {D:FD}(h:D.Ok):(⟨D.g,h.gq⟩:El (D.p ^ D.k))≠(FD.dom h.nzd).zero:=fun e=>by
 have:D.g=0:=congrArg Subtype.val e;have:=h.g1;omega
theorem FD.Ok.cycle {D:FD}(h:D.Ok):ppow h.pre.pk D.g (D.p ^ D.k-1)=1:=by
 rw[ppow_of _ _ _ h.gq,<- dom_pow h.nzd,(h.ord _).2 (Nat.dvd_refl _)];rfl
theorem FD.Ok.pow_mod {D:FD}(h:D.Ok)(n:Nat):ppow h.pre.pk D.g (n%(D.p ^ D.k-1))=ppow h.pre.pk D.g n:=by
 have hc:=h.cycle;rw[ppow_of _ _ _ h.gq] at hc
 conv=>rhs;rw[ppow_of _ _ _ h.gq,<- Nat.mod_add_div n (D.p ^ D.k-1),(rng h.pre.pk).pow_add,(rng h.pre.pk).pow_mul,(Subtype.ext hc:(rng h.pre.pk).pow ⟨D.g,h.gq⟩ (D.p ^ D.k-1)=(rng h.pre.pk).one),(rng h.pre.pk).one_pow,(rng h.pre.pk).mul_one]
 rw[ppow_of _ _ _ h.gq]
theorem FD.Ok.log {D:FD}(h:D.Ok)(a:Nat)(ha:a<D.p ^ D.k)(h0:a≠0):∃ n,n<D.p ^ D.k-1/\ppow h.pre.pk D.g n=a:=by
 have hall:=nzl_all h.nzd;have hlen:=nzl_len (D.p ^ D.k);obtain⟨n,hn,e⟩:=(FD.dom h.nzd).exists_log hall h.g_ne (by rw[hlen];exact h.ord) (a:=⟨a,ha⟩) (fun e=>h0 (congrArg Subtype.val e));rw[hlen] at hn;refine⟨n,hn,?_⟩;rw[ppow_of _ _ _ h.gq,<- dom_pow h.nzd,e]
theorem FD.Ok.pow_ne {D:FD}(h:D.Ok)(n:Nat):ppow h.pre.pk D.g n≠0:=by
 rw[ppow_of _ _ _ h.gq,<- dom_pow h.nzd];intro e;exact(FD.dom h.nzd).pow_ne h.g_ne n (Subtype.ext e)
theorem FD.Ok.pow_inj {D:FD}(h:D.Ok){i j:Nat}(hi:i<D.p ^ D.k-1)(hj:j<D.p ^ D.k-1)(e:ppow h.pre.pk D.g i=ppow h.pre.pk D.g j):i=j:=by
 rw[ppow_of _ _ _ h.gq,ppow_of _ _ _ h.gq,<- dom_pow h.nzd,<- dom_pow h.nzd] at e;exact(FD.dom h.nzd).pow_inj h.g_ne h.ord hi hj (Subtype.ext e)
structure TabOk (D:FD)(h:D.Ok)(P L:List Nat):Prop where
 pl:P.length=D.p ^ D.k-1
 pw:∀ i,i<D.p ^ D.k-1->P[i]?.getD 0=ppow h.pre.pk D.g i
 ll:L.length=D.p ^ D.k
 lg:∀ a,a<D.p ^ D.k->a≠0->L[a]?.getD 0<D.p ^ D.k-1/\ppow h.pre.pk D.g (L[a]?.getD 0)=a
theorem TabOk.product {D:FD}{h:D.Ok}{P L:List Nat}(t:TabOk D h P L)(a b:Nat)(ha:a<D.p ^ D.k)(hb:b<D.p ^ D.k)(a0:a≠0)(b0:b≠0):ppow h.pre.pk D.g (L[a]?.getD 0+L[b]?.getD 0)=pmul D.p D.k D.m a D.k b:=by
 rw[<- ppow_add h.pre.pk _ _ _ h.gq,(t.lg a ha a0).2,(t.lg b hb b0).2]
theorem TabOk.power {D:FD}{h:D.Ok}{P L:List Nat}(t:TabOk D h P L)(a n:Nat)(ha:a<D.p ^ D.k)(a0:a≠0):ppow h.pre.pk D.g (L[a]?.getD 0*n)=ppow h.pre.pk a n:=by
 rw[<- ppow_mul h.pre.pk _ _ _ h.gq,(t.lg a ha a0).2]
theorem padd_one {p k m:Nat}(h:PK p k m)(t:Nat)(ht:t<p ^ k):padd p k t 1=if t%p=p-1 then t+1-p else t+1:=by
 have hp:=h.p2;have hk:=h.k1;have hdiv:=Nat.div_add_mod t p;have hml:=Nat.mod_lt t h.p0
 have hlt:(if t%p=p-1 then t+1-p else t+1)<p ^ k:=by
  split
  ·omega
  ·rcases Nat.lt_or_ge (t+1) (p ^ k) with hl|hl
   ·exact hl
   ·exfalso;have e:t+1=p ^ k:=by omega
    obtain⟨n,rfl⟩:∃ n,k=n+1:=⟨k-1,by omega⟩;have hm:(t+1)%p=0:=by rw[e,Nat.pow_succ,Nat.mul_mod_left]
    rename_i hne
    have:(t+1)%p=t%p+1:=by
     conv=>lhs;rw[<- hdiv,Nat.add_assoc,Nat.mul_add_mod]
     exact Nat.mod_eq_of_lt (by omega)
    omega
 refine dig_ext h.p0 k _ _ (padd_lt h _ _) hlt fun i hi=> ?_
 rw[dig_padd h _ _ _ hi]
 cases i with
 | zero=>
   rw[dig_zero,dig_zero,dig_zero,Nat.mod_eq_of_lt (show 1<p by omega)]
   split
   ·rename_i e
    rw[e,show p-1+1=p from by omega,Nat.mod_self];have e1:t+1-p=p*(t/p):=by omega
    rw[e1,Nat.mul_mod_right]
   ·rename_i e
    rw[Nat.mod_eq_of_lt (show t%p+1<p by omega)]
    conv=>rhs;rw[<- hdiv,Nat.add_assoc,Nat.mul_add_mod]
    exact(Nat.mod_eq_of_lt (by omega)).symm
 | succ i=>
   rw[dig_succ p 1,Nat.div_eq_of_lt (show 1<p by omega),dig_of_zero,Nat.add_zero,dig_mod,dig_succ,dig_succ]
   congr 1
   split
   ·have e1:t+1-p=p*(t/p):=by omega
    rw[e1,Nat.mul_div_cancel_left _ h.p0]
   ·rename_i e
    conv=>rhs;rw[<- hdiv,Nat.add_assoc,Nat.mul_add_div h.p0,Nat.div_eq_of_lt (show t%p+1<p by omega),Nat.add_zero]
theorem padd_comm' (p k a b:Nat):padd p k a b=padd p k b a:=ofd_congr k fun i _=>by rw[Nat.add_comm]
theorem TabOk.sum {D:FD}{h:D.Ok}{P L:List Nat}(t:TabOk D h P L)(a b:Nat)(ha:a<D.p ^ D.k)(hb:b<D.p ^ D.k)(a0:a≠0)(b0:b≠0):
 ∃ r,ppow h.pre.pk D.g (L[b]?.getD 0+(D.p ^ D.k-1)-L[a]?.getD 0)=r/\r<D.p ^ D.k/\r≠0/\pmul D.p D.k D.m a D.k (padd D.p D.k r 1)=padd D.p D.k a b:=by
 have hpk:=h.pre.pk;obtain⟨ha1,ha2⟩:=t.lg a ha a0;obtain⟨hb1,hb2⟩:=t.lg b hb b0;refine⟨_,rfl,ppow_lt _ _ _,h.pow_ne _,?_⟩;generalize L[a]?.getD 0=la at*;generalize L[b]?.getD 0=lb at*
 have hr:pmul D.p D.k D.m a D.k (ppow hpk D.g (lb+(D.p ^ D.k-1)-la))=b:=by
  rw[show pmul D.p D.k D.m a D.k (ppow hpk D.g (lb+(D.p ^ D.k-1)-la))=pmul D.p D.k D.m (ppow hpk D.g la) D.k (ppow hpk D.g (lb+(D.p ^ D.k-1)-la)) from by rw[ha2]];rw[ppow_add hpk _ _ _ h.gq,<- h.pow_mod,show la+(lb+(D.p ^ D.k-1)-la)=lb+(D.p ^ D.k-1) from by omega,Nat.add_mod_right,h.pow_mod,hb2]
 rw[pmul_comm hpk a _ ha (padd_lt hpk _ _),pmul_add hpk,pmul_comm hpk _ a (ppow_lt hpk _ _) ha,hr,pmul_one hpk _ (Nat.le_refl _) a ha,padd_comm']
end FFld
end Go.Proofs.YtdnheaafcbihbaaGreat
namespace Go.Proofs.YtdnheaafcbihbaaGreat
namespace FFld
structure TfAt (D:FD)(h:D.Ok)(P L:List Nat)(n a:Nat):Prop where
 pl:P.length=D.p ^ D.k-1
 pw:∀ i,i<n->P[i]?.getD 0=ppow h.pre.pk D.g i
 ll:L.length=D.p ^ D.k
 lg:∀ i,i<n->L[ppow h.pre.pk D.g i]?.getD 0=i
 cur:a=ppow h.pre.pk D.g n
 le:n<=D.p ^ D.k-1
theorem TfAt.start {D:FD}(h:D.Ok):TfAt D h (List.replicate (D.p ^ D.k-1) 0) (List.replicate (D.p ^ D.k) 0) 0 1:=
 ⟨by simp,fun i hi=>by omega,by simp,fun i hi=>by omega,(ppow_zero h.pre.pk _ h.gq).symm,by omega⟩
theorem TfAt.next {D:FD}{h:D.Ok}{P L:List Nat}{n a:Nat}(t:TfAt D h P L n a)(hn:n<D.p ^ D.k-1):TfAt D h (P.set n a) (L.set a n) (n+1) (pmul D.p D.k D.m a D.k D.g):=by
 have ha:a<D.p ^ D.k:=by rw[t.cur];exact ppow_lt _ _ _
 refine⟨by rw[List.length_set];exact t.pl,fun i hi=> ?_,by rw[List.length_set];exact t.ll,fun i hi=> ?_,?_,by omega⟩
 ·by_cases e:i=n
  ·subst e;rw[List.getElem?_set_self (by rw[t.pl];exact hn),Option.getD_some];exact t.cur
  ·rw[List.getElem?_set_ne (by omega)];exact t.pw i (by omega)
 ·by_cases e:i=n
  ·subst e;rw[<- t.cur,List.getElem?_set_self (by rw[t.ll];exact ha),Option.getD_some]
  ·have hne:a≠ppow h.pre.pk D.g i:=fun e2=>by
    rw[t.cur] at e2;exact e (h.pow_inj (by omega) hn e2.symm)
   rw[List.getElem?_set_ne hne];exact t.lg i (by omega)
 ·rw[ppow_succ h.pre.pk _ _ h.gq,<- t.cur]
theorem TfAt.done {D:FD}{h:D.Ok}{P L:List Nat}{a:Nat}(t:TfAt D h P L (D.p ^ D.k-1) a):TabOk D h P L:=
 ⟨t.pl,t.pw,t.ll,fun x hx h0=>by
  obtain⟨n,hn,e⟩:=h.log x hx h0;have:=t.lg n hn;rw[e] at this;rw[this]
  exact⟨hn,e⟩⟩
theorem TfAt.cur_lt {D:FD}{h:D.Ok}{P L:List Nat}{n a:Nat}(t:TfAt D h P L n a):a<D.p ^ D.k:=by rw[t.cur];exact ppow_lt _ _ _
end FFld
end Go.Proofs.YtdnheaafcbihbaaGreat
namespace Go.Proofs.YtdnheaafcbihbaaGreat
namespace FFld
def addmF (D:FD)(xs:List Nat)(s:Nat)(q:List Nat)(c:Nat):Nat->List Nat
 |0=>xs
 |j+1=>(addmF D xs s q c j).set (s+j) (padd D.p D.k ((addmF D xs s q c j)[s+j]?.getD 0) (pmul D.p D.k D.m (q[j]?.getD 0) D.k c))
def addm (D:FD)(xs:List Nat)(s:Nat)(q:List Nat)(c:Nat):List Nat:=addmF D xs s q c q.length
theorem addmF_len (D:FD)(xs:List Nat)(s:Nat)(q:List Nat)(c j:Nat):(addmF D xs s q c j).length=xs.length:=by
 induction j with
 |zero=>rfl
 |succ j ih=>simp only[addmF,List.length_set,ih]
theorem addm_len (D:FD)(xs:List Nat)(s:Nat)(q:List Nat)(c:Nat):(addm D xs s q c).length=xs.length:=addmF_len D xs s q c _
theorem addmF_lt {D:FD}(hk:PK D.p D.k D.m){xs:List Nat}(s:Nat)(q:List Nat)(c j:Nat)(hx:∀ a∈xs,a<D.p ^ D.k):∀ a∈addmF D xs s q c j,a<D.p ^ D.k:=by
 induction j with
 |zero=>exact hx
 |succ j ih=>exact mem_set ih (padd_lt hk _ _)
theorem addmF_old (D:FD)(xs:List Nat)(s:Nat)(q:List Nat)(c j i:Nat)(h:i<s\/s+j<=i):(addmF D xs s q c j)[i]?.getD 0=xs[i]?.getD 0:=by
 induction j with
 |zero=>rfl
 | succ j ih=>
   simp only[addmF];rw[List.getElem?_set_ne (by omega)];exact ih (by omega)
theorem addmF_zero {D:FD}(hk:PK D.p D.k D.m){xs:List Nat}(s:Nat)(q:List Nat)(j:Nat)(hx:∀ a∈xs,a<D.p ^ D.k)(hs:s+j<=xs.length):addmF D xs s q 0 j=xs:=by
 induction j with
 |zero=>rfl
 | succ j ih=>
   simp only[addmF];rw[ih (by omega),pmul_zero_right hk,padd_zero hk _ (getD_lt (Nat.pow_pos hk.p0) hx _)]
   apply List.ext_getElem?
   intro i
   by_cases e:s+j=i
   ·subst e;rw[List.getElem?_set_self (by omega),List.getElem?_eq_getElem (by omega)];rfl
   ·rw[List.getElem?_set_ne e]
def divF (D:FD)(q:List Nat)(inv n:Nat)(p:List Nat):Nat->List Nat
 |0=>p
 |t+1=>addm D (divF D q inv n p t) (n-1-t) q (pscl D.p D.k (D.p-1) (pmul D.p D.k D.m ((divF D q inv n p t)[n-1-t+(q.length-1)]?.getD 0) D.k inv))
def divQ (D:FD)(q:List Nat)(inv n:Nat)(p:List Nat)(t:Nat):Nat:=pmul D.p D.k D.m ((divF D q inv n p t)[n-1-t+(q.length-1)]?.getD 0) D.k inv
theorem divF_len (D:FD)(q:List Nat)(inv n:Nat)(p:List Nat)(t:Nat):(divF D q inv n p t).length=p.length:=by
 induction t with
 |zero=>rfl
 |succ t ih=>simp only[divF];rw[addm_len,ih]
theorem divF_lt {D:FD}(hk:PK D.p D.k D.m)(q:List Nat)(inv n:Nat){p:List Nat}(t:Nat)(hp:∀ a∈p,a<D.p ^ D.k):∀ a∈divF D q inv n p t,a<D.p ^ D.k:=by
 induction t with
 |zero=>exact hp
 |succ t ih=>exact addmF_lt hk _ _ _ _ ih
end FFld
end Go.Proofs.YtdnheaafcbihbaaGreat
namespace Go.Proofs.YtdnheaafcbihbaaGreat
namespace FFld
def exch {α:Type}(d:α)(A:List α)(i j:Nat):List α:=(A.set i (A[j]?.getD d)).set j (A[i]?.getD d)
theorem exch_len {α:Type}(d:α)(A:List α)(i j:Nat):(exch d A i j).length=A.length:=by simp[exch]
theorem exch_get {α:Type}(d:α)(A:List α){i j:Nat}(hi:i<A.length)(hj:j<A.length)(k:Nat):(exch d A i j)[k]? =A[if k=j then i else if k=i then j else k]? :=by
 unfold exch
 by_cases h1:k=j
 ·subst h1;rw[if_pos rfl,List.getElem?_set_self (by simpa using hj),List.getElem?_eq_getElem hi];rfl
 ·rw[if_neg h1,List.getElem?_set_ne (fun e=>h1 e.symm)]
  by_cases h2:k=i
  ·subst h2;rw[if_pos rfl,List.getElem?_set_self hi,List.getElem?_eq_getElem hj];rfl
  ·rw[if_neg h2,List.getElem?_set_ne (fun e=>h2 e.symm)]
theorem exch_mem {α:Type}(d:α)(A:List α){i j:Nat}(hi:i<A.length)(hj:j<A.length){a:α}(h:a∈exch d A i j):a∈A:=by
 obtain⟨k,hk⟩:=List.mem_iff_getElem?.1 h;rw[exch_get d A hi hj] at hk;exact List.mem_iff_getElem?.2 ⟨_,hk⟩
def rowMul (D:FD)(l:List Nat)(c:Nat):List Nat:=l.map fun a=>pmul D.p D.k D.m a D.k c
theorem rowMul_len (D:FD)(l:List Nat)(c:Nat):(rowMul D l c).length=l.length:=by simp[rowMul]
theorem rowMul_get (D:FD)(l:List Nat)(c i:Nat)(hi:i<l.length):(rowMul D l c)[i]?.getD 0=pmul D.p D.k D.m (l[i]?.getD 0) D.k c:=by simp[rowMul,hi]
def rowMulF (D:FD)(l:List Nat)(c:Nat):Nat->List Nat
 |0=>l
 |j+1=>(rowMulF D l c j).set j (pmul D.p D.k D.m ((rowMulF D l c j)[j]?.getD 0) D.k c)
theorem rowMulF_len (D:FD)(l:List Nat)(c j:Nat):(rowMulF D l c j).length=l.length:=by
 induction j with
 |zero=>rfl
 |succ j ih=>simp only[rowMulF,List.length_set,ih]
theorem rowMulF_get (D:FD)(l:List Nat)(c:Nat):∀ (j i:Nat),j<=l.length->(rowMulF D l c j)[i]? =if i<j then(rowMul D l c)[i]? else l[i]?
 |0,i,_=>by simp[rowMulF]
 | j+1,i,hj=>by
   have ih:=fun i=>rowMulF_get D l c j i (by omega)
   simp only[rowMulF]
   by_cases e:j=i
   ·subst e;rw[List.getElem?_set_self (by rw[rowMulF_len];omega),if_pos (by omega),ih,if_neg (by omega)];simp[rowMul,show j<l.length by omega]
   ·rw[List.getElem?_set_ne e,ih]
    by_cases h:i<j
    ·rw[if_pos h,if_pos (by omega)]
    ·rw[if_neg h,if_neg (by omega)]
theorem rowMulF_all (D:FD)(l:List Nat)(c:Nat):rowMulF D l c l.length=rowMul D l c:=by
 apply List.ext_getElem?
 intro i;rw[rowMulF_get D l c _ i (Nat.le_refl _)]
 by_cases h:i<l.length
 ·rw[if_pos h]
 ·rw[if_neg h,List.getElem?_eq_none (by omega),List.getElem?_eq_none (by rw[rowMul_len];omega)]
theorem rowMulF_lt {D:FD}(hk:PK D.p D.k D.m){l:List Nat}(c j:Nat)(h:∀ a∈l,a<D.p ^ D.k):∀ a∈rowMulF D l c j,a<D.p ^ D.k:=by
 induction j with
 |zero=>exact h
 |succ j ih=>exact mem_set ih (pmul_lt hk _ _ _)
def negF (D:FD)(t:Nat):Nat:=pscl D.p D.k (D.p-1) t
def rowAt (A:List (List Nat))(i:Nat):List Nat:=A[i]?.getD []
def cellAt (A:List (List Nat))(i c:Nat):Nat:=(rowAt A i)[c]?.getD 0
def mulAt (D:FD)(A:List (List Nat))(i c:Nat):List (List Nat):=A.set i (rowMul D (rowAt A i) c)
def subAt (D:FD)(A:List (List Nat))(i j t:Nat):List (List Nat):=A.set i (addm D (rowAt A i) 0 (rowAt A j) (negF D t))
def subsF (D:FD)(top c:Nat)(s:List (List Nat) × List (List Nat)):Nat->List (List Nat) × List (List Nat)
 |0=>s
 |i+1=>if i=top then subsF D top c s i else(subAt D (subsF D top c s i).1 i top (cellAt (subsF D top c s i).1 i c),subAt D (subsF D top c s i).2 i top (cellAt (subsF D top c s i).1 i c))
def piv (A:List (List Nat))(c:Nat):Nat->Nat->Nat
 |0,r=>r
 |f+1,r=>if cellAt A r c=0 then piv A c f (r+1) else r
theorem piv_le (A:List (List Nat))(c:Nat):∀ f r,r<=piv A c f r/\piv A c f r<=r+f
 |0,r=>⟨Nat.le_refl _,Nat.le_refl _⟩
 | f+1,r=>by
   unfold piv
   split
   ·have:=piv_le A c f (r+1);omega
   ·omega
structure ESt where
 A:List (List Nat)
 R:List (List Nat)
 cols:List Nat
def stepF (D:FD)(h:PK D.p D.k D.m)(c:Nat)(s:ESt):ESt:=
 let top:=s.cols.length
 let row:=piv s.A c (s.A.length-top) top
 if row=s.A.length then s else
  let A1:=exch [] s.A top row
  let R1:=exch [] s.R top row
  let inv:=ppow h (cellAt A1 top c) (D.q-2)
  let t:=subsF D top c (mulAt D A1 top inv,mulAt D R1 top inv) s.A.length
  ⟨t.1,t.2,s.cols++ [c]⟩
def elimF (D:FD)(h:PK D.p D.k D.m)(s:ESt):Nat->ESt
 |0=>s
 |c+1=>stepF D h c (elimF D h s c)
def Wfm (D:FD)(n:Nat)(A:List (List Nat)):Prop:= ∀ r∈A,r.length=n/\ ∀ a∈r,a<D.p ^ D.k
theorem Wfm.row {D:FD}{n:Nat}{A:List (List Nat)}(h:Wfm D n A){i:Nat}(hi:i<A.length):(rowAt A i).length=n/\ ∀ a∈rowAt A i,a<D.p ^ D.k:=by
 unfold rowAt;rw[List.getElem?_eq_getElem hi];exact h _ (List.getElem_mem hi)
theorem rowAt_lt {D:FD}{n:Nat}{A:List (List Nat)}(h:Wfm D n A)(i:Nat):∀ a∈rowAt A i,a<D.p ^ D.k:=by
 by_cases hi:i<A.length
 ·exact(h.row hi).2
 ·unfold rowAt;rw[List.getElem?_eq_none (by omega)];intro a ha;simp at ha
theorem Wfm.cell {D:FD}(hk:PK D.p D.k D.m){n:Nat}{A:List (List Nat)}(h:Wfm D n A)(i c:Nat):cellAt A i c<D.p ^ D.k:=getD_lt (Nat.pow_pos hk.p0) (rowAt_lt h i) c
theorem Wfm.set {D:FD}{n:Nat}{A:List (List Nat)}(h:Wfm D n A){r:List Nat}(i:Nat)(h1:i<A.length->r.length=n)(h2:∀ a∈r,a<D.p ^ D.k):Wfm D n (A.set i r):=by
 intro x hx;obtain⟨k,hk⟩:=List.mem_iff_getElem?.1 hx
 by_cases e:i=k
 ·subst e
  by_cases hl:i<A.length
  ·rw[List.getElem?_set_self hl] at hk
   cases hk
   exact⟨h1 hl,h2⟩
  ·rw[List.getElem?_eq_none (by simpa using hl)] at hk
   cases hk
 ·rw[List.getElem?_set_ne e] at hk;exact h x (List.mem_iff_getElem?.2 ⟨k,hk⟩)
theorem Wfm.exch {D:FD}{n:Nat}{A:List (List Nat)}(h:Wfm D n A){i j:Nat}(hi:i<A.length)(hj:j<A.length):Wfm D n (exch [] A i j):=fun r hr=>h r (exch_mem [] A hi hj hr)
theorem Wfm.mul {D:FD}(hk:PK D.p D.k D.m){n:Nat}{A:List (List Nat)}(h:Wfm D n A)(i c:Nat):Wfm D n (mulAt D A i c):=
 h.set i (fun hi=>by rw[rowMul_len];exact(h.row hi).1) (fun a ha=>by
  obtain⟨b,_,rfl⟩:=List.mem_map.1 ha
  exact pmul_lt hk _ _ _)
theorem Wfm.sub {D:FD}(hk:PK D.p D.k D.m){n:Nat}{A:List (List Nat)}(h:Wfm D n A)(i j t:Nat):Wfm D n (subAt D A i j t):=
 h.set i (fun hi=>by rw[addm_len];exact(h.row hi).1) (addmF_lt hk _ _ _ _ (rowAt_lt h i))
theorem subAt_len (D:FD)(A:List (List Nat))(i j t:Nat):(subAt D A i j t).length=A.length:=by simp[subAt]
theorem mulAt_len (D:FD)(A:List (List Nat))(i t:Nat):(mulAt D A i t).length=A.length:=by simp[mulAt]
theorem subsF_len (D:FD)(top c:Nat)(s:List (List Nat) × List (List Nat))(i:Nat):(subsF D top c s i).1.length=s.1.length/\(subsF D top c s i).2.length=s.2.length:=by
 induction i with
 |zero=>exact⟨rfl,rfl⟩
 | succ i ih=>
   simp only[subsF]
   split
   ·exact ih
   ·simp only[subAt_len];exact ih
theorem subsF_wf {D:FD}(hk:PK D.p D.k D.m){n m:Nat}(top c:Nat){s:List (List Nat) × List (List Nat)}(h1:Wfm D n s.1)(h2:Wfm D m s.2)(i:Nat):Wfm D n (subsF D top c s i).1/\Wfm D m (subsF D top c s i).2:=by
 induction i with
 |zero=>exact⟨h1,h2⟩
 | succ i ih=>
   simp only[subsF]
   split
   ·exact ih
   ·exact⟨ih.1.sub hk _ _ _,ih.2.sub hk _ _ _⟩
structure EOk (D:FD)(n m N:Nat)(s:ESt):Prop where
 la:s.A.length=N
 lr:s.R.length=N
 wa:Wfm D n s.A
 wr:Wfm D m s.R
 cl:s.cols.length<=N
theorem EOk.step {D:FD}{n m N:Nat}{s:ESt}(h:EOk D n m N s)(hk:PK D.p D.k D.m)(c:Nat):EOk D n m N (stepF D hk c s):=by
 unfold stepF;simp only;have hp:=piv_le s.A c (s.A.length-s.cols.length) s.cols.length;have hla:=h.la;have hlr:=h.lr;have hcl:=h.cl
 split
 ·exact h
 ·rename_i hne
  have hrow:piv s.A c (s.A.length-s.cols.length) s.cols.length<s.A.length:=by omega
  have htop:s.cols.length<s.A.length:=by omega
  have w1:=(h.wa.exch htop hrow).mul hk s.cols.length (ppow hk (cellAt (exch [] s.A s.cols.length (piv s.A c (s.A.length-s.cols.length) s.cols.length)) s.cols.length c) (D.q-2));have w2:=(h.wr.exch (i:=s.cols.length) (j:=piv s.A c (s.A.length-s.cols.length) s.cols.length) (by omega) (by omega)).mul hk s.cols.length (ppow hk (cellAt (exch [] s.A s.cols.length (piv s.A c (s.A.length-s.cols.length) s.cols.length)) s.cols.length c) (D.q-2));have hw:=subsF_wf hk s.cols.length c (s:=(_,_)) w1 w2 s.A.length;have hl:=subsF_len D s.cols.length c (mulAt D (exch [] s.A s.cols.length (piv s.A c (s.A.length-s.cols.length) s.cols.length)) s.cols.length (ppow hk (cellAt (exch [] s.A s.cols.length (piv s.A c (s.A.length-s.cols.length) s.cols.length)) s.cols.length c) (D.q-2)),mulAt D (exch [] s.R s.cols.length (piv s.A c (s.A.length-s.cols.length) s.cols.length)) s.cols.length (ppow hk (cellAt (exch [] s.A s.cols.length (piv s.A c (s.A.length-s.cols.length) s.cols.length)) s.cols.length c) (D.q-2))) s.A.length;simp only[mulAt_len,exch_len] at hl;exact⟨by rw[hl.1];exact hla,by rw[hl.2];exact hlr,hw.1,hw.2,by simp;omega⟩
theorem EOk.elim {D:FD}{n m N:Nat}{s:ESt}(h:EOk D n m N s)(hk:PK D.p D.k D.m)(c:Nat):EOk D n m N (elimF D hk s c):=by
 induction c with
 |zero=>exact h
 |succ c ih=>exact ih.step hk c
end FFld
end Go.Proofs.YtdnheaafcbihbaaGreat
namespace Go.Proofs.YtdnheaafcbihbaaGreat.Dg
def val (B:Int):List Int->Int
 | []=>0
 |x::xs=>x+B*val B xs
def Wf (B:Int)(xs:List Int):Prop:= ∀ x∈xs,0<=x/\x<B
def Nz (xs:List Int):Prop:= ∀ h:xs≠ [],xs.getLast h≠0
theorem Wf.nil (B:Int):Wf B []:=fun _ h=>by cases h
theorem Wf.cons {B x:Int}{xs:List Int}(h:Wf B (x::xs)):0<=x/\x<B/\Wf B xs:=
 ⟨(h x (by simp)).1,(h x (by simp)).2,fun y hy=>h y (by simp[hy])⟩
theorem Wf.mk {B x:Int}{xs:List Int}(h0:0<=x)(h1:x<B)(h:Wf B xs):Wf B (x::xs):=by
 intro y hy
 rcases List.mem_cons.1 hy with rfl|hy
 ·exact⟨h0,h1⟩
 ·exact h y hy
theorem Wf.append {B:Int}{xs ys:List Int}(h:Wf B xs)(k:Wf B ys):Wf B (xs++ys):=by
 intro y hy
 rcases List.mem_append.1 hy with hy|hy
 ·exact h y hy
 ·exact k y hy
theorem Wf.take {B:Int}{xs:List Int}(h:Wf B xs)(n:Nat):Wf B (xs.take n):=fun y hy=>h y (List.mem_of_mem_take hy)
theorem Wf.drop {B:Int}{xs:List Int}(h:Wf B xs)(n:Nat):Wf B (xs.drop n):=fun y hy=>h y (List.mem_of_mem_drop hy)
theorem Wf.one {B x:Int}(h0:0<=x)(h1:x<B):Wf B [x]:=Wf.mk h0 h1 (Wf.nil B)
theorem Wf.zeros {B:Int}(hB:0<B)(n:Nat):Wf B (List.replicate n 0):=by
 intro y hy;have:=List.eq_of_mem_replicate hy;omega
theorem Wf.get {B:Int}{xs:List Int}(h:Wf B xs)(i:Nat)(hi:i<xs.length):0<=xs[i]/\xs[i]<B:=h _ (List.getElem_mem hi)
theorem Wf.getD {B:Int}{xs:List Int}(hB:0<B)(h:Wf B xs)(i:Nat):0<=xs[i]?.getD 0/\xs[i]?.getD 0<B:=by
 by_cases hi:i<xs.length
 ·simpa[hi] using h.get i hi
 ·simp[hi,hB]
theorem Wf.set {B x:Int}{xs:List Int}(h:Wf B xs)(i:Nat)(h0:0<=x)(h1:x<B):Wf B (xs.set i x):=by
 intro y hy
 rcases List.mem_or_eq_of_mem_set hy with hy|rfl
 ·exact h y hy
 ·exact⟨h0,h1⟩
theorem val_cons (B x:Int)(xs:List Int):val B (x::xs)=x+B*val B xs:=rfl
theorem val_one (B x:Int):val B [x]=x:=by simp[val]
theorem val_append (B:Int)(xs ys:List Int):val B (xs++ys)=val B xs+B ^ xs.length*val B ys:=by
 induction xs with
 |nil=>simp[val]
 | cons x xs ih=>
   simp only[List.cons_append,val,ih,List.length_cons,Int.pow_succ,Int.mul_add,Int.mul_assoc,Int.add_assoc,Int.mul_left_comm B]
theorem val_zeros (B:Int)(n:Nat):val B (List.replicate n 0)=0:=by
 induction n with
 |zero=>rfl
 |succ n ih=>simp[List.replicate_succ,val,ih]
theorem val_snoc_zeros (B:Int)(xs:List Int)(n:Nat):val B (xs++List.replicate n 0)=val B xs:=by simp[val_append,val_zeros]
theorem pow_pos {B:Int}(hB:0<B)(n:Nat):0<B ^ n:=by
 induction n with
 |zero=>simp
 |succ n ih=>rw[Int.pow_succ];exact Int.mul_pos ih hB
theorem val_nonneg {B:Int}(hB:0<B){xs:List Int}(h:Wf B xs):0<=val B xs:=by
 induction xs with
 |nil=>simp[val]
 | cons x xs ih=>
   obtain⟨h0,_,hw⟩:=h.cons;have:=Int.mul_nonneg (show 0<=B by omega) (ih hw);simp only[val];omega
theorem val_lt {B:Int}(hB:0<B){xs:List Int}(h:Wf B xs):val B xs<B ^ xs.length:=by
 induction xs with
 |nil=>simp[val]
 | cons x xs ih=>
   obtain⟨_,h1,hw⟩:=h.cons;have k:=ih hw;have k2:B*(val B xs+1)<=B*B ^ xs.length:=Int.mul_le_mul_of_nonneg_left (by omega) (by omega);simp only[val,List.length_cons,Int.pow_succ,Int.mul_comm _ B];rw[Int.mul_add] at k2;omega
theorem pow_mono {B:Int}(hB:0<B){m n:Nat}(h:m<=n):B ^ m<=B ^ n:=by
 obtain⟨k,rfl⟩:=Nat.exists_eq_add_of_le h;rw[Int.pow_add];have h1:=pow_pos hB m;have h2:=pow_pos hB k;have:=Int.mul_le_mul_of_nonneg_left (show 1<=B ^ k by omega) (show 0<=B ^ m by omega);omega
theorem val_ge {B:Int}(hB:0<B){xs:List Int}(h:Wf B xs)(hn:Nz xs)(hne:xs≠ []):B ^ (xs.length-1)<=val B xs:=by
 have e:=List.dropLast_concat_getLast hne;have hl:0<=xs.getLast hne:=(h _ (List.getLast_mem hne)).1;have hz:=hn hne;have hw:Wf B xs.dropLast:=fun y hy=>h y (List.dropLast_subset _ hy)
 have h0:=val_nonneg hB hw;rw[<- e,val_append,val_one];have hp:=pow_pos hB xs.dropLast.length;have:=Int.mul_le_mul_of_nonneg_left (show 1<=xs.getLast hne by omega) (show 0<=B ^ xs.dropLast.length by omega);simp only[List.length_dropLast,List.length_append,List.length_singleton] at*;have el:xs.length-1+1-1=xs.length-1:=by omega
 rw[el];omega
theorem Nz.nil:Nz []:=fun h=>absurd rfl h
theorem val_zero_iff {B:Int}(hB:0<B){xs:List Int}(h:Wf B xs)(hn:Nz xs):val B xs=0↔xs= []:=by
 constructor
 ·intro hv
  apply Classical.byContradiction
  intro hne;have:=val_ge hB h hn hne;have:=pow_pos hB (xs.length-1);omega
 ·rintro rfl;rfl
theorem val_pos {B:Int}(hB:0<B){xs:List Int}(h:Wf B xs)(hn:Nz xs)(hne:xs≠ []):0<val B xs:=by
 have:=val_ge hB h hn hne;have:=pow_pos hB (xs.length-1);omega
theorem len_le_of_val_lt {B:Int}(hB:1<B){xs:List Int}(h:Wf B xs)(hn:Nz xs){n:Nat}(hv:val B xs<B ^ n):xs.length<=n:=by
 apply Classical.byContradiction
 intro hc;have hne:xs≠ []:=by rintro rfl;simp at hc
 have h1:=val_ge (by omega) h hn hne;have h2:B ^ n<=B ^ (xs.length-1):=pow_mono (by omega) (by omega);omega
theorem val_lt_of_len {B:Int}(hB:1<B){xs ys:List Int}(hx:Wf B xs)(hy:Wf B ys)(ny:Nz ys)(h:xs.length<ys.length):val B xs<val B ys:=by
 have hne:ys≠ []:=by rintro rfl;simp at h
 have h1:=val_ge (by omega) hy ny hne;have h2:=val_lt (show 0<B by omega) hx;have h3:B ^ xs.length<=B ^ (ys.length-1):=pow_mono (by omega) (by omega);omega
theorem take_succ (xs:List Int)(i:Nat)(hi:i<xs.length):xs.take (i+1)=xs.take i++ [xs[i]]:=by
 rw[List.take_succ_eq_append_getElem hi]
theorem val_take_succ (B:Int)(xs:List Int)(i:Nat)(hi:i<xs.length):val B (xs.take (i+1))=val B (xs.take i)+B ^ i*xs[i]:=by
 rw[take_succ xs i hi,val_append,val_one];simp[Nat.min_eq_left (Nat.le_of_lt hi)]
theorem val_take_succD (B:Int)(xs:List Int)(i:Nat):val B (xs.take (i+1))=val B (xs.take i)+B ^ i*xs[i]?.getD 0:=by
 by_cases hi:i<xs.length
 ·rw[val_take_succ B xs i hi];simp[hi]
 ·rw[List.take_of_length_le (by omega),List.take_of_length_le (by omega)];simp[hi]
theorem take_set_succ (zs:List Int)(k:Nat)(s:Int)(hk:k<zs.length):(zs.set k s).take (k+1)=zs.take k++ [s]:=by
 rw[List.take_succ_eq_append_getElem (by simpa using hk)];simp only[List.take_set,List.getElem_set_self];rw[List.set_eq_of_length_le (by simp;omega)]
theorem set_last (zs:List Int)(k:Nat)(s:Int)(hk:zs.length=k+1):zs.set k s=zs.take k++ [s]:=by
 rw[<- take_set_succ zs k s (by omega),List.take_of_length_le (by simp;omega)]
theorem val_split (B:Int)(xs:List Int)(i:Nat)(h:i<=xs.length):val B xs=val B (xs.take i)+B ^ i*val B (xs.drop i):=by
 conv=>lhs;rw[<- List.take_append_drop i xs,val_append]
 simp[Nat.min_eq_left h]
theorem val_lt_at {B:Int}(hB:0<B){xs ys:List Int}(hx:Wf B xs)(hy:Wf B ys)(hl:xs.length=ys.length){k:Nat}(hk:k<xs.length)
 (hd:xs.drop (k+1)=ys.drop (k+1)) (h:xs[k]?.getD 0<ys[k]?.getD 0):val B xs<val B ys:=by
 rw[val_split B xs (k+1) (by omega),val_split B ys (k+1) (by omega),hd,val_take_succD,val_take_succD];have h1:=val_lt hB (hx.take k);have h2:=val_nonneg hB (hy.take k);have hp:=pow_pos hB k;have hlen:(xs.take k).length=k:=by simp;omega
 rw[hlen] at h1;have:=Int.mul_le_mul_of_nonneg_left (show xs[k]?.getD 0+1<=ys[k]?.getD 0 from h) (Int.le_of_lt hp);rw[Int.mul_add] at this;omega
theorem drop_eq_at {xs ys:List Int}(hl:xs.length=ys.length){k:Nat}(hd:xs.drop (k+1)=ys.drop (k+1))(h:xs[k]?.getD 0=ys[k]?.getD 0):xs.drop k=ys.drop k:=by
 by_cases hk:k<xs.length
 ·have hk' :k<ys.length:=by omega
  rw[List.drop_eq_getElem_cons hk,List.drop_eq_getElem_cons hk',hd];simp[hk,hk'] at h;rw[h]
 ·rw[List.drop_of_length_le (by omega),List.drop_of_length_le (by omega)]
def sg (x y:Int):Int:=if x<y then -1 else if y<x then 1 else 0
theorem sg_lt {x y:Int}(h:x<y):sg x y= -1:=by simp[sg,h]
theorem sg_gt {x y:Int}(h:y<x):sg x y=1:=by unfold sg;rw[if_neg (by omega),if_pos h]
theorem sg_eq (x:Int):sg x x=0:=by simp[sg]
def cut:List Int->List Int
 | []=> []
 |x::xs=>if x=0/\cut xs= [] then [] else x::cut xs
theorem val_cut (B:Int)(xs:List Int):val B (cut xs)=val B xs:=by
 induction xs with
 |nil=>rfl
 | cons x xs ih=>
   unfold cut
   split
   ·rename_i h;simp only[val];rw[<- ih,h.2,h.1];simp[val]
   ·simp only[val,ih]
theorem Wf.cut {B:Int}{xs:List Int}(h:Wf B xs):Wf B (Dg.cut xs):=by
 induction xs with
 |nil=>exact h
 | cons x xs ih=>
   obtain⟨h0,h1,hw⟩:=h.cons;unfold Dg.cut
   split
   ·exact Wf.nil B
   ·exact Wf.mk h0 h1 (ih hw)
theorem nz_cut (xs:List Int):Nz (cut xs):=by
 induction xs with
 |nil=>exact Nz.nil
 | cons x xs ih=>
   unfold cut
   split
   ·exact Nz.nil
   ·rename_i h
    intro hne
    by_cases hc:cut xs= []
    ·simp only[hc,List.getLast_singleton];exact fun hx=>h ⟨hx,hc⟩
    ·rw[List.getLast_cons hc];exact ih hc
theorem cut_len (xs:List Int):(cut xs).length<=xs.length:=by
 induction xs with
 |nil=>simp[cut]
 |cons x xs ih=>unfold cut;split<;>simp;omega
theorem cut_eq (xs:List Int)(n:Nat)(hz:∀ i,n<=i->xs[i]?.getD 0=0)(hn:n=0\/xs[n-1]?.getD 0≠0):cut xs=xs.take n:=by
 induction xs generalizing n with
 |nil=>simp[cut]
 | cons x xs ih=>
   cases n with
   | zero=>
     have hx:x=0:=by simpa using hz 0 (by omega)
     have:=ih 0 (fun i _=>by simpa using hz (i+1) (by omega)) (Or.inl rfl);simp[cut,hx,this]
   | succ n=>
     have h1:=ih n (fun i hi=>by simpa using hz (i+1) (by omega)) (by
      rcases Nat.eq_zero_or_pos n with h|h
      ·exact Or.inl h
      ·right
       rcases hn with hn|hn
       ·omega
       ·obtain⟨m,rfl⟩:∃ m,n=m+1:=⟨n-1,by omega⟩
        simpa using hn)
     unfold cut;rw[h1]
     split
     ·rename_i h
      exfalso;obtain⟨hx,ht⟩:=h
      rcases hn with hn|hn
      ·omega
      ·rcases Nat.eq_zero_or_pos n with h0|h0
       ·subst h0;simp at hn;exact hn hx
       ·obtain⟨m,rfl⟩:∃ m,n=m+1:=⟨n-1,by omega⟩
        have:xs= []:=by
         cases xs with
         |nil=>rfl
         |cons=>simp at ht
        subst this;simp at hn
     ·simp
theorem val_of_zeros {B:Int}{xs:List Int}(h:∀ i:Nat,xs[i]?.getD 0=0):val B xs=0:=by
 induction xs with
 |nil=>rfl
 | cons x xs ih=>
   have h0:x=0:=by simpa using h 0
   rw[val,ih (fun i=>by simpa using h (i+1)),h0];simp
theorem val_set_zeros {B c:Int}{xs:List Int}(h:∀ i:Nat,xs[i]?.getD 0=0)(hl:0<xs.length):val B (xs.set 0 c)=c:=by
 cases xs with
 |nil=>simp at hl
 | cons x xs=>
   have:=val_of_zeros (B:=B) (xs:=xs) (fun i=>by simpa using h (i+1));simp[val,this]
theorem three (T:List Int)(k n:Nat):T.take k++(T.drop k).take n++T.drop (k+n)=T:=by
 rw[List.append_assoc,<- List.drop_drop,List.take_append_drop,List.take_append_drop]
theorem mul_bound {x y B:Int}(hx:0<=x)(hx1:x<B)(hy:0<=y)(hy1:y<B):x*y<=(B-1)*(B-1):=
 Int.mul_le_mul (by omega) (by omega) hy (by omega)
theorem mid_get (P M S:List Int)(k:Nat)(hk:k<M.length):(P++M++S)[P.length+k]?.getD 0=M[k]?.getD 0:=by
 rw[List.append_assoc,List.getElem?_append_right (by omega)];simp[List.getElem?_append_left hk]
theorem mid_set (P M S:List Int)(k:Nat)(x:Int)(hk:k<M.length):(P++M++S).set (P.length+k) x=P++M.set k x++S:=by
 rw[List.append_assoc,List.set_append_right _ _ (by omega)];simp[List.set_append_left _ _ hk]
theorem step_mul {P A D r c f x m h l s k B:Int}(hv:r+c*P=A+f*D)(hm:x*f+c=h*B+l)(ha:m+l=s+B*k):
 (r+P*s)+(h+k)*(P*B)=(A+P*m)+f*(D+P*x):=by
 have e1:P*(m+(x*f+c))=P*(s+B*k+h*B):=by rw[hm];congr 1;omega
 simp only[Int.mul_add,Int.add_mul,Int.mul_comm,Int.mul_left_comm,Int.mul_assoc] at*;omega
theorem step_sum {P A D r c x y s c' B:Int}(h:r+c*P=A+D)(k:x+y+c=s+B*c'):(r+P*s)+c' *(P*B)=(A+P*x)+(D+P*y):=by
 have e1:P*(x+y+c)=P*(s+B*c'):=by rw[k]
 simp only[Int.mul_add,Int.mul_comm,Int.mul_left_comm] at*;omega
theorem step_dif {P A D r c x y s c' B:Int}(h:r-c*P=A-D)(k:x-y-c=s-B*c'):(r+P*s)-c' *(P*B)=(A+P*x)-(D+P*y):=by
 have e1:P*(x-y-c)=P*(s-B*c'):=by rw[k]
 simp only[Int.mul_sub,Int.mul_comm,Int.mul_left_comm] at*;omega
end Go.Proofs.YtdnheaafcbihbaaGreat.Dg
namespace Go.Proofs.YtdnheaafcbihbaaGreat
open Go Go.RowKit
def Sl (K:IntKind)(w:World)(v:Value)(xs:List Int):Prop:=
 ∃ ao cap,v= .slice ao xs.length cap/\xs.length<=cap/\cap<=maxLen/\
   ∀ i,i<xs.length-> ∃ b o,ao=some ⟨b,o,none⟩/\b<w.heap.size/\w.cell? ⟨b,o+i,none⟩=some (.int K (xs[i]?.getD 0))
theorem Sl.below {K:IntKind}{w w' :World}{v:Value}{xs:List Int}(h:Sl K w v xs)(hb:Below w.heap.size w w'):Sl K w' v xs:=by
 obtain⟨ao,cap,rfl,hc,hm,hx⟩:=h;refine⟨ao,cap,rfl,hc,hm,fun i hi=> ?_⟩;obtain⟨b,o,e,hl,hcell⟩:=hx i hi;exact⟨b,o,e,Nat.lt_of_lt_of_le hl hb.size,(hb.cell (p:=⟨b,o+i,none⟩) hl).trans hcell⟩
theorem Sl.nil (K:IntKind)(w:World):Sl K w (.slice none 0 0) []:=
 ⟨none,0,rfl,Nat.le_refl _,Nat.zero_le _,fun i hi=>absurd hi (Nat.not_lt_zero _)⟩
def RetSl (K:IntKind)(w:World)(xs:List Int)(e:Ending)(w' :World):Prop:=Below w.heap.size w w' /\ ∃ v',e= .returned v' /\Sl K w' v' xs/\ ∀ k,v'.ownBlock=some k->w.heap.size<=k
def Frm (B:Nat)(v:Value):Prop:= ∀ k,v.ownBlock=some k->B<=k
theorem Frm.nil (B:Nat):Frm B (.slice none 0 0):=fun k h=>by simp[Value.ownBlock] at h
theorem Frm.mk {B b o n c:Nat}(h:B<=b):Frm B (.slice (some ⟨b,o,none⟩) n c):=fun k hk=>by simp[Value.ownBlock] at hk;omega
theorem Frm.of {B:Nat}{v v' :Value}(h:Frm B v)(hv:∀ k,v'.ownBlock=some k->v.ownBlock=some k):Frm B v' :=fun k hk=>h k (hv k hk)
theorem Frm.mono {B B' :Nat}{v:Value}(h:Frm B v)(hB:B' <=B):Frm B' v:=fun k hk=>Nat.le_trans hB (h k hk)
def RetSame (K:IntKind)(w:World)(v:Value)(xs:List Int)(e:Ending)(w' :World):Prop:=w=w' /\ ∃ v',e= .returned v' /\Sl K w v' xs/\ ∀ k,v'.ownBlock=some k->v.ownBlock=some k
def Row (E:TypeId)(K:IntKind)(w:World)(g:Nat)(xs:List Int):Prop:=w.heap[g]? =some (.cells (xs.map (Value.int K)).toArray E (0,0))
section
variable {E : TypeId} {K : IntKind} {w w' : World} {g : Nat} {xs : List Int}
theorem Row.lt (h:Row E K w g xs):g<w.heap.size:=(Array.getElem?_eq_some_iff.1 h).1
theorem Row.cell (h:Row E K w g xs){i:Nat}(hi:i<xs.length):w.cell? ⟨g,i,none⟩=some (.int K (xs[i]?.getD 0)):=by
 rw[cell_of_row w g i _ E (0,0) h];simp[hi]
theorem Row.free (h:Row E K w g xs)(i:Nat):w.frozen? ⟨g,i,none⟩=false:=frozen_of_row w g i _ E h
theorem Row.set (h:Row E K w g xs)(i:Nat)(x:Int):Row E K (w.setCell ⟨g,i,none⟩ (.int K x)) g (xs.set i x):=by
 have:=heap_setCell_same w g i _ E (.int K x) h;unfold Row;rw[this]
 congr 1
 apply congrArg (fun a=>Obj.cells a E (0,0))
 simp[List.map_set]
theorem Row.keep (h:Row E K w g xs)(he:w'.heap[g]? =w.heap[g]?):Row E K w' g xs:=he.trans h
theorem Row.below (h:Row E K w g xs)(hb:Below w.heap.size w w'):Row E K w' g xs:=(hb.block g h.lt).trans h
theorem Row.drew (h:Row E K w g xs):Row E K w.drew g xs:=h
theorem Row.alloc (h:Row E K w g xs)(o:Obj):Row E K (w.alloc o) g xs:=(heap_alloc_old w o h.lt).trans h
theorem Row.setOther (h:Row E K w g xs){a:Addr}(v:Value)(hne:a.block≠g):Row E K (w.setCell a v) g xs:=(heap_setCell_other w a g v (fun e=>hne e.symm)).trans h
def live:Value->Option Nat
 | .slice (some a) n _=>if n=0 then none else some a.block
 |_=>none
theorem live_own {v:Value}{k:Nat}(h:live v=some k):v.ownBlock=some k:=by
 unfold live at h
 split at h
 ·split at h
  ·cases h
  ·exact h
 ·cases h
theorem Sl.kept {v:Value}{row:Option Nat}(h:Sl K w v xs)(hg:w.grownBy w' row)(hne:∀ k,live v=some k->row≠some k):Sl K w' v xs:=by
 obtain⟨ao,cap,rfl,hc,hm,hx⟩:=h;refine⟨ao,cap,rfl,hc,hm,fun i hi=> ?_⟩;obtain⟨b,o,rfl,hl,hcell⟩:=hx i hi;exact⟨b,o,rfl,Nat.lt_of_lt_of_le hl hg.size,hg.cell hcell (fun e=>hne b (by simp only[live];rw[if_neg (by omega)]) e.symm)⟩
theorem Row.new (w:World)(xs:List Int):Row E K (w.alloc (.cells (xs.map (Value.int K)).toArray E)) w.heap.size xs:=heap_alloc_new w _
theorem Row.sl (h:Row E K w g xs){o n cap:Nat}(hn:o+n<=xs.length)(hc:n<=cap)(hm:cap<=maxLen):Sl K w (.slice (some ⟨g,o,none⟩) n cap) ((xs.drop o).take n):=by
 have e:((xs.drop o).take n).length=n:=by simp;omega
 refine⟨_,cap,by rw[e],by rw[e];exact hc,hm,fun i hi=> ?_⟩;have hi' :i<n:=by rw[e] at hi;exact hi
 refine⟨g,o,rfl,h.lt,?_⟩;rw[h.cell (by omega),List.getElem?_take,if_pos hi',List.getElem?_drop]
theorem Row.slAll (h:Row E K w g xs){n cap:Nat}(hn:n=xs.length)(hc:n<=cap)(hm:cap<=maxLen):Sl K w (.slice (some ⟨g,0,none⟩) n cap) xs:=by
 have:=h.sl (o:=0) (n:=n) (cap:=cap) (by omega) hc hm
 simpa[hn] using this
end
theorem wpList_make_zeros {P:Program}(w:World){ops:Array Oper}{rest:List Oper}{o:Oper}{a:Act}{Q:Exit->Act->World->Prop}
 (hg:o.guard=none) (l c:Operand) (t:TypeId) (hop:o.op=Op.makeSlice t l c)
 (e:TypeId) (K:IntKind) (h1:P.underlying t=some (.slice e)) (h2:(P.info? e).map (fun i=>(i.zero,i.size,i.bytes))=some (some (.int K 0),1,8))
 (L C:Int) (n:Nat) (hl:a.eval l= .int .i64 L) (hc:a.eval c= .int .i64 C) (hL:L=(n:Int)) (hC:C=(n:Int)) (b2:8*n<=281474976710656)
 (hK:∀ w',Row e K w' w.heap.size (List.replicate n 0)->Below w.heap.size w w' ->wpList P ops Q rest (a.put o.dst (.slice (some ⟨w.heap.size,0,none⟩) n n)) w'):
 wpList P ops Q (o::rest) a w:=by
 refine wpList_plain hg fun K' hK' => ?_
 obtain⟨i,hi,hz,hs,hb⟩:=info_parts h2;have hrun:=run_make (P:=P) w t e i (.int K 0) h1 hi hz .i64 .i64 n n (by omega) (Int.le_refl _) (by rw[hb];omega) (by omega);subst hL;subst hC;unfold Oper.wp;simp only[execOp,hop,hl,hc];simp[hrun,Result.andThen];refine hK' _ _ ?_;refine hK _ ?_ ((Below.refl _ _).alloc (Nat.le_refl _) _)
 have hm:madeCells (Value.cells (.int K 0)) (n*i.size)=((List.replicate n (0:Int)).map (Value.int K)).toArray:=by
  rw[hs,Nat.mul_one]
  apply Array.toList_inj.1
  rw[show Value.cells (.int K 0)= #[.int K 0] from rfl,toList_madeCells_one];simp
 rw[hm];exact Row.new w _
end Go.Proofs.YtdnheaafcbihbaaGreat
