/-
  Texts of the proof, merged by program: Fi Fka Fkb Fkc Fkd Fl Fm Fn Fo.
-/
import Derived.Test.YtdnheaafcbihbaaGreatDc1
set_option linter.unusedSectionVars false
set_option linter.unusedSimpArgs false
set_option linter.unusedVariables false
set_option maxHeartbeats 16000000
namespace Go.Proofs.YtdnheaafcbihbaaGreat
section
namespace FFld
structure Rng (α:Type) where
 add:α->α->α
 mul:α->α->α
 zero:α
 one:α
 neg:α->α
 add_assoc:∀ a b c,add (add a b) c=add a (add b c)
 add_comm:∀ a b,add a b=add b a
 add_zero:∀ a,add a zero=a
 add_neg:∀ a,add a (neg a)=zero
 mul_assoc:∀ a b c,mul (mul a b) c=mul a (mul b c)
 mul_comm:∀ a b,mul a b=mul b a
 mul_one:∀ a,mul a one=a
 mul_add:∀ a b c,mul a (add b c)=add (mul a b) (mul a c)
 one_ne:one≠zero
namespace Rng
variable {α : Type} (F : Rng α)
def dom (h:∀ a b,F.mul a b=F.zero->a=F.zero\/b=F.zero):Dom α where
 add:=F.add
 mul:=F.mul
 zero:=F.zero
 one:=F.one
 neg:=F.neg
 add_assoc:=F.add_assoc
 add_comm:=F.add_comm
 add_zero:=F.add_zero
 add_neg:=F.add_neg
 mul_assoc:=F.mul_assoc
 mul_comm:=F.mul_comm
 mul_one:=F.mul_one
 mul_add:=F.mul_add
 nzd:=h
 one_ne:=F.one_ne
theorem one_mul (a:α):F.mul F.one a=a:=by rw[F.mul_comm,F.mul_one]
theorem mul_zero (a:α):F.mul a F.zero=F.zero:=by
 have h:F.add (F.mul a F.zero) (F.mul a F.zero)=F.add (F.mul a F.zero) F.zero:=by
  rw[<- F.mul_add,F.add_zero,F.add_zero]
 have h1:F.add (F.neg (F.mul a F.zero)) (F.add (F.mul a F.zero) (F.mul a F.zero))=F.add (F.neg (F.mul a F.zero)) (F.add (F.mul a F.zero) F.zero):=by rw[h]
 rw[<- F.add_assoc,<- F.add_assoc,F.add_comm (F.neg _) (F.mul a F.zero),F.add_neg,F.add_zero,F.add_comm,F.add_zero] at h1;exact h1
def pow (a:α):Nat->α
 |0=>F.one
 |n+1=>F.mul (pow a n) a
theorem pow_add (a:α)(m n:Nat):F.pow a (m+n)=F.mul (F.pow a m) (F.pow a n):=by
 induction n with
 |zero=>simp only[Nat.add_zero,pow];rw[F.mul_one]
 |succ n ih=>rw[<- Nat.add_assoc];simp only[pow];rw[ih,F.mul_assoc]
theorem one_pow (n:Nat):F.pow F.one n=F.one:=by
 induction n with
 |zero=>rfl
 |succ n ih=>simp only[pow];rw[ih,F.mul_one]
theorem pow_mul (a:α)(m n:Nat):F.pow a (m*n)=F.pow (F.pow a m) n:=by
 induction n with
 |zero=>rfl
 |succ n ih=>rw[Nat.mul_succ,pow_add,ih];rfl
theorem pow_gcd {a:α} :∀ (m n:Nat),F.pow a m=F.one->F.pow a n=F.one->F.pow a (Nat.gcd m n)=F.one:=by
 intro m
 induction m using Nat.strongRecOn with
 | ind m ih=>
   intro n hm hn
   rcases Nat.eq_zero_or_pos m with h|h
   ·subst h;rw[Nat.gcd_zero_left];exact hn
   ·rw[Nat.gcd_rec];refine ih _ (Nat.mod_lt _ h) _ ?_ hm;have e:=Nat.div_add_mod n m;rw[<- e,pow_add,pow_mul,hm,one_pow,F.one_mul] at hn;exact hn
theorem nzd_of_gen {L:List α}(hnd:L.Nodup)(hmem:∀ a,a∈L↔a≠F.zero)(hL:0<L.length){g:α}(h1:F.pow g L.length=F.one)(ht:∀ f,Prime f->f∣L.length->F.pow g (L.length/f)≠F.one):
 ∀ a b,F.mul a b=F.zero->a=F.zero\/b=F.zero:=by
 have hunit:∀ i,i<=L.length->F.mul (F.pow g i) (F.pow g (L.length-i))=F.one:=fun i hi=>by rw[<- pow_add,show i+(L.length-i)=L.length from by omega,h1]
 have hne:∀ i,i<=L.length->F.pow g i≠F.zero:=fun i hi h=>by
  have:=hunit i hi;rw[h,F.mul_comm,F.mul_zero] at this;exact F.one_ne this.symm
 have hord:∀ d,0<d->d<L.length->F.pow g d≠F.one:=fun d h0 hd he=>by
  have hg:=F.pow_gcd _ _ he h1;have hdv:=Nat.gcd_dvd_right d L.length;have hle:=Nat.le_of_dvd h0 (Nat.gcd_dvd_left d L.length);obtain⟨c,hc⟩:=hdv;have hc1:c≠1:=fun h1=>by rw[h1,Nat.mul_one] at hc;omega
  have hc0:c≠0:=fun h0=>by rw[h0,Nat.mul_zero] at hc;omega
  obtain⟨f,hf,b,hb⟩:=exists_prime c (by omega);have h2:=hf.1
  have e2:L.length=f*(Nat.gcd d L.length*b):=by
   conv=>lhs;rw[hc,hb]
   exact Nat.mul_left_comm _ _ _
  refine ht f hf ⟨_,e2⟩ ?_
  have e:L.length/f=Nat.gcd d L.length*b:=by
   generalize Nat.gcd d L.length*b=x at e2;rw[e2];exact Nat.mul_div_cancel_left _ (by omega)
  rw[e,pow_mul,hg,one_pow]
 have hinj:∀ i j,i<j->j<L.length->F.pow g i≠F.pow g j:=fun i j hij hj h=>by
  have e:=hunit i (by omega);rw[h,<- pow_add,show j+(L.length-i)=L.length+(j-i) from by omega,pow_add,h1,F.one_mul] at e;exact hord (j-i) (by omega) (by omega) e
 have hpnd:((List.range L.length).map (F.pow g)).Nodup:=by
  unfold List.Nodup;rw[List.pairwise_map];refine List.pairwise_lt_range.imp_of_mem (fun {i j} hi hj hlt=>hinj i j hlt (List.mem_range.1 hj))
 have hp:=perm_of_sub (m:=L) hpnd (fun b hb=>by
  obtain⟨i,hi,rfl⟩:=List.mem_map.1 hb
  exact(hmem _).2 (hne i (Nat.le_of_lt (List.mem_range.1 hi)))) (by simp)
 have hlog:∀ a,a≠F.zero-> ∃ i,i<L.length/\F.pow g i=a:=fun a ha=>by
  obtain⟨i,hi,e⟩:=List.mem_map.1 (hp.mem_iff.2 ((hmem a).2 ha));exact⟨i,List.mem_range.1 hi,e⟩
 intro a b hab
 rcases Classical.em (a=F.zero) with ha|ha
 ·exact .inl ha
 ·right;obtain⟨i,hi,rfl⟩:=hlog a ha;have:F.mul (F.pow g (L.length-i)) (F.mul (F.pow g i) b)=b:=by rw[<- F.mul_assoc,F.mul_comm (F.pow g (L.length-i)),hunit i (by omega),F.one_mul]
  rw[<- this,hab,F.mul_zero]
end Rng
abbrev El (q:Nat):Type:= {a:Nat // a<q}
def rng {p k m:Nat}(h:PK p k m):Rng (El (p ^ k)) where
 add a b:=⟨padd p k a.1 b.1,padd_lt h _ _⟩
 mul a b:=⟨pmul p k m a.1 k b.1,pmul_lt h _ _ _⟩
 zero:=⟨0,Nat.pow_pos h.p0⟩
 one:=⟨1,h.one_lt⟩
 neg a:=⟨pscl p k (p-1) a.1,pscl_lt h _ _⟩
 add_assoc a b c:=Subtype.ext (padd_assoc h _ _ _)
 add_comm a b:=Subtype.ext (padd_comm h _ _)
 add_zero a:=Subtype.ext (padd_zero h _ a.2)
 add_neg a:=Subtype.ext (padd_neg h _)
 mul_assoc a b c:=Subtype.ext (pmul_assoc h _ _ _ a.2 b.2 c.2)
 mul_comm a b:=Subtype.ext (pmul_comm h _ _ a.2 b.2)
 mul_one a:=Subtype.ext (pmul_by_one h _ a.2)
 mul_add a b c:=Subtype.ext (by
  show pmul p k m a.1 k (padd p k b.1 c.1)=padd p k (pmul p k m a.1 k b.1) (pmul p k m a.1 k c.1)
  rw[pmul_comm h _ _ a.2 (padd_lt h _ _),pmul_add h,pmul_comm h b.1 _ b.2 a.2,pmul_comm h c.1 _ c.2 a.2])
 one_ne:=fun e=>by simpa using congrArg Subtype.val e
def nzl (q:Nat):List (El q):=(List.range (q-1)).pmap (fun i h=>⟨i+1,by omega⟩) (fun i hi=>(by have:=List.mem_range.1 hi;omega:i<q-1))
theorem nzl_len (q:Nat):(nzl q).length=q-1:=by simp[nzl]
theorem nzl_mem {q:Nat}(a:El q):a∈nzl q↔a.1≠0:=by
 simp only[nzl,List.mem_pmap,List.mem_range];constructor
 ·rintro⟨i,hi,rfl⟩;simp
 ·intro h;have:=a.2;exact⟨a.1-1,by omega,Subtype.ext (by simp;omega)⟩
theorem nzl_nodup (q:Nat):(nzl q).Nodup:=by
 unfold nzl;exact List.Pairwise.pmap List.nodup_range _ (fun a ha b hb h e=>h (by have:=congrArg Subtype.val e;simp at this;omega))
theorem nzd_prime {p m:Nat}(h:PK p 1 m)(hp:Prime p)(hm:m%p=0):∀ a b,(rng h).mul a b=(rng h).zero->a=(rng h).zero\/b=(rng h).zero:=by
 intro a b e;have e1:pmul p 1 m a.1 1 b.1=0:=congrArg Subtype.val e;have ha:a.1<p:=by simpa using a.2
 have hb:b.1<p:=by simpa using b.2
 have e2:pmul p 1 m a.1 1 b.1=a.1*b.1%p:=by
  have hh:=pmul_lt h a.1 1 b.1
  have hd:dig p (pmul p 1 m a.1 1 b.1) 0=a.1*b.1%p:=by
   simp only[pmul];rw[pshf_zero h,padd_zero h _ (pscl_lt h _ _),dig_pscl h _ _ _ (by omega),dig_zero,Nat.mod_eq_of_lt hb,Nat.mod_mul_mod]
  rw[dig_zero,Nat.mod_eq_of_lt (by simpa using hh)] at hd;exact hd
 rw[e2] at e1
 rcases hp.dvd_mul (Nat.dvd_of_mod_eq_zero e1) with h1|h1
 ·left;exact Subtype.ext (by show a.1=0;rcases Nat.eq_zero_or_pos a.1 with h0|h0;exact h0;have:=Nat.le_of_dvd h0 h1;omega)
 ·right;exact Subtype.ext (by show b.1=0;rcases Nat.eq_zero_or_pos b.1 with h0|h0;exact h0;have:=Nat.le_of_dvd h0 h1;omega)
def pwF (p k m:Nat):Nat->Nat->Nat->Nat->Nat
 |0,r,_,_=>r
 |f+1,r,a,n=>if n=0 then r else pwF p k m f (if n%2=1 then pmul p k m r k a else r) (pmul p k m a k a) (n/2)
def isP (f:Nat):Bool:=Nat.ble 2 f&&(List.range f).all (fun d=>Nat.ble d 1||f%d !=0)
def strip (f:Nat):Nat->Nat->Nat
 |0,n=>n
 |e+1,n=>if n%f=0 then strip f e (n/f) else n
def gcert (p k m g:Nat)(fs:List Nat):Bool:=
 (fs.foldl (fun n f=>strip f 17 n) (p ^ k-1)==1)&&fs.all isP&&Nat.blt g (p ^ k)&&pwF p k m 17 1 g (p ^ k-1)==1&&fs.all (fun f=>pwF p k m 17 1 g ((p ^ k-1)/f)!=1)
theorem isP_prime {f:Nat}(h:isP f=true):Prime f:=by
 simp only[isP,Bool.and_eq_true,List.all_eq_true,List.mem_range,Bool.or_eq_true,bne_iff_ne,Nat.ble_eq] at h;refine⟨h.1,fun d hd=> ?_⟩;have hle:=Nat.le_of_dvd (by omega) hd
 by_cases e:d=f
 ·exact .inr e
 ·left
  rcases h.2 d (by omega) with h1|h1
  ·have:d≠0:=fun h0=>by subst h0;rw[Nat.zero_dvd] at hd;omega
   omega
  ·exact absurd (Nat.mod_eq_zero_of_dvd hd) h1
theorem strip_dvd {f r:Nat}(hr:Prime r):∀ (e n:Nat),r∣n->r∣f\/r∣strip f e n:=by
 intro e
 induction e with
 |zero=>intro n h;exact .inr h
 | succ e ih=>
   intro n h;simp only[strip]
   by_cases h0:n%f=0
   ·rw[if_pos h0];have e1:n=f*(n/f):=(Nat.mul_div_cancel' (Nat.dvd_of_mod_eq_zero h0)).symm;rw[e1] at h
    rcases hr.dvd_mul h with h1|h1
    ·exact .inl h1
    ·exact ih _ h1
   ·rw[if_neg h0];exact .inr h
theorem fold_dvd {r:Nat}(hr:Prime r):∀ (fs:List Nat) (n:Nat),fs.all isP=true->fs.foldl (fun n f=>strip f 17 n) n=1->r∣n->r∈fs:=by
 intro fs
 induction fs with
 |nil=>intro n _ h1 h;simp only[List.foldl_nil] at h1;subst h1;have:=Nat.le_of_dvd (by omega) h;have:=hr.1;omega
 | cons f fs ih=>
   intro n ha h1 h;simp only[List.all_cons,Bool.and_eq_true] at ha
   rcases strip_dvd (f:=f) hr 17 n h with h2|h2
   ·rcases(isP_prime ha.1).2 r h2 with h3|h3
    ·have:=hr.1;omega
    ·rw[h3];exact List.mem_cons_self
   ·exact List.mem_cons_of_mem _ (ih _ ha.2 h1 h2)
theorem pwF_pow {p k m:Nat}(h:PK p k m):∀ (f r a n:Nat) (hr:r<p ^ k) (ha:a<p ^ k),n<2 ^ f->pwF p k m f r a n=((rng h).mul ⟨r,hr⟩ ((rng h).pow ⟨a,ha⟩ n)).1:=by
 intro f
 induction f with
 | zero=>
   intro r a n hr ha hn;have:n=0:=by simp at hn;omega
   subst this;simp only[pwF,Rng.pow];rw[(rng h).mul_one]
 | succ f ih=>
   intro r a n hr ha hn;simp only[pwF]
   by_cases h0:n=0
   ·rw[if_pos h0];subst h0;simp only[Rng.pow];rw[(rng h).mul_one]
   ·rw[if_neg h0];have hn2:n/2<2 ^ f:=by rw[Nat.pow_succ] at hn;omega
    have haa:(rng h).pow (⟨pmul p k m a k a,pmul_lt h _ _ _⟩) (n/2)=(rng h).pow ⟨a,ha⟩ (2*(n/2)):=by
     rw[(rng h).pow_mul]
     congr 1
     simp only[Rng.pow];rw[(rng h).one_mul];rfl
    by_cases h1:n%2=1
    ·rw[if_pos h1,ih _ _ _ (pmul_lt h _ _ _) (pmul_lt h _ _ _) hn2,haa];have e:n=1+2*(n/2):=by omega
     conv=>rhs;rw[e,(rng h).pow_add]
     have e1:(rng h).pow ⟨a,ha⟩ 1=⟨a,ha⟩:=by simp only[Rng.pow];rw[(rng h).one_mul]
     rw[e1,<- (rng h).mul_assoc];rfl
    ·rw[if_neg h1,ih _ _ _ hr (pmul_lt h _ _ _) hn2,haa,show 2*(n/2)=n from by omega]
theorem nzd_cert {p k m g:Nat}{fs:List Nat}(h:PK p k m)(hq:p ^ k<=65536)(hc:gcert p k m g fs=true):∀ a b,(rng h).mul a b=(rng h).zero->a=(rng h).zero\/b=(rng h).zero:=by
 simp only[gcert,Bool.and_eq_true,beq_iff_eq,List.all_eq_true,bne_iff_ne,Nat.blt_eq] at hc;obtain⟨⟨⟨⟨c1,c2⟩,c3⟩,c4⟩,c5⟩:=hc;have h1:=h.one_lt
 have hpw:∀ n,n<=p ^ k-1->pwF p k m 17 1 g n=((rng h).pow ⟨g,c3⟩ n).1:=fun n hn=>by
  rw[pwF_pow h 17 1 g n h1 c3 (by rw[show(2:Nat) ^ 17=131072 from rfl];omega)];exact congrArg Subtype.val ((rng h).one_mul _)
 refine(rng h).nzd_of_gen (L:=nzl (p ^ k)) (g:=⟨g,c3⟩) (nzl_nodup _) (fun a=> ?_) (by rw[nzl_len];omega) ?_ ?_
 ·rw[nzl_mem];exact⟨fun h e=>h (congrArg Subtype.val e),fun h e=>h (Subtype.ext e)⟩
 ·rw[nzl_len];exact Subtype.ext (by rw[<- hpw _ (Nat.le_refl _)];exact c4)
 ·intro f hf hd he;rw[nzl_len] at hd he;have hm:=fold_dvd hf fs _ (List.all_eq_true.2 c2) c1 hd;exact c5 f hm (by rw[hpw _ (Nat.div_le_self _ _),he];rfl)
def free (p d kk c:Nat):Nat->Nat->Bool
 |0,_=>true
 |n+1,x=>(pmul p d x 1 kk c !=0)&&free p d kk c n (x+1)
def irrF (p kk c:Nat):Nat->Nat->Bool
 |0,_=>true
 |n+1,d=>free p d kk c (p ^ d) (p ^ d)&&irrF p kk c n (d+1)
def irr (p k c:Nat):Bool:=irrF p (k+1) c (k/2) 1
def nirr (p k:Nat):Nat->Nat->Bool
 |0,_=>true
 |n+1,c=> !irr p k c&&nirr p k n (c+1)
def cert (e:Nat × Nat × Nat × Nat × List Nat):Bool:=
 match e with
 |(p,k,m,g,fs)=>Nat.ble (p ^ k) m&&Nat.blt m (2*p ^ k)&&nirr p k (m-p ^ k) (p ^ k)&&irr p k m&&gcert p k m g fs
def tab0:List (Nat × Nat × Nat × Nat × List Nat):= [(2,2,7,2,[3]),(2,3,11,2,[7]),(2,4,19,2,[3,5]),(2,5,37,2,[31]),(2,6,67,2,[3,7]),(2,7,131,2,[127]),(2,8,283,3,[3,5,17]),(2,9,515,7,[7,73]),(2,10,1033,2,[3,11,31]),(2,11,2053,2,[23,89]),(2,12,4105,3,[3,5,7,13]),(2,13,8219,2,[8191])]
def tab1:List (Nat × Nat × Nat × Nat × List Nat):= [(2,14,16417,7,[3,43,127])]
def tab2:List (Nat × Nat × Nat × Nat × List Nat):= [(2,15,32771,2,[7,31,151])]
def tab3:List (Nat × Nat × Nat × Nat × List Nat):= [(2,16,65579,3,[3,5,17,257])]
def tab4:List (Nat × Nat × Nat × Nat × List Nat):= [(3,2,10,4,[2]),(3,3,34,3,[2,13]),(3,4,86,3,[2,5]),(3,5,250,3,[2,11]),(3,6,734,3,[2,7,13]),(3,7,2198,5,[2,1093]),(3,8,6572,38,[2,5,41]),(3,9,19747,3,[2,13,757]),(3,10,59068,34,[2,11,61]),(5,2,27,6,[2,3]),(5,3,131,9,[2,31]),(5,4,627,6,[2,3,13]),(5,5,3146,10,[2,11,71]),(5,6,15632,5,[2,3,7,31])]
def tab5:List (Nat × Nat × Nat × Nat × List Nat):= [(7,2,50,9,[2,3]),(7,3,345,22,[2,3,19]),(7,4,2409,12,[2,3,5]),(7,5,16817,9,[2,3,2801]),(11,2,122,15,[2,3,5]),(11,3,1346,11,[2,5,7,19]),(11,4,14654,11,[2,3,5,61]),(13,2,171,15,[2,3,7]),(13,3,2199,15,[2,3,61]),(13,4,28563,17,[2,3,5,7,17]),(17,2,292,19,[2,3]),(17,3,4933,17,[2,307]),(19,2,362,22,[2,3,5]),(19,3,6861,29,[2,3,127]),(23,2,530,25,[2,3,11]),(23,3,12193,23,[2,7,11,79]),(29,2,843,30,[2,3,5,7]),(29,3,24422,30,[2,7,13,67]),(31,2,962,35,[2,3,5]),(31,3,29794,34,[2,3,5,331])]
def tab6:List (Nat × Nat × Nat × Nat × List Nat):= [(37,2,1371,41,[2,3,19]),(37,3,50655,75,[2,3,7,67]),(41,2,1684,43,[2,3,5,7]),(43,2,1850,45,[2,3,7,11]),(47,2,2210,49,[2,3,23]),(53,2,2811,54,[2,3,13]),(59,2,3482,62,[2,3,5,29]),(61,2,3723,63,[2,3,5,31]),(67,2,4490,74,[2,3,11,17]),(71,2,5042,79,[2,3,5,7]),(73,2,5334,76,[2,3,37]),(79,2,6242,85,[2,3,5,13]),(83,2,6890,93,[2,3,7,41]),(89,2,7924,91,[2,3,5,11]),(97,2,9414,101,[2,3,7]),(101,2,10203,102,[2,3,5,17]),(103,2,10610,105,[2,3,13,17]),(107,2,11450,109,[2,3,53]),(109,2,11883,111,[2,3,5,11]),(113,2,12772,117,[2,3,7,19]),(127,2,16130,135,[2,3,7]),(131,2,17162,134,[2,3,5,11,13]),(137,2,18772,145,[2,3,17,23]),(139,2,19322,143,[2,3,5,7,23]),(149,2,22203,152,[2,3,5,37]),(151,2,22802,160,[2,3,5,19]),(157,2,24651,159,[2,3,13,79]),(163,2,26570,170,[2,3,41]),(167,2,27890,169,[2,3,7,83]),(173,2,29931,174,[2,3,29,43]),(179,2,32042,182,[2,3,5,89]),(181,2,32763,185,[2,3,5,7,13]),(191,2,36482,201,[2,3,5,19]),(193,2,37254,198,[2,3,97]),(197,2,38811,200,[2,3,7,11]),(199,2,39602,212,[2,3,5,11]),(211,2,44522,215,[2,3,5,7,53]),(223,2,49730,225,[2,3,7,37]),(227,2,51530,229,[2,3,19,113]),(229,2,52443,231,[2,3,5,19,23]),(233,2,54292,241,[2,3,13,29]),(239,2,57122,247,[2,3,5,7,17]),(241,2,58088,248,[2,3,5,11]),(251,2,63002,256,[2,3,5,7])]
end FFld
end
section
namespace FFld
set_option maxRecDepth 100000 in
theorem tab0_ok:tab0.all cert=true:=by decide +kernel
end FFld
end
section
namespace FFld
set_option maxRecDepth 100000 in
theorem tab1_ok:tab1.all cert=true:=by decide +kernel
set_option maxRecDepth 100000 in
theorem tab2_ok:tab2.all cert=true:=by decide +kernel
set_option maxRecDepth 100000 in
theorem tab5_ok:tab5.all cert=true:=by decide +kernel
set_option maxRecDepth 100000 in
theorem tab6_ok:tab6.all cert=true:=by decide +kernel
end FFld
end
section
namespace FFld
set_option maxRecDepth 100000 in
theorem tab3_ok:tab3.all cert=true:=by decide +kernel
end FFld
end
section
namespace FFld
set_option maxRecDepth 100000 in
theorem tab4_ok:tab4.all cert=true:=by decide +kernel
end FFld
end
section
namespace FFld
theorem free_iff (p d kk c:Nat):∀ (n x:Nat),free p d kk c n x=true↔ ∀ y,x<=y->y<x+n->pmul p d y 1 kk c≠0:=by
 intro n
 induction n with
 |zero=>intro x;exact⟨fun _ y h1 h2=>by omega,fun _=>rfl⟩
 | succ n ih=>
   intro x;simp only[free,Bool.and_eq_true,bne_iff_ne,ih];constructor
   ·intro h y h1 h2
    by_cases e:y=x
    ·subst e;exact h.1
    ·exact h.2 y (by omega) (by omega)
   ·intro h;exact⟨h x (Nat.le_refl _) (by omega),fun y h1 h2=>h y (by omega) (by omega)⟩
theorem irrF_iff (p kk c:Nat):∀ (n d:Nat),irrF p kk c n d=true↔ ∀ e,d<=e->e<d+n-> ∀ y,p ^ e<=y->y<2*p ^ e->pmul p e y 1 kk c≠0:=by
 intro n
 induction n with
 |zero=>intro x;exact⟨fun _ y h1 h2=>by omega,fun _=>rfl⟩
 | succ n ih=>
   intro d;simp only[irrF,Bool.and_eq_true,free_iff,ih];constructor
   ·intro h e h1 h2 y h3 h4
    by_cases he:e=d
    ·subst he;exact h.1 y h3 (by omega)
    ·exact h.2 e (by omega) (by omega) y h3 h4
   ·intro h;exact⟨fun y h1 h2=>h d (Nat.le_refl _) (by omega) y h1 (by omega),fun e h1 h2=>h e (by omega) (by omega)⟩
def Irr (p k c:Nat):Prop:= ∀ d,1<=d->2*d<=k-> ∀ y,p ^ d<=y->y<2*p ^ d->pmul p d y 1 (k+1) c≠0
theorem irr_iff (p k c:Nat):irr p k c=true↔Irr p k c:=by
 unfold irr Irr;rw[irrF_iff];constructor
 ·intro h d h1 h2;exact h d h1 (by omega)
 ·intro h d h1 h2;exact h d h1 (by omega)
theorem nirr_iff (p k:Nat):∀ (n c:Nat),nirr p k n c=true↔ ∀ y,c<=y->y<c+n-> ¬ Irr p k y:=by
 intro n
 induction n with
 |zero=>intro x;exact⟨fun _ y h1 h2=>by omega,fun _=>rfl⟩
 | succ n ih=>
   intro c;simp only[nirr,Bool.and_eq_true,Bool.not_eq_true',ih];constructor
   ·intro h y h1 h2
    by_cases e:y=c
    ·subst e;rw[<- irr_iff,h.1];simp
    ·exact h.2 y (by omega) (by omega)
   ·intro h;refine⟨?_,fun y h1 h2=>h y (by omega) (by omega)⟩;have:=h c (Nat.le_refl _) (by omega);rw[<- irr_iff] at this
    simpa using this
structure FD where
 p:Nat
 k:Nat
 m:Nat
 g:Nat
def FD.q (D:FD):Nat:=D.p ^ D.k
structure FD.Pre (D:FD):Prop where
 prime:Prime D.p
 k1:1<=D.k
 small:D.q<=65536
 mod1:D.k=1->D.m=D.p
 mod2:2<=D.k->D.q<=D.m/\D.m<2*D.q/\Irr D.p D.k D.m/\ ∀ n,D.q<=n->n<D.m-> ¬ Irr D.p D.k n
theorem FD.Pre.pk {D:FD}(h:D.Pre):PK D.p D.k D.m:=⟨h.prime.1,h.k1⟩
def FD.Nzd (D:FD)(h:PK D.p D.k D.m):Prop:= ∀ a b,(rng h).mul a b=(rng h).zero->a=(rng h).zero\/b=(rng h).zero
def FD.dom {D:FD}{h:PK D.p D.k D.m}(hn:D.Nzd h):Dom (El (D.p ^ D.k)):=(rng h).dom hn
theorem nzl_all {D:FD}{h:PK D.p D.k D.m}(hn:D.Nzd h):(FD.dom hn).All (nzl (D.p ^ D.k)):=by
 refine⟨nzl_nodup _,fun a=> ?_⟩;rw[nzl_mem];exact⟨fun h e=>h (congrArg Subtype.val e),fun h e=>h (Subtype.ext e)⟩
structure FD.Ok (D:FD):Prop where
 pre:D.Pre
 nzd:D.Nzd pre.pk
 g1:1<=D.g
 gq:D.g<D.p ^ D.k
 ord:(FD.dom nzd).Ord ⟨D.g,gq⟩ (D.p ^ D.k-1)
 least:∀ a (ha:a<D.p ^ D.k),1<=a->a<D.g-> ¬ (FD.dom nzd).Ord ⟨a,ha⟩ (D.p ^ D.k-1)
theorem exists_least {P:Nat->Prop} :∀ (n:Nat),P n-> ∃ m,P m/\ ∀ i,i<m-> ¬ P i:=by
 intro n
 induction n using Nat.strongRecOn with
 | ind n ih=>
   intro h
   rcases Classical.em (∃ i,i<n/\P i) with⟨i,hi,hp⟩|hno
   ·exact ih i hi hp
   ·exact⟨n,h,fun i hi hp=>hno ⟨i,hi,hp⟩⟩
theorem FD.with_gen (p k m:Nat)(h:FD.Pre ⟨p,k,m,0⟩)(hn:FD.Nzd ⟨p,k,m,0⟩ h.pk):∃ g,FD.Ok ⟨p,k,m,g⟩:=by
 have h1:1<p ^ k:=h.pk.one_lt;have hall:=nzl_all hn;obtain⟨g,hg,ho⟩:=(FD.dom hn).exists_gen hall (by rw[nzl_len];have:1<p ^ k:=h1;show 0<p ^ k-1;omega);rw[nzl_len] at ho;obtain⟨a,⟨ha,ha1,hao⟩,hl⟩:=exists_least (P:=fun a=> ∃ ha:a<p ^ k,1<=a/\(FD.dom hn).Ord ⟨a,ha⟩ (p ^ k-1)) g.1 ⟨g.2,Nat.pos_of_ne_zero (fun e=>hg (Subtype.ext e)),ho⟩;have hpre:FD.Pre ⟨p,k,m,a⟩:=⟨h.prime,h.k1,h.small,h.mod1,h.mod2⟩;exact⟨a,⟨hpre,hn,ha1,ha,hao,fun b hb hb1 hlt hbo=>hl b hlt ⟨hb,hb1,hbo⟩⟩⟩
theorem FD.prime_exists (p:Nat)(hp:Prime p)(hq:p<=65536):∃ g,FD.Ok ⟨p,1,p,g⟩:=by
 have h:FD.Pre ⟨p,1,p,0⟩:=⟨hp,Nat.le_refl _,by show p ^ 1<=_;rw[Nat.pow_one];exact hq,fun _=>rfl,fun h=>by simp at h⟩;exact FD.with_gen p 1 p h (nzd_prime h.pk hp (Nat.mod_self p))
def tab:List (Nat × Nat × Nat × Nat × List Nat):=tab0++tab1++tab2++tab3++tab4++tab5++tab6
theorem tab_ok:tab.all cert=true:=by
 unfold tab;simp only[List.all_append,Bool.and_eq_true];exact⟨⟨⟨⟨⟨⟨tab0_ok,tab1_ok⟩,tab2_ok⟩,tab3_ok⟩,tab4_ok⟩,tab5_ok⟩,tab6_ok⟩
theorem tab_all:(List.range 257).all (fun p=>(List.range 17).all fun k=>Nat.ble k 1||Nat.blt 65536 (p ^ k)|| !isP p||tab.any (fun e=>e.1==p&&e.2.1==k))=true:=by decide +kernel
theorem isP_of {p:Nat}(hp:Prime p):isP p=true:=by
 simp only[isP,Bool.and_eq_true,List.all_eq_true,List.mem_range,Bool.or_eq_true,bne_iff_ne,Nat.ble_eq];refine⟨hp.1,fun d hd=> ?_⟩
 by_cases h1:d<=1
 ·exact .inl h1
 ·right;intro h0
  rcases hp.2 d (Nat.dvd_of_mod_eq_zero h0) with h|h<;>omega
theorem FD.ext_exists (p k:Nat)(hp:Prime p)(hk:2<=k)(hq:p ^ k<=65536):∃ m g,FD.Ok ⟨p,k,m,g⟩:=by
 have hp2:=hp.1
 have hpl:p<257:=by
  have h1:p ^ 2<=p ^ k:=Nat.pow_le_pow_right (by omega) hk
  rcases Nat.lt_or_ge p 257 with h|h
  ·exact h
  ·have:=Nat.mul_le_mul h h;rw[Nat.pow_two] at h1;omega
 have hkl:k<17:=by
  rcases Nat.lt_or_ge k 17 with h|h
  ·exact h
  ·have h1:2 ^ 17<=p ^ k:=Nat.le_trans (Nat.pow_le_pow_right (by omega) h) (Nat.pow_le_pow_left hp2 k);rw[show(2:Nat) ^ 17=131072 from rfl] at h1;omega
 have ht:=tab_all;simp only[List.all_eq_true,List.mem_range,Bool.or_eq_true,Bool.not_eq_true',List.any_eq_true,Bool.and_eq_true,beq_iff_eq,Nat.ble_eq,Nat.blt_eq] at ht;have h3:=ht p hpl k hkl;rw[isP_of hp] at h3
 rcases h3 with((h3|h3)|h3)|h3
 ·omega
 ·omega
 ·exact absurd h3 (by simp)
 ·obtain⟨⟨p',k',m,g,fs⟩,hm,h1,h2⟩:=h3;simp only[] at h1 h2;subst h1 h2;have hc:=List.all_eq_true.1 tab_ok _ hm;simp only[cert,Bool.and_eq_true,Nat.ble_eq,Nat.blt_eq,nirr_iff,irr_iff] at hc;obtain⟨⟨⟨⟨c1,c2⟩,c3⟩,c4⟩,c5⟩:=hc;have h:FD.Pre ⟨p',k',m,0⟩:=⟨hp,by show 1<=k';omega,hq,fun h=>by have h' :k' =1:=h;omega,fun _=>⟨c1,c2,c4,fun n h1 h2=>c3 n h1 (by have e1:p' ^ k' <=n:=h1;have e2:n<m:=h2;omega)⟩⟩;obtain⟨g',hg'⟩:=FD.with_gen p' k' m h (nzd_cert h.pk hq c5);exact⟨m,g',hg'⟩
theorem FD.exists (p k:Nat)(hp:Prime p)(hk:1<=k)(hq:p ^ k<=65536):∃ m g,FD.Ok ⟨p,k,m,g⟩:=by
 by_cases h:k=1
 ·subst h;rw[Nat.pow_one] at hq;obtain⟨g,hg⟩:=FD.prime_exists p hp hq;exact⟨p,g,hg⟩
 ·exact FD.ext_exists p k hp (by omega) hq
end FFld
end
section
namespace FFld
theorem isP_iff (n:Nat):isP n=true↔Prime n:=⟨isP_prime,isP_of⟩
theorem isP_none {n k:Nat}(hk:2<=k)(h:∀ i,2<=i->i<k-> ¬ i∣n)(hn:n<k*k):isP n=decide (1<n):=by
 by_cases h1:1<n
 ·rw[decide_eq_true h1,isP_iff];refine⟨h1,fun d hd=> ?_⟩
  apply Classical.byContradiction
  intro hc;have hd0:d≠0:=fun e=>by subst e;rw[Nat.zero_dvd] at hd;omega
  obtain⟨c,hcc⟩:=hd;have hc0:c≠0:=fun e=>by subst e;omega
  have hc1:c≠1:=fun e=>by subst e;omega
  have hdk:k<=d:=by
   rcases Nat.lt_or_ge d k with hl|hl
   ·exact absurd ⟨c,hcc⟩ (h d (by omega) hl)
   ·exact hl
  have hck:k<=c:=by
   rcases Nat.lt_or_ge c k with hl|hl
   ·exact absurd ⟨d,by rw[hcc,Nat.mul_comm]⟩ (h c (by omega) hl)
   ·exact hl
  have:=Nat.mul_le_mul hdk hck;omega
 ·rw[decide_eq_false h1]
  apply Bool.eq_false_iff.2
  intro hp;have:=(isP_prime hp).1;omega
def ints (l:List Nat):List Int:=l.map (fun c:Nat=>(c:Int))
theorem ints_len (l:List Nat):(ints l).length=l.length:=by simp[ints]
theorem ints_get (l:List Nat)(i:Nat):(ints l)[i]?.getD 0=((l[i]?.getD 0:Nat):Int):=by
 simp only[ints,List.getElem?_map]
 cases l[i]? <;>rfl
theorem ints_append (l m:List Nat):ints (l++m)=ints l++ints m:=by simp[ints]
theorem ints_set (l:List Nat)(i v:Nat):(ints l).set i (v:Int)=ints (l.set i v):=by simp[ints,List.map_set]
theorem ints_take (l:List Nat)(n:Nat):(ints l).take n=ints (l.take n):=by simp[ints,List.map_take]
theorem ints_rep (n:Nat):List.replicate n (0:Int)=ints (List.replicate n 0):=by simp[ints]
theorem getD_lt {p:Nat}(hp:0<p){l:List Nat}(h:∀ c∈l,c<p)(i:Nat):l[i]?.getD 0<p:=by
 cases e:l[i]? with
 |none=>exact hp
 |some c=>exact h c (List.mem_of_getElem? e)
structure Digs (p n:Nat)(l:List Nat):Prop where
 val:num p l=n
 lt:∀ c∈l,c<p
 nz:l.getLast? ≠some 0
theorem num_snoc' (p c:Nat)(l:List Nat):num p (l++ [c])=num p l+p ^ l.length*c:=by
 induction l with
 |nil=>simp[num]
 |cons d l ih=>simp only[List.cons_append,num,ih,List.length_cons,Nat.pow_succ',Nat.mul_add,Nat.mul_assoc];omega
structure DgAt (p n:Nat)(l:List Nat)(cur:Nat):Prop where
 val:num p l+p ^ l.length*cur=n
 lt:∀ c∈l,c<p
 nz:cur=0->l.getLast? ≠some 0
theorem DgAt.start (p n:Nat):DgAt p n [] n:=⟨by simp[num],fun c h=>by simp at h,fun _=>by simp⟩
theorem DgAt.next {p n cur:Nat}{l:List Nat}(h:DgAt p n l cur)(hp:2<=p)(hc:0<cur):DgAt p n (l++ [cur%p]) (cur/p):=by
 refine⟨?_,?_,?_⟩
 ·rw[num_snoc',List.length_append,List.length_singleton,Nat.pow_succ,Nat.mul_assoc,Nat.add_assoc,<- Nat.mul_add,Nat.mod_add_div];exact h.val
 ·intro c hc'
  rcases List.mem_append.1 hc' with h1|h1
  ·exact h.lt c h1
  ·rw[List.mem_singleton.1 h1];exact Nat.mod_lt _ (by omega)
 ·intro h0;rw[List.getLast?_append];simp;have:=Nat.mod_add_div cur p;rw[h0] at this;simp at this;omega
theorem DgAt.done {p n:Nat}{l:List Nat}(h:DgAt p n l 0):Digs p n l:=⟨by simpa using h.val,h.lt,h.nz rfl⟩
theorem DgAt.len {p n cur:Nat}{l:List Nat}(h:DgAt p n l cur)(hp:2<=p)(hc:0<cur):2 ^ l.length<=n:=by
 have h1:=h.val;have h2:p ^ l.length*1<=p ^ l.length*cur:=Nat.mul_le_mul_left _ hc;have h3:2 ^ l.length<=p ^ l.length:=Nat.pow_le_pow_left hp _;omega
theorem len_of_pow {l n:Nat}(h:2 ^ l<=n)(hn:n<=1099511627776):l<=40:=by
 rcases Nat.lt_or_ge 40 l with h1|h1
 ·have:=Nat.pow_le_pow_right (n:=2) (by omega) (show 41<=l from h1);rw[show(2:Nat) ^ 41=2199023255552 from rfl] at this;generalize(2:Nat) ^ l=z at*;omega
 ·exact h1
theorem snoc_of_ne {l:List Nat}(h:l≠ []):∃ m c,l=m++ [c]:=⟨l.dropLast,l.getLast h,(List.dropLast_concat_getLast h).symm⟩
theorem num_ge {p:Nat}{l:List Nat}(h:l.getLast? ≠some 0)(hl:l≠ []):p ^ (l.length-1)<=num p l:=by
 obtain⟨m,c,rfl⟩:=snoc_of_ne hl;rw[num_snoc'];simp at h ⊢;have:p ^ m.length*1<=p ^ m.length*c:=Nat.mul_le_mul_left _ (by omega);omega
theorem Digs.len {p n k:Nat}{l:List Nat}(h:Digs p n l)(hp:2<=p)(hn:n<p ^ k):l.length<=k:=by
 rcases Nat.lt_or_ge k l.length with h1|h1
 ·have h2:=num_ge (p:=p) h.nz (fun e=>by subst e;simp at h1);have h3:p ^ k<=p ^ (l.length-1):=Nat.pow_le_pow_right (by omega) (by omega);rw[h.val] at h2;omega
 ·exact h1
theorem Digs.zero {p:Nat}{l:List Nat}(h:Digs p 0 l)(hp:2<=p):l= []:=by
 have:=h.len hp (k:=0) (by simp);exact List.eq_nil_of_length_eq_zero (by omega)
theorem Digs.nil_iff {p n:Nat}{l:List Nat}(h:Digs p n l)(hp:2<=p):l= []↔n=0:=by
 constructor
 ·intro e;rw[<- h.val,e];rfl
 ·intro e;subst e;exact h.zero hp
theorem Digs.monic {p n k:Nat}{l:List Nat}(h:Digs p n l)(hp:2<=p)(h1:p ^ k<=n)(h2:n<2*p ^ k):∃ m,l=m++ [1]/\m.length=k:=by
 have hk1:n<p ^ (k+1):=by
  have:2*p ^ k<=p*p ^ k:=Nat.mul_le_mul_right _ hp;rw[Nat.pow_succ'];omega
 have hl:=h.len hp hk1
 have hne:l≠ []:=fun e=>by
  have:=(h.nil_iff hp).1 e;have:0<p ^ k:=Nat.pow_pos (by omega);omega
 obtain⟨m,c,rfl⟩:=snoc_of_ne hne;have hmlt:=num_lt (p:=p) (by omega) m (fun c hc=>h.lt c (List.mem_append_left _ hc));have hv:=h.val;rw[num_snoc'] at hv;simp at hl
 have hmk:m.length=k:=by
  rcases Nat.lt_or_ge m.length k with hlt|hge
  ·have hc:=h.lt c (by simp);have e1:p ^ m.length*c+p ^ m.length<=p ^ m.length*p:=by rw[<- Nat.mul_succ];exact Nat.mul_le_mul_left _ hc
   rw[<- Nat.pow_succ] at e1;have e2:p ^ (m.length+1)<=p ^ k:=Nat.pow_le_pow_right (by omega) hlt;have e3:p ^ m.length.succ=p ^ (m.length+1):=rfl;omega
  ·omega
 refine⟨m,?_,hmk⟩;rw[hmk] at hv hmlt;have hpos:0<p ^ k:=Nat.pow_pos (by omega)
 have hc1:c=1:=by
  rcases Nat.lt_trichotomy c 1 with hlt|he|hgt
  ·have:c=0:=by omega
   subst this;omega
  ·exact he
  ·have:p ^ k*2<=p ^ k*c:=Nat.mul_le_mul_left _ hgt;omega
 rw[hc1]
theorem num_drop {p:Nat}{l:List Nat}{i:Nat}(hi:i<l.length):num p (l.drop i)=l[i]?.getD 0+p*num p (l.drop (i+1)):=by
 rw[List.drop_eq_getElem_cons hi];simp[num,hi]
theorem num_drop_lt {p:Nat}(hp:0<p){l:List Nat}(h:∀ c∈l,c<p)(i:Nat):num p (l.drop i)<p ^ (l.length-i):=by
 have:=num_lt hp (l.drop i) (fun c hc=>h c (List.mem_of_mem_drop hc))
 rwa [List.length_drop] at this
theorem mem_set {p v:Nat}{l:List Nat}{i:Nat}(h:∀ c∈l,c<p)(hv:v<p):∀ c∈l.set i v,c<p:=fun c hc=>by
 rcases List.mem_or_eq_of_mem_set hc with h1|h1
 ·exact h c h1
 ·omega
structure TmAt (p:Nat)(x y o:List Nat)(i j:Nat):Prop where
 len:o.length=x.length+y.length-1
 lt:∀ c∈o,c<p
 val:∀ k m,PK p k m->evl p k m 1 o=padd p k (evl p k m (evl p k m 1 y) (x.take i)) (pscl p k (x[i]?.getD 0) (shn p k m (evl p k m 1 (y.take j)) i))
theorem TmAt.start {p:Nat}(hp:2<=p)(x y:List Nat):TmAt p x y (List.replicate (x.length+y.length-1) 0) 0 0:=by
 refine⟨by simp,fun c hc=> ?_,fun k m h=> ?_⟩
 ·rw[List.eq_of_mem_replicate hc];omega
 ·rw[evl_zeros h];simp only[List.take_zero,evl,shn];rw[pscl_nil h,padd_zero h _ (Nat.pow_pos h.p0)]
theorem TmAt.next {p:Nat}{x y o:List Nat}{i j d:Nat}(h:TmAt p x y o i j)(hp:2<=p)(hi:i<x.length)(hj:j<y.length)(hd:(o[i+j]?.getD 0+x[i]?.getD 0*y[j]?.getD 0)%p=d):TmAt p x y (o.set (i+j) d) i (j+1):=by
 subst hd;refine⟨by rw[List.length_set];exact h.len,mem_set h.lt (Nat.mod_lt _ (by omega)),fun k m hk=> ?_⟩;exact evl_row hk 1 (x[i]?.getD 0) i o y _ j hj (by have:=h.len;omega) (h.val k m hk)
theorem TmAt.row {p:Nat}{x y o:List Nat}{i:Nat}(h:TmAt p x y o i y.length)(hi:i<x.length):TmAt p x y o (i+1) 0:=by
 refine⟨h.len,h.lt,fun k m hk=> ?_⟩;rw[h.val k m hk,List.take_length,take_snoc hk x i hi,evl_snoc hk,List.length_take,Nat.min_eq_left (by omega)];simp only[List.take_zero,evl];rw[shn_zero hk,pscl_nil hk,padd_zero hk _ (padd_lt hk _ _)]
theorem TmAt.done {p:Nat}{x y o:List Nat}(h:TmAt p x y o x.length 0):∀ k m,PK p k m->evl p k m 1 o=evl p k m (evl p k m 1 y) x:=fun k m hk=>by
 rw[h.val k m hk,List.take_length];simp only[List.take_zero,evl];rw[shn_zero hk,pscl_nil hk,padd_zero hk _ (evl_lt hk _ _)]
structure Tms (p a b c n:Nat):Prop where
 lt:c<p ^ n
 val:∀ k m,PK p k m->a<p ^ k->b<p ^ k->pmul p k m 1 n c=pmul p k m a k b
theorem TmAt.tms {p a b n:Nat}{x y o:List Nat}(h:TmAt p x y o x.length 0)(hp:2<=p)(hx:Digs p a x)(hy:Digs p b y)(hn:x.length+y.length-1<=n):Tms p a b (num p o) n:=by
 have hl:=num_lt (p:=p) (by omega) o h.lt;refine⟨Nat.lt_of_lt_of_le hl (Nat.pow_le_pow_right (by omega) (by have:=h.len;omega)),fun k m hk ha hb=> ?_⟩;rw[evl_pmul hk 1 o n h.lt (by have:=h.len;omega),h.done k m hk,evl_one hk y hy.lt (hy.len hp hb),hy.val,<- evl_pmul hk b x k hx.lt (hx.len hp ha),hx.val,pmul_comm hk b a hb ha]
theorem Tms.zero {p a b n:Nat}(hp:2<=p)(hz:a=0\/b=0):Tms p a b 0 n:=by
 refine⟨Nat.pow_pos (by omega),fun k m hk ha hb=> ?_⟩;rw[pmul_zero_right hk]
 rcases hz with rfl|rfl
 ·rw[pmul_comm hk 0 b ha hb,pmul_zero_right hk]
 ·rw[pmul_zero_right hk]
structure RsAt (p k y:Nat)(V:Nat)(x:List Nat):Prop where
 lt:∀ c∈x,c<p
 val:evl p k y 1 x=V
structure RwAt (p k m at_ c V:Nat)(y x0 x:List Nat)(i:Nat):Prop where
 len:x.length=x0.length
 lt:∀ c∈x,c<p
 val:evl p k m 1 x=padd p k V (pscl p k c (shn p k m (evl p k m 1 (y.take i)) at_))
 old:∀ j,at_+i<=j->x[j]?.getD 0=x0[j]?.getD 0
 top:i=y.length->x[x0.length-1]?.getD 0=0
theorem RwAt.start {p k m V:Nat}{x:List Nat}(hk:PK p k m)(h:RsAt p k m V x)(at_ c:Nat)(y:List Nat)(hy:1<=y.length):RwAt p k m at_ c V y x x 0:=by
 refine⟨rfl,h.lt,?_,fun j hj=>rfl,fun e=>by omega⟩;have hV:V<p ^ k:=by rw[<- h.val];exact evl_lt hk _ _
 rw[h.val];simp only[List.take_zero,evl];rw[shn_zero hk,pscl_nil hk,padd_zero hk _ hV]
theorem RwAt.next {p k m at_ c V i d:Nat}{y x0 x:List Nat}(hk:PK p k m)(h:RwAt p k m at_ c V y x0 x i)(hi:i<y.length)(hx:at_+y.length=x0.length)(hc:x0[x0.length-1]?.getD 0+c=p)(hy:y[y.length-1]?.getD 0=1)(hd:(x[at_+i]?.getD 0+c*y[i]?.getD 0)%p=d):RwAt p k m at_ c V y x0 (x.set (at_+i) d) (i+1):=by
 subst hd;refine⟨by rw[List.length_set];exact h.len,mem_set h.lt (Nat.mod_lt _ hk.p0),evl_row hk 1 c at_ x y V i hi (by have:=h.len;omega) h.val,fun j hj=> ?_,fun e=> ?_⟩
 ·rw[List.getElem?_set_ne (by omega)];exact h.old j (by omega)
 ·have hl:=h.len;have e1:x0.length-1=at_+i:=by omega
  have e2:i=y.length-1:=by omega
  rw[e1,List.getElem?_set_self (by omega),Option.getD_some,h.old _ (Nat.le_refl _),<- e1,e2,hy,Nat.mul_one,hc,Nat.mod_self]
theorem RwAt.done {p k m at_ c V:Nat}{y x0 x:List Nat}(hk:PK p k m)(h:RwAt p k m at_ c V y x0 x y.length)(hy:evl p k m 1 y=0)(hV:V<p ^ k):RsAt p k m V x:=by
 refine⟨h.lt,?_⟩;rw[h.val,List.take_length,hy,shn_zero hk,pscl_nil hk,padd_zero hk _ hV]
theorem RsAt.cut {p k m V:Nat}{x:List Nat}(hk:PK p k m)(h:RsAt p k m V x){n:Nat}(hn:n+1=x.length)(h0:x[n]?.getD 0=0):RsAt p k m V (x.take n):=by
 refine⟨fun c hc=>h.lt c (List.mem_of_mem_take hc),?_⟩
 have e:x=x.take n++ [0]:=by
  conv=>lhs;rw[<- List.take_length (l:=x),<- hn,take_snoc hk x n (by omega),h0]
 rw[<- h.val]
 conv=>rhs;rw[e,evl_trim hk]
theorem RsAt.done {p k m V:Nat}{x:List Nat}(hk:PK p k m)(h:RsAt p k m V x)(hl:x.length<=k):num p x=V:=by
 rw[<- h.val,evl_one hk x h.lt hl]
theorem Digs.rs {p k m a n:Nat}{x:List Nat}(hk:PK p k m)(h:Digs p a x)(ha:a<p ^ n):RsAt p k m (pmul p k m 1 n a) x:=by
 refine⟨h.lt,?_⟩
 conv=>rhs;rw[<- h.val]
 exact(evl_pmul hk 1 x n h.lt (h.len hk.p2 ha)).symm
structure Mon (p k m:Nat)(y:List Nat):Prop where
 len:y.length=k+1
 top:y[y.length-1]?.getD 0=1
 lt:∀ c∈y,c<p
 zero:evl p k m 1 y=0
theorem Digs.mon {p k m:Nat}{y:List Nat}(hk:PK p k m)(h:Digs p m y)(h1:p ^ k<=m)(h2:m<2*p ^ k):Mon p k m y:=by
 obtain⟨z,rfl,hz⟩:=h.monic hk.p2 h1 h2;refine⟨by simp[hz],by simp,h.lt,?_⟩;exact evl_modulus hk z (fun c hc=>h.lt c (List.mem_append_left _ hc)) hz h.val.symm
theorem ofd_succ (p:Nat):∀ (j:Nat) (f:Nat->Nat),ofd p f (j+1)=ofd p f j+p ^ j*f j:=by
 intro j
 induction j with
 |zero=>intro f;simp[ofd]
 | succ j ih=>
   intro f
   show f 0+p*ofd p (fun i=>f (i+1)) (j+1)=(f 0+p*ofd p (fun i=>f (i+1)) j)+p ^ (j+1)*f (j+1)
   rw[ih (fun i=>f (i+1)),Nat.mul_add,<- Nat.mul_assoc,<- Nat.pow_succ',Nat.add_assoc]
theorem ofd_zeros (p:Nat)(f:Nat->Nat)(j:Nat):∀ (n:Nat),(∀ i,j<=i->i<j+n->f i=0)->ofd p f (j+n)=ofd p f j:=by
 intro n
 induction n with
 |zero=>intro _;rfl
 |succ n ih=>intro h;rw[<- Nat.add_assoc,ofd_succ,ih (fun i h1 h2=>h i h1 (by omega)),h (j+n) (by omega) (by omega),Nat.mul_zero,Nat.add_zero]
structure DlAt (p:Nat)(f:Nat->Nat)(k j n u:Nat):Prop where
 n:n=ofd p f j
 u:u=p ^ j
 jk:j<=k
theorem DlAt.start (p:Nat)(f:Nat->Nat)(k:Nat):DlAt p f k 0 0 1:=⟨rfl,rfl,Nat.zero_le _⟩
theorem DlAt.next {p k j n u:Nat}{f:Nat->Nat}(h:DlAt p f k j n u)(hj:j<k):DlAt p f k (j+1) (n+f j*u) (u*p):=by
 refine⟨?_,by rw[h.u,Nat.pow_succ],hj⟩;rw[ofd_succ,h.n,h.u,Nat.mul_comm]
theorem DlAt.done {p k j n u:Nat}{f:Nat->Nat}(h:DlAt p f k j n u)(hz:∀ i,j<=i->f i=0):n=ofd p f k:=by
 have hjk:=h.jk;rw[h.n];have:=ofd_zeros p f j (k-j) (fun i h1 _=>hz i h1);rw[show j+(k-j)=k from by omega] at this;exact this.symm
theorem DlAt.u_le {p k j n u:Nat}{f:Nat->Nat}(h:DlAt p f k j n u)(hp:2<=p):u<=p ^ k:=by
 rw[h.u];exact Nat.pow_le_pow_right (by omega) h.jk
theorem DlAt.up_le {p k j n u:Nat}{f:Nat->Nat}(h:DlAt p f k j n u)(hp:2<=p)(hj:j<k):u*p<=p ^ k:=by
 rw[h.u,<- Nat.pow_succ];exact Nat.pow_le_pow_right (by omega) hj
theorem DlAt.n_lt {p k j n u:Nat}{f:Nat->Nat}(h:DlAt p f k j n u)(hp:2<=p)(hf:∀ i,f i<p):n<p ^ k:=by
 rw[h.n];exact Nat.lt_of_lt_of_le (ofd_lt (by omega) j f hf) (Nat.pow_le_pow_right (by omega) h.jk)
theorem cur_zero {p a i j:Nat}(h:a/p ^ j=0)(hp:2<=p)(hij:j<=i):dig p a i=0:=by
 have hpos:0<p ^ j:=Nat.pow_pos (by omega)
 have:a<p ^ j:=by
  rcases Nat.lt_or_ge a (p ^ j) with h1|h1
  ·exact h1
  ·have:=Nat.div_pos h1 hpos;omega
 exact dig_big (Nat.lt_of_lt_of_le this (Nat.pow_le_pow_right (by omega) hij))
theorem cur_pos {p a k j:Nat}(ha:a<p ^ k)(h:0<a/p ^ j)(hp:2<=p):j<k:=by
 rcases Nat.lt_or_ge j k with h1|h1
 ·exact h1
 ·rw[Nat.div_eq_of_lt (Nat.lt_of_lt_of_le ha (Nat.pow_le_pow_right (by omega) h1))] at h;omega
theorem cur_next (p a j:Nat):a/p ^ j/p=a/p ^ (j+1):=by rw[Nat.div_div_eq_div_mul,Nat.pow_succ]
theorem neg_dig {p k m:Nat}(h:PK p k m)(a:Nat):pscl p k (p-1) a=ofd p (fun i=>(p-dig p a i)%p) k:=by
 refine ofd_congr k fun i _=> ?_
 have hp:=h.p2;have hd:=dig_lt h.p0 a i;generalize dig p a i=x at*;obtain⟨r,rfl⟩:∃ r,p=r+1:=⟨p-1,by omega⟩;simp only[Nat.add_sub_cancel]
 rcases Nat.eq_zero_or_pos x with h0|h0
 ·subst h0;simp
 ·have e:x*r=(r+1-x)+(r+1)*(x-1):=by
   obtain⟨y,rfl⟩:∃ y,x=y+1:=⟨x-1,by omega⟩;simp only[Nat.add_sub_cancel];rw[Nat.succ_mul,Nat.mul_comm (r+1) y,Nat.mul_succ];omega
  rw[e,Nat.add_mul_mod_self_left]
end FFld
end
section
namespace FFld
theorem pmul_k1 {p m:Nat}(h:PK p 1 m)(a b:Nat)(ha:a<p)(hb:b<p):pmul p 1 m a 1 b=a*b%p:=by
 have hh:=pmul_lt h a 1 b
 have hd:dig p (pmul p 1 m a 1 b) 0=a*b%p:=by
  simp only[pmul];rw[pshf_zero h,padd_zero h _ (pscl_lt h _ _),dig_pscl h _ _ _ (by omega),dig_zero,Nat.mod_eq_of_lt hb,Nat.mod_mul_mod]
 rw[dig_zero,Nat.mod_eq_of_lt (by simpa using hh)] at hd;exact hd
theorem padd_k1 {p m:Nat}(h:PK p 1 m)(a b:Nat)(ha:a<p)(hb:b<p):padd p 1 a b=(a+b)%p:=by
 have hh:=padd_lt h a b
 have hd:dig p (padd p 1 a b) 0=(a+b)%p:=by
  rw[dig_padd h _ _ _ (by omega),dig_zero,dig_zero,Nat.mod_eq_of_lt ha,Nat.mod_eq_of_lt hb]
 rw[dig_zero,Nat.mod_eq_of_lt (by simpa using hh)] at hd;exact hd
structure PwAt (p k m:Nat)(h:PK p k m)(V r a n:Nat):Prop where
 rl:r<p ^ k
 al:a<p ^ k
 val:((rng h).mul ⟨r,rl⟩ ((rng h).pow ⟨a,al⟩ n)).1=V
def ppow {p k m:Nat}(h:PK p k m)(a n:Nat):Nat:=if ha:a<p ^ k then((rng h).pow ⟨a,ha⟩ n).1 else 0
theorem ppow_lt {p k m:Nat}(h:PK p k m)(a n:Nat):ppow h a n<p ^ k:=by
 unfold ppow
 split
 ·exact((rng h).pow _ n).2
 ·exact Nat.pow_pos h.p0
theorem PwAt.start {p k m:Nat}(h:PK p k m)(a n:Nat)(ha:a<p ^ k):PwAt p k m h (ppow h a n) 1 a n:=by
 refine⟨h.one_lt,ha,?_⟩;unfold ppow;rw[dif_pos ha];exact congrArg Subtype.val ((rng h).one_mul _)
theorem PwAt.even {p k m:Nat}{h:PK p k m}{V r a n:Nat}(hp:PwAt p k m h V r a n)(hn:n%2=0):PwAt p k m h V r (pmul p k m a k a) (n/2):=by
 refine⟨hp.rl,pmul_lt h _ _ _,?_⟩
 have haa:(rng h).pow (⟨pmul p k m a k a,pmul_lt h _ _ _⟩) (n/2)=(rng h).pow ⟨a,hp.al⟩ (2*(n/2)):=by
  rw[(rng h).pow_mul]
  congr 1
  simp only[Rng.pow];rw[(rng h).one_mul];rfl
 rw[haa,show 2*(n/2)=n from by omega];exact hp.val
theorem PwAt.odd {p k m:Nat}{h:PK p k m}{V r a n:Nat}(hp:PwAt p k m h V r a n)(hn:n%2=1):PwAt p k m h V (pmul p k m r k a) (pmul p k m a k a) (n/2):=by
 refine⟨pmul_lt h _ _ _,pmul_lt h _ _ _,?_⟩
 have haa:(rng h).pow (⟨pmul p k m a k a,pmul_lt h _ _ _⟩) (n/2)=(rng h).pow ⟨a,hp.al⟩ (2*(n/2)):=by
  rw[(rng h).pow_mul]
  congr 1
  simp only[Rng.pow];rw[(rng h).one_mul];rfl
 obtain⟨hr,hal,hv⟩:=hp;have e:n=1+2*(n/2):=by omega
 have e1:(rng h).pow ⟨a,hal⟩ 1=⟨a,hal⟩:=by simp only[Rng.pow];rw[(rng h).one_mul]
 have e2:(rng h).pow ⟨a,hal⟩ n=(rng h).mul ⟨a,hal⟩ ((rng h).pow ⟨a,hal⟩ (2*(n/2))):=by
  conv=>lhs;rw[e,(rng h).pow_add,e1]
 rw[e2,<- (rng h).mul_assoc] at hv;rw[haa];exact hv
theorem PwAt.done {p k m:Nat}{h:PK p k m}{V r a:Nat}(hp:PwAt p k m h V r a 0):r=V:=by
 rw[<- hp.val];simp only[Rng.pow];rw[(rng h).mul_one]
theorem dom_pow {D:FD}{h:PK D.p D.k D.m}(hn:D.Nzd h)(a:El (D.p ^ D.k))(n:Nat):(FD.dom hn).pow a n=(rng h).pow a n:=by
 induction n with
 |zero=>rfl
 |succ n ih=>simp only[Dom.pow,Rng.pow];rw[ih];rfl
theorem ppow_of {p k m:Nat}(h:PK p k m)(a n:Nat)(ha:a<p ^ k):ppow h a n=((rng h).pow ⟨a,ha⟩ n).1:=by
 unfold ppow;rw[dif_pos ha]
def GTest (D:FD)(h:PK D.p D.k D.m)(a r:Nat):Prop:=r∣D.p ^ D.k-1->Prime r->ppow h a ((D.p ^ D.k-1)/r)≠1
theorem FD.Ok.test_iff {D:FD}(h:D.Ok)(a:Nat)(ha:a<D.p ^ D.k)(h1:1<=a):(∀ r,2<=r->r<D.p ^ D.k->GTest D h.pre.pk a r)↔(FD.dom h.nzd).Ord ⟨a,ha⟩ (D.p ^ D.k-1):=by
 have hq:=h.pre.pk.one_lt;have hall:=nzl_all h.nzd;have hlen:=nzl_len (D.p ^ D.k)
 have hne:(⟨a,ha⟩:El (D.p ^ D.k))≠(FD.dom h.nzd).zero:=fun e=>by
  have:a=0:=congrArg Subtype.val e;omega
 constructor
 ·intro ht
  have:=(FD.dom h.nzd).ord_of_test hall (by omega) hne (fun f hf hd he=>by
   rw[hlen] at hd he;have hle:=Nat.le_of_dvd (by omega) hd;refine ht f hf.1 (by omega) hd hf ?_;rw[ppow_of _ _ _ ha,<- dom_pow h.nzd,he]
   rfl)
  rw[hlen] at this;exact this
 ·intro ho r h2 hr hd hp he;refine(FD.dom h.nzd).test_of_ord (by omega) ho h2 hd ?_;rw[ppow_of _ _ _ ha] at he;rw[dom_pow h.nzd];exact Subtype.ext he
theorem FD.Ok.gen {D:FD}(h:D.Ok){a:Nat}(h1:1<=a)(hg:a<=D.g)(ht:∀ r,2<=r->r<D.p ^ D.k->GTest D h.pre.pk a r):a=D.g:=by
 have hgq:=h.gq;have ha:a<D.p ^ D.k:=by omega
 rcases Nat.lt_or_ge a D.g with hlt|hge
 ·exact absurd ((h.test_iff a ha h1).1 ht) (h.least a ha h1 hlt)
 ·omega
theorem FD.Ok.not_gen {D:FD}(h:D.Ok){a:Nat}(hg:a<=D.g){r:Nat}(h2:2<=r)(hr:r<D.p ^ D.k)(ht: ¬ GTest D h.pre.pk a r):a+1<=D.g:=by
 rcases Nat.lt_or_ge a D.g with hlt|hge
 ·exact hlt
 ·have e:a=D.g:=by omega
  subst e;exact absurd ((h.test_iff D.g h.gq h.g1).2 h.ord r h2 hr) ht
end FFld
end
section
namespace FFld
theorem prime_least {n p:Nat}(hp:2<=p)(hd:p∣n)(h:∀ i,2<=i->i<p-> ¬ i∣n):Prime p:=by
 refine⟨hp,fun d hdp=> ?_⟩;have hd0:d≠0:=fun e=>by subst e;rw[Nat.zero_dvd] at hdp;omega
 have hle:=Nat.le_of_dvd (by omega) hdp
 by_cases h1:d=1
 ·exact .inl h1
 ·right
  rcases Nat.lt_or_ge d p with hlt|hge
  ·exact absurd (Nat.dvd_trans hdp hd) (h d (by omega) hlt)
  ·omega
theorem prime_pow_eq {p P K:Nat}(hp:Prime p)(hP:Prime P)(h:p∣P ^ K):p=P:=by
 induction K with
 |zero=>rw[Nat.pow_zero] at h;have:=Nat.le_of_dvd (by omega) h;have:=hp.1;omega
 | succ K ih=>
   rw[Nat.pow_succ] at h
   rcases hp.dvd_mul h with h1|h1
   ·exact ih h1
   ·rcases hP.2 p h1 with h2|h2
    ·have:=hp.1;omega
    ·exact h2
theorem not_power {p P K n k:Nat}(hp:Prime p)(hP:Prime P)(hk:1<=K)(h:n*p ^ k=P ^ K)(hd:p∣P ^ K)(hn:1<n):p∣n:=by
 have e:=prime_pow_eq hp hP hd;subst e
 rcases Nat.lt_or_ge k K with hlt|hge
 ·have e1:p ^ K=p*p ^ (K-k-1)*p ^ k:=by
   rw[<- Nat.pow_succ',<- Nat.pow_add]
   congr 1
   omega
  rw[e1] at h;have:=Nat.eq_of_mul_eq_mul_right (Nat.pow_pos (by have:=hp.1;omega)) h;exact⟨_,this⟩
 ·have h1:p ^ K<=p ^ k:=Nat.pow_le_pow_right (by have:=hp.1;omega) hge;have h2:2*p ^ k<=n*p ^ k:=Nat.mul_le_mul_right _ hn;have h3:0<p ^ k:=Nat.pow_pos (by have:=hp.1;omega);omega
def Fit (q:Int):Prop:= ∃ D:FD,D.Ok/\q=D.q
theorem Fit.range {q:Int}(h:Fit q):2<=q/\q<=65536:=by
 obtain⟨D,hD,rfl⟩:=h;have h1:=hD.pre.pk.one_lt;have h2:=hD.pre.small;unfold FD.q at*;omega
theorem Fit.no {p n k:Nat}{q:Int}(hq:q=((n*p ^ k:Nat):Int))(hp:Prime p)(hd:p∣n*p ^ k)(hn:1<n)(h: ¬ p∣n): ¬ Fit q:=by
 rintro⟨D,hD,e⟩;have e1:n*p ^ k=D.p ^ D.k:=by unfold FD.q at e;omega
 exact h (not_power hp hD.pre.prime hD.pre.k1 e1 (e1 ▸ hd) hn)
theorem Fit.more {p n:Nat}{P:Nat}(hp:Prime p)(hP:Prime P)(hne:p≠P)(h1:p∣n)(h2:P∣n): ¬ Fit (n:Int):=by
 rintro⟨D,hD,e⟩;have e1:n=D.p ^ D.k:=by unfold FD.q at e;omega
 rw[e1] at h1 h2;exact hne ((prime_pow_eq hp hD.pre.prime h1).trans (prime_pow_eq hP hD.pre.prime h2).symm)
def DvAt_ (p k c d:Nat)(x:Nat)(ok:Bool):Prop:=if ok then(∀ e,1<=e->e<d-> ∀ y,p ^ e<=y->y<2*p ^ e->pmul p e y 1 (k+1) c≠0)/\ ∀ y,p ^ d<=y->y<x->pmul p d y 1 (k+1) c≠0 else ¬ Irr p k c
theorem DvAt_.start (p k c:Nat):DvAt_ p k c 1 (p ^ 1) true:=⟨fun e h1 h2=>by omega,fun y h1 h2=>by omega⟩
theorem DvAt_.next {p k c d x:Nat}(h:DvAt_ p k c d x true)(hx:pmul p d x 1 (k+1) c≠0):DvAt_ p k c d (x+1) true:=
 ⟨h.1,fun y h1 h2=>by
  by_cases e:y=x
  ·subst e;exact hx
  ·exact h.2 y h1 (by omega)⟩
theorem DvAt_.fail {p k c d x:Nat}(h1:1<=d)(h2:2*d<=k)(hx1:p ^ d<=x)(hx2:x<2*p ^ d)(hx:pmul p d x 1 (k+1) c=0)(y:Nat):DvAt_ p k c d y false:=fun h=>h d h1 h2 x hx1 hx2 hx
theorem DvAt_.row {p k c d:Nat}(h:DvAt_ p k c d (2*p ^ d) true):DvAt_ p k c (d+1) (p ^ (d+1)) true:=
 ⟨fun e h1 h2 y h3 h4=>by
  by_cases ee:e=d
  ·subst ee;exact h.2 y h3 h4
  ·exact h.1 e h1 (by omega) y h3 h4,fun y h1 h2=>by omega⟩
theorem DvAt_.done {p k c d x:Nat}(h:DvAt_ p k c d x true)(hd:k<2*d):Irr p k c:=fun e h1 h2 y h3 h4=>h.1 e h1 (by omega) y h3 h4
theorem FD.Ok.mod_is {D:FD}(h:D.Ok)(hk:2<=D.k){c:Nat}(h1:D.q<=c)(hc:c<=D.m)(hi:Irr D.p D.k c):c=D.m:=by
 rcases Nat.lt_or_ge c D.m with hlt|hge
 ·exact absurd hi ((h.pre.mod2 hk).2.2.2 c h1 hlt)
 ·omega
theorem FD.Ok.mod_not {D:FD}(h:D.Ok)(hk:2<=D.k){c:Nat}(hc:c<=D.m)(hi: ¬ Irr D.p D.k c):c+1<=D.m:=by
 rcases Nat.lt_or_ge c D.m with hlt|hge
 ·exact hlt
 ·have:c=D.m:=by omega
  subst this;exact absurd (h.pre.mod2 hk).2.2.1 hi
end FFld
end
end Go.Proofs.YtdnheaafcbihbaaGreat
