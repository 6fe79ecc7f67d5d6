/-
  Texts of the proof, merged by program: Pob Ff Fg.
-/
import Derived.Test.YtdnheaafcbihbaaGreatRows
import Derived.WalkKit
import Derived.ProofKit
import Derived.OpenShut
import Derived.Below
import Derived.ChangeSame
set_option linter.unusedSectionVars false
set_option linter.unusedSimpArgs false
set_option linter.unusedVariables false
set_option maxHeartbeats 16000000
namespace Go.Proofs.YtdnheaafcbihbaaGreat
section
open Go Go.ChangeShapes Go.WideShapes Go.ChangeAt Go.RowKit
section
variable {H : Type} {enc : TypeId × Value -> H} {P : Program}
theorem post_of_below {f:Func}{s:ChangeSpec}{apart fresh handsOn again:Bool}{W W' :World}{args:Array Value}{v:Value}{ds gs:List (DataW H)}{before pa pv:List MemPlace}
 (hW:DataW.Whole enc P f.params.toList s.vars apart W args.toList ds gs before)
 (hres:∀ (b:Nat) (sp:Nat->Bool) (hd:Bool),DataW.TrodAll enc P W' b sp hd f.resultTypes.toList (v.resultList f.resultTypes.size) (s.fn H (ds++gs)).results [])
 (hargs:∀ sp:Nat->Bool,(∀ p∈before,sp p.block=true)->DataW.TrodAll enc P W' 0 sp true f.params.toList args.toList (s.fn H (ds++gs)).args pa)
 (hvars:∀ sp:Nat->Bool,(∀ p∈before,sp p.block=true)->DataW.TrodVars enc P W' sp s.vars (s.fn H (ds++gs)).vars pv)
 (hps:before=pa++pv) (hb:Below W.heap.size W W')
 (hok:∀ (j:Nat) (t:TypeId) (r:Value),f.resultTypes[j]? =some t->(v.resultList f.resultTypes.size)[j]? =some r->Value.okWide P W' .any 0 t r):
 s.post enc P f apart fresh handsOn again W args v W' :=by
 have hlt:∀ p∈before,p.block<W.heap.size:=fun p hp=>hW.lt p hp
 have hold:∀ p∈before,(fun b=>decide (b<W.heap.size)) p.block=true:=fun p hp=>by simpa using hlt p hp
 refine⟨ds,gs,before,[],pa,pv,hW,hres _ _ _,hargs _ hold,hvars _ hold,World.keptBut_mono (fun p hp=>⟨hp,?_⟩) (hb.frame (· ∈before)),fun _=> ?_⟩
 ·rw[hps,List.mem_append] at hp;exact Or.inr hp
 ·obtain⟨_,_,_,_,_,hz,hn⟩:=hW;refine⟨hok,_,_,([]++pa)++pv,⟨[]++pa,pv,trodAll_append (hargs _ (fun _ _=>rfl)) (hres _ _ _),hvars _ (fun _ _=>rfl),rfl,?_,?_⟩,?_⟩
  ·intro b off hp;have hin:MemPlace.cell b off∈before:=by rw[hps];simpa using hp
   rw[hb.frozen (hlt _ hin)];exact hz b off hin
  ·intro ha;have:=hn ha;rw[hps] at this
   simpa using this
  ·intro p hp _;rw[hps]
   simpa using hp
end
theorem i64_bounds {n:Int}(h:(Lit.int .i64 n).wf=true): -9223372036854775808<=n/\n<=9223372036854775807:=by
 have h2:(decide (IntKind.i64.min<=n)&&decide (n<=IntKind.i64.max))=true:=h;rw[Bool.and_eq_true,decide_eq_true_eq,decide_eq_true_eq] at h2;exact h2
end
section
namespace FFld
structure Dom (α:Type) where
 add:α->α->α
 mul:α->α->α
 zero:α
 one:α
 neg:α->α
 add_assoc:∀ a b c,add (add a b) c=add a (add b c)
 add_comm:∀ a b,add a b=add b a
 add_zero:∀ a,add a zero=a
 add_neg:∀ a,add a (neg a)=zero
 mul_assoc:∀ a b c,mul (mul a b) c=mul a (mul b c)
 mul_comm:∀ a b,mul a b=mul b a
 mul_one:∀ a,mul a one=a
 mul_add:∀ a b c,mul a (add b c)=add (mul a b) (mul a c)
 nzd:∀ a b,mul a b=zero->a=zero\/b=zero
 one_ne:one≠zero
variable {α : Type} (F : Dom α)
namespace Dom
theorem zero_add (a:α):F.add F.zero a=a:=by rw[F.add_comm,F.add_zero]
theorem add_left_cancel {a b c:α}(h:F.add a b=F.add a c):b=c:=by
 have h1:F.add (F.neg a) (F.add a b)=F.add (F.neg a) (F.add a c):=by rw[h]
 rw[<- F.add_assoc,<- F.add_assoc,F.add_comm (F.neg a) a,F.add_neg,F.zero_add,F.zero_add] at h1;exact h1
theorem mul_zero (a:α):F.mul a F.zero=F.zero:=by
 have h:F.add (F.mul a F.zero) (F.mul a F.zero)=F.add (F.mul a F.zero) F.zero:=by
  rw[<- F.mul_add,F.add_zero,F.add_zero]
 exact F.add_left_cancel h
theorem zero_mul (a:α):F.mul F.zero a=F.zero:=by rw[F.mul_comm,F.mul_zero]
theorem one_mul (a:α):F.mul F.one a=a:=by rw[F.mul_comm,F.mul_one]
theorem add_mul (a b c:α):F.mul (F.add a b) c=F.add (F.mul a c) (F.mul b c):=by rw[F.mul_comm,F.mul_add,F.mul_comm c a,F.mul_comm c b]
theorem neg_unique {a b:α}(h:F.add a b=F.zero):b=F.neg a:=F.add_left_cancel (h.trans (F.add_neg a).symm)
theorem mul_neg (a b:α):F.mul a (F.neg b)=F.neg (F.mul a b):=by
 apply F.neg_unique
 rw[<- F.mul_add,F.add_neg,F.mul_zero]
theorem neg_neg (a:α):F.neg (F.neg a)=a:=by
 symm
 apply F.neg_unique
 rw[F.add_comm,F.add_neg]
theorem eq_of_sub {a b:α}(h:F.add a (F.neg b)=F.zero):a=b:=by
 have:=F.neg_unique (a:=F.neg b) (b:=a) (by rw[F.add_comm];exact h);rw[F.neg_neg] at this;exact this
theorem mul_left_cancel {a b c:α}(ha:a≠F.zero)(h:F.mul a b=F.mul a c):b=c:=by
 have h1:F.mul a (F.add b (F.neg c))=F.zero:=by rw[F.mul_add,F.mul_neg,h,F.add_neg]
 rcases F.nzd _ _ h1 with h2|h2
 ·exact absurd h2 ha
 ·exact F.eq_of_sub h2
theorem mul_ne {a b:α}(ha:a≠F.zero)(hb:b≠F.zero):F.mul a b≠F.zero:=fun h=>by
 rcases F.nzd _ _ h with h|h
 ·exact ha h
 ·exact hb h
def pow (F:Dom α)(a:α):Nat->α
 |0=>F.one
 |n+1=>F.mul (pow F a n) a
theorem pow_zero (a:α):F.pow a 0=F.one:=rfl
theorem pow_succ (a:α)(n:Nat):F.pow a (n+1)=F.mul (F.pow a n) a:=rfl
theorem pow_add (a:α)(m n:Nat):F.pow a (m+n)=F.mul (F.pow a m) (F.pow a n):=by
 induction n with
 |zero=>rw[Nat.add_zero,pow_zero,F.mul_one]
 |succ n ih=>rw[<- Nat.add_assoc,pow_succ,pow_succ,ih,F.mul_assoc]
theorem one_pow (n:Nat):F.pow F.one n=F.one:=by
 induction n with
 |zero=>rfl
 |succ n ih=>rw[pow_succ,ih,F.mul_one]
theorem mul_pow (a b:α)(n:Nat):F.pow (F.mul a b) n=F.mul (F.pow a n) (F.pow b n):=by
 induction n with
 |zero=>rw[pow_zero,pow_zero,pow_zero,F.mul_one]
 |succ n ih=>rw[pow_succ,pow_succ,pow_succ,ih,F.mul_assoc,F.mul_assoc,<- F.mul_assoc (F.pow b n),F.mul_comm (F.pow b n) a,F.mul_assoc]
theorem pow_mul (a:α)(m n:Nat):F.pow a (m*n)=F.pow (F.pow a m) n:=by
 induction n with
 |zero=>rfl
 |succ n ih=>rw[Nat.mul_succ,pow_add,ih,pow_succ]
theorem pow_ne {a:α}(ha:a≠F.zero)(n:Nat):F.pow a n≠F.zero:=by
 induction n with
 |zero=>exact F.one_ne
 |succ n ih=>exact F.mul_ne ih ha
def eval (F:Dom α):List α->α->α
 | [],_=>F.zero
 |c::l,x=>F.add c (F.mul x (eval F l x))
def syn (F:Dom α):List α->α->List α
 | [],_=> []
 |_:: [],_=> []
 |_::c::t,r=>F.eval (c::t) r::syn F (c::t) r
theorem syn_len (l:List α)(r:α):(F.syn l r).length=l.length-1:=by
 induction l with
 |nil=>rfl
 | cons c l ih=>cases l with
   |nil=>rfl
   |cons d t=>simp only[syn,List.length_cons] at ih ⊢;omega
theorem eval_syn (l:List α)(r x:α):F.add (F.eval l x) (F.mul r (F.eval (F.syn l r) x))=F.add (F.eval l r) (F.mul x (F.eval (F.syn l r) x)):=by
 induction l with
 |nil=>simp only[syn,eval,F.mul_zero]
 | cons c l ih=>cases l with
   |nil=>simp only[syn,eval,F.mul_zero]
   | cons d t=>
     have e:F.eval (F.syn (c::d::t) r) x=F.add (F.eval (d::t) r) (F.mul x (F.eval (F.syn (d::t) r) x)):=rfl;have e1:∀ y,F.eval (c::d::t) y=F.add c (F.mul y (F.eval (d::t) y)):=fun _=>rfl
     rw[e,e1,e1];generalize F.eval (d::t) x=P at*;generalize F.eval (d::t) r=Q at*;generalize F.eval (F.syn (d::t) r) x=S at*;rw[<- ih];have h1:F.mul x (F.add P (F.mul r S))=F.add (F.mul x P) (F.mul r (F.mul x S)):=by rw[F.mul_add,<- F.mul_assoc x r S,F.mul_comm x r,F.mul_assoc]
     have h2:F.mul r (F.add P (F.mul r S))=F.add (F.mul r Q) (F.mul r (F.mul x S)):=by rw[ih,F.mul_add]
     rw[h1,h2,F.add_assoc,F.add_assoc]
     congr 1
     rw[<- F.add_assoc,<- F.add_assoc,F.add_comm (F.mul x P)]
theorem roots (R:List α)(hR:R.Nodup):∀ (l:List α),l.length<=R.length->(∀ r∈R,F.eval l r=F.zero)-> ∀ x,F.eval l x=F.zero:=by
 induction R with
 |nil=>intro l h _ x;rw[List.eq_nil_of_length_eq_zero (Nat.le_zero.1 h)];rfl
 | cons r R ih=>
   intro l h hr x;obtain⟨hn,hR'⟩:=List.nodup_cons.1 hR;have h0:=hr r List.mem_cons_self
   have hs:∀ x,F.eval (F.syn l r) x=F.zero:=by
    refine ih hR' _ (by rw[syn_len];simp only[List.length_cons] at h;omega) (fun q hq=> ?_);have hq0:=hr q (List.mem_cons_of_mem _ hq);have e:=F.eval_syn l r q;rw[h0,hq0,F.zero_add,F.zero_add] at e
    have e2:F.mul (F.add q (F.neg r)) (F.eval (F.syn l r) q)=F.zero:=by
     rw[F.add_mul,<- e,F.mul_comm (F.neg r),F.mul_neg,F.mul_comm _ r,F.add_neg]
    rcases F.nzd _ _ e2 with e3|e3
    ·exact absurd (F.eq_of_sub e3 ▸ hq) hn
    ·exact e3
   have e:=F.eval_syn l r x;rw[h0,hs x,F.mul_zero,F.mul_zero,F.add_zero,F.add_zero] at e;exact e
def mono (F:Dom α):Nat->List α
 |0=> [F.one]
 |n+1=>F.zero::mono F n
theorem mono_len (n:Nat):(F.mono n).length=n+1:=by
 induction n with
 |zero=>rfl
 |succ n ih=>simp only[mono,List.length_cons,ih]
theorem eval_mono (n:Nat)(x:α):F.eval (F.mono n) x=F.pow x n:=by
 induction n with
 |zero=>simp only[mono,eval,F.mul_zero,F.add_zero,pow_zero]
 |succ n ih=>simp only[mono,eval,ih,F.zero_add,pow_succ];rw[F.mul_comm]
theorem roots_pow {n:Nat}(hn:0<n)(R:List α)(hR:R.Nodup)(h:∀ r∈R,F.pow r n=F.one):R.length<=n:=by
 rcases Nat.lt_or_ge n R.length with hlt|hle
 ·exfalso;obtain⟨m,rfl⟩:∃ m,n=m+1:=⟨n-1,by omega⟩
  have hz:=F.roots R hR (F.neg F.one::F.mono m) (by simp only[List.length_cons,mono_len];omega) (fun r hr=>by
   simp only[eval,eval_mono]
   rw[F.mul_comm r,<- pow_succ,h r hr,F.add_comm,F.add_neg]) F.zero
  simp only[eval,F.zero_mul,F.add_zero] at hz;have h1:=F.add_neg F.one;rw[hz,F.add_zero] at h1;exact F.one_ne h1
 ·exact hle
def prod (F:Dom α):List α->α
 | []=>F.one
 |a::l=>F.mul a (prod F l)
theorem prod_perm {l m:List α}(h:l.Perm m):F.prod l=F.prod m:=by
 induction h with
 |nil=>rfl
 |cons a _ ih=>simp only[prod,ih]
 |swap a b l=>simp only[prod];rw[<- F.mul_assoc,<- F.mul_assoc,F.mul_comm b a]
 |trans _ _ h1 h2=>exact h1.trans h2
theorem prod_map (a:α)(l:List α):F.prod (l.map (F.mul a))=F.mul (F.pow a l.length) (F.prod l):=by
 induction l with
 |nil=>simp only[List.map_nil,prod,List.length_nil,pow_zero,F.mul_one]
 | cons b l ih=>
   simp only[List.map_cons,prod,ih,List.length_cons,pow_succ];rw[F.mul_assoc,F.mul_assoc,<- F.mul_assoc b,F.mul_comm b (F.pow a l.length),F.mul_assoc,<- F.mul_assoc a,F.mul_comm a (F.pow a l.length),F.mul_assoc]
theorem prod_ne {l:List α}(h:∀ a∈l,a≠F.zero):F.prod l≠F.zero:=by
 induction l with
 |nil=>exact F.one_ne
 |cons b l ih=>exact F.mul_ne (h b List.mem_cons_self) (ih fun a ha=>h a (List.mem_cons_of_mem _ ha))
end Dom
theorem perm_of_sub {l m:List α}(hl:l.Nodup)(hs:∀ a∈l,a∈m)(hn:m.length<=l.length):l.Perm m:=by
 induction l generalizing m with
 |nil=>rw[List.eq_nil_of_length_eq_zero (Nat.le_zero.1 hn)]
 | cons a l ih=>
   obtain⟨ha,hl'⟩:=List.nodup_cons.1 hl;obtain⟨m1,m2,rfl⟩:=List.append_of_mem (hs a List.mem_cons_self);refine((ih (m:=m1++m2) hl' (fun b hb=> ?_) (by simp only[List.length_append,List.length_cons] at hn ⊢;omega)).cons a).trans List.perm_middle.symm;have:=hs b (List.mem_cons_of_mem _ hb);simp only[List.mem_append,List.mem_cons] at this ⊢
   rcases this with h|h|h
   ·exact .inl h
   ·exact absurd (h ▸ hb) ha
   ·exact .inr h
namespace Dom
theorem nodup_map {a:α}(ha:a≠F.zero){l:List α}(h:l.Nodup):(l.map (F.mul a)).Nodup:=by
 induction l with
 |nil=>exact List.nodup_nil
 | cons b l ih=>
   obtain⟨hb,hl⟩:=List.nodup_cons.1 h;refine List.nodup_cons.2 ⟨fun hm=> ?_,ih hl⟩;obtain⟨c,hc,e⟩:=List.mem_map.1 hm;exact hb (F.mul_left_cancel ha e ▸ hc)
structure All (F:Dom α)(L:List α):Prop where
 nodup:L.Nodup
 mem:∀ a,a∈L↔a≠F.zero
theorem fermat {L:List α}(hL:F.All L){a:α}(ha:a≠F.zero):F.pow a L.length=F.one:=by
 have hp:(L.map (F.mul a)).Perm L:=perm_of_sub (F.nodup_map ha hL.nodup) (fun b hb=>by
  obtain⟨c,hc,rfl⟩:=List.mem_map.1 hb
  exact(hL.mem _).2 (F.mul_ne ha ((hL.mem _).1 hc))) (by rw[List.length_map];exact Nat.le_refl _)
 have h:=F.prod_perm hp;rw[prod_map] at h;have hne:=F.prod_ne (l:=L) fun a h=>(hL.mem a).1 h
 apply F.mul_left_cancel hne
 rw[F.mul_one,F.mul_comm];exact h
def Ord (F:Dom α)(a:α)(n:Nat):Prop:= ∀ k,F.pow a k=F.one↔n∣k
theorem pow_gcd {a:α} :∀ (m n:Nat),F.pow a m=F.one->F.pow a n=F.one->F.pow a (Nat.gcd m n)=F.one:=by
 intro m
 induction m using Nat.strongRecOn with
 | ind m ih=>
   intro n hm hn
   rcases Nat.eq_zero_or_pos m with h|h
   ·subst h;rw[Nat.gcd_zero_left];exact hn
   ·rw[Nat.gcd_rec];refine ih _ (Nat.mod_lt _ h) _ ?_ hm;have e:=Nat.div_add_mod n m;rw[<- e,pow_add,pow_mul,hm,one_pow,F.one_mul] at hn;exact hn
theorem ord_prime {a:α}{f e:Nat}(hf:∀ d,d∣f ^ (e+1)->d∣f ^ e\/d=f ^ (e+1))(h1:F.pow a (f ^ (e+1))=F.one)(h0:F.pow a (f ^ e)≠F.one):F.Ord a (f ^ (e+1)):=by
 intro k;constructor
 ·intro hk;have hg:=F.pow_gcd _ _ hk h1
  rcases hf _ (Nat.gcd_dvd_right k (f ^ (e+1))) with h|h
  ·obtain⟨c,hc⟩:=h;exact absurd (by rw[hc,pow_mul,hg,one_pow]) h0
  ·rw[<- h];exact Nat.gcd_dvd_left _ _
 ·rintro⟨c,rfl⟩;rw[pow_mul,h1,one_pow]
theorem ord_mul {a b:α}{m n:Nat}(ha:F.Ord a m)(hb:F.Ord b n)(hc:Nat.Coprime m n):F.Ord (F.mul a b) (m*n):=by
 intro k;constructor
 ·intro hk;rw[mul_pow] at hk
  have h1:F.pow b (k*m)=F.one:=by
   have:=congrArg (fun x=>F.pow x m) hk;simp only[mul_pow,one_pow,<- pow_mul] at this;rw[(ha (k*m)).2 (Nat.dvd_mul_left _ _),F.one_mul] at this;exact this
  have h2:F.pow a (k*n)=F.one:=by
   have:=congrArg (fun x=>F.pow x n) hk;simp only[mul_pow,one_pow,<- pow_mul] at this;rw[(hb (k*n)).2 (Nat.dvd_mul_left _ _),F.mul_one] at this;exact this
  have d1:n∣k:=hc.symm.dvd_of_dvd_mul_right ((hb _).1 h1);have d2:m∣k:=hc.dvd_of_dvd_mul_right ((ha _).1 h2);exact Nat.Coprime.mul_dvd_of_dvd_of_dvd hc d2 d1
 ·rintro⟨c,rfl⟩;rw[mul_pow,Nat.mul_assoc,pow_mul,(ha m).2 (Nat.dvd_refl _),one_pow,F.one_mul,Nat.mul_left_comm,pow_mul,(hb n).2 (Nat.dvd_refl _),one_pow]
end Dom
def Prime (f:Nat):Prop:=2<=f/\ ∀ d,d∣f->d=1\/d=f
theorem exists_prime:∀ (n:Nat),2<=n-> ∃ f,Prime f/\f∣n:=by
 intro n
 induction n using Nat.strongRecOn with
 | ind n ih=>
   intro hn
   by_cases h:∀ d,d∣n->d=1\/d=n
   ·exact⟨n,⟨hn,h⟩,Nat.dvd_refl _⟩
   ·simp only[Classical.not_forall,not_or] at h;obtain⟨d,hd,h1,h2⟩:=h;have hle:=Nat.le_of_dvd (by omega) hd;have h0:d≠0:=by rintro rfl;rw[Nat.zero_dvd] at hd;omega
    obtain⟨f,hf,hfd⟩:=ih d (by omega) (by omega);exact⟨f,hf,Nat.dvd_trans hfd hd⟩
theorem Prime.coprime {f c:Nat}(hf:Prime f)(h: ¬ f∣c):Nat.Coprime f c:=by
 rcases hf.2 _ (Nat.gcd_dvd_left f c) with h1|h1
 ·exact h1
 ·exact absurd (h1 ▸ Nat.gcd_dvd_right f c) h
theorem Prime.dvd_mul {f a b:Nat}(hf:Prime f)(h:f∣a*b):f∣a\/f∣b:=by
 by_cases ha:f∣a
 ·exact .inl ha
 ·exact .inr ((hf.coprime ha).dvd_of_dvd_mul_left h)
theorem Prime.dvd_pow {f e d:Nat}(hf:Prime f)(h:d∣f ^ (e+1)):d∣f ^ e\/d=f ^ (e+1):=by
 obtain⟨c,hc⟩:=h
 by_cases h1:f∣c
 ·obtain⟨k,rfl⟩:=h1;left;refine⟨k,?_⟩;have:f*f ^ e=f*(d*k):=by rw[<- Nat.pow_succ',hc,Nat.mul_left_comm]
  exact Nat.eq_of_mul_eq_mul_left (by have:=hf.1;omega) this
 ·right;have h2:Nat.Coprime c (f ^ (e+1)):=((hf.coprime h1).symm).pow_right _;have h3:c∣f ^ (e+1):=⟨d,by rw[hc,Nat.mul_comm]⟩;have h4:c=1:=Nat.Coprime.eq_one_of_dvd h2 h3;rw[hc,h4,Nat.mul_one]
theorem lt_mul2 {f k:Nat}(hk:0<k)(hf:2<=f):k<f*k:=by
 have:=Nat.mul_le_mul_right k hf;omega
theorem Prime.part {f:Nat}(hf:Prime f):∀ (n:Nat),0<n->f∣n-> ∃ e m,n=f ^ (e+1)*m/\ ¬ f∣m:=by
 intro n
 induction n using Nat.strongRecOn with
 | ind n ih=>
   intro hn ⟨k,hk⟩;have h2:=hf.1;have hk0:0<k:=by rcases Nat.eq_zero_or_pos k with h|h;subst h;omega;exact h
   by_cases h:f∣k
   ·obtain⟨e,m,e1,e2⟩:=ih k (by rw[hk];exact lt_mul2 hk0 h2) hk0 h;exact⟨e+1,m,by rw[hk,e1,Nat.pow_succ f (e+1),Nat.mul_comm (f ^ (e+1)) f,Nat.mul_assoc],e2⟩
   ·exact⟨0,k,by rw[hk];simp,h⟩
namespace Dom
theorem exists_ord {L:List α}(hL:F.All L):∀ (N:Nat),N∣L.length->0<L.length-> ∃ a,a≠F.zero/\F.Ord a N:=by
 intro N
 induction N using Nat.strongRecOn with
 | ind N ih=>
   intro hN hQ;have hN0:0<N:=Nat.pos_of_dvd_of_pos hN hQ
   by_cases h1:N=1
   ·subst h1;exact⟨F.one,F.one_ne,fun k=>⟨fun _=>Nat.one_dvd k,fun _=>F.one_pow k⟩⟩
   ·obtain⟨f,hf,hfN⟩:=exists_prime N (by omega);obtain⟨e,m,he,hm⟩:=hf.part N hN0 hfN;have h2:=hf.1;have hm0:0<m:=by rcases Nat.eq_zero_or_pos m with h|h;subst h;omega;exact h
    obtain⟨c,hc⟩:=hN;have hc0:0<c:=by rcases Nat.eq_zero_or_pos c with h|h;subst h;omega;exact h
    have hlen:L.length=f ^ (e+1)*(m*c):=by rw[hc,he,Nat.mul_assoc]
    have hlen2:L.length=f*(f ^ e*(m*c)):=by rw[hlen,Nat.pow_succ',Nat.mul_assoc]
    have hpos:0<f ^ e*(m*c):=Nat.mul_pos (Nat.pow_pos (by omega)) (Nat.mul_pos hm0 hc0)
    obtain⟨a,ha,hne⟩:∃ a,a≠F.zero/\F.pow a (f ^ e*(m*c))≠F.one:=by
     apply Classical.byContradiction
     intro hno
     have hall:∀ a∈L,F.pow a (f ^ e*(m*c))=F.one:=fun a ha=>by
      apply Classical.byContradiction
      intro hx;exact hno ⟨a,(hL.mem a).1 ha,hx⟩
     have:=F.roots_pow hpos L hL.nodup hall;rw[hlen2] at this;have h3:f ^ e*(m*c)<f*(f ^ e*(m*c)):=lt_mul2 hpos h2;omega
    have hb:F.Ord (F.pow a (m*c)) (f ^ (e+1)):=by
     refine F.ord_prime (fun d hd=>hf.dvd_pow hd) ?_ ?_
     ·rw[<- pow_mul,Nat.mul_comm,<- hlen];exact F.fermat hL ha
     ·rw[<- pow_mul,Nat.mul_comm];exact hne
    have hlt:m<N:=by
     rw[he];exact lt_mul2 hm0 (Nat.le_trans h2 (by rw[Nat.pow_succ];exact Nat.le_mul_of_pos_left _ (Nat.pow_pos (by omega))))
    obtain⟨g,hg,hgo⟩:=ih m hlt ⟨f ^ (e+1)*c,by rw[hlen];exact Nat.mul_left_comm _ _ _⟩ hQ;refine⟨F.mul (F.pow a (m*c)) g,F.mul_ne (F.pow_ne ha _) hg,?_⟩;rw[he];exact F.ord_mul hb hgo (Nat.Coprime.pow_left _ (hf.coprime hm))
theorem exists_gen {L:List α}(hL:F.All L)(h:0<L.length):∃ g,g≠F.zero/\F.Ord g L.length:=F.exists_ord hL _ (Nat.dvd_refl _) h
theorem ord_of_test {L:List α}(hL:F.All L)(h:0<L.length){g:α}(hg:g≠F.zero)(ht:∀ f,Prime f->f∣L.length->F.pow g (L.length/f)≠F.one):F.Ord g L.length:=by
 intro k;constructor
 ·intro hk;have hd:=F.pow_gcd _ _ hk (F.fermat hL hg);have hdv:=Nat.gcd_dvd_right k L.length
  by_cases he:Nat.gcd k L.length=L.length
  ·rw[<- he];exact Nat.gcd_dvd_left _ _
  ·exfalso;obtain⟨c,hc⟩:=hdv;have hc1:c≠1:=fun h1=>he (by rw[h1,Nat.mul_one] at hc;exact hc.symm)
   have hc0:c≠0:=fun h0=>by rw[h0,Nat.mul_zero] at hc;omega
   obtain⟨f,hf,b,hb⟩:=exists_prime c (by omega);have h2:=hf.1
   have e2:L.length=f*(Nat.gcd k L.length*b):=by
    conv=>lhs;rw[hc,hb]
    exact Nat.mul_left_comm _ _ _
   refine ht f hf ⟨_,e2⟩ ?_
   have e:L.length/f=Nat.gcd k L.length*b:=by
    generalize Nat.gcd k L.length*b=x at e2;rw[e2];exact Nat.mul_div_cancel_left _ (by omega)
   rw[e,pow_mul,hd,one_pow]
 ·rintro⟨c,rfl⟩;rw[pow_mul,F.fermat hL hg,one_pow]
theorem test_of_ord {g:α}{n f:Nat}(hn:0<n)(ho:F.Ord g n)(hf:2<=f)(hd:f∣n):F.pow g (n/f)≠F.one:=fun h=>by
 have h1:=(ho _).1 h;have h2:0<n/f:=Nat.div_pos (Nat.le_of_dvd hn hd) (by omega);have h3:=Nat.le_of_dvd h2 h1;have h4:=Nat.div_lt_self hn (by omega:1<f);omega
theorem pow_inj {g:α}{n:Nat}(hg:g≠F.zero)(ho:F.Ord g n){i j:Nat}(hi:i<n)(hj:j<n)(h:F.pow g i=F.pow g j):i=j:=by
 have key:∀ {i j:Nat},i<=j->j<n->F.pow g i=F.pow g j->i=j:=fun {i j} hij hj h=>by
  obtain⟨d,rfl⟩:=Nat.exists_eq_add_of_le hij;rw[pow_add] at h;have h1:F.pow g d=F.one:=F.mul_left_cancel (F.pow_ne hg i) (by rw[<- h,F.mul_one]);have h2:=(ho d).1 h1
  rcases Nat.eq_zero_or_pos d with h0|h0
  ·omega
  ·have:=Nat.le_of_dvd h0 h2;omega
 rcases Nat.le_total i j with hij|hij
 ·exact key hij hj h
 ·exact(key hij hi h.symm).symm
theorem exists_log {L:List α}(hL:F.All L){g:α}(hg:g≠F.zero)(ho:F.Ord g L.length){a:α}(ha:a≠F.zero):∃ k,k<L.length/\F.pow g k=a:=by
 have hnd:((List.range L.length).map (F.pow g)).Nodup:=by
  unfold List.Nodup;rw[List.pairwise_map];refine List.pairwise_lt_range.imp_of_mem (fun {i j} hi hj hlt he=> ?_);have:=F.pow_inj hg ho (List.mem_range.1 hi) (List.mem_range.1 hj) he;omega
 have hp:=perm_of_sub (m:=L) hnd (fun b hb=>by
  obtain⟨i,_,rfl⟩:=List.mem_map.1 hb
  exact(hL.mem _).2 (F.pow_ne hg i)) (by simp)
 have hm:=hp.mem_iff.2 ((hL.mem a).2 ha);obtain⟨k,hk,e⟩:=List.mem_map.1 hm;exact⟨k,List.mem_range.1 hk,e⟩
end Dom
end FFld
end
section
namespace FFld
def dig (p a i:Nat):Nat:=a/p ^ i%p
theorem dig_zero (p a:Nat):dig p a 0=a%p:=by simp[dig]
theorem dig_succ (p a i:Nat):dig p a (i+1)=dig p (a/p) i:=by
 unfold dig;rw[Nat.pow_succ',Nat.div_div_eq_div_mul]
theorem dig_lt {p:Nat}(hp:0<p)(a i:Nat):dig p a i<p:=Nat.mod_lt _ hp
theorem dig_mod (p a i:Nat):dig p a i%p=dig p a i:=Nat.mod_mod _ _
theorem dig_big {p a i:Nat}(h:a<p ^ i):dig p a i=0:=by
 unfold dig;rw[Nat.div_eq_of_lt h,Nat.zero_mod]
theorem dig_of_zero (p i:Nat):dig p 0 i=0:=by simp[dig]
theorem div_lt_pow {p k a:Nat}(hp:0<p)(h:a<p ^ (k+1)):a/p<p ^ k:=by
 rw[Nat.pow_succ] at h;exact Nat.div_lt_of_lt_mul (by rw[Nat.mul_comm];exact h)
theorem dig_ext {p:Nat}(hp:0<p):∀ (k a b:Nat),a<p ^ k->b<p ^ k->(∀ i,i<k->dig p a i=dig p b i)->a=b:=by
 intro k
 induction k with
 |zero=>intro a b ha hb _;simp at ha hb;omega
 | succ k ih=>
   intro a b ha hb h;have h0:=h 0 (by omega);rw[dig_zero,dig_zero] at h0;have h1:=ih (a/p) (b/p) (div_lt_pow hp ha) (div_lt_pow hp hb) (fun i hi=>by rw[<- dig_succ,<- dig_succ];exact h (i+1) (by omega));rw[<- Nat.div_add_mod a p,<- Nat.div_add_mod b p,h0,h1]
def ofd (p:Nat)(f:Nat->Nat):Nat->Nat
 |0=>0
 |k+1=>f 0+p*ofd p (fun i=>f (i+1)) k
theorem ofd_lt {p:Nat}(hp:0<p):∀ (k:Nat) (f:Nat->Nat),(∀ i,f i<p)->ofd p f k<p ^ k:=by
 intro k
 induction k with
 |zero=>intro f _;simp[ofd]
 | succ k ih=>
   intro f h;have h1:=ih (fun i=>f (i+1)) (fun i=>h (i+1));have h0:=h 0;have h2:p*(ofd p (fun i=>f (i+1)) k+1)<=p*p ^ k:=Nat.mul_le_mul_left p h1;rw[Nat.mul_succ] at h2;rw[Nat.pow_succ'];simp only[ofd];omega
theorem dig_ofd {p:Nat} :∀ (k:Nat) (f:Nat->Nat) (i:Nat),(∀ i,f i<p)->i<k->dig p (ofd p f k) i=f i:=by
 intro k
 induction k with
 |zero=>intro f i _ h;omega
 | succ k ih=>
   intro f i h hi;have hp:0<p:=Nat.lt_of_le_of_lt (Nat.zero_le _) (h 0)
   cases i with
   |zero=>rw[dig_zero];simp only[ofd];rw[Nat.add_mul_mod_self_left];exact Nat.mod_eq_of_lt (h 0)
   | succ i=>
     rw[dig_succ]
     have e:ofd p f (k+1)/p=ofd p (fun i=>f (i+1)) k:=by
      simp only[ofd];rw[Nat.add_mul_div_left _ _ hp,Nat.div_eq_of_lt (h 0),Nat.zero_add]
     rw[e,ih (fun i=>f (i+1)) i (fun i=>h (i+1)) (by omega)]
theorem ofd_congr {p:Nat} :∀ (k:Nat) {f g:Nat->Nat},(∀ i,i<k->f i=g i)->ofd p f k=ofd p g k:=by
 intro k
 induction k with
 |zero=>intro f g _;rfl
 |succ k ih=>intro f g h;simp only[ofd];rw[h 0 (by omega),ih (fun i hi=>h (i+1) (by omega))]
theorem ofd_dig {p:Nat}(hp:0<p)(k a:Nat)(h:a<p ^ k):ofd p (dig p a) k=a:=
 dig_ext hp k _ _ (ofd_lt hp k _ fun i=>dig_lt hp a i) h fun i hi=>dig_ofd k _ i (fun i=>dig_lt hp a i) hi
section
variable (p k m : Nat)
def padd (a b:Nat):Nat:=ofd p (fun i=>(dig p a i+dig p b i)%p) k
def pscl (c a:Nat):Nat:=ofd p (fun i=>(dig p a i*c)%p) k
def prv (a:Nat):Nat->Nat
 |0=>0
 |j+1=>dig p a j
def pshf (a:Nat):Nat:=ofd p (fun i=>(prv p a i+dig p a (k-1)*(p-dig p m i))%p) k
def pmul (a:Nat):Nat->Nat->Nat
 |0,_=>0
 |n+1,b=>padd p k (pscl p k (b%p) a) (pshf p k m (pmul a n (b/p)))
end
structure PK (p k m:Nat):Prop where
 p2:2<=p
 k1:1<=k
section
variable {p k m : Nat} (h : PK p k m)
theorem PK.p0 (h:PK p k m):0<p:=by have:=h.p2;omega
theorem PK.one_lt (h:PK p k m):1<p ^ k:=Nat.one_lt_pow (by have:=h.k1;omega) h.p2
include h
theorem dig_padd (a b i:Nat)(hi:i<k):dig p (padd p k a b) i=(dig p a i+dig p b i)%p:=dig_ofd k _ i (fun _=>Nat.mod_lt _ h.p0) hi
theorem dig_pscl (c a i:Nat)(hi:i<k):dig p (pscl p k c a) i=(dig p a i*c)%p:=dig_ofd k _ i (fun _=>Nat.mod_lt _ h.p0) hi
theorem dig_pshf (a i:Nat)(hi:i<k):dig p (pshf p k m a) i=(prv p a i+dig p a (k-1)*(p-dig p m i))%p:=dig_ofd k _ i (fun _=>Nat.mod_lt _ h.p0) hi
theorem padd_lt (a b:Nat):padd p k a b<p ^ k:=ofd_lt h.p0 k _ fun _=>Nat.mod_lt _ h.p0
theorem pscl_lt (c a:Nat):pscl p k c a<p ^ k:=ofd_lt h.p0 k _ fun _=>Nat.mod_lt _ h.p0
theorem pshf_lt (a:Nat):pshf p k m a<p ^ k:=ofd_lt h.p0 k _ fun _=>Nat.mod_lt _ h.p0
theorem pmul_lt (a n b:Nat):pmul p k m a n b<p ^ k:=by
 cases n with
 |zero=>exact Nat.pow_pos h.p0
 |succ n=>exact padd_lt h _ _
theorem padd_comm (a b:Nat):padd p k a b=padd p k b a:=ofd_congr k fun i _=>by rw[Nat.add_comm]
theorem padd_assoc (a b c:Nat):padd p k (padd p k a b) c=padd p k a (padd p k b c):=by
 refine dig_ext h.p0 k _ _ (padd_lt h _ _) (padd_lt h _ _) fun i hi=> ?_
 rw[dig_padd h _ _ _ hi,dig_padd h _ _ _ hi,dig_padd h _ _ _ hi,dig_padd h _ _ _ hi,Nat.mod_add_mod,Nat.add_mod_mod,Nat.add_assoc]
theorem padd_zero (a:Nat)(ha:a<p ^ k):padd p k a 0=a:=by
 refine dig_ext h.p0 k _ _ (padd_lt h _ _) ha fun i hi=> ?_
 rw[dig_padd h _ _ _ hi,dig_of_zero,Nat.add_zero,dig_mod]
theorem padd4 (a b c d:Nat):padd p k (padd p k a b) (padd p k c d)=padd p k (padd p k a c) (padd p k b d):=by
 rw[padd_assoc h,<- padd_assoc h b c d,padd_comm h b c,padd_assoc h c b d,<- padd_assoc h]
theorem pscl_zero (a:Nat):pscl p k 0 a=0:=by
 refine dig_ext h.p0 k _ _ (pscl_lt h _ _) (Nat.pow_pos h.p0) fun i hi=> ?_
 rw[dig_pscl h _ _ _ hi,dig_of_zero,Nat.mul_zero,Nat.zero_mod]
theorem pscl_add (c a b:Nat):pscl p k c (padd p k a b)=padd p k (pscl p k c a) (pscl p k c b):=by
 refine dig_ext h.p0 k _ _ (pscl_lt h _ _) (padd_lt h _ _) fun i hi=> ?_
 rw[dig_pscl h _ _ _ hi,dig_padd h _ _ _ hi,dig_padd h _ _ _ hi,dig_pscl h _ _ _ hi,dig_pscl h _ _ _ hi,<- Nat.add_mod,<- Nat.add_mul,Nat.mod_mul_mod]
theorem pscl_comm (c d a:Nat):pscl p k c (pscl p k d a)=pscl p k d (pscl p k c a):=by
 refine dig_ext h.p0 k _ _ (pscl_lt h _ _) (pscl_lt h _ _) fun i hi=> ?_
 rw[dig_pscl h _ _ _ hi,dig_pscl h _ _ _ hi,dig_pscl h _ _ _ hi,dig_pscl h _ _ _ hi,Nat.mod_mul_mod,Nat.mod_mul_mod,Nat.mul_right_comm]
theorem pshf_add (a b:Nat):pshf p k m (padd p k a b)=padd p k (pshf p k m a) (pshf p k m b):=by
 refine dig_ext h.p0 k _ _ (pshf_lt h _) (padd_lt h _ _) fun i hi=> ?_
 have hk:=h.k1;rw[dig_pshf h _ _ hi,dig_padd h _ _ _ hi,dig_pshf h _ _ hi,dig_pshf h _ _ hi,dig_padd h _ _ _ (by omega),<- Nat.add_mod];generalize p-dig p m i=t;generalize dig p a (k-1)=x;generalize dig p b (k-1)=y
 cases i with
 |zero=>simp only[prv,Nat.zero_add];rw[Nat.mod_mul_mod,Nat.add_mul]
 | succ j=>
   simp only[prv];rw[dig_padd h _ _ _ (by omega)];generalize dig p a j=u;generalize dig p b j=v;rw[Nat.mod_add_mod,<- Nat.add_mod_mod,Nat.mod_mul_mod,Nat.add_mod_mod,Nat.add_mul]
   congr 1
   omega
theorem pshf_scl (c a:Nat):pshf p k m (pscl p k c a)=pscl p k c (pshf p k m a):=by
 refine dig_ext h.p0 k _ _ (pshf_lt h _) (pscl_lt h _ _) fun i hi=> ?_
 have hk:=h.k1;rw[dig_pshf h _ _ hi,dig_pscl h _ _ _ hi,dig_pshf h _ _ hi,dig_pscl h _ _ _ (by omega),Nat.mod_mul_mod];generalize p-dig p m i=t;generalize dig p a (k-1)=x
 cases i with
 |zero=>simp only[prv,Nat.zero_add];rw[Nat.mod_mul_mod,Nat.mul_right_comm]
 | succ j=>
   simp only[prv];rw[dig_pscl h _ _ _ (by omega)];generalize dig p a j=u;rw[Nat.mod_add_mod,<- Nat.add_mod_mod,Nat.mod_mul_mod,Nat.add_mod_mod,Nat.add_mul,Nat.mul_right_comm]
theorem pshf_zero:pshf p k m 0=0:=by
 refine dig_ext h.p0 k _ _ (pshf_lt h _) (Nat.pow_pos h.p0) fun i hi=> ?_
 rw[dig_pshf h _ _ hi,dig_of_zero,dig_of_zero,Nat.zero_mul,Nat.add_zero]
 cases i with
 |zero=>exact Nat.zero_mod _
 |succ j=>simp only[prv];rw[dig_of_zero,Nat.zero_mod]
theorem pshf_low (a:Nat)(ha:a<p ^ (k-1)):pshf p k m a=p*a:=by
 have hk:=h.k1
 have hlt:p*a<p ^ k:=by
  have:p*a<p*p ^ (k-1):=(Nat.mul_lt_mul_left h.p0).2 ha
  rwa [<- Nat.pow_succ',show(k-1).succ=k from by omega] at this
 refine dig_ext h.p0 k _ _ (pshf_lt h _) hlt fun i hi=> ?_
 rw[dig_pshf h _ _ hi,dig_big ha,Nat.zero_mul,Nat.add_zero]
 cases i with
 |zero=>rw[dig_zero];simp[prv]
 |succ j=>rw[dig_succ,Nat.mul_div_cancel_left _ h.p0];exact dig_mod _ _ _
theorem pmul_add (a b n c:Nat):pmul p k m (padd p k a b) n c=padd p k (pmul p k m a n c) (pmul p k m b n c):=by
 induction n generalizing c with
 |zero=>simp only[pmul];rw[padd_zero h _ (Nat.pow_pos h.p0)]
 |succ n ih=>simp only[pmul];rw[ih,pscl_add h,pshf_add h,padd4 h]
theorem pmul_scl (d a n c:Nat):pmul p k m (pscl p k d a) n c=pscl p k d (pmul p k m a n c):=by
 induction n generalizing c with
 | zero=>
   simp only[pmul];refine dig_ext h.p0 k _ _ (Nat.pow_pos h.p0) (pscl_lt h _ _) fun i hi=> ?_
   rw[dig_pscl h _ _ _ hi,dig_of_zero,Nat.zero_mul,Nat.zero_mod]
 |succ n ih=>simp only[pmul];rw[ih,pscl_comm h,pshf_scl h,pscl_add h]
theorem pmul_shf (a n c:Nat):pmul p k m (pshf p k m a) n c=pshf p k m (pmul p k m a n c):=by
 induction n generalizing c with
 |zero=>simp only[pmul];rw[pshf_zero h]
 |succ n ih=>simp only[pmul];rw[ih,pshf_add h,pshf_scl h]
theorem pmul_pmul (a n b i c:Nat):pmul p k m (pmul p k m a i c) n b=pmul p k m (pmul p k m a n b) i c:=by
 induction n generalizing b with
 | zero=>
   simp only[pmul]
   induction i generalizing c with
   |zero=>rfl
   |succ i ih=>simp only[pmul];rw[<- ih,pshf_zero h,padd_zero h _ (pscl_lt h _ _)];refine dig_ext h.p0 k _ _ (Nat.pow_pos h.p0) (pscl_lt h _ _) fun j hj=> ?_;rw[dig_pscl h _ _ _ hj,dig_of_zero,Nat.zero_mul,Nat.zero_mod]
 |succ n ih=>simp only[pmul];rw[ih,pmul_add h,pmul_scl h,pmul_shf h]
theorem pmul_one (n:Nat)(hn:n<=k):∀ b,b<p ^ n->pmul p k m 1 n b=b:=by
 have hk:=h.k1
 induction n with
 |zero=>intro b hb;simp at hb;subst hb;rfl
 | succ n ih=>
   intro b hb;have hb' :=div_lt_pow h.p0 hb;simp only[pmul];rw[ih (by omega) _ hb',pshf_low h _ (Nat.lt_of_lt_of_le hb' (Nat.pow_le_pow_right h.p0 (by omega)))];have hbk:b<p ^ k:=Nat.lt_of_lt_of_le hb (Nat.pow_le_pow_right h.p0 hn);refine dig_ext h.p0 k _ _ (padd_lt h _ _) hbk fun i hi=> ?_
   rw[dig_padd h _ _ _ hi,dig_pscl h _ _ _ hi];have hp2:=h.p2
   cases i with
   |zero=>simp only[dig_zero];rw[Nat.mod_eq_of_lt (show 1<p by omega),Nat.one_mul,Nat.mul_mod_right,Nat.add_zero,Nat.mod_mod,Nat.mod_mod]
   |succ i=>rw[dig_succ p 1,Nat.div_eq_of_lt (show 1<p by omega),dig_of_zero,Nat.zero_mul,Nat.zero_mod,Nat.zero_add,dig_succ p (p*_),Nat.mul_div_cancel_left _ h.p0,dig_succ p b,dig_mod]
theorem pmul_comm (a b:Nat)(ha:a<p ^ k)(hb:b<p ^ k):pmul p k m a k b=pmul p k m b k a:=by
 conv=>lhs;rw[<- pmul_one h k (Nat.le_refl _) a ha]
 rw[pmul_pmul h,pmul_one h k (Nat.le_refl _) b hb]
theorem pmul_assoc (a b c:Nat)(ha:a<p ^ k)(hb:b<p ^ k)(hc:c<p ^ k):pmul p k m (pmul p k m a k b) k c=pmul p k m a k (pmul p k m b k c):=by
 rw[pmul_comm h a b ha hb,pmul_pmul h,pmul_comm h _ a (pmul_lt h _ _ _) ha]
theorem pmul_by_one (a:Nat)(ha:a<p ^ k):pmul p k m a k 1=a:=by
 rw[pmul_comm h a 1 ha h.one_lt,pmul_one h k (Nat.le_refl _) a ha]
theorem padd_neg (a:Nat):padd p k a (pscl p k (p-1) a)=0:=by
 refine dig_ext h.p0 k _ _ (padd_lt h _ _) (Nat.pow_pos h.p0) fun i hi=> ?_
 rw[dig_padd h _ _ _ hi,dig_pscl h _ _ _ hi,dig_of_zero,Nat.add_mod_mod];have hp2:=h.p2
 have:dig p a i+dig p a i*(p-1)=dig p a i*p:=by
  obtain⟨r,rfl⟩:∃ r,p=r+1:=⟨p-1,by omega⟩;simp only[Nat.add_sub_cancel];rw[Nat.mul_succ,Nat.add_comm]
 rw[this,Nat.mul_mod_left]
theorem pmul_zero_right (a n:Nat):pmul p k m a n 0=0:=by
 induction n with
 |zero=>rfl
 |succ n ih=>simp only[pmul,Nat.zero_mod,Nat.zero_div];rw[ih,pshf_zero h,pscl_zero h,padd_zero h _ (Nat.pow_pos h.p0)]
end
def num (p:Nat):List Nat->Nat
 | []=>0
 |c::l=>c+p*num p l
theorem num_lt {p:Nat}(hp:0<p):∀ (l:List Nat),(∀ c∈l,c<p)->num p l<p ^ l.length:=by
 intro l
 induction l with
 |nil=>intro _;simp[num]
 | cons c l ih=>
   intro h;have h1:=ih (fun d hd=>h d (List.mem_cons_of_mem _ hd));have h0:=h c List.mem_cons_self;have h2:p*(num p l+1)<=p*p ^ l.length:=Nat.mul_le_mul_left p h1;rw[Nat.mul_succ] at h2;rw[List.length_cons,Nat.pow_succ'];simp only[num];omega
section
variable (p k m : Nat)
def evl (a:Nat):List Nat->Nat
 | []=>0
 |c::l=>padd p k (pscl p k c a) (pshf p k m (evl a l))
def shn (a:Nat):Nat->Nat
 |0=>a
 |j+1=>pshf p k m (shn a j)
end
section
variable {p k m : Nat} (h : PK p k m)
include h
theorem evl_lt (a:Nat)(l:List Nat):evl p k m a l<p ^ k:=by
 cases l with
 |nil=>exact Nat.pow_pos h.p0
 |cons c l=>exact padd_lt h _ _
theorem shn_lt {a:Nat}(ha:a<p ^ k)(j:Nat):shn p k m a j<p ^ k:=by
 cases j with
 |zero=>exact ha
 |succ j=>exact pshf_lt h _
theorem shn_add (a b j:Nat):shn p k m (padd p k a b) j=padd p k (shn p k m a j) (shn p k m b j):=by
 induction j with
 |zero=>rfl
 |succ j ih=>simp only[shn];rw[ih,pshf_add h]
theorem shn_scl (c a j:Nat):shn p k m (pscl p k c a) j=pscl p k c (shn p k m a j):=by
 induction j with
 |zero=>rfl
 |succ j ih=>simp only[shn];rw[ih,pshf_scl h]
theorem shn_zero (j:Nat):shn p k m 0 j=0:=by
 induction j with
 |zero=>rfl
 |succ j ih=>simp only[shn];rw[ih,pshf_zero h]
theorem shn_shn (a i j:Nat):shn p k m (shn p k m a i) j=shn p k m a (i+j):=by
 induction j with
 |zero=>rfl
 |succ j ih=>rw[<- Nat.add_assoc];simp only[shn];rw[ih]
theorem pscl_mod (c a:Nat):pscl p k (c%p) a=pscl p k c a:=by
 refine dig_ext h.p0 k _ _ (pscl_lt h _ _) (pscl_lt h _ _) fun i hi=> ?_
 rw[dig_pscl h _ _ _ hi,dig_pscl h _ _ _ hi,Nat.mul_mod_mod]
theorem pscl_sum (c d a:Nat):pscl p k (c+d) a=padd p k (pscl p k c a) (pscl p k d a):=by
 refine dig_ext h.p0 k _ _ (pscl_lt h _ _) (padd_lt h _ _) fun i hi=> ?_
 rw[dig_padd h _ _ _ hi,dig_pscl h _ _ _ hi,dig_pscl h _ _ _ hi,dig_pscl h _ _ _ hi,<- Nat.add_mod,Nat.mul_add]
theorem pscl_pscl (c d a:Nat):pscl p k c (pscl p k d a)=pscl p k (c*d) a:=by
 refine dig_ext h.p0 k _ _ (pscl_lt h _ _) (pscl_lt h _ _) fun i hi=> ?_
 rw[dig_pscl h _ _ _ hi,dig_pscl h _ _ _ hi,dig_pscl h _ _ _ hi,Nat.mod_mul_mod,Nat.mul_assoc,Nat.mul_comm d c]
theorem pscl_nil (c:Nat):pscl p k c 0=0:=by
 refine dig_ext h.p0 k _ _ (pscl_lt h _ _) (Nat.pow_pos h.p0) fun i hi=> ?_
 rw[dig_pscl h _ _ _ hi,dig_of_zero,Nat.zero_mul,Nat.zero_mod]
theorem pscl_one (a:Nat)(ha:a<p ^ k):pscl p k 1 a=a:=by
 refine dig_ext h.p0 k _ _ (pscl_lt h _ _) ha fun i hi=> ?_
 rw[dig_pscl h _ _ _ hi,Nat.mul_one,dig_mod]
theorem padd_nil (a:Nat)(ha:a<p ^ k):padd p k 0 a=a:=by rw[padd_comm h,padd_zero h _ ha]
theorem evl_set (a c:Nat):∀ (l:List Nat) (j:Nat),j<l.length->evl p k m a (l.set j ((l[j]?.getD 0+c)%p))=padd p k (evl p k m a l) (pscl p k c (shn p k m a j)):=by
 intro l
 induction l with
 |nil=>intro j hj;simp at hj
 | cons d l ih=>
   intro j hj
   cases j with
   | zero=>
     simp only[List.set_cons_zero,evl,List.getElem?_cons_zero,Option.getD_some,shn];rw[pscl_mod h,pscl_sum h,padd_assoc h,padd_comm h (pscl p k c a),<- padd_assoc h]
   | succ j=>
     simp only[List.set_cons_succ,evl,List.getElem?_cons_succ,shn];rw[ih j (by simpa using hj),pshf_add h,pshf_scl h,<- padd_assoc h]
theorem evl_zeros (a n:Nat):evl p k m a (List.replicate n 0)=0:=by
 induction n with
 |zero=>rfl
 |succ n ih=>simp only[List.replicate_succ,evl];rw[ih,pshf_zero h,pscl_zero h,padd_zero h _ (Nat.pow_pos h.p0)]
theorem evl_snoc (a c:Nat)(l:List Nat):evl p k m a (l++ [c])=padd p k (evl p k m a l) (pscl p k c (shn p k m a l.length)):=by
 induction l with
 | nil=>
   simp only[List.nil_append,evl,List.length_nil,shn];rw[pshf_zero h,padd_zero h _ (pscl_lt h _ _),padd_nil h _ (pscl_lt h _ _)]
 | cons d l ih=>
   simp only[List.cons_append,evl,List.length_cons,shn];rw[ih,pshf_add h,pshf_scl h,padd_assoc h]
theorem evl_trim (a:Nat)(l:List Nat):evl p k m a (l++ [0])=evl p k m a l:=by
 rw[evl_snoc h,pscl_zero h,padd_zero h _ (evl_lt h _ _)]
theorem evl_pmul (a:Nat):∀ (l:List Nat) (n:Nat),(∀ c∈l,c<p)->l.length<=n->pmul p k m a n (num p l)=evl p k m a l:=by
 intro l
 induction l with
 |nil=>intro n _ _;simp only[num,evl];exact pmul_zero_right h a n
 | cons c l ih=>
   intro n hc hn
   cases n with
   |zero=>simp at hn
   | succ n=>
     have h0:=hc c List.mem_cons_self;simp only[num,pmul,evl];rw[Nat.add_mul_mod_self_left,Nat.mod_eq_of_lt h0,Nat.add_mul_div_left _ _ h.p0,Nat.div_eq_of_lt h0,Nat.zero_add,ih n (fun d hd=>hc d (List.mem_cons_of_mem _ hd)) (by simpa using hn)]
theorem evl_one (l:List Nat)(hc:∀ c∈l,c<p)(hl:l.length<=k):evl p k m 1 l=num p l:=by
 rw[<- evl_pmul h 1 l k hc hl];exact pmul_one h k (Nat.le_refl _) _ (Nat.lt_of_lt_of_le (num_lt h.p0 l hc) (Nat.pow_le_pow_right h.p0 hl))
theorem shn_one (j:Nat)(hj:j<k):shn p k m 1 j=p ^ j:=by
 induction j with
 |zero=>rfl
 | succ j ih=>
   simp only[shn];rw[ih (by omega),pshf_low h _ (Nat.pow_lt_pow_right h.p2 (by omega)),Nat.pow_succ']
theorem evl_modulus (l:List Nat)(hc:∀ c∈l,c<p)(hl:l.length=k)(hm:m=num p (l++ [1])):evl p k m 1 (l++ [1])=0:=by
 have hk:=h.k1;have hp2:=h.p2;rw[evl_snoc h,evl_one h l hc (by omega),hl,pscl_one h _ (shn_lt h h.one_lt _)];obtain⟨j,rfl⟩:∃ j,k=j+1:=⟨k-1,by omega⟩;simp only[shn];rw[shn_one h j (by omega)]
 have happ:∀ l:List Nat,num p (l++ [1])=num p l+p ^ l.length:=by
  intro l
  induction l with
  |nil=>simp[num]
  |cons c l ih=>simp only[List.cons_append,num,ih,List.length_cons,Nat.pow_succ',Nat.mul_add];omega
 rw[happ,hl] at hm;refine dig_ext h.p0 (j+1) _ _ (padd_lt h _ _) (Nat.pow_pos h.p0) fun i hi=> ?_
 rw[dig_padd h _ _ _ hi,dig_pshf h _ _ hi,dig_of_zero]
 have hprv:prv p (p ^ j) i=0:=by
  cases i with
  |zero=>rfl
  | succ i=>
    simp only[prv];unfold dig;rw[Nat.pow_div (by omega) h.p0];obtain⟨r,hr⟩:∃ r,j-i=r+1:=⟨j-i-1,by omega⟩;rw[hr,Nat.pow_succ,Nat.mul_mod_left]
 have htop:dig p (p ^ j) (j+1-1)=1:=by
  unfold dig;rw[show j+1-1=j from rfl,Nat.div_self (Nat.pow_pos h.p0),Nat.mod_eq_of_lt hp2]
 have hdm:dig p m i=dig p (num p l) i:=by
  rw[hm];unfold dig;obtain⟨r,hr⟩:∃ r,j+1=i+(r+1):=⟨j-i,by omega⟩;rw[hr,Nat.pow_add,Nat.add_mul_div_left _ _ (Nat.pow_pos h.p0),Nat.pow_succ',Nat.add_mul_mod_self_left]
 rw[hprv,htop,hdm,Nat.zero_add,Nat.one_mul,Nat.add_mod_mod];have:=dig_lt h.p0 (num p l) i;rw[show dig p (num p l) i+(p-dig p (num p l) i)=p from by omega,Nat.mod_self]
theorem take_snoc (l:List Nat)(j:Nat)(hj:j<l.length):l.take (j+1)=l.take j++ [l[j]?.getD 0]:=by
 rw[List.take_add_one];simp[hj]
theorem evl_row (a c i:Nat)(x y:List Nat)(E:Nat)(j:Nat)(hj:j<y.length)(hx:i+j<x.length)(he:evl p k m a x=padd p k E (pscl p k c (shn p k m (evl p k m a (y.take j)) i))):
 evl p k m a (x.set (i+j) ((x[i+j]?.getD 0+c*y[j]?.getD 0)%p))=padd p k E (pscl p k c (shn p k m (evl p k m a (y.take (j+1))) i)):=by
 rw[evl_set h a _ x _ hx,he,take_snoc h y j hj,evl_snoc h,shn_add h,shn_scl h,shn_shn h,pscl_add h,pscl_pscl h,padd_assoc h]
 congr 3
 rw[List.length_take,Nat.min_eq_left (by omega),Nat.add_comm]
end
end FFld
end
end Go.Proofs.YtdnheaafcbihbaaGreat
