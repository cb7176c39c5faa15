/- Texts in one. -/
import Derived.Test.YtbglpanjpadldaaGreatDoorMa
namespace Go.Proofs.YtbglpanjpadldaaGreatDoor
def Gap(T:List Int)(i k:Nat):Prop:=i<=k/\k<=T.length/\B2 T i=B2 T k
theorem M3{T:List Int}{i:Nat}(h:i<=T.length):Gap T i i:=⟨Z0 _,h,rfl⟩
theorem Gap.trans{T:List Int}{i k m:Nat}(h:Gap T i k)(h':Gap T k m):Gap T i m:=
 ⟨Za h.1 h'.1,h'.2.1,h.2.2.trans h'.2.2⟩
theorem NA{T:List Int}:∀(d i k:Nat),k-i<=d->Upto Ay T i k->Gap T i k
 | 0,i,k,h,hu=>by
  obtain rfl:i=k:=by have:=hu.1;omega
  exact M3 hu.2.1
 | d+1,i,k,h,hu=>by
  by_cases hi:i=k
  ·subst hi;exact M3 hu.2.1
  ·have h1:=hu.1
   have h2:=hu.2.1
   have hb:Ay (wd T i)=true:=hu.2.2 i (Z0 _) (by omega)
   obtain⟨g1,g2,g3⟩:=NA d (i+1) k (by omega) ⟨by omega,h2,fun j h3 h4=>hu.2.2 j (by omega) h4⟩
   refine⟨h1,h2,?_⟩
   rw[Dc (by omega),GO hb]
   exact g3
theorem M4(p:Int->Bool){T:List Int}{i:Nat}(h:i<=T.length):Upto p T i (AO p T i):=by
 refine⟨Ei p T i,Fp h,?_⟩
 have key:∀(d i:Nat),T.length-i<=d->∀j,i<=j->j<AO p T i->p (wd T j)=true:=by
  intro d
  induction d with
  | zero=>
   intro i hd j h1 h2
   rw[Gh (by omega)]at h2
   omega
  | succ d ih=>
   intro i hd j h1 h2
   by_cases hi:i<T.length
   ·cases hp:p (wd T i)with
    | false=>rw[Hq hp]at h2;omega
    | true=>
     by_cases hj:j=i
     ·rw[hj];exact hp
     ·rw[Fo hi hp]at h2
      exact ih (i+1) (by omega) j (by omega) h2
   ·rw[Gh (by omega)]at h2;omega
 exact key _ i (Z0 _)
theorem IJ{p:Int->Bool}{T:List Int}:∀(d i:Nat),T.length-i<=d->AO p T i<T.length->p (wd T (AO p T i))=false
 | 0,i,hd,h=>by have:=Ei p T i;omega
 | d+1,i,hd,h=>by
  by_cases hi:i<T.length
  ·cases hp:p (wd T i)with
   | false=>rw[Hq hp];exact hp
   | true=>
    rw[Fo hi hp]at h⊢
    exact IJ d (i+1) (by omega) h
  ·have:=Ei p T i;omega
theorem Ku{T:List Int}{i:Nat}(h:i<=T.length):Gap T i (AO Ay T i):=NA _ i _ (Z0 _) (M4 _ h)
theorem Rw{T:List Int}{i:Nat}(h:i<T.length)(h35:wd T i=35):Gap T i (AO DI T i):=by
 refine⟨Ei _ _ _,Fp (by omega),?_⟩
 rw[Dc h,Q4 (by rw[h35];decide) h35]
theorem QX{T:List Int}{i:Nat}(h:i<T.length)(h35:wd T i=35):i<AO DI T i:=by
 rw[Fo h (by rw[h35];decide)]
 have:=Ei DI T (i+1)
 omega
def LZ(T:List Int)(k:Nat):Prop:=k<T.length->Ay (wd T k)=false/\wd T k≠35
theorem Sofar.gap{T:List Int}{acc:List Tok}{i k:Nat}(h:Sofar T acc i)(hg:Gap T i k):Sofar T acc k:=⟨hg.2.1,by rw[h.2,hg.2.2]⟩
theorem QY{T:List Int}{k:Nat}(h:k<=T.length):decide (0<AO Bk (Am T k T.length) 0)=(decide (k<T.length)&&Bk (wd T k)):=by
 have hl:=Bz (T:=T) (i:=k) (Z0 T.length)
 by_cases hk:k<T.length
 ·have e:wd (Am T k T.length) 0=wd T k:=by rw[DO (by omega),Nat.add_zero]
  rw[decide_eq_true hk,Bool.true_and]
  cases hb:Bk (wd T k)with
  | false=>rw[Hq (by rw[e];exact hb)];rfl
  | true=>
   rw[Fo (by omega) (by rw[e];exact hb)]
   have:=Ei Bk (Am T k T.length) (0+1)
   exact decide_eq_true (by omega)
 ·rw[Gh (by omega),decide_eq_false hk];rfl
theorem Kv{T:List Int}{i k:Nat}:∀m,m<=k-i->CF (Am T i k) 0 m=CF T i m
 | 0,_=>rfl
 | m+1,h=>by
  unfold CF
  rw[Kv m (by omega),Nat.zero_add,DO (by omega)]
end Go.Proofs.YtbglpanjpadldaaGreatDoor
