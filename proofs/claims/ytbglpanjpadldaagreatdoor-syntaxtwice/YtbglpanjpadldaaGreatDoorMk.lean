/- Texts in one. -/
import Derived.Test.YtbglpanjpadldaaGreatDoorMc
import Derived.Test.YtbglpanjpadldaaGreatDoorLexGapX
namespace Go.Proofs.YtbglpanjpadldaaGreatDoor
def AN(x:List Int):Bool:=!(x.all fun c=>CB.contains c)
def Aw(l:Bool):List (List Int)->Bool->Nat
 | [],r=>if l&&r then 1 else 0
 | t::ts,r=>(if l&&AN t then 1 else 0)+(t.length+Aw (AN t) ts r)
def I0(b:List (List Int))(r:Bool):Bool:=match b with
 | []=>r
 | t::_=>AN t
def Mj(l:Bool):List (List Int)->Bool
 | []=>l
 | t::ts=>Mj (AN t) ts
theorem KP(a b:List (List Int))(r:Bool):∀l,Aw l (a++b) r=Aw l a (I0 b r)+Aw false b r:=by
 induction a with
 | nil=>
  intro l
  show Aw l b r=(if l&&I0 b r then 1 else 0)+Aw false b r
  cases b with
  | nil=>cases l<;>cases r<;>rfl
  | cons t ts=>simp only[Aw,I0,Bool.false_and];simp
 | cons t ts ih=>
  intro l
  show(if l&&AN t then 1 else 0)+(t.length+Aw (AN t) (ts++b) r)=(if l&&AN t then 1 else 0)+(t.length+Aw (AN t) ts (I0 b r))+Aw false b r
  rw[ih];omega
theorem Lw(a b:List (List Int))(r:Bool):∀l,Aw l (a++b) r=Aw l a false+Aw (Mj l a) b r:=by
 induction a with
 | nil=>
  intro l
  show Aw l b r=(if l&&false then 1 else 0)+Aw l b r
  cases l<;>simp
 | cons t ts ih=>
  intro l
  show(if l&&AN t then 1 else 0)+(t.length+Aw (AN t) (ts++b) r)=(if l&&AN t then 1 else 0)+(t.length+Aw (AN t) ts false)+Aw (Mj (AN t) ts) b r
  rw[ih];omega
theorem Lx(a:List (List Int))(l r:Bool):Aw l a r<=Aw false a r+1:=by
 cases a with
 | nil=>cases l<;>cases r<;>decide
 | cons t ts=>
  show(if l&&AN t then 1 else 0)+(t.length+Aw (AN t) ts r)<=(if false&&AN t then 1 else 0)+(t.length+Aw (AN t) ts r)+1
  have:(if l&&AN t then 1 else 0)<=1:=by split<;>omega
  omega
theorem Kq:∀(a:List (List Int)) (l r:Bool),Aw l a r<=Aw l a false+1
 | [],l,r=>by cases l<;>cases r<;>decide
 | t::ts,l,r=>by
  have:=Kq ts (AN t) r
  show(if l&&AN t then 1 else 0)+(t.length+Aw (AN t) ts r)<=(if l&&AN t then 1 else 0)+(t.length+Aw (AN t) ts false)+1
  omega
def Shorter(p a:List (List Int)):Prop:=∀l r,Aw l p r<=Aw l a r
theorem Shorter.refl(a:List (List Int)):Shorter a a:=fun _ _=>Z0 _
theorem Shorter.app{p a q b:List (List Int)}(h:Shorter p a)(h':Shorter q b):Shorter (p++q) (a++b):=fun l r=>by
 have h1:=h l (I0 q r)
 have h2:=h' (Mj l a) r
 have e1:=KP p q r l
 have e2:=KP a q r l
 have e3:=Lw a q r l
 have e4:=Lw a b r l
 omega
theorem Shorter.paren{p a:List (List Int)}(h:Shorter p a):Shorter p ([AD]++a++[A9]):=fun l r=>by
 have h1:=h l r
 have h2:=Lx a l r
 have h3:=Kq a false r
 have e1:Aw l ([AD]++a++[A9]) r=1+(Aw false a false+1):=by
  have w1:AN AD=false:=by decide
  have w2:AN A9=false:=by decide
  rw[List.append_assoc,List.singleton_append]
  show(if l&&AN AD then 1 else 0)+(1+Aw (AN AD) (a++[A9]) r)=_
  rw[w1,KP,Bool.and_false]
  have e:I0 [A9] r=false:=w2
  rw[e]
  show 0+(1+(Aw false a false+((if false&&AN A9 then 1 else 0)+(1+Aw (AN A9) [] r))))=_
  rw[w2]
  cases r<;>simp[Aw]
 omega
def CI(ap:Bool):List (List Int)->List Int
 | []=>[]
 | t::ts=>(if ap&&AN t then[32]else[])++(t++CI (AN t) ts)
theorem Gn:∀(ap:Bool) (l:List (List Int)),(CI ap l).length=Aw ap l false
 | ap,[]=>by cases ap<;>rfl
 | ap,t::ts=>by
  show((if ap&&AN t then[32]else[])++(t++CI (AN t) ts)).length=(if ap&&AN t then 1 else 0)+(t.length+Aw (AN t) ts false)
  rw[Z1,Z1,Gn]
  split<;>rfl
def GF:List (List Int)->Nat
 | []=>0
 | t::ts=>t.length+GF ts
theorem QS:∀(l:Bool) (ts:List (List Int)) (r:Bool),GF ts<=Aw l ts r
 | l,[],r=>Z3 _
 | l,t::ts,r=>by
  have:=QS (AN t) ts r
  show t.length+GF ts<=(if l&&AN t then 1 else 0)+(t.length+Aw (AN t) ts r)
  omega
def Bl(S:Src9)(i j:Nat):List (List Int):=((S.L.drop i).take (j-i)).map fun t=>t.2.1
theorem AW{S:Src9}{i j k:Nat}(h:i<=j)(h':j<=k):Bl S i j++Bl S j k=Bl S i k:=by
 unfold Bl
 rw[<-List.map_append]
 congr 1
 have e:S.L.drop j=(S.L.drop i).drop (j-i):=by rw[List.drop_drop];congr 1;omega
 rw[e,show k-i=(j-i)+(k-j) by omega]
 exact(List.take_add ..).symm
theorem EC(S:Src9)(i:Nat):Bl S i i=[]:=by unfold Bl;rw[Nat.sub_self];rfl
theorem LV{S:Src9}{i:Nat}(h:i<S.L.length):Bl S i (i+1)=[(S.at i).2.1]:=by
 unfold Bl Src9.at
 rw[show i+1-i=1 by omega,Z4 h,Z2,List.getElem?_eq_getElem h]
 rfl
theorem Gp{S:Src9}{x:List Int}{s:PS}(h:A2 S x s=true):Bl S s.tok (s.tok+1)=[x]:=by
 have ht:=AG h
 unfold A2 at h
 simp only[Bool.and_eq_true,beq_iff_eq]at h
 rw[LV ht,h.2.1]
theorem BF{S:Src9}{x:List Int}{s s1:PS}{u:Unit}(h:A8 S x s=.ok (u,s1)):s1.tok=s.tok+1/\Bl S s.tok s1.tok=[x]:=by
 have hb:A2 S x s=true:=by
  cases hb:A2 S x s with
  | true=>rfl
  | false=>unfold A8 at h;rw[if_neg (by rw[hb];decide)]at h;cases h
 have e:s1.tok=s.tok+1:=by
  unfold A8 at h
  rw[if_pos hb]at h
  split at h
  ·split at h
   ·cases h
   ·cases h;rfl
  ·split at h
   ·cases h;rfl
   ·cases h;rfl
 exact⟨e,by rw[e];exact Gp hb⟩
theorem ED{S:Src9}{x:List Int}{s s1:PS}(h:Ae S s=.ok (x,s1)):s1.tok=s.tok+1/\Bl S s.tok s1.tok=[x]:=by
 unfold Ae at h
 split at h
 ·rename_i hi
  have ht:=(Ft hi).1
  cases h
  exact⟨rfl,LV ht⟩
 ·cases h
def BL(l:List Tok):List (List Int):=l.map fun t=>t.2.1
theorem I1(a b:List Tok):BL (a++b)=BL a++BL b:=List.map_append ..
theorem Fw{a b:Option (List Tok)}{l:List Tok}(h:AE a b=some l):∃x y,a=some x/\b=some y/\l=x++y:=by
 cases a with
 | none=>cases h
 | some x=>
  cases b with
  | none=>cases h
  | some y=>exact⟨x,y,rfl,rfl,(Option.some.inj h).symm⟩
def Brief(o:Option (List Tok))(A:List (List Int)):Prop:=∀l,o=some l->Shorter (BL l) A
theorem Brief.cat{a b:Option (List Tok)}{A B:List (List Int)}(ha:Brief a A)(hb:Brief b B):Brief (AE a b) (A++B):=fun l h=>by
 obtain⟨x,y,hx,hy,rfl⟩:=Fw h
 rw[I1]
 exact(ha x hx).app (hb y hy)
theorem Brief.put(x:List Int):Brief (some (A5 x)) [x]:=fun l h=>by cases h;exact Shorter.refl _
theorem Brief.name(x:List Int):Brief (Ax x) [x]:=fun l h=>by
 unfold Ax at h
 split at h
 ·cases h;exact Shorter.refl _
 ·cases h
theorem BA(A:List (List Int)):Brief none A:=fun l h=>by cases h
theorem FR:Brief (some []) []:=fun l h=>by cases h;exact Shorter.refl _
def Wr(k:Nat)(n:Nd)(A:List (List Int)):Prop:=∀F,Brief (AH F k n) A
theorem IH{F k:Nat}{n:Nd}(h:k<=Bc n.kind):AH F k n=AH F 0 n:=by
 cases F with
 | zero=>rfl
 | succ F=>
  cases n with
  | mk kd x m ks=>
   have h':k<=Bc kd:=h
   rw[AH.eq_def (F+1) k,AH.eq_def (F+1) 0]
   dsimp only
   rw[if_neg (show ¬Bc kd<k by omega),if_neg (show ¬Bc kd<0 by omega)]
theorem II{F k:Nat}{n:Nd}(h:Bc n.kind<k):AH (F+1) k n=AE (some (A5 AD)) (AE (AH F 0 n) (some (A5 A9))):=by
 cases n with
 | mk kd x m ks=>
  rw[AH.eq_def (F+1) k]
  dsimp only
  rw[if_pos (show Bc kd<k from h)]
theorem Wr.less{k k':Nat}{n:Nd}{A:List (List Int)}(h:Wr k n A)(hk:k'<=k):Wr k' n A:=fun F l hl=>by
 by_cases h1:k<=Bc n.kind
 ·rw[IH (by omega),<-IH h1]at hl
  exact h F l hl
 ·by_cases h2:k'<=Bc n.kind
  ·rw[IH h2]at hl
   have e:AH (F+1) k n=some (A5 AD++(l++A5 A9)):=by rw[II (by omega),hl];rfl
   have h3:=h _ _ e
   have h4:Shorter (BL l) ([AD]++BL l++[A9]):=(Shorter.refl _).paren
   rw[I1,I1]at h3
   intro a b
   have h5:=h3 a b
   have h6:=h4 a b
   rw[List.append_assoc]at h6
   exact Za h6 h5
  ·cases F with
   | zero=>cases hl
   | succ F=>
    rw[II (by omega),<-II (k:=k) (by omega)]at hl
    exact h _ l hl
theorem Wr.paren{n:Nd}{A:List (List Int)}(h:Wr 0 n A)(k:Nat):Wr k n ([AD]++A++[A9]):=fun F l hl=>by
 by_cases h1:k<=Bc n.kind
 ·rw[IH h1]at hl
  exact(h F l hl).paren
 ·cases F with
  | zero=>cases hl
  | succ F=>
   rw[II (by omega)]at hl
   rw[List.append_assoc]
   exact((Brief.put AD).cat ((h F).cat (Brief.put A9))) l hl
theorem J6{k l r:Nat}{kind:Int}{x:List Int}{a b:Nd}{A B:List (List Int)}(e:∀F,AH (F+1) k (.mk kind [] 0 [a,b])=AH.betweenW (AH F) [a,b] x l r)(ha:Wr l a A)(hb:Wr r b B):Wr k (.mk kind [] 0 [a,b]) (A++([x]++B)):=fun F=>by
 cases F with
 | zero=>exact BA _
 | succ F=>
  rw[e F]
  exact(ha F).cat ((Brief.put x).cat (hb F))
theorem Si{kind:Int}{x:List Int}{a:Nd}{A:List (List Int)}(e:∀F,AH (F+1) 3 (.mk kind [] 0 [a])=AE (some (A5 x)) (AH F 3 a))(ha:Wr 3 a A):Wr 3 (.mk kind [] 0 [a]) ([x]++A):=fun F=>by
 cases F with
 | zero=>exact BA _
 | succ F=>
  rw[e F]
  exact(Brief.put x).cat (ha F)
theorem Sx{x:List Int}{a:Nd}{as:List Nd}{A B:List (List Int)}(ha:Wr 4 a A)(hb:∀F,Brief (CO (as.map (AH F 0))) B):Wr 4 (.mk 25 x 0 (a::as)) (A++([FW]++([x]++([AD]++(B++[A9]))))):=fun F=>by
 cases F with
 | zero=>exact BA _
 | succ F=>
  rw[AH,if_neg (by decide)]
  exact(ha F).cat ((Brief.put FW).cat ((Brief.name x).cat ((Brief.put AD).cat ((hb F).cat (Brief.put A9)))))
theorem LW{kind:Int}{x:List Int}(e:∀F,AH (F+1) 5 (.mk kind [] 0 [])=some (A5 x)):Wr 5 (.mk kind [] 0 []) [x]:=fun F=>by
 cases F with
 | zero=>exact BA _
 | succ F=>rw[e F];exact Brief.put x
theorem Sy(x:List Int):Wr 5 (.mk 31 x 0 []) [x]:=fun F=>by
 cases F with
 | zero=>exact BA _
 | succ F=>rw[AH,if_neg (by decide)];exact Brief.name x
theorem TW(x:List Int):Wr 5 (.mk 30 x 0 []) ([EW]++[x]):=fun F=>by
 cases F with
 | zero=>exact BA _
 | succ F=>rw[AH,if_neg (by decide)];exact(Brief.put EW).cat (Brief.name x)
theorem Ly{x:List Int}(h0:0<x.length)(h:x.all Ah=true):AN x=true:=by
 cases x with
 | nil=>cases h0
 | cons c l=>
  simp only[List.all_cons,Bool.and_eq_true]at h
  have hc:CB.contains c=false:=by
   have hd:=h.1
   unfold Ah at hd
   simp only[decide_eq_true_eq]at hd
   cases hs:CB.contains c with
   | false=>rfl
   | true=>
    have hm:c∈CB:=by simpa using hs
    simp only[CB,List.mem_cons,List.not_mem_nil,or_false]at hm
    omega
  unfold AN
  rw[List.all_cons,hc]
  rfl
theorem Kr:∀(m n k:Nat),n<10 ^ (k+1)->(Cm m n).length<=k+1
 | 0,_,_,_=>Z3 _
 | m+1,n,k,h=>by
  unfold Cm
  split
  ·rename_i h9
   cases k with
   | zero=>omega
   | succ k=>
    have:=Kr m (n / 10) k (by rw[Nat.div_lt_iff_lt_mul (by omega),<-Nat.pow_succ];exact h)
    rw[Z1,List.length_singleton]
    omega
  ·rw[List.length_singleton];omega
theorem QT{x:List Int}:∀m,LM x 0 m->CF x 0 m<10 ^ m
 | 0,_=>by show(0:Int)<10 ^ 0;decide
 | m+1,h=>by
  obtain⟨h1,h2,h3⟩:=OU h
  have:=QT m h1
  unfold CF
  rw[Int.pow_succ]
  omega
theorem TX{x:List Int}(h0:0<x.length)(hd:x.all Ah=true):Wr 5 (.mk 26 [] (CG x) []) [x]:=fun F=>by
 cases F with
 | zero=>exact BA _
 | succ F=>
  rw[AH,if_neg (by decide)]
  intro l hl
  have hl':GM (CG x)=some l:=hl
  unfold GM at hl'
  split at hl'
  ·rename_i hr
   cases hl'
   have hdg:LM x 0 x.length:=fun j hj=>by rw[Nat.zero_add];exact Hz hd hj
   have hlt:=QT x.length hdg
   have hlt':(CG x).toNat<10 ^ x.length:=by
    have e:CG x=CF x 0 x.length:=rfl
    rw[<-e]at hlt
    have:((CG x).toNat:Int)<((10 ^ x.length:Nat):Int):=by rw[Int.toNat_of_nonneg hr.1];push_cast;exact hlt
    exact Int.ofNat_lt.1 this
   obtain⟨k,hk⟩:∃k,x.length=k+1:=⟨x.length-1,by omega⟩
   have hlen:(Bg (CG x)).length<=x.length:=by
    rw[hk]at hlt'⊢
    exact Kr 20 _ k hlt'
   have w1:AN x=true:=Ly h0 hd
   intro a b
   show(if a&&AN (Bg (CG x))then 1 else 0)+((Bg (CG x)).length+Aw (AN (Bg (CG x))) [] b)<=(if a&&AN x then 1 else 0)+(x.length+Aw (AN x) [] b)
   rw[w1]
   generalize AN (Bg (CG x))=w
   cases a<;>cases b<;>cases w<;>simp[Aw]<;>omega
  ·cases hl'
def Rb(S:Src9)(k:Nat)(s:PS)(n:Nd)(s':PS):Prop:=s.tok<=s'.tok/\Wr k n (Bl S s.tok s'.tok)
def Lb(S:Src9)(k:Nat)(A:List (List Int))(s:PS)(m:Nd)(s':PS):Prop:=s.tok<=s'.tok/\Wr k m (A++Bl S s.tok s'.tok)
theorem Rb.less{S:Src9}{k k':Nat}{s s':PS}{n:Nd}(h:Rb S k s n s')(hk:k'<=k):Rb S k' s n s':=⟨h.1,h.2.less hk⟩
theorem Lb.rb{S:Src9}{k:Nat}{s s1 s':PS}{m:Nd}(h1:s.tok<=s1.tok)(h:Lb S k (Bl S s.tok s1.tok) s1 m s'):Rb S k s m s':=by
 obtain⟨h2,h3⟩:=h
 rw[AW h1 h2]at h3
 exact⟨Za h1 h2,h3⟩
theorem B8{S:Src9}{x:List Int}{s s2:PS}(h:A2 S x s=true)(h2:s.step.tok<=s2.tok):s.tok<=s2.tok/\Bl S s.tok s2.tok=[x]++Bl S s.step.tok s2.tok:=by
 have e:s.step.tok=s.tok+1:=rfl
 rw[e]at h2⊢
 exact⟨by omega,by rw[<-Gp h,AW (by omega) h2]⟩
theorem At{kind num:Int}{x:List Int}{ks:List Nd}{s s':PS}{n:Nd}(h:AJ kind x num ks s=.ok (n,s')):n=.mk kind x num ks/\s'.tok=s.tok:=by cases h;exact⟨rfl,rfl⟩
structure Brf(S:Src9)(f:Nat):Prop where
 expr:∀s n s',Bn S f s=.ok (n,s')->Rb S 0 s n s'
 sum:∀s n s',D9 S f s=.ok (n,s')->Rb S 1 s n s'
 sumL:∀n s m s' A,Wr 1 n A->sumL S f n s=.ok (m,s')->Lb S 1 A s m s'
 term:∀s n s',CQ S f s=.ok (n,s')->Rb S 2 s n s'
 termL:∀n s m s' A,Wr 2 n A->termL S f n s=.ok (m,s')->Lb S 2 A s m s'
 unary:∀s n s',Bp S f s=.ok (n,s')->Rb S 3 s n s'
 call:∀s n s',Cb S f s=.ok (n,s')->Rb S 4 s n s'
 callL:∀n s m s' A,Wr 4 n A->callL S f n s=.ok (m,s')->Lb S 4 A s m s'
 args:∀s ks s',CH S f s=.ok (ks,s')->s.tok<=s'.tok/\∀F,Brief (CO (ks.map (AH F 0))) (Bl S s.tok s'.tok)
 prim:∀s n s',Cc S f s=.ok (n,s')->Rb S 5 s n s'
theorem Jq{a:Option (List Tok)}{as:List (Option (List Tok))}{A B:List (List Int)}(ha:Brief a A)(h:0<as.length)(hb:Brief (CO as) B):Brief (CO (a::as)) (A++([An]++B)):=by
 cases as with
 | nil=>cases h
 | cons b bs=>exact ha.cat ((Brief.put An).cat hb)
theorem QU{S:Src9}:∀(f:Nat) (s:PS) (ks:List Nd) (s':PS),CH S f s=.ok (ks,s')->0<ks.length
 | 0,s,ks,s',h=>by rw[CH]at h;exact Ac h
 | f+1,s,ks,s',h=>by
  rw[CH]at h
  obtain⟨a,s1,ha,h⟩:=A0 h
  split at h
  ·obtain⟨b,s2,hb,h⟩:=A0 h
   cases h;simp
  ·cases h;simp
theorem brf{S:Src9}(hS:AP S):∀f,Brf S f
 | 0=>by
  constructor
  ·intro s n s' h;rw[Bn]at h;exact Ac h
  ·intro s n s' h;rw[D9]at h;exact Ac h
  ·intro n s m s' A _ h;rw[sumL]at h;exact Ac h
  ·intro s n s' h;rw[CQ]at h;exact Ac h
  ·intro n s m s' A _ h;rw[termL]at h;exact Ac h
  ·intro s n s' h;rw[Bp]at h;exact Ac h
  ·intro s n s' h;rw[Cb]at h;exact Ac h
  ·intro n s m s' A _ h;rw[callL]at h;exact Ac h
  ·intro s n s' h;rw[CH]at h;exact Ac h
  ·intro s n s' h;rw[Cc]at h;exact Ac h
 | f+1=>by
  have I:=brf hS f
  constructor
  ·intro s n s' h
   rw[Bn]at h
   obtain⟨a,s1,ha,h⟩:=A0 h
   obtain⟨t1,w1⟩:=I.sum _ _ _ ha
   split at h
   ·rename_i hs
    obtain⟨b,s2,hb,h⟩:=A0 h
    obtain⟨t2,w2⟩:=I.sum _ _ _ hb
    obtain⟨t3,e3⟩:=B8 hs t2
    obtain⟨rfl,e4⟩:=At h
    refine⟨by omega,?_⟩
    rw[e4,<-AW t1 t3,e3]
    exact J6 (fun F=>by rw[AH,if_neg (by decide)];rfl) w1 w2
   ·split at h
    ·rename_i hs
     obtain⟨b,s2,hb,h⟩:=A0 h
     obtain⟨t2,w2⟩:=I.sum _ _ _ hb
     obtain⟨t3,e3⟩:=B8 hs t2
     obtain⟨rfl,e4⟩:=At h
     refine⟨by omega,?_⟩
     rw[e4,<-AW t1 t3,e3]
     exact J6 (fun F=>by rw[AH,if_neg (by decide)];rfl) w1 w2
    ·cases h
     exact⟨t1,w1.less (by omega)⟩
  ·intro s n s' h
   rw[D9]at h
   obtain⟨a,s1,ha,h⟩:=A0 h
   obtain⟨t1,w1⟩:=I.term _ _ _ ha
   exact Lb.rb t1 (I.sumL _ _ _ _ _ (w1.less (by omega)) h)
  ·intro n s m s' A hn h
   rw[sumL]at h
   split at h
   ·rename_i hs
    obtain⟨b,s2,hb,h⟩:=A0 h
    obtain⟨t2,w2⟩:=I.term _ _ _ hb
    obtain⟨t3,e3⟩:=B8 hs t2
    obtain⟨c,s3,hc,h⟩:=A0 h
    obtain⟨rfl,e4⟩:=At hc
    obtain⟨t5,w5⟩:=I.sumL _ _ _ _ (A++([GP]++Bl S s.step.tok s2.tok)) (J6 (fun F=>by rw[AH,if_neg (by decide)];rfl) hn w2) h
    rw[e4]at t5 w5
    refine⟨by omega,?_⟩
    rw[<-AW t3 t5,e3,<-List.append_assoc]
    exact w5
   ·split at h
    ·rename_i hs
     obtain⟨b,s2,hb,h⟩:=A0 h
     obtain⟨t2,w2⟩:=I.term _ _ _ hb
     obtain⟨t3,e3⟩:=B8 hs t2
     obtain⟨c,s3,hc,h⟩:=A0 h
     obtain⟨rfl,e4⟩:=At hc
     obtain⟨t5,w5⟩:=I.sumL _ _ _ _ (A++([CC]++Bl S s.step.tok s2.tok)) (J6 (fun F=>by rw[AH,if_neg (by decide)];rfl) hn w2) h
     rw[e4]at t5 w5
     refine⟨by omega,?_⟩
     rw[<-AW t3 t5,e3,<-List.append_assoc]
     exact w5
    ·cases h
     exact⟨Z0 _,by rw[EC,List.append_nil];exact hn⟩
  ·intro s n s' h
   rw[CQ]at h
   obtain⟨a,s1,ha,h⟩:=A0 h
   obtain⟨t1,w1⟩:=I.unary _ _ _ ha
   exact Lb.rb t1 (I.termL _ _ _ _ _ (w1.less (by omega)) h)
  ·intro n s m s' A hn h
   rw[termL]at h
   split at h
   ·rename_i hs
    obtain⟨b,s2,hb,h⟩:=A0 h
    obtain⟨t2,w2⟩:=I.unary _ _ _ hb
    obtain⟨t3,e3⟩:=B8 hs t2
    obtain⟨c,s3,hc,h⟩:=A0 h
    obtain⟨rfl,e4⟩:=At hc
    obtain⟨t5,w5⟩:=I.termL _ _ _ _ (A++([FX]++Bl S s.step.tok s2.tok)) (J6 (fun F=>by rw[AH,if_neg (by decide)];rfl) hn w2) h
    rw[e4]at t5 w5
    refine⟨by omega,?_⟩
    rw[<-AW t3 t5,e3,<-List.append_assoc]
    exact w5
   ·cases h
    exact⟨Z0 _,by rw[EC,List.append_nil];exact hn⟩
  ·intro s n s' h
   rw[Bp]at h
   split at h
   ·rename_i hs
    obtain⟨b,s2,hb,h⟩:=A0 h
    obtain⟨t2,w2⟩:=I.unary _ _ _ hb
    obtain⟨t3,e3⟩:=B8 hs t2
    obtain⟨rfl,e4⟩:=At h
    refine⟨by omega,?_⟩
    rw[e4,e3]
    exact Si (fun F=>by rw[AH,if_neg (by decide)];rfl) w2
   ·split at h
    ·rename_i hs
     obtain⟨b,s2,hb,h⟩:=A0 h
     obtain⟨t2,w2⟩:=I.unary _ _ _ hb
     obtain⟨t3,e3⟩:=B8 hs t2
     obtain⟨rfl,e4⟩:=At h
     refine⟨by omega,?_⟩
     rw[e4,e3]
     exact Si (fun F=>by rw[AH,if_neg (by decide)];rfl) w2
    ·exact(I.call _ _ _ h).less (by omega)
  ·intro s n s' h
   rw[Cb]at h
   obtain⟨a,s1,ha,h⟩:=A0 h
   obtain⟨t1,w1⟩:=I.prim _ _ _ ha
   exact Lb.rb t1 (I.callL _ _ _ _ _ (w1.less (by omega)) h)
  ·intro n s m s' A hn h
   rw[callL]at h
   split at h
   ·rename_i hs
    obtain⟨x,s1,hx,h⟩:=A0 h
    obtain⟨t1,e1⟩:=ED hx
    obtain⟨u,s2,hu,h⟩:=A0 h
    obtain⟨t2,e2⟩:=BF hu
    obtain⟨ks,s3,hk,h⟩:=A0 h
    obtain⟨v,s4,hv,h⟩:=A0 h
    obtain⟨t4,e4⟩:=BF hv
    have q:s2.tok<=s3.tok/\∀F,Brief (CO (ks.map (AH F 0))) (Bl S s2.tok s3.tok):=by
     split at hk
     ·cases hk
      exact⟨Z0 _,fun F=>by rw[EC];exact FR⟩
     ·exact I.args _ _ _ hk
    obtain⟨t3,w3⟩:=q
    obtain⟨c,s5,hc,h⟩:=A0 h
    obtain⟨rfl,e5⟩:=At hc
    obtain⟨t0,e0⟩:=B8 (s2:=s4) hs (by omega)
    have t9:s.step.tok=s.tok+1:=rfl
    have eA:Bl S s.tok s4.tok=[FW]++([x]++([AD]++(Bl S s2.tok s3.tok++[A9]))):=by
     rw[e0,<-AW (j:=s1.tok) (by omega) (by omega),e1,<-AW (i:=s1.tok) (j:=s2.tok) (by omega) (by omega),e2,<-AW (i:=s2.tok) (j:=s3.tok) (by omega) (by omega),e4]
    obtain⟨t6,w6⟩:=I.callL _ _ _ _ (A++Bl S s.tok s4.tok) (by rw[eA];exact Sx hn w3) h
    rw[e5]at t6 w6
    refine⟨by omega,?_⟩
    rw[<-AW t0 t6,<-List.append_assoc]
    exact w6
   ·cases h
    exact⟨Z0 _,by rw[EC,List.append_nil];exact hn⟩
  ·intro s ks s' h
   rw[CH]at h
   obtain⟨a,s1,ha,h⟩:=A0 h
   obtain⟨t1,w1⟩:=I.expr _ _ _ ha
   split at h
   ·rename_i hs
    obtain⟨b,s2,hb,h⟩:=A0 h
    obtain⟨t2,w2⟩:=I.args _ _ _ hb
    obtain⟨t3,e3⟩:=B8 hs t2
    have hl:=QU _ _ _ _ hb
    cases h
    refine⟨by omega,fun F=>?_⟩
    rw[<-AW t1 t3,e3]
    exact Jq (w1 F) (by rw[List.length_map];exact hl) (w2 F)
   ·cases h
    exact⟨t1,fun F=>w1 F⟩
  ·intro s n s' h
   rw[Cc]at h
   split at h
   ·rename_i hi
    obtain⟨h1,h2⟩:=Ft hi
    obtain⟨rfl,e4⟩:=At h
    have e5:s.step.tok=s.tok+1:=rfl
    refine⟨by omega,?_⟩
    rw[e4,e5,LV h1]
    rcases hS _ h1 with⟨hk,_⟩ | ⟨_,h3,h4,_⟩ | hk | hk
    ·rw[h2]at hk;exact absurd hk (by decide)
    ·exact TX h3 h4
    ·rw[h2]at hk;exact absurd hk (by decide)
    ·rw[h2]at hk;exact absurd hk (by decide)
   ·split at h
    ·obtain⟨x,s1,hx,h⟩:=A0 h
     obtain⟨t1,e1⟩:=ED hx
     obtain⟨rfl,e4⟩:=At h
     exact⟨by omega,by rw[e4,e1];exact Sy x⟩
    ·split at h
     ·rename_i hs
      obtain⟨rfl,e4⟩:=At h
      have e5:s.step.tok=s.tok+1:=rfl
      exact⟨by omega,by rw[e4,e5,Gp hs];exact LW (fun F=>by rw[AH,if_neg (by decide)];rfl)⟩
     ·split at h
      ·rename_i hs
       obtain⟨rfl,e4⟩:=At h
       have e5:s.step.tok=s.tok+1:=rfl
       exact⟨by omega,by rw[e4,e5,Gp hs];exact LW (fun F=>by rw[AH,if_neg (by decide)];rfl)⟩
      ·split at h
       ·rename_i hs
        obtain⟨rfl,e4⟩:=At h
        have e5:s.step.tok=s.tok+1:=rfl
        exact⟨by omega,by rw[e4,e5,Gp hs];exact LW (fun F=>by rw[AH,if_neg (by decide)];rfl)⟩
       ·split at h
        ·rename_i hs
         obtain⟨x,s1,hx,h⟩:=A0 h
         obtain⟨t1,e1⟩:=ED hx
         obtain⟨t3,e3⟩:=B8 (s2:=s1) hs (by omega)
         obtain⟨rfl,e4⟩:=At h
         exact⟨by omega,by rw[e4,e3,e1];exact TW x⟩
        ·obtain⟨u,s1,hu,h⟩:=A0 h
         obtain⟨t1,e1⟩:=BF hu
         obtain⟨a,s2,ha,h⟩:=A0 h
         obtain⟨t2,w2⟩:=I.expr _ _ _ ha
         obtain⟨v,s3,hv,h⟩:=A0 h
         obtain⟨t3,e3⟩:=BF hv
         cases h
         refine⟨by omega,?_⟩
         rw[<-AW (i:=s.tok) (j:=s2.tok) (by omega) (by omega),<-AW (i:=s.tok) (j:=s1.tok) (by omega) (by omega),e1,e3]
         exact w2.paren 5
theorem DL{a:Option (List Tok)}{A:List (List Int)}(h:Brief a A):Brief (C1 a) (A++[AQ]):=h.cat (Brief.put AQ)
theorem Et{a:Nd}{as:List Nd}{A:List (List Int)}(h:Wr 0 a A)(F:Nat):Brief (CZ F (a::as)) ([AD]++(A++[A9])):=(Brief.put AD).cat ((h F).cat (Brief.put A9))
theorem N4{S:Src9}(hS:AP S){f:Nat}{s s':PS}{n:Nd}(h:ET S f s=.ok (n,s')):s.tok<=s'.tok/\∃A,Wr 0 n A/\Bl S s.tok s'.tok=[AD]++(A++[A9]):=by
 unfold ET at h
 obtain⟨u,s1,hu,h⟩:=A0 h
 obtain⟨t1,e1⟩:=BF hu
 obtain⟨a,s2,ha,h⟩:=A0 h
 obtain⟨t2,w2⟩:=(brf hS f).expr _ _ _ ha
 obtain⟨v,s3,hv,h⟩:=A0 h
 obtain⟨t3,e3⟩:=BF hv
 cases h
 refine⟨by omega,_,w2,?_⟩
 rw[<-AW (i:=s.tok) (j:=s1.tok) (by omega) (by omega),<-AW (i:=s1.tok) (j:=s2.tok) (by omega) (by omega),e1,e3]
theorem N5{S:Src9}(hS:AP S){f:Nat}{kind:Int}{s s':PS}{n:Nd}(h:ES S f kind s=.ok (n,s')):s.tok<=s'.tok/\∃x a A,n=.mk kind x 0 [a]/\Wr 0 a A/\Bl S s.tok s'.tok=[x]++([Ca]++A)++[AQ]:=by
 unfold ES at h
 obtain⟨x,s1,hx,h⟩:=A0 h
 obtain⟨t1,e1⟩:=ED hx
 obtain⟨u,s2,hu,h⟩:=A0 h
 obtain⟨t2,e2⟩:=BF hu
 obtain⟨a,s3,ha,h⟩:=A0 h
 obtain⟨t3,w3⟩:=(brf hS f).expr _ _ _ ha
 obtain⟨v,s4,hv,h⟩:=A0 h
 obtain⟨t4,e4⟩:=BF hv
 obtain⟨rfl,e5⟩:=At h
 refine⟨by omega,x,a,_,rfl,w3,?_⟩
 rw[e5,<-AW (i:=s.tok) (j:=s3.tok) (by omega) (by omega),<-AW (i:=s.tok) (j:=s1.tok) (by omega) (by omega),<-AW (i:=s1.tok) (j:=s2.tok) (by omega) (by omega),e1,e2,e4]
theorem LX{S:Src9}(hS:AP S){f:Nat}{kind:Int}{s s':PS}{n:Nd}(h:FE S f kind s=.ok (n,s')):s.tok<=s'.tok/\∃a A,n=.mk kind [] 0 [a]/\Wr 0 a A/\Bl S s.tok s'.tok=[AD]++(A++[A9])++[AQ]:=by
 unfold FE at h
 obtain⟨u,s1,hu,h⟩:=A0 h
 obtain⟨t1,e1⟩:=BF hu
 obtain⟨a,s2,ha,h⟩:=A0 h
 obtain⟨t2,w2⟩:=(brf hS f).expr _ _ _ ha
 obtain⟨v,s3,hv,h⟩:=A0 h
 obtain⟨t3,e3⟩:=BF hv
 obtain⟨w,s4,hw,h⟩:=A0 h
 obtain⟨t4,e4⟩:=BF hw
 obtain⟨rfl,e5⟩:=At h
 refine⟨by omega,a,_,rfl,w2,?_⟩
 rw[e5,<-AW (i:=s.tok) (j:=s3.tok) (by omega) (by omega),<-AW (i:=s.tok) (j:=s1.tok) (by omega) (by omega),<-AW (i:=s1.tok) (j:=s2.tok) (by omega) (by omega),e1,e3,e4]
theorem Sz{S:Src9}(hS:AP S){f:Nat}{kind:Int}{s s':PS}{n:Nd}(h:Fr S f kind s=.ok (n,s')):s.tok<=s'.tok/\∃a b A B,n=.mk kind [] 0 [a,b]/\Wr 0 a A/\Wr 0 b B/\Bl S s.tok s'.tok=[AD]++(A++([An]++(B++[A9])))++[AQ]:=by
 unfold Fr at h
 obtain⟨u,s1,hu,h⟩:=A0 h
 obtain⟨t1,e1⟩:=BF hu
 obtain⟨a,s2,ha,h⟩:=A0 h
 obtain⟨t2,w2⟩:=(brf hS f).expr _ _ _ ha
 obtain⟨v,s3,hv,h⟩:=A0 h
 obtain⟨t3,e3⟩:=BF hv
 obtain⟨b,s4,hb,h⟩:=A0 h
 obtain⟨t4,w4⟩:=(brf hS f).expr _ _ _ hb
 obtain⟨w,s5,hw,h⟩:=A0 h
 obtain⟨t5,e5⟩:=BF hw
 obtain⟨z,s6,hz,h⟩:=A0 h
 obtain⟨t6,e6⟩:=BF hz
 obtain⟨rfl,e7⟩:=At h
 refine⟨by omega,a,b,_,_,rfl,w2,w4,?_⟩
 rw[e7,<-AW (i:=s.tok) (j:=s5.tok) (by omega) (by omega),<-AW (i:=s.tok) (j:=s1.tok) (by omega) (by omega),<-AW (i:=s1.tok) (j:=s2.tok) (by omega) (by omega),<-AW (i:=s2.tok) (j:=s3.tok) (by omega) (by omega),<-AW (i:=s3.tok) (j:=s4.tok) (by omega) (by omega),e1,e3,e5,e6]
structure U2(S:Src9)(f:Nat):Prop where
 block:∀s n s',BQ S f s=.ok (n,s')->s.tok<=s'.tok/\∀F,Brief (BR F n) (Bl S s.tok s'.tok)
 stmts:∀s ks s',C7 S f s=.ok (ks,s')->s.tok<=s'.tok/\∀F,Brief (Bv (ks.map (Aa F))) (Bl S s.tok s'.tok)
 stmt:∀s n s',Cd S f s=.ok (n,s')->s.tok<=s'.tok/\∀F,Brief (Aa F n) (Bl S s.tok s'.tok)
theorem Rv{S:Src9}(hS:AP S):∀f,U2 S f
 | 0=>by
  constructor
  ·intro s n s' h;rw[BQ]at h;exact Ac h
  ·intro s n s' h;rw[C7]at h;exact Ac h
  ·intro s n s' h;rw[Cd]at h;exact Ac h
 | f+1=>by
  have I:=Rv hS f
  constructor
  ·intro s n s' h
   rw[BQ]at h
   obtain⟨u,s1,hu,h⟩:=A0 h
   obtain⟨t1,e1⟩:=BF hu
   obtain⟨ks,s2,hk,h⟩:=A0 h
   obtain⟨t2,w2⟩:=I.stmts _ _ _ hk
   obtain⟨v,s3,hv,h⟩:=A0 h
   obtain⟨t3,e3⟩:=BF hv
   obtain⟨rfl,e4⟩:=At h
   refine⟨by omega,fun F=>?_⟩
   rw[e4,<-AW (i:=s.tok) (j:=s1.tok) (by omega) (by omega),<-AW (i:=s1.tok) (j:=s2.tok) (by omega) (by omega),e1,e3]
   cases F with
   | zero=>rw[BR];exact BA _
   | succ F=>
    rw[BR,if_pos rfl]
    exact(Brief.put Ai).cat ((w2 F).cat (Brief.put Au))
  ·intro s ks s' h
   rw[C7]at h
   split at h
   ·cases h
    exact⟨Z0 _,fun F=>by rw[EC];exact FR⟩
   ·obtain⟨k,s1,hk,h⟩:=A0 h
    obtain⟨t1,w1⟩:=I.stmt _ _ _ hk
    obtain⟨l,s2,hl,h⟩:=A0 h
    obtain⟨t2,w2⟩:=I.stmts _ _ _ hl
    cases h
    refine⟨by omega,fun F=>?_⟩
    rw[<-AW t1 t2]
    exact(w1 F).cat (w2 F)
  ·intro s n s' h
   rw[Cd]at h
   have st:s.step.tok=s.tok+1:=rfl
   split at h
   ·rename_i hs
    obtain⟨t1,x,a,A,rfl,w1,e1⟩:=N5 hS h
    obtain⟨t3,e3⟩:=B8 hs t1
    refine⟨t3,fun F=>?_⟩
    rw[e3,e1]
    cases F with
    | zero=>rw[Aa];exact BA _
    | succ F=>
     rw[Aa.eq_def]
     show Brief (C1 (AE (some (A5 CT)) (AE (Ax x) (AE (some (A5 Ca)) (AH F 0 a))))) _
     rw[<-List.append_assoc]
     exact DL ((Brief.put CT).cat ((Brief.name x).cat ((Brief.put Ca).cat (w1 F))))
   ·split at h
    ·rename_i hs
     obtain⟨k,s1,hk,h⟩:=A0 h
     obtain⟨t1,A,w1,e1⟩:=N4 hS hk
     obtain⟨b,s2,hb,h⟩:=A0 h
     obtain⟨t2,w2⟩:=I.block _ _ _ hb
     split at h
     ·rename_i he
      obtain⟨c,s3,hc,h⟩:=A0 h
      obtain⟨t3,w3⟩:=I.block _ _ _ hc
      obtain⟨t4,e4⟩:=B8 he t3
      obtain⟨rfl,e5⟩:=At h
      obtain⟨t6,e6⟩:=B8 (s2:=s3) hs (by omega)
      refine⟨by omega,fun F=>?_⟩
      rw[e5,e6,<-AW (i:=s.step.tok) (j:=s1.tok) (by omega) (by omega),<-AW (i:=s1.tok) (j:=s2.tok) (by omega) (by omega),e1,e4]
      cases F with
      | zero=>rw[Aa];exact BA _
      | succ F=>
       rw[Aa.eq_def]
       show Brief (AE (some (A5 wIf)) (AE (CZ F [k,b,c]) (AE (BR F b) (AE (some (A5 Cy)) (BR F c))))) _
       exact(Brief.put wIf).cat ((Et w1 F).cat ((w2 F).cat ((Brief.put Cy).cat (w3 F))))
     ·obtain⟨rfl,e5⟩:=At h
      obtain⟨t6,e6⟩:=B8 (s2:=s2) hs (by omega)
      refine⟨by omega,fun F=>?_⟩
      rw[e5,e6,<-AW (i:=s.step.tok) (j:=s1.tok) (by omega) (by omega),e1]
      cases F with
      | zero=>rw[Aa];exact BA _
      | succ F=>
       rw[Aa.eq_def]
       show Brief (AE (some (A5 wIf)) (AE (CZ F [k,b]) (BR F b))) _
       exact(Brief.put wIf).cat ((Et w1 F).cat (w2 F))
    ·split at h
     ·rename_i hs
      obtain⟨k,s1,hk,h⟩:=A0 h
      obtain⟨t1,A,w1,e1⟩:=N4 hS hk
      obtain⟨b,s2,hb,h⟩:=A0 h
      obtain⟨t2,w2⟩:=I.block _ _ _ hb
      obtain⟨rfl,e5⟩:=At h
      obtain⟨t6,e6⟩:=B8 (s2:=s2) hs (by omega)
      refine⟨by omega,fun F=>?_⟩
      rw[e5,e6,<-AW (i:=s.step.tok) (j:=s1.tok) (by omega) (by omega),e1]
      cases F with
      | zero=>rw[Aa];exact BA _
      | succ F=>
       rw[Aa.eq_def]
       show Brief (AE (some (A5 C0)) (AE (CZ F [k,b]) (BR F b))) _
       exact(Brief.put C0).cat ((Et w1 F).cat (w2 F))
     ·split at h
      ·rename_i hs
       obtain⟨k,s1,hk,h⟩:=A0 h
       obtain⟨t1,w1⟩:=(brf hS f).expr _ _ _ hk
       obtain⟨v,s2,hv,h⟩:=A0 h
       obtain⟨t2,e2⟩:=BF hv
       obtain⟨rfl,e5⟩:=At h
       obtain⟨t6,e6⟩:=B8 (s2:=s2) hs (by omega)
       refine⟨by omega,fun F=>?_⟩
       rw[e5,e6,<-AW (i:=s.step.tok) (j:=s1.tok) (by omega) (by omega),e2]
       cases F with
       | zero=>rw[Aa];exact BA _
       | succ F=>
        rw[Aa.eq_def]
        show Brief (C1 (AE (some (A5 Bs)) (AH F 0 k))) _
        rw[<-List.append_assoc]
        exact DL ((Brief.put Bs).cat (w1 F))
      ·split at h
       ·rename_i hs
        obtain⟨t1,a,A,rfl,w1,e1⟩:=LX hS h
        obtain⟨t3,e3⟩:=B8 hs t1
        refine⟨t3,fun F=>?_⟩
        rw[e3,e1]
        cases F with
        | zero=>rw[Aa];exact BA _
        | succ F=>
         rw[Aa.eq_def]
         show Brief (C1 (AE (some (A5 CN)) (CZ F [a]))) _
         rw[<-List.append_assoc]
         exact DL ((Brief.put CN).cat (Et w1 F))
       ·split at h
        ·rename_i hs
         obtain⟨b,s1,hb,h⟩:=A0 h
         obtain⟨t1,w1⟩:=I.block _ _ _ hb
         obtain⟨rfl,e5⟩:=At h
         obtain⟨t6,e6⟩:=B8 (s2:=s1) hs (by omega)
         refine⟨by omega,fun F=>?_⟩
         rw[e5,e6]
         cases F with
         | zero=>rw[Aa];exact BA _
         | succ F=>
          rw[Aa.eq_def]
          show Brief (AE (some (A5 DX)) (BR F b)) _
          exact(Brief.put DX).cat (w1 F)
        ·split at h
         ·rename_i hs
          obtain⟨t1,a,A,rfl,w1,e1⟩:=LX hS h
          obtain⟨t3,e3⟩:=B8 hs t1
          refine⟨t3,fun F=>?_⟩
          rw[e3,e1]
          cases F with
          | zero=>rw[Aa];exact BA _
          | succ F=>
           rw[Aa.eq_def]
           show Brief (C1 (AE (some (A5 Dd)) (CZ F [a]))) _
           rw[<-List.append_assoc]
           exact DL ((Brief.put Dd).cat (Et w1 F))
         ·split at h
          ·rename_i hs
           obtain⟨t1,a,A,rfl,w1,e1⟩:=LX hS h
           obtain⟨t3,e3⟩:=B8 hs t1
           refine⟨t3,fun F=>?_⟩
           rw[e3,e1]
           cases F with
           | zero=>rw[Aa];exact BA _
           | succ F=>
            rw[Aa.eq_def]
            show Brief (C1 (AE (some (A5 Cu)) (CZ F [a]))) _
            rw[<-List.append_assoc]
            exact DL ((Brief.put Cu).cat (Et w1 F))
          ·split at h
           ·rename_i hs
            obtain⟨t1,a,b,A,B,rfl,w1,w2,e1⟩:=Sz hS h
            obtain⟨t3,e3⟩:=B8 hs t1
            refine⟨t3,fun F=>?_⟩
            rw[e3,e1]
            cases F with
            | zero=>rw[Aa];exact BA _
            | succ F=>
             rw[Aa.eq_def]
             show Brief (C1 (AE (some (A5 Ek)) (AE (some (A5 AD)) (AE (AH F 0 a) (AE (some (A5 An)) (AE (AH F 0 b) (some (A5 A9)))))))) _
             rw[<-List.append_assoc]
             exact DL ((Brief.put Ek).cat ((Brief.put AD).cat ((w1 F).cat ((Brief.put An).cat ((w2 F).cat (Brief.put A9))))))
           ·split at h
            ·obtain⟨t1,x,a,A,rfl,w1,e1⟩:=N5 hS h
             refine⟨t1,fun F=>?_⟩
             rw[e1]
             cases F with
             | zero=>rw[Aa];exact BA _
             | succ F=>
              rw[Aa.eq_def]
              show Brief (C1 (AE (Ax x) (AE (some (A5 Ca)) (AH F 0 a)))) _
              exact DL ((Brief.name x).cat ((Brief.put Ca).cat (w1 F)))
            ·obtain⟨k,s1,hk,h⟩:=A0 h
             obtain⟨t1,w1⟩:=(brf hS f).expr _ _ _ hk
             obtain⟨v,s2,hv,h⟩:=A0 h
             obtain⟨t2,e2⟩:=BF hv
             obtain⟨rfl,e5⟩:=At h
             refine⟨by omega,fun F=>?_⟩
             rw[e5,<-AW (i:=s.tok) (j:=s1.tok) (by omega) (by omega),e2]
             cases F with
             | zero=>rw[Aa];exact BA _
             | succ F=>
              rw[Aa.eq_def]
              show Brief (C1 (AH F 0 k)) _
              exact DL (w1 F)
theorem LY{a b:List (Option (List Tok))}{A B:List (List Int)}(ha:Brief (Bv a) A)(hb:Brief (Bv b) B):Brief (Bv (a++b)) (A++B):=by
 have key:∀(a:List (Option (List Tok))) (l:List Tok),Bv (a++b)=some l->∃x y,Bv a=some x/\Bv b=some y/\l=x++y:=by
  intro a
  induction a with
  | nil=>intro l h;exact⟨[],l,rfl,h,rfl⟩
  | cons c cs ih=>
   intro l h
   obtain⟨x,y,hx,hy,rfl⟩:=Fw (show AE c (Bv (cs++b))=some l from h)
   obtain⟨x',y',hx',hy',rfl⟩:=ih y hy
   exact⟨x++x',y',by show AE c (Bv cs)=_;rw[hx,hx'];rfl,hy',(List.append_assoc ..).symm⟩
 intro l h
 obtain⟨x,y,hx,hy,rfl⟩:=key a l h
 rw[I1]
 exact(ha x hx).app (hb y hy)
theorem PQ{S:Src9}:∀(f:Nat) (s:PS) (ks:List Nd) (s':PS),Bb S f s=.ok (ks,s')->0<ks.length
 | 0,s,ks,s',h=>by rw[Bb]at h;exact Ac h
 | f+1,s,ks,s',h=>by
  rw[Bb]at h
  obtain⟨a,s1,ha,h⟩:=A0 h
  obtain⟨b,s2,hb,h⟩:=A0 h
  split at h
  ·obtain⟨c,s3,hc,h⟩:=A0 h
   cases h;simp
  ·cases h;simp
theorem Jr{S:Src9}:∀(f:Nat) (s:PS) (ks:List Nd) (s':PS),Bb S f s=.ok (ks,s')->s.tok<=s'.tok/\Brief (CO (ks.map fun a=>Ax a.text)) (Bl S s.tok s'.tok)
 | 0,s,ks,s',h=>by rw[Bb]at h;exact Ac h
 | f+1,s,ks,s',h=>by
  rw[Bb]at h
  obtain⟨x,s1,hx,h⟩:=A0 h
  obtain⟨t1,e1⟩:=ED hx
  obtain⟨k,s2,hk,h⟩:=A0 h
  obtain⟨rfl,e2⟩:=At hk
  split at h
  ·rename_i hs
   obtain⟨c,s3,hc,h⟩:=A0 h
   obtain⟨t3,w3⟩:=Jr f _ _ _ hc
   have hl:=PQ _ _ _ _ hc
   obtain⟨t4,e4⟩:=B8 hs t3
   cases h
   refine⟨by omega,?_⟩
   rw[<-AW (i:=s.tok) (j:=s1.tok) (by omega) (by omega),e1,<-e2,e4]
   exact Jq (Brief.name x) (by rw[List.length_map];exact hl) w3
  ·cases h
   refine⟨by omega,?_⟩
   rw[e2,e1]
   exact Brief.name x
theorem N6{S:Src9}(hS:AP S){f:Nat}{s s':PS}{n:Nd}(h:Cl S f s=.ok (n,s'))(F:Nat):s.tok<=s'.tok/\Brief (Bi F n) ([wTo]++Bl S s.tok s'.tok):=by
 unfold Cl at h
 obtain⟨x,s1,hx,h⟩:=A0 h
 obtain⟨t1,e1⟩:=ED hx
 obtain⟨u,s2,hu,h⟩:=A0 h
 obtain⟨t2,e2⟩:=BF hu
 obtain⟨ks,s3,hk,h⟩:=A0 h
 have q:s2.tok<=s3.tok/\Brief (CO (ks.map fun a=>Ax a.text)) (Bl S s2.tok s3.tok):=by
  split at hk
  ·cases hk
   exact⟨Z0 _,by rw[EC];exact FR⟩
  ·exact Jr _ _ _ _ hk
 obtain⟨t3,w3⟩:=q
 obtain⟨v,s4,hv,h⟩:=A0 h
 obtain⟨t4,e4⟩:=BF hv
 obtain⟨b,s5,hb,h⟩:=A0 h
 obtain⟨t5,w5⟩:=(Rv hS f).block _ _ _ hb
 obtain⟨rfl,e6⟩:=At h
 refine⟨by omega,?_⟩
 rw[e6,<-AW (i:=s.tok) (j:=s1.tok) (by omega) (by omega),<-AW (i:=s1.tok) (j:=s2.tok) (by omega) (by omega),<-AW (i:=s2.tok) (j:=s3.tok) (by omega) (by omega),<-AW (i:=s3.tok) (j:=s4.tok) (by omega) (by omega),e1,e2,e4]
 have em:Bi F (.mk 4 x (ks.length:Int) (ks++[b]))=AE (some (A5 wTo)) (AE (Ax x) (AE (some (A5 AD)) (AE (CO (ks.map fun a=>Ax a.text)) (AE (some (A5 A9)) (BR F b))))):=by
  unfold Bi JO
  have e1:(Nd.mk 4 x (ks.length:Int) (ks++[b])).kids=ks++[b]:=rfl
  rw[e1,List.getLast?_concat,List.dropLast_concat]
  show(if(4:Int)=3 then _ else if(4:Int)=4 then _ else _)=_
  rw[if_neg (by decide),if_pos rfl]
  rfl
 rw[em]
 exact(Brief.put wTo).cat ((Brief.name x).cat ((Brief.put AD).cat (w3.cat ((Brief.put A9).cat (w5 F)))))
theorem Js{S:Src9}(F:Nat):∀(f:Nat) (s:PS) (ks:List Nd) (s':PS),BM S f s=.ok (ks,s')->s.tok<=s'.tok/\Brief (Bv (ks.map (Bi F))) (Bl S s.tok s'.tok)
 | 0,s,ks,s',h=>by rw[BM]at h;exact Ac h
 | f+1,s,ks,s',h=>by
  rw[BM]at h
  split at h
  ·rename_i hs
   obtain⟨x,s1,hx,h⟩:=A0 h
   obtain⟨t1,e1⟩:=ED hx
   obtain⟨u,s2,hu,h⟩:=A0 h
   obtain⟨t2,e2⟩:=BF hu
   obtain⟨k,s3,hk,h⟩:=A0 h
   obtain⟨rfl,e3⟩:=At hk
   obtain⟨l,s4,hl,h⟩:=A0 h
   obtain⟨t4,w4⟩:=Js F f _ _ _ hl
   obtain⟨t5,e5⟩:=B8 (s2:=s2) hs (by omega)
   cases h
   refine⟨by omega,?_⟩
   rw[e3]at t4 w4
   rw[<-AW t5 t4,e5,<-AW (i:=s.step.tok) (j:=s1.tok) (by omega) (by omega),e1,e2]
   refine Brief.cat ?_ w4
   rw[<-List.append_assoc]
   exact DL ((Brief.put Ej).cat (Brief.name x))
  ·cases h
   exact⟨Z0 _,by rw[EC];exact FR⟩
theorem Ih{S:Src9}(hS:AP S)(F:Nat):∀(f:Nat) (s:PS) (ks:List Nd) (s':PS),Ap S f s=.ok (ks,s')->s.tok<=s'.tok/\Brief (Bv (ks.map (Bi F))) (Bl S s.tok s'.tok)
 | 0,s,ks,s',h=>by rw[Ap]at h;exact Ac h
 | f+1,s,ks,s',h=>by
  rw[Ap]at h
  split at h
  ·rename_i hs
   obtain⟨k,s1,hk,h⟩:=A0 h
   obtain⟨t1,w1⟩:=N6 hS hk F
   obtain⟨l,s2,hl,h⟩:=A0 h
   obtain⟨t2,w2⟩:=Ih hS F f _ _ _ hl
   obtain⟨t5,e5⟩:=B8 (s2:=s1) hs (by omega)
   cases h
   refine⟨by omega,?_⟩
   rw[<-AW t5 t2,e5]
   exact w1.cat w2
  ·cases h
   exact⟨Z0 _,by rw[EC];exact FR⟩
theorem PR{F:Nat}{ks:List Nd}{A:List (List Int)}(h:Brief (Bv (ks.map (Bi F))) A):Brief (B4.bodyW F ks) ([Ai]++(A++[Au])):=(Brief.put Ai).cat (h.cat (Brief.put Au))
theorem Jt{S:Src9}:∀(f:Nat) (s:PS) (ks:List Nd) (s':PS),BM S f s=.ok (ks,s')->∀k∈ks,k.kind=3
 | 0,s,ks,s',h=>by rw[BM]at h;exact Ac h
 | f+1,s,ks,s',h=>by
  rw[BM]at h
  split at h
  ·obtain⟨x,s1,hx,h⟩:=A0 h
   obtain⟨u,s2,hu,h⟩:=A0 h
   obtain⟨k,s3,hk,h⟩:=A0 h
   obtain⟨rfl,e3⟩:=At hk
   obtain⟨l,s4,hl,h⟩:=A0 h
   have:=Jt f _ _ _ hl
   cases h
   intro k hk
   rcases List.mem_cons.1 hk with rfl | hk
   ·rfl
   ·exact this k hk
  ·cases h
   intro k hk;cases hk
theorem Ii{S:Src9}:∀(f:Nat) (s:PS) (ks:List Nd) (s':PS),Ap S f s=.ok (ks,s')->∀k∈ks,k.kind=4
 | 0,s,ks,s',h=>by rw[Ap]at h;exact Ac h
 | f+1,s,ks,s',h=>by
  rw[Ap]at h
  split at h
  ·obtain⟨k,s1,hk,h⟩:=A0 h
   obtain⟨l,s2,hl,h⟩:=A0 h
   have:=Ii f _ _ _ hl
   cases h
   intro c hc
   rcases List.mem_cons.1 hc with rfl | hc
   ·unfold Cl at hk
    obtain⟨x,s1,hx,hk⟩:=A0 hk
    obtain⟨u,s2,hu,hk⟩:=A0 hk
    obtain⟨ks,s3,hq,hk⟩:=A0 hk
    obtain⟨v,s4,hv,hk⟩:=A0 hk
    obtain⟨b,s5,hb,hk⟩:=A0 hk
    obtain⟨rfl,e6⟩:=At hk
    rfl
   ·exact this c hc
  ·cases h
   intro k hk;cases hk
theorem Nr{S:Src9}(hS:AP S){f:Nat}{s s':PS}{n:Nd}(h:DD S f s=.ok (n,s'))(F:Nat):s.tok<=s'.tok/\Brief (B4 F n) ([Cz]++Bl S s.tok s'.tok):=by
 unfold DD at h
 obtain⟨x,s1,hx,h⟩:=A0 h
 obtain⟨t1,e1⟩:=ED hx
 obtain⟨up,s2,hu,h⟩:=A0 h
 obtain⟨v,s3,hv,h⟩:=A0 h
 obtain⟨t3,e3⟩:=BF hv
 obtain⟨ks,s4,hk,h⟩:=A0 h
 obtain⟨t4,w4⟩:=Js F _ _ _ _ hk
 have k4:=Jt _ _ _ _ hk
 obtain⟨ms,s5,hm,h⟩:=A0 h
 obtain⟨t5,w5⟩:=Ih hS F _ _ _ _ hm
 have k5:=Ii _ _ _ _ hm
 obtain⟨z,s6,hz,h⟩:=A0 h
 obtain⟨t6,e6⟩:=BF hz
 obtain⟨rfl,e7⟩:=At h
 have wB:Brief (B4.bodyW F (ks++ms)) (Bl S s2.tok s6.tok):=by
  rw[<-AW (i:=s2.tok) (j:=s3.tok) (by omega) (by omega),<-AW (i:=s3.tok) (j:=s5.tok) (by omega) (by omega),<-AW (i:=s3.tok) (j:=s4.tok) (by omega) (by omega),e3,e6]
  refine PR ?_
  rw[List.map_append]
  exact LY w4 w5
 split at hu
 ·rename_i hs
  obtain⟨y,s8,hy,hu⟩:=A0 hu
  obtain⟨t8,e8⟩:=ED hy
  obtain⟨k,s9,hk9,hu⟩:=A0 hu
  obtain⟨rfl,e9⟩:=At hk9
  obtain⟨t10,e10⟩:=B8 (s2:=s8) hs (by omega)
  cases hu
  refine⟨by omega,?_⟩
  rw[e9]at wB t3
  rw[e7,<-AW (i:=s.tok) (j:=s1.tok) (by omega) (by omega),<-AW (i:=s1.tok) (j:=s8.tok) (by omega) (by omega),e1,e10,e8]
  have em:B4 F (.mk 2 x 0 ([.mk 31 y 0 []]++ks++ms))=AE (some (A5 Cz)) (AE (Ax x) (AE (some (A5 DP)) (AE (Ax y) (B4.bodyW F (ks++ms))))):=by
   unfold B4
   show AE _ (AE _ (if(31:Int)=31 then _ else _))=_
   rw[if_pos rfl]
   rfl
  rw[em,List.append_assoc [DP]]
  exact(Brief.put Cz).cat ((Brief.name x).cat ((Brief.put DP).cat ((Brief.name y).cat wB)))
 ·cases hu
  refine⟨by omega,?_⟩
  rw[e7,<-AW (i:=s.tok) (j:=s1.tok) (by omega) (by omega),e1]
  have em:B4 F (.mk 2 x 0 ([]++ks++ms))=AE (some (A5 Cz)) (AE (Ax x) (B4.bodyW F (ks++ms))):=by
   unfold B4
   rw[List.nil_append]
   have e0:(Nd.mk 2 x 0 (ks++ms)).kids=ks++ms:=rfl
   rw[e0]
   have hk:∀k∈ks++ms,¬k.kind=31:=fun k hk=>by
    rcases List.mem_append.1 hk with hk | hk
    ·rw[k4 k hk];decide
    ·rw[k5 k hk];decide
   cases hkm:ks++ms with
   | nil=>rfl
   | cons u us=>
    show AE _ (AE _ (if u.kind=31 then _ else _))=_
    rw[if_neg (hk u (by rw[hkm];exact Z7 ..))]
    rfl
  rw[em]
  exact(Brief.put Cz).cat ((Brief.name x).cat wB)
theorem Ij{S:Src9}(hS:AP S)(F:Nat):∀(f:Nat) (s:PS) (ks:List Nd) (s':PS),B6 S f s=.ok (ks,s')->s.tok<=s'.tok/\Brief (Bv (ks.map (B4 F))) (Bl S s.tok s'.tok)
 | 0,s,ks,s',h=>by rw[B6]at h;exact Ac h
 | f+1,s,ks,s',h=>by
  rw[B6]at h
  split at h
  ·rename_i hs
   obtain⟨k,s1,hk,h⟩:=A0 h
   obtain⟨t1,w1⟩:=Nr hS hk F
   obtain⟨l,s2,hl,h⟩:=A0 h
   obtain⟨t2,w2⟩:=Ij hS F f _ _ _ hl
   obtain⟨t5,e5⟩:=B8 (s2:=s1) hs (by omega)
   cases h
   refine⟨by omega,?_⟩
   rw[<-AW t5 t2,e5]
   exact w1.cat w2
  ·cases h
   exact⟨Z0 _,by rw[EC];exact FR⟩
theorem Ns{S:Src9}(hS:AP S){f:Nat}{n:Nd}(h:Cs S f=.ok n){F:Nat}{l:List Tok}(hl:Dz F n=some l):Aw false (BL l) false<=Aw false (BL S.L) false:=by
 unfold Cs at h
 cases hp:F9 S f ⟨0,0,0⟩with
 | error e=>rw[hp]at h;cases h
 | ok y=>
  obtain⟨m,s'⟩:=y
  rw[hp]at h
  simp only at h
  split at h
  ·cases h
  ·rename_i ht
   split at h
   ·cases h
   ·cases h
    unfold F9 at hp
    obtain⟨ks,s1,hk,hp⟩:=A0 hp
    obtain⟨t1,w1⟩:=Ij hS F _ _ _ _ hk
    obtain⟨u,s2,hu,hp⟩:=A0 hp
    obtain⟨t2,e2⟩:=BF hu
    obtain⟨b,s3,hb,hp⟩:=A0 hp
    obtain⟨t3,w3⟩:=(Rv hS f).block _ _ _ hb
    obtain⟨rfl,e4⟩:=At hp
    have em:Dz F (.mk 1 [] 0 (ks++[b]))=AE (Bv (ks.map (B4 F))) (AE (some (A5 Dy)) (BR F b)):=by
     unfold Dz
     have e0:(Nd.mk 1 [] 0 (ks++[b])).kids=ks++[b]:=rfl
     rw[e0,List.getLast?_concat,List.dropLast_concat]
     rfl
    rw[em]at hl
    have hw:=(w1.cat ((Brief.put Dy).cat (w3 F))) l hl false false
    have ea:Bl S (PS.mk 0 0 0).tok s1.tok++([Dy]++Bl S s2.tok s3.tok)=BL S.L:=by
     rw[<-e2,AW (i:=s1.tok) (by omega) (by omega),AW (by omega) (by omega)]
     unfold Bl BL
     show((S.L.drop 0).take (s3.tok-0)).map _=_
     rw[List.drop_zero,List.take_of_length_le (by omega)]
    rw[ea]at hw
    exact hw
def Om(x rest:List Int):Prop:=(AN x=true->Ba (wd rest 0)=false)/\(x=[61]->wd rest 0≠61)
theorem KQ{pre x rest:List Int}:wd (pre++(x++rest)) (pre.length+x.length)=wd rest 0:=by
 unfold wd
 rw[Z2,List.getElem?_append_right (by omega),Nat.add_sub_cancel_left,List.getElem?_append_right (by omega),Nat.sub_self,<-Z2]
theorem NB{p:Int->Bool}{pre x rest:List Int}(h:x.all p=true)(hb:p (wd rest 0)=false):AO p (pre++(x++rest)) pre.length=pre.length+x.length:=by
 refine LL (by simp only[Z1];omega) (by omega) (fun j h1 h2=>?_) (Or.inr (by rw[KQ];exact hb))
 obtain⟨d,rfl⟩:∃d,j=pre.length+d:=⟨j-pre.length,by omega⟩
 rw[E3 (by omega)]
 exact Hz h (by omega)
theorem T1{b:Int}(h:Ba b=false):Bk b=false/\Ah b=false:=by
 unfold Ba at h
 exact Bool.or_eq_false_iff.1 h
theorem M5{x:List Int}(h0:0<x.length)(h:Bk (wd x 0)=true):AN x=true:=by
 cases x with
 | nil=>cases h0
 | cons c l=>
  have hc:Bk c=true:=h
  have hs:CB.contains c=false:=by
   cases hs:CB.contains c with
   | false=>rfl
   | true=>
    have hm:c∈CB:=by simpa using hs
    have hf:∀c∈CB,Bk c=false:=by decide
    rw[hf c hm]at hc
    cases hc
  unfold AN
  rw[List.all_cons,hs]
  rfl
theorem Ik{pre x rest:List Int}(hb:Ba (wd rest 0)=false)(h0:0<x.length)(h1:Bk (wd x 0)=true)(h2:x.all Ba=true):Av (pre++(x++rest)) pre.length=.tok (if DJ x=true then 3 else 1,x,pre.length) (pre.length+x.length):=by
 have e0:wd (pre++(x++rest)) pre.length=wd x 0:=E3 (j:=0) h0
 obtain⟨f1,f2⟩:=Lz h1
 rw[Ip (by rw[e0];exact f1) (by rw[e0];exact f2) (by rw[e0];exact h1),NB h2 hb,Eb]
theorem NC{pre rest:List Int}{t:Tok}(h:E2 t)(hf:Om t.2.1 rest):Av (pre++(t.2.1++rest)) pre.length=.tok (t.1,t.2.1,pre.length) (pre.length+t.2.1.length)/\0<t.2.1.length:=by
 rcases h with⟨h1,h2⟩ | ⟨h1,m,h2,h3,h4⟩ | ⟨h1,h2⟩ | ⟨h1,h2⟩
 ·unfold BV at h2
  simp only[Bool.and_eq_true,Bool.not_eq_true']at h2
  obtain⟨n1,n2,n3,n4⟩:=h2
  have h0:0<t.2.1.length:=by
   cases hx:t.2.1 with
   | nil=>rw[hx]at n1;cases n1
   | cons a l=>simp
  rw[Ik (hf.1 (M5 h0 n2)) h0 n2 n3,if_neg (by rw[n4];decide),h1]
  exact⟨rfl,h0⟩
 ·obtain⟨d1,d2,d3⟩:=FC h2 h3
  rw[<-h4]at d1 d2 d3
  have hb:=T1 (hf.1 (Ly d2 d1))
  have e0:wd (pre++(t.2.1++rest)) pre.length=wd t.2.1 0:=E3 (j:=0) d2
  have hd0:=Hz d1 d2
  obtain⟨f1,f2⟩:=M1 hd0
  have hst:AO Ah (pre++(t.2.1++rest)) pre.length=pre.length+t.2.1.length:=NB d1 hb.2
  have hnum:CF (pre++(t.2.1++rest)) pre.length t.2.1.length=m:=by
   have e:=G6 (T:=pre++(t.2.1++rest)) (i:=pre.length) (k:=pre.length+t.2.1.length) t.2.1.length (by omega)
   rw[Eb]at e
   rw[<-e]
   show CG t.2.1=m
   rw[h4,G5 h2 h3]
  have hbad:EK (pre++(t.2.1++rest)) pre.length (pre.length+t.2.1.length)=false:=by
   unfold EK
   rw[Nat.add_sub_cancel_left,hnum,e0,KQ,decide_eq_false (show ¬ 1073741823<m by omega),hb.1,Bool.and_false,Bool.or_false,Bool.false_or]
   by_cases hl:1<t.2.1.length
   ·rw[beq_eq_false_iff_ne.2 (d3 hl),Bool.and_false]
   ·rw[decide_eq_false hl,Bool.false_and]
  rw[KC (by rw[e0];exact f1) (by rw[e0];exact f2) (by rw[e0];exact hd0) (by rw[hst];exact hbad),hst,Eb,h1]
  exact⟨rfl,d2⟩
 ·obtain⟨w1,w2,w3⟩:=N7 t.2.1 (List.contains_iff_mem.1 h2)
  rw[Ik (hf.1 (M5 w1 w2)) w1 w2 w3,if_pos h2,h1]
  exact⟨rfl,w1⟩
 ·unfold Ja at h2
  simp only[Bool.or_eq_true,Bool.and_eq_true,beq_iff_eq]at h2
  have key:0<t.2.1.length/\Br (pre++(t.2.1++rest)) pre.length=t.2.1.length/\Ay (wd t.2.1 0)=false/\wd t.2.1 0≠35/\Bk (wd t.2.1 0)=false/\Ah (wd t.2.1 0)=false:=by
   rcases h2 with h2 | ⟨h2,h3⟩
   ·rw[h2]
    refine⟨by decide,?_,by decide,by decide,by decide,by decide⟩
    unfold Br
    rw[if_pos ⟨by simp only[Z1,List.length_cons];omega,E3 (x:=[61,61]) (j:=0) (by decide),E3 (x:=[61,61]) (j:=1) (by decide)⟩]
    rfl
   ·have e0:wd (pre++(t.2.1++rest)) pre.length=wd t.2.1 0:=E3 (j:=0) (by omega)
    have e1:wd (pre++(t.2.1++rest)) (pre.length+1)=wd rest 0:=by rw[<-h2];exact KQ
    have hf':∀c∈CB,Ay c=false/\c≠35/\Bk c=false/\Ah c=false:=by decide
    refine⟨by omega,?_,hf' _ (List.contains_iff_mem.1 h3)⟩
    unfold Br
    rw[if_neg (by
     rw[e0,e1]
     rintro⟨_,ha,hb⟩
     have hx:t.2.1=[61]:=by
      cases hx:t.2.1 with
      | nil=>rw[hx]at h2;cases h2
      | cons c l=>
       rw[hx]at h2 ha
       cases l with
       | nil=>have:c=61:=ha;rw[this]
       | cons d l=>simp at h2
     exact hf.2 hx hb),e0,if_pos h3,h2]
  obtain⟨k0,k1,k2,k3,k4,k5⟩:=key
  have e0:wd (pre++(t.2.1++rest)) pre.length=wd t.2.1 0:=E3 (j:=0) k0
  rw[Iq (by rw[e0];exact k2) (by rw[e0];exact k3) (by rw[e0];exact k4) (by rw[e0];exact k5) (by rw[k1];omega),k1,Eb,h1]
  exact⟨rfl,k0⟩
def Ct:List (List Int)->Bool
 | []=>true
 | [x]=>x != [61]
 | x::y::r=>(x != [61]||wd y 0 != 61)&&Ct (y::r)
theorem M6:∀ {a b:List (List Int)},Ct a=true->Ct b=true->Ct (a++b)=true
 | [],b,_,hb=>hb
 | [x],b,ha,hb=>by
  cases b with
  | nil=>exact ha
  | cons y r=>
   show((x != [61]||wd y 0 != 61)&&Ct (y::r))=true
   have ha':(x != [61])=true:=ha
   rw[ha',hb];rfl
 | x::y::r,b,ha,hb=>by
  have ha':((x != [61]||wd y 0 != 61)&&Ct (y::r))=true:=ha
  rw[Bool.and_eq_true]at ha'
  have:=M6 ha'.2 hb
  show((x != [61]||wd y 0 != 61)&&Ct (y::r++b))=true
  rw[ha'.1,this];rfl
theorem QZ{t:Tok}{l:List Tok}(h0:wd t.2.1 0≠61)(h:Ct (BL (t::l))=true):Ct (Ca::BL (t::l))=true:=by
 show((Ca != [61]||wd t.2.1 0 != 61)&&Ct (BL (t::l)))=true
 rw[h,bne_iff_ne.2 h0];rfl
theorem Nu{ap:Bool}{y:List Int}{r:List (List Int)}(h:0<y.length):wd (CI ap (y::r)) 0=if ap&&AN y then 32 else wd y 0:=by
 show wd ((if ap&&AN y then[32]else[])++(y++CI (AN y) r)) 0=_
 split
 ·rfl
 ·rw[List.nil_append,QV h]
theorem Qa{t:Tok}(h:E2 t):0<t.2.1.length:=(NC (pre:=[]) (rest:=[]) h ⟨fun _=>by decide,fun _=>by decide⟩).2
theorem T2{t:Tok}(h:E2 t)(hw:AN t.2.1=false):Ba (wd t.2.1 0)=false:=by
 have h0:=Qa h
 cases hx:t.2.1 with
 | nil=>rw[hx]at h0;cases h0
 | cons c l=>
  rw[hx]at hw
  unfold AN at hw
  simp only[List.all_cons,Bool.not_eq_false',Bool.and_eq_true]at hw
  have hm:c∈CB:=by simpa using hw.1
  have hf:∀c∈CB,Ba c=false:=by decide
  exact hf c hm
theorem MZ{x:List Int}{l:List Tok}(hl:∀t∈l,E2 t)(ha:Ct (x::BL l)=true):Om x (CI (AN x) (BL l)):=by
 cases l with
 | nil=>exact⟨fun _=>by show Ba 0=false;decide,fun _=>by show(0:Int)≠61;decide⟩
 | cons t r=>
  have h0:=Qa (hl t (Z7 ..))
  have e:wd (CI (AN x) (BL (t::r))) 0=if AN x&&AN t.2.1 then 32 else wd t.2.1 0:=Nu h0
  refine⟨fun hw=>?_,fun hx=>?_⟩
  ·rw[e,hw,Bool.true_and]
   cases hwt:AN t.2.1 with
   | true=>rw[if_pos rfl];decide
   | false=>rw[if_neg (by decide)];exact T2 (hl t (Z7 ..)) hwt
  ·subst hx
   have ha':((([61]:List Int) != [61]||wd t.2.1 0 != 61)&&Ct (BL (t::r)))=true:=ha
   rw[Bool.and_eq_true]at ha'
   have hn:wd t.2.1 0≠61:=by simpa using ha'.1
   rw[e,show AN [61]=false by decide,Bool.false_and,if_neg (by decide)]
   exact hn
theorem PU{x:List Int}{l:List (List Int)}(h:Ct (x::l)=true):Ct l=true:=by
 cases l with
 | nil=>rfl
 | cons y r=>
  have h':((x != [61]||wd y 0 != 61)&&Ct (y::r))=true:=h
  rw[Bool.and_eq_true]at h'
  exact h'.2
theorem Jv:∀(l:List Tok),(∀t∈l,E2 t)->Ct (BL l)=true->∀(ap:Bool) (pre:List Int),∃l',B2 (pre++CI ap (BL l)) pre.length=.ok l'/\l'.map (fun t=>(t.1,t.2.1))=l.map (fun t=>(t.1,t.2.1))
 | [],_,_,ap,pre=>⟨[],by show B2 (pre++[]) pre.length=.ok [];rw[List.append_nil];exact I6 (Z0 _),rfl⟩
 | t::l,h,ha,ap,pre=>by
  have hf:=MZ (fun u hu=>h u (Z8 _ hu)) (x:=t.2.1) ha
  have key:∀pre,∃l',B2 (pre++(t.2.1++CI (AN t.2.1) (BL l))) pre.length=.ok l'/\l'.map (fun t=>(t.1,t.2.1))=(t::l).map (fun t=>(t.1,t.2.1)):=fun pre=>by
   obtain⟨hc,h0⟩:=NC (pre:=pre) (h t (Z7 ..)) hf
   have hlen:pre.length<(pre++(t.2.1++CI (AN t.2.1) (BL l))).length:=by simp only[Z1];omega
   rw[Dc hlen,hc]
   obtain⟨l',e1,e2⟩:=Jv l (fun u hu=>h u (Z8 _ hu)) (PU ha) (AN t.2.1) (pre++t.2.1)
   rw[Z1,List.append_assoc]at e1
   simp only
   rw[e1]
   exact⟨_,rfl,by rw[List.map_cons,List.map_cons,e2]⟩
  show ∃l',B2 (pre++((if ap&&AN t.2.1 then[32]else[])++(t.2.1++CI (AN t.2.1) (BL l)))) pre.length=.ok l'/\_
  split
  ·obtain⟨l',e1,e2⟩:=key (pre++[32])
   refine⟨l',?_,e2⟩
   rw[Z1,List.append_assoc]at e1
   have e0:wd (pre++([32]++(t.2.1++CI (AN t.2.1) (BL l)))) pre.length=32:=E3 (x:=[32]) (j:=0) (by decide)
   rw[Dc (by simp only[Z1,List.length_singleton];omega),GO (by rw[e0];decide)]
   exact e1
  ·exact key pre
theorem PV{l:List Tok}(h:∀t∈l,E2 t)(ha:Ct (BL l)=true)(hl:Aw false (BL l) false<=4000):∃l',C9 (CI false (BL l))=.ok l'/\l'.map (fun t=>(t.1,t.2.1))=l.map (fun t=>(t.1,t.2.1)):=by
 obtain⟨l',e1,e2⟩:=Jv l h ha false []
 refine⟨l',?_,e2⟩
 unfold C9
 rw[if_neg (by rw[Gn];omega)]
 exact e1
theorem T3{T:List Int}{i:Nat}(h:T.length<=i):wd T i=0:=by
 unfold wd
 rw[Z2,List.getElem?_eq_none h]
 rfl
theorem Kw{p:Int->Bool}{T:List Int}{i:Nat}(h0:p 0=false):p (wd T (AO p T i))=false:=by
 by_cases h:AO p T i<T.length
 ·exact IJ _ i (Z0 _) h
 ·rw[T3 (by omega)];exact h0
theorem PW{T:List Int}{i:Nat}(hi:i<T.length)(h:Br T i≠0):AN (Am T i (i+Br T i))=false/\i+Br T i<=T.length:=by
 unfold Br at h⊢
 by_cases h2:i+1<T.length/\wd T i=61/\wd T (i+1)=61
 ·rw[if_pos h2]
  refine⟨?_,by omega⟩
  have hl:(Am T i (i+2)).length=2:=by rw[Bz (by omega)];omega
  have p0:wd (Am T i (i+2)) 0=61:=by rw[DO (by omega)];exact h2.2.1
  have p1:wd (Am T i (i+2)) 1=61:=by rw[DO (by omega)];exact h2.2.2
  have e:Am T i (i+2)=[61,61]:=by
   match hp:Am T i (i+2),hl,p0,p1 with
   | [a,b],_,p0,p1=>have ha:a=61:=p0;have hb:b=61:=p1;rw[ha,hb]
  rw[e];decide
 ·rw[if_neg h2]at h⊢
  by_cases h3:CB.contains (wd T i)=true
  ·rw[if_pos h3]
   refine⟨?_,by omega⟩
   have hl:(Am T i (i+1)).length=1:=by rw[Bz (by omega)];omega
   have p0:wd (Am T i (i+1)) 0=wd T i:=by rw[DO (by omega)];rfl
   have e:Am T i (i+1)=[wd T i]:=by
    match hp:Am T i (i+1),hl,p0 with
    | [a],_,p0=>have ha:a=wd T i:=p0;rw[ha]
   rw[e]
   unfold AN
   simp only[List.all_cons,List.all_nil,Bool.and_true,h3,Bool.not_true]
  ·rw[if_neg h3]at h
   exact absurd rfl h
theorem IK{T:List Int}:∀(m i:Nat) (l:List Tok) (a:Bool),i<=T.length->Bm T m i=.ok l->(a=true->Ba (wd T i)=false)->Aw a (BL l) false<=T.length-i
 | 0,i,l,a,hi,h,ha=>by
  unfold Bm at h
  cases h
  cases a<;>exact Z3 _
 | m+1,i,l,a,hi,h,ha=>by
  unfold Bm at h
  split at h
  ·rename_i hlt
   have hfit:=EV hlt
   cases hc:Av T i with
   | skip k=>
    rw[hc]at h hfit
    have hk:i<k/\k<=T.length:=hfit
    have h1:=IK m k l false hk.2 h (fun e=>by cases e)
    have h2:=Lx (BL l) a false
    omega
   | tok t k=>
    rw[hc]at h
    simp only at h
    cases hs:Bm T m k with
    | error e=>rw[hs]at h;cases h
    | ok l'=>
     rw[hs]at h
     cases h
     have key:t.2.1.length=k-i/\i<k/\k<=T.length/\(AN t.2.1=true->Ba (wd T i)=true/\Ba (wd T k)=false):=by
      unfold Av at hc
      split at hc
      ·cases hc
      ·split at hc
       ·cases hc
       ·split at hc
        ·rename_i hl
         cases hc
         have hal:Ba (wd T i)=true:=by unfold Ba;rw[hl];rfl
         obtain⟨s1,s2⟩:=Db (p:=Ba) hlt hal
         exact⟨Bz s2,s1,s2,fun _=>⟨hal,Kw (by decide)⟩⟩
        ·split at hc
         ·rename_i hd
          split at hc
          ·cases hc
          ·rename_i hb
           cases hc
           obtain⟨s1,s2⟩:=Db (p:=Ah) hlt hd
           refine⟨Bz s2,s1,s2,fun _=>⟨by unfold Ba;rw[hd,Bool.or_true],?_⟩⟩
           unfold Ba
           rw[Kw (p:=Ah) (by decide),Bool.or_false]
           unfold EK at hb
           simp only[Bool.or_eq_true,not_or,Bool.and_eq_true,not_and,Bool.not_eq_true,decide_eq_true_eq]at hb
           by_cases hk:AO Ah T i<T.length
           ·exact hb.2 hk
           ·have e:wd T (AO Ah T i)=0:=by unfold wd;rw[Z2,List.getElem?_eq_none (by omega)];rfl
            rw[e];decide
         ·split at hc
          ·cases hc
          ·rename_i hz
           cases hc
           obtain⟨q1,q2⟩:=PW hlt hz
           exact⟨Bz q2,by omega,q2,fun e=>by rw[q1]at e;cases e⟩
     obtain⟨k1,k2,k3,k4⟩:=key
     have h1:=IK m k l' (AN t.2.1) k3 hs (fun e=>(k4 e).2)
     show(if a&&AN t.2.1 then 1 else 0)+(t.2.1.length+Aw (AN t.2.1) (BL l') false)<=T.length-i
     have h2:(a&&AN t.2.1)=false:=by
      cases a with
      | false=>rfl
      | true=>
       cases hw:AN t.2.1 with
       | false=>rfl
       | true=>rw[(k4 hw).1]at ha;exact absurd (ha rfl) (by decide)
     rw[h2,if_neg (by decide)]
     omega
   | bad c a=>rw[hc]at h;cases h
  ·cases h
   cases a<;>exact Z3 _
theorem Qb{T:List Int}{l:List Tok}(h:C9 T=.ok l):Aw false (BL l) false<=T.length/\T.length<=4000:=by
 unfold C9 at h
 split at h
 ·cases h
 ·exact⟨IK _ 0 l false (Z3 _) h (fun e=>by cases e),by omega⟩
def Apt(o:Option (List Tok)):Prop:=∀l,o=some l->Ct (BL l)=true
theorem Bh:Apt none:=fun l h=>by cases h
theorem On:Apt (some []):=fun l h=>by cases h;rfl
theorem Ak{x:List Int}(h:(x != [61])=true):Apt (some (A5 x)):=fun l hl=>by
 cases hl
 exact h
theorem AU{a b:Option (List Tok)}(ha:Apt a)(hb:Apt b):Apt (AE a b):=fun l hl=>by
 obtain⟨x,y,hx,hy,rfl⟩:=Fw hl
 rw[I1]
 exact M6 (ha x hx) (hb y hy)
theorem M7{m:Int}(h0:0<=m)(h1:m<=1073741823):Ah (wd (Bg m) 0)=true:=by
 obtain⟨a,b,_⟩:=FC h0 h1
 match e:Bg m,b with
 | x::r,_=>
  rw[e,List.all_cons,Bool.and_eq_true]at a
  exact a.1
theorem Dv(x:List Int):Apt (Ax x):=by
 unfold Ax
 split
 ·rename_i h
  intro l hl
  cases hl
  show(x != [61])=true
  rw[bne_iff_ne]
  intro e
  subst e
  exact absurd h (by decide)
 ·exact Bh
theorem T4(m:Int):Apt (GM m):=by
 unfold GM
 split
 ·rename_i h
  intro l hl
  cases hl
  show(Bg m != [61])=true
  rw[bne_iff_ne]
  intro e
  have:=M7 h.1 h.2
  rw[e]at this
  exact absurd this (by decide)
 ·exact Bh
theorem IL:∀(as:List (Option (List Tok))),(∀a∈as,Apt a)->Apt (CO as)
 | [],_=>On
 | [a],h=>h a (Z7 ..)
 | a::b::as,h=>AU (h a (Z7 ..)) (AU (Ak (by decide)) (IL (b::as) fun c hc=>h c (Z8 _ hc)))
theorem IM:∀(as:List (Option (List Tok))),(∀a∈as,Apt a)->Apt (Bv as)
 | [],_=>On
 | a::as,h=>AU (h a (Z7 ..)) (IM as fun c hc=>h c (Z8 _ hc))
theorem I2{α:Type}{g:α->Option (List Tok)}(h:∀a,Apt (g a))(as:List α):∀a∈as.map g,Apt a:=fun a ha=>by
 obtain⟨b,_,rfl⟩:=List.mem_map.1 ha
 exact h b
theorem F5{g:Nat->Nd->Option (List Tok)}(h:∀k n,Apt (g k n))(ks:List Nd){x:List Int}(hx:(x != [61])=true)(l r:Nat):Apt (AH.betweenW g ks x l r):=by
 unfold AH.betweenW
 split
 ·exact AU (h _ _) (AU (Ak hx) (h _ _))
 ·exact Bh
theorem BP{c:Prop}[Decidable c]{a b:Option (List Tok)}(ha:Apt a)(hb:Apt b):Apt (if c then a else b):=by
 by_cases h:c
 ·rw[if_pos h];exact ha
 ·rw[if_neg h];exact hb
theorem FG:∀(f k:Nat) (n:Nd),Apt (AH f k n)
 | 0,k,n=>by unfold AH;exact Bh
 | f+1,k,.mk kind x num ks=>by
  have I:=FG f
  unfold AH
  refine BP (AU (Ak (by decide)) (AU (I _ _) (Ak (by decide)))) (BP (F5 I ks (by decide) _ _) (BP (F5 I ks (by decide) _ _) (BP (F5 I ks (by decide) _ _) (BP (F5 I ks (by decide) _ _) (BP (F5 I ks (by decide) _ _) (BP ?_ (BP ?_ (BP ?_ (BP (T4 _) (BP (Ak (by decide)) (BP (Ak (by decide)) (BP (Ak (by decide)) (BP (AU (Ak (by decide)) (Dv _)) (BP (Dv _) Bh))))))))))))))
  ·cases ks with
   | nil=>exact Bh
   | cons a as=>exact AU (Ak (by decide)) (I _ _)
  ·cases ks with
   | nil=>exact Bh
   | cons a as=>exact AU (Ak (by decide)) (I _ _)
  ·cases ks with
   | nil=>exact Bh
   | cons a as=>exact AU (I _ _) (AU (Ak (by decide)) (AU (Dv _) (AU (Ak (by decide)) (AU (IL _ (I2 (I 0) _)) (Ak (by decide))))))
def Fst(o:Option (List Tok)):Prop:=∀l,o=some l->∃t r,l=t::r/\wd t.2.1 0≠61
theorem Ec:Fst none:=fun l h=>by cases h
theorem Fx{x:List Int}(h:(wd x 0 != 61)=true):Fst (some (A5 x)):=fun l hl=>by
 cases hl
 exact⟨_,[],rfl,bne_iff_ne.1 h⟩
theorem Gd{a b:Option (List Tok)}(ha:Fst a):Fst (AE a b):=fun l hl=>by
 obtain⟨x,y,hx,hy,rfl⟩:=Fw hl
 obtain⟨t,r,rfl,h⟩:=ha x hx
 exact⟨t,r++y,rfl,h⟩
theorem Cx{c:Prop}[Decidable c]{a b:Option (List Tok)}(ha:Fst a)(hb:Fst b):Fst (if c then a else b):=by
 by_cases h:c
 ·rw[if_pos h];exact ha
 ·rw[if_neg h];exact hb
theorem M8{t:Tok}(h:(t.1=1/\BV t.2.1=true)\/(t.1=2/\∃m:Int,0<=m/\m<=1073741823/\t.2.1=Bg m)):wd t.2.1 0≠61:=by
 rcases h with⟨_,h⟩ | ⟨_,m,h0,h1,h⟩
 ·intro e
  unfold BV at h
  rw[e]at h
  have hl:Bk 61=false:=by decide
  rw[hl]at h
  simp at h
 ·rw[h]
  intro e
  have:=M7 h0 h1
  rw[e]at this
  exact absurd this (by decide)
theorem Rx(x:List Int):Fst (Ax x):=by
 unfold Ax
 split
 ·rename_i h
  intro l hl
  cases hl
  exact⟨_,[],rfl,M8 (t:=(1,x,0)) (Or.inl ⟨rfl,h⟩)⟩
 ·exact Ec
theorem T5(m:Int):Fst (GM m):=by
 unfold GM
 split
 ·rename_i h
  intro l hl
  cases hl
  exact⟨_,[],rfl,M8 (t:=(2,Bg m,0)) (Or.inr ⟨rfl,m,h.1,h.2,rfl⟩)⟩
 ·exact Ec
theorem F6{g:Nat->Nd->Option (List Tok)}(h:∀k n,Fst (g k n))(ks:List Nd)(x:List Int)(l r:Nat):Fst (AH.betweenW g ks x l r):=by
 unfold AH.betweenW
 split
 ·exact Gd (h _ _)
 ·exact Ec
theorem ND:∀(f k:Nat) (n:Nd),Fst (AH f k n)
 | 0,k,n=>by unfold AH;exact Ec
 | f+1,k,.mk kind x num ks=>by
  have I:=ND f
  unfold AH
  refine Cx (Gd (Fx (by decide))) (Cx (F6 I ks _ _ _) (Cx (F6 I ks _ _ _) (Cx (F6 I ks _ _ _) (Cx (F6 I ks _ _ _) (Cx (F6 I ks _ _ _) (Cx ?_ (Cx ?_ (Cx ?_ (Cx (T5 _) (Cx (Fx (by decide)) (Cx (Fx (by decide)) (Cx (Fx (by decide)) (Cx (Gd (Fx (by decide))) (Cx (Rx _) Ec))))))))))))))
  ·cases ks with
   | nil=>exact Ec
   | cons a as=>exact Gd (Fx (by decide))
  ·cases ks with
   | nil=>exact Ec
   | cons a as=>exact Gd (Fx (by decide))
  ·cases ks with
   | nil=>exact Ec
   | cons a as=>exact Gd (I _ _)
theorem Oo(f:Nat)(a:Nd):Apt (AE (some (A5 Ca)) (AH f 0 a)):=fun l hl=>by
 obtain⟨x,y,hx,hy,rfl⟩:=Fw hl
 cases hx
 obtain⟨t,r,rfl,h⟩:=ND f 0 a y hy
 exact QZ h (FG f 0 a _ hy)
theorem Fy(f:Nat)(ks:List Nd):Apt (CZ f ks):=by
 unfold CZ
 split
 ·exact AU (Ak (by decide)) (AU (FG _ _ _) (Ak (by decide)))
 ·exact Bh
theorem EE{a:Option (List Tok)}(h:Apt a):Apt (C1 a):=AU h (Ak (by decide))
theorem J9:∀(f:Nat),(∀n,Apt (BR f n))/\(∀n,Apt (Aa f n))
 | 0=>⟨fun n=>by unfold BR;exact Bh,fun n=>by unfold Aa;exact Bh⟩
 | f+1=>by
  obtain⟨I,J⟩:=J9 f
  refine⟨fun n=>?_,fun n=>?_⟩
  ·obtain⟨k,x,m,ks⟩:=n
   rw[BR]
   split
   ·exact AU (Ak (by decide)) (AU (IM _ (I2 J _)) (Ak (by decide)))
   ·exact Bh
  ·obtain⟨k,x,m,ks⟩:=n
   cases ks with
   | nil=>rw[Aa];exact Bh
   | cons a as=>
    rw[Aa.eq_def]
    show Apt (if k=7 then _ else _)
    refine BP (EE (AU (Ak (by decide)) (AU (Dv _) (Oo _ _)))) (BP (EE (AU (Dv _) (Oo _ _))) (BP ?_ (BP ?_ (BP (EE (AU (Ak (by decide)) (FG _ _ _))) (BP (EE (AU (Ak (by decide)) (Fy _ _))) (BP (AU (Ak (by decide)) (I _)) (BP (EE (AU (Ak (by decide)) (Fy _ _))) (BP (EE (AU (Ak (by decide)) (Fy _ _))) (BP ?_ (BP (EE (FG _ _ _)) Bh))))))))))
    ·cases as with
     | nil=>exact Bh
     | cons b bs=>
      cases bs with
      | nil=>exact AU (Ak (by decide)) (AU (Fy _ _) (I _))
      | cons c cs=>exact AU (Ak (by decide)) (AU (Fy _ _) (AU (I _) (AU (Ak (by decide)) (I _))))
    ·cases as with
     | nil=>exact Bh
     | cons b bs=>exact AU (Ak (by decide)) (AU (Fy _ _) (I _))
    ·cases as with
     | nil=>exact Bh
     | cons b bs=>exact EE (AU (Ak (by decide)) (AU (Ak (by decide)) (AU (FG _ _ _) (AU (Ak (by decide)) (AU (FG _ _ _) (Ak (by decide)))))))
theorem PX(f:Nat)(n:Nd):Apt (Bi f n):=by
 unfold Bi
 split
 ·exact EE (AU (Ak (by decide)) (Dv _))
 split
 ·split
  ·exact AU (Ak (by decide)) (AU (Dv _) (AU (Ak (by decide)) (AU (IL _ (I2 (fun a:Nd=>Dv a.text) _)) (AU (Ak (by decide)) ((J9 f).1 _)))))
  ·exact Bh
 ·exact Bh
theorem KR(f:Nat)(ks:List Nd):Apt (B4.bodyW f ks):=AU (Ak (by decide)) (AU (IM _ (I2 (PX f) _)) (Ak (by decide)))
theorem Qc(f:Nat)(n:Nd):Apt (B4 f n):=by
 unfold B4
 refine AU (Ak (by decide)) (AU (Dv _) ?_)
 split
 ·split
  ·exact AU (Ak (by decide)) (AU (Dv _) (KR _ _))
  ·exact KR _ _
 ·exact KR _ _
theorem Ry(f:Nat)(n:Nd):Apt (Dz f n):=by
 unfold Dz
 split
 ·split
  ·exact AU (IM _ (I2 (Qc f) _)) (AU (Ak (by decide)) ((J9 f).1 _))
  ·exact Bh
 ·exact Bh
theorem Nv{T:List Int}{n:Nd}(h:CD T=.ok n):∃l,Dz (2*A1 n+2) n=some l/\GA n=.ok (C2 l)/\(∀t∈l,E2 t)/\Aw false (BL l) false<=4000/\CD (CI false (BL l))=.ok n:=by
 unfold CD at h
 split at h
 ·cases h
 ·rename_i l0 hl
  obtain⟨l,h1,h2,h3⟩:=Jp (FP hl) h
  have ok:=Oj _ n l h2
  have hb:=Ns (IG hl) h h2
  obtain⟨c1,c2⟩:=Qb hl
  have hc:Aw false (BL l) false<=4000:=Za hb (Za c1 c2)
  obtain⟨l',e1,e2⟩:=PV ok (Ry _ n l h2) hc
  refine⟨l,h2,h1,ok,hc,?_⟩
  unfold CD
  rw[e1]
  obtain⟨k1,k2⟩:=N8 (fin:=(CI false (BL l)).length) e2
  exact h3 ⟨l',_⟩ k1 k2
end Go.Proofs.YtbglpanjpadldaaGreatDoor
