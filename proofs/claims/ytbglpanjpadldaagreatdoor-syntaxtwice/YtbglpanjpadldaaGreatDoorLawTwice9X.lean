/- SyntaxTwice holds for every text that can come in, with no condition: what is printed of what is parsed is parsed as the same, and printed as it was. What the listed variables hold at the start is tied to the program's text. -/
import Derived.Test.YtbglpanjpadldaaGreatDoorOf
import Derived.Test.YtbglpanjpadldaaGreatDoorTie
import Derived.Test.YtbglpanjpadldaaGreatDoorCards
import Derived.ProofKit
import Derived.LaidMore
import Derived.OpenShut
import Derived.Stop.Joined
import Derived.Stop.LaidErr
import Derived.SevenTiedAt
import Derived.ChangeMaps5
import Derived.Lib.LaidTab
import Derived.Lay
set_option linter.unusedVariables false
set_option maxHeartbeats 32000000
set_option maxRecDepth 100000
namespace Go.Proofs.YtbglpanjpadldaaGreatDoor.syntaxTwice
open Go.ChangeShapes Go.WideShapes Go.ChangeAt Go.RowKit
abbrev tinyS:ByteArray:=⟨#[109,97,105,110,32,123,32,112,114,105,110,116,40,40,49,43,50,41,42,51,41,59,32,125]⟩
abbrev tinyU:ByteArray:=⟨#[109,97,105,110,32,123,32,112,114,105,110,116,32,40,32,40,32,49,32,43,32,50,32,41,32,42,32,51,32,41,32,59,32,125,10]⟩
def tinyT:List Int:=[109,97,105,110,32,123,32,112,114,105,110,116,40,40,49,43,50,41,42,51,41,59,32,125]
def tinyN:Nd:=.mk 1 [] 0 [.mk 6 [] 0 [.mk 12 [] 0 [.mk 22 [] 0 [.mk 20 [] 0 [.mk 26 [] 1 [],.mk 26 [] 2 []],.mk 26 [] 3 []]]]]
def tinyV:List Int:=[109,97,105,110,32,123,32,112,114,105,110,116,32,40,32,40,32,49,32,43,32,50,32,41,32,42,32,51,32,41,32,59,32,125,10]
theorem tiny_nums:A7 tinyS=tinyT:=by decide
theorem tiny_parse:CD tinyT=.ok tinyN:=by kernel_rfl
theorem tiny_print:GA tinyN=.ok tinyV:=by kernel_rfl
theorem tiny_str:strOfNums tinyV=tinyU:=by decide
structure Kp(F G:Nat)(w w':World):Prop where
 os:w'.os=w.os
 tape:w'.tape=w.tape
 output:w'.output=w.output
 size:w.heap.size<=w'.heap.size
 block:∀k,k<w.heap.size->k≠F->k≠G->w'.heap[k]?=w.heap[k]?
theorem Kp.of_below{F G:Nat}{w w':World}(h:Below w.heap.size w w'):Kp F G w w':=⟨h.os,h.tape,h.output,h.size,fun k hk _ _=>h.block k hk⟩
theorem Kp.trans{F G:Nat}{w w1 w2:World}(h:Kp F G w w1)(h1:Kp F G w1 w2):Kp F G w w2:=⟨h1.os.trans h.os,h1.tape.trans h.tape,h1.output.trans h.output,Za h.size h1.size,fun k a b c=>(h1.block k (Z5 a h.size) b c).trans (h.block k a b c)⟩
theorem Kp.setF{F G:Nat}(w:World)(x y:Value):Kp F G w ((w.setCell ⟨F,0,none⟩ x).setCell ⟨F,1,none⟩ y):=⟨rfl,rfl,rfl,by simp,fun k _ b _=>(Zm _ _ _ _ b).trans (Zm _ _ _ _ b)⟩
theorem Kp.setG{F G:Nat}(w:World)(x y:Value):Kp F G w ((w.setCell ⟨G,0,none⟩ x).setCell ⟨G,1,none⟩ y):=⟨rfl,rfl,rfl,by simp,fun k _ _ c=>(Zm _ _ _ _ c).trans (Zm _ _ _ _ c)⟩
theorem Kp.alloc{F G:Nat}(w:World)(o:Obj):Kp F G w (w.alloc o):=Kp.of_below ((Zg _ _).alloc (Z0 _) _)
theorem Kp.node{F G B:Nat}{w w':World}{u:Value}{n:Nd}(h:Kp F G w w')(hv:NodeV w (Be B) u n)(hF:F<B)(hG:G<B):NodeV w' (Be B) u n:=hv.above ⟨h.size,fun k h1 h2=>h.block k h2 (by have:B<=k:=h1;omega) (by have:B<=k:=h1;omega)⟩
theorem Kp.bel{F G n:Nat}{w w':World}(h:Kp F G w w')(hF:n<=F)(hG:n<=G)(hn:n<=w.heap.size):Below n w w':=⟨h.os,h.tape,h.output,h.size,fun k hk=>h.block k (by omega) (by omega) (by omega)⟩
theorem Kp.cells{F G X:Nat}{w w':World}{a b c d:Value}(h:Kp F G w w')(hx:w.heap[X]?=some (.cells #[a,b,c,d] 24))(hF:X≠F)(hG:X≠G):w'.heap[X]?=some (.cells #[a,b,c,d] 24)/\(w'.cell? ⟨X,0,none⟩=some a/\w'.cell? ⟨X,1,none⟩=some b/\w'.cell? ⟨X,2,none⟩=some c/\w'.cell? ⟨X,3,none⟩=some d)/\X<w'.heap.size:=by
 have hk:=(h.block X (Array.getElem?_eq_some_iff.1 hx).1 hF hG).trans hx
 exact⟨hk,⟨cell_of_row _ _ _ _ _ _ hk,cell_of_row _ _ _ _ _ _ hk,cell_of_row _ _ _ _ _ _ hk,cell_of_row _ _ _ _ _ _ hk⟩,(Array.getElem?_eq_some_iff.1 hk).1⟩
theorem box2_new(w:World)(x y:Value):Box2 (w.alloc (.cells #[x,y] 27)) w.heap.size x y:=heap_alloc_new _ _
theorem pow_below{w w':World}{n:Nat}(h:PowW w w.heap.size)(hb:Below n w w')(hn:5<n):PowW w' w'.heap.size:=⟨Z5 h.1 hb.size,(h.same (hb.block _ hn)).2⟩
def PrintsTo(n:Nd)(t:ByteArray):Prop:=∀(M:Nat->Prop) (u:Value) (w:World),Errs w->PowW w w.heap.size->NodeV w M u n->Calls Tryz.prog 5 #[u] w fun e w'=>e=.returned (.tuple #[.string t,.agg #[.int .i64 0,.int .i64 0]])/\Below w.heap.size w w'
theorem tiny_parses:DW tinyS tinyN:=Hl (by rw[tiny_nums];exact tiny_parse) (by decide)
theorem tiny_prints:PrintsTo tinyN tinyU:=by
 obtain⟨l,h1,_,_,h2⟩:=MX tiny_parse
 rw[tiny_print]at h1
 injection h1 with h1
 intro M u w he hp hu
 have:=h2 M u w he hp hu
 rw[<-h1,tiny_str]at this
 exact this
theorem walk_bad(t:ByteArray)(w:World)(he:Errs w)(hp:PowW w w.heap.size)(c a:Int)(hc:¬c=0)(h2:∀w',Errs w'->Calls Tryz.prog 4 #[.string t] w' fun e w2=>Below w'.heap.size w' w2/\e=.returned (.tuple #[.agg #[.int .i64 0,.string ⟨#[]⟩,.int .i64 0,.slice none 0 0],.agg #[.int .i64 c,.int .i64 a]])) :
  Calls Tryz.prog 3 #[.string t] w fun e w'=>e=.returned (.bool true)/\Below w.heap.size w w':=by
 have HE:Hid (Errs w):=he
 have HP:Hid (PowW w w.heap.size):=hp
 clear he hp
 go_enter Tryz.func3,Tryz.ntmps3
 go_wp2_with (first
  | (go_at_call 4;refine(h2 _ (HE.out.lasts hBG)).mono ?_;rintro e w3 ⟨hb3,rfl⟩;have s3:=hb3.size;have hF3:Box2 w3 (w1.heap.size+1) (.int .i64 0) (.int .i64 0):=(hF2.below hbG lF2).below hb3 (by simp;omega);have hG3:Box2 w3 w2.heap.size (.int .i64 0) (.int .i64 0):=(box2_new w2 _ _).below hb3 (by simp);obtain⟨lF3,⟨fa3,fb3⟩,fz3,fy3⟩:=hF3.facts;obtain⟨lG3,⟨ga3,gb3⟩,gz3,gy3⟩:=hG3.facts;have hB3:Below w.heap.size w w3:=hBG.trans (hb3.mono (by omega)))
  | (go_at_call 5;refine(tiny_prints _ _ _ (HE.out.lasts hBS) (HP.out.lasts hBS) (hv1.above (Zk hbS))).mono ?_;rintro e w2 ⟨rfl,hb2⟩;have s2:=hb2.size;have s2':w1.heap.size+2<=w2.heap.size:=(by simp at s2;omega);have hF2:Box2 w2 (w1.heap.size+1) (.int .i64 0) (.int .i64 0):=Box2.below (GL w1 (.cells #[.int .i64 a1,.string b1,.int .i64 c1,.slice ad1 n1 cc1] 24) (.int .i64 0) (.int .i64 0)) hb2 (by simp);obtain⟨lF2,⟨fa2,fb2⟩,_⟩:=hF2.facts;have hB2:Below w.heap.size w w2:=hBS.trans (hb2.mono (by simp;omega));have hbG:Below w2.heap.size w2 (w2.alloc (.cells #[.int .i64 0,.int .i64 0] 27)):=(Zg _ _).alloc (Z0 _) _;have hBG:Below w.heap.size w (w2.alloc (.cells #[.int .i64 0,.int .i64 0] 27)):=hB2.trans (hbG.mono (by omega));have sG:(w2.alloc (.cells #[.int .i64 0,.int .i64 0] 27)).heap.size=w2.heap.size+1:=(by simp))
  | (go_at_call 4;refine(tiny_parses _ HE.out).mono ?_;rintro e w1 ⟨hb1,u1,rfl,hv1⟩;obtain⟨a1,b1,c1,ad1,n1,cc1,hu1⟩:=hv1.any;subst hu1;have s1:=hb1.size;have hbS:=EQ w1 (.cells #[.int .i64 a1,.string b1,.int .i64 c1,.slice ad1 n1 cc1] 24) (.cells #[.int .i64 0,.int .i64 0] 27);have hBS:Below w.heap.size w _:=hb1.trans (hbS.mono s1)))
 go_ret
 refine⟨by first | rfl | simp,?_⟩
 exact(((hB3.setCell (p:=⟨w1.heap.size+1,0,none⟩) (by dsimp only;omega) _).setCell (p:=⟨w1.heap.size+1,1,none⟩) (by dsimp only;omega) _)).alloc (by have:=hB3.size;simp;omega) _
theorem walk_long(t tx:ByteArray)(n:Nd)(hsz:A1 n<=600)(w:World)(he:Errs w)(hp:PowW w w.heap.size)(h2:DW t n)(hpr:PrintsTo n tx)(hlong:(4000:Int)<(tx.size:Int)) :
  Calls Tryz.prog 3 #[.string t] w fun e w'=>e=.returned (.bool true)/\Below w.heap.size w w':=by
 have HE:Hid (Errs w):=he
 have HP:Hid (PowW w w.heap.size):=hp
 clear he hp
 go_enter Tryz.func3,Tryz.ntmps3
 go_wp2_with (first
  | (go_at_call 4;refine(h2 _ (HE.out.lasts hBG)).mono ?_;rintro e w3 ⟨hb3,u3,rfl,hv3⟩;obtain⟨a3,b3,c3,ad3,n3,cc3,hu3⟩:=hv3.any;subst hu3;have s3:=hb3.size;have hF3:Box2 w3 (w1.heap.size+1) (.int .i64 0) (.int .i64 0):=(hF2.below hbG lF2).below hb3 (by simp;omega);have hG3:Box2 w3 w2.heap.size (.int .i64 0) (.int .i64 0):=(box2_new w2 _ _).below hb3 (by simp);obtain⟨lF3,⟨fa3,fb3⟩,fz3,fy3⟩:=hF3.facts;obtain⟨lG3,⟨ga3,gb3⟩,gz3,gy3⟩:=hG3.facts;have hB3:Below w.heap.size w w3:=hBG.trans (hb3.mono (by omega));have hKa:Kp (w1.heap.size+1) w2.heap.size w3 (((w3.setCell ⟨w1.heap.size+1,0,none⟩ (.int .i64 0)).setCell ⟨w1.heap.size+1,1,none⟩ (.int .i64 0)).alloc (.cells #[.int .i64 a3,.string b3,.int .i64 c3,.slice ad3 n3 cc3] 24)):=(Kp.setF w3 _ _).trans (Kp.alloc _ _);have hvN:=hKa.node hv3 (by rw[sG];omega) (by rw[sG];omega);have hBN:Below w.heap.size w (((w3.setCell ⟨w1.heap.size+1,0,none⟩ (.int .i64 0)).setCell ⟨w1.heap.size+1,1,none⟩ (.int .i64 0)).alloc (.cells #[.int .i64 a3,.string b3,.int .i64 c3,.slice ad3 n3 cc3] 24)):=hB3.trans (hKa.bel (by omega) (by omega) (by omega));have sN:(((w3.setCell ⟨w1.heap.size+1,0,none⟩ (.int .i64 0)).setCell ⟨w1.heap.size+1,1,none⟩ (.int .i64 0)).alloc (.cells #[.int .i64 a3,.string b3,.int .i64 c3,.slice ad3 n3 cc3] 24)).heap.size=w3.heap.size+1:=(by simp);have hXN:(((w3.setCell ⟨w1.heap.size+1,0,none⟩ (.int .i64 0)).setCell ⟨w1.heap.size+1,1,none⟩ (.int .i64 0)).alloc (.cells #[.int .i64 a3,.string b3,.int .i64 c3,.slice ad3 n3 cc3] 24)).heap[w3.heap.size]?=some (.cells #[.int .i64 a3,.string b3,.int .i64 c3,.slice ad3 n3 cc3] 24):=(by have h:=heap_alloc_new ((w3.setCell ⟨w1.heap.size+1,0,none⟩ (.int .i64 0)).setCell ⟨w1.heap.size+1,1,none⟩ (.int .i64 0)) (.cells #[.int .i64 a3,.string b3,.int .i64 c3,.slice ad3 n3 cc3] 24);rw[show((w3.setCell ⟨w1.heap.size+1,0,none⟩ (.int .i64 0)).setCell ⟨w1.heap.size+1,1,none⟩ (.int .i64 0)).heap.size=w3.heap.size by simp]at h;exact h);have hFa:=hF3.put (.int .i64 0) (.int .i64 0);have hFN:=hFa.below ((Zg _ ((w3.setCell ⟨w1.heap.size+1,0,none⟩ (.int .i64 0)).setCell ⟨w1.heap.size+1,1,none⟩ (.int .i64 0))).alloc (Z0 _) (.cells #[.int .i64 a3,.string b3,.int .i64 c3,.slice ad3 n3 cc3] 24)) hFa.facts.1;have hGa:=(hG3.setAt (N:=w1.heap.size+1) (j:=0) (by omega) (.int .i64 0)).setAt (N:=w1.heap.size+1) (j:=1) (by omega) (.int .i64 0);have hGN:=hGa.below ((Zg _ ((w3.setCell ⟨w1.heap.size+1,0,none⟩ (.int .i64 0)).setCell ⟨w1.heap.size+1,1,none⟩ (.int .i64 0))).alloc (Z0 _) (.cells #[.int .i64 a3,.string b3,.int .i64 c3,.slice ad3 n3 cc3] 24)) hGa.facts.1)
  | (go_at_call 5;refine(hpr _ _ _ (HE.out.lasts hBN) (HP.out.lasts hBN) hvN).mono ?_;rintro e w4 ⟨rfl,hb4⟩;have s4:=hb4.size;have hF4:=hFN.below hb4 hFN.facts.1;have hG4:=hGN.below hb4 hGN.facts.1;obtain⟨lF4,⟨fa4,fb4⟩,fz4,fy4⟩:=hF4.facts;obtain⟨lG4,⟨ga4,gb4⟩,gz4,gy4⟩:=hG4.facts;have hK4:Kp (w1.heap.size+1) w2.heap.size (((w3.setCell ⟨w1.heap.size+1,0,none⟩ (.int .i64 0)).setCell ⟨w1.heap.size+1,1,none⟩ (.int .i64 0)).alloc (.cells #[.int .i64 a3,.string b3,.int .i64 c3,.slice ad3 n3 cc3] 24)) ((w4.setCell ⟨w1.heap.size+1,0,none⟩ (.int .i64 0)).setCell ⟨w1.heap.size+1,1,none⟩ (.int .i64 0)):=(Kp.of_below hb4).trans (Kp.setF w4 _ _);have hBQ:Below w.heap.size w ((w4.setCell ⟨w1.heap.size+1,0,none⟩ (.int .i64 0)).setCell ⟨w1.heap.size+1,1,none⟩ (.int .i64 0)):=hBN.trans (hK4.bel (by omega) (by omega) (by have:=hBN.size;omega));have sQ:((w4.setCell ⟨w1.heap.size+1,0,none⟩ (.int .i64 0)).setCell ⟨w1.heap.size+1,1,none⟩ (.int .i64 0)).heap.size=w4.heap.size:=(by simp))
  | (go_at_call 5;refine(tiny_prints _ _ _ (HE.out.lasts hBS) (HP.out.lasts hBS) (hv1.above (Zk hbS))).mono ?_;rintro e w2 ⟨rfl,hb2⟩;have s2:=hb2.size;have s2':w1.heap.size+2<=w2.heap.size:=(by simp at s2;omega);have hF2:Box2 w2 (w1.heap.size+1) (.int .i64 0) (.int .i64 0):=Box2.below (GL w1 (.cells #[.int .i64 a1,.string b1,.int .i64 c1,.slice ad1 n1 cc1] 24) (.int .i64 0) (.int .i64 0)) hb2 (by simp);obtain⟨lF2,⟨fa2,fb2⟩,_⟩:=hF2.facts;have hB2:Below w.heap.size w w2:=hBS.trans (hb2.mono (by simp;omega));have hbG:Below w2.heap.size w2 (w2.alloc (.cells #[.int .i64 0,.int .i64 0] 27)):=(Zg _ _).alloc (Z0 _) _;have hBG:Below w.heap.size w (w2.alloc (.cells #[.int .i64 0,.int .i64 0] 27)):=hB2.trans (hbG.mono (by omega));have sG:(w2.alloc (.cells #[.int .i64 0,.int .i64 0] 27)).heap.size=w2.heap.size+1:=(by simp))
  | (go_at_call 4;refine(tiny_parses _ HE.out).mono ?_;rintro e w1 ⟨hb1,u1,rfl,hv1⟩;obtain⟨a1,b1,c1,ad1,n1,cc1,hu1⟩:=hv1.any;subst hu1;have s1:=hb1.size;have hbS:=EQ w1 (.cells #[.int .i64 a1,.string b1,.int .i64 c1,.slice ad1 n1 cc1] 24) (.cells #[.int .i64 0,.int .i64 0] 27);have hBS:Below w.heap.size w _:=hb1.trans (hbS.mono s1)))
 go_ret
 exact⟨by first | rfl | simp,hBQ⟩
theorem walk_full(t tx:ByteArray)(n:Nd)(hsz:A1 n<=600)(w:World)(he:Errs w)(hp:PowW w w.heap.size)(h2:DW t n)(hpr:PrintsTo n tx)(hlong:¬(4000:Int)<(tx.size:Int))(h5:DW tx n) :
  Calls Tryz.prog 3 #[.string t] w fun e w'=>e=.returned (.bool true)/\Below w.heap.size w w':=by
 have HE:Hid (Errs w):=he
 have HP:Hid (PowW w w.heap.size):=hp
 clear he hp
 go_enter Tryz.func3,Tryz.ntmps3
 go_wp2_with (first
  | (go_at_call 6;refine(Po 600 (by decide) n hsz _ _ _ _ _ hvm hvn).mono ?_;rintro e w7 ⟨rfl,hb7⟩;have s7:=hb7.size;have hGr:=hG6.put (.int .i64 0) (.int .i64 0);have hG7:=hGr.below hb7 hGr.facts.1;have hFr:=(hF6.setAt (N:=w2.heap.size) (j:=0) (by omega) (.int .i64 0)).setAt (N:=w2.heap.size) (j:=1) (by omega) (.int .i64 0);have hF7:=hFr.below hb7 hFr.facts.1;obtain⟨lF7,⟨fa7,fb7⟩,_⟩:=hF7.facts;obtain⟨lG7,⟨ga7,gb7⟩,_⟩:=hG7.facts)
  | (go_at_call 4;refine(h5 _ (HE.out.lasts hBQ)).mono ?_;rintro e w5 ⟨hb5,u5,rfl,hv5⟩;obtain⟨a5,b5,c5,ad5,n5,cc5,hu5⟩:=hv5.any;subst hu5;have s5:=hb5.size;have hFq:=hF4.put (.int .i64 0) (.int .i64 0);have hF5:=hFq.below hb5 hFq.facts.1;have hGq:=(hG4.setAt (N:=w1.heap.size+1) (j:=0) (by omega) (.int .i64 0)).setAt (N:=w1.heap.size+1) (j:=1) (by omega) (.int .i64 0);have hG5:=hGq.below hb5 hGq.facts.1;obtain⟨lF5,⟨fa5,fb5⟩,fz5,fy5⟩:=hF5.facts;obtain⟨lG5,⟨ga5,gb5⟩,gz5,gy5⟩:=hG5.facts;have hKb:Kp (w1.heap.size+1) w2.heap.size w5 (((w5.setCell ⟨w1.heap.size+1,0,none⟩ (.int .i64 0)).setCell ⟨w1.heap.size+1,1,none⟩ (.int .i64 0)).alloc (.cells #[.int .i64 a5,.string b5,.int .i64 c5,.slice ad5 n5 cc5] 24)):=(Kp.setF w5 _ _).trans (Kp.alloc _ _);have hvM:=hKb.node hv5 (by omega) (by omega);have hK5:Kp (w1.heap.size+1) w2.heap.size ((w4.setCell ⟨w1.heap.size+1,0,none⟩ (.int .i64 0)).setCell ⟨w1.heap.size+1,1,none⟩ (.int .i64 0)) (((w5.setCell ⟨w1.heap.size+1,0,none⟩ (.int .i64 0)).setCell ⟨w1.heap.size+1,1,none⟩ (.int .i64 0)).alloc (.cells #[.int .i64 a5,.string b5,.int .i64 c5,.slice ad5 n5 cc5] 24)):=(Kp.of_below hb5).trans hKb;have hBM:Below w.heap.size w (((w5.setCell ⟨w1.heap.size+1,0,none⟩ (.int .i64 0)).setCell ⟨w1.heap.size+1,1,none⟩ (.int .i64 0)).alloc (.cells #[.int .i64 a5,.string b5,.int .i64 c5,.slice ad5 n5 cc5] 24)):=hBQ.trans (hK5.bel (by omega) (by omega) (by have:=hBQ.size;omega));have sM:(((w5.setCell ⟨w1.heap.size+1,0,none⟩ (.int .i64 0)).setCell ⟨w1.heap.size+1,1,none⟩ (.int .i64 0)).alloc (.cells #[.int .i64 a5,.string b5,.int .i64 c5,.slice ad5 n5 cc5] 24)).heap.size=w5.heap.size+1:=(by simp);have hXM:(((w5.setCell ⟨w1.heap.size+1,0,none⟩ (.int .i64 0)).setCell ⟨w1.heap.size+1,1,none⟩ (.int .i64 0)).alloc (.cells #[.int .i64 a5,.string b5,.int .i64 c5,.slice ad5 n5 cc5] 24)).heap[w5.heap.size]?=some (.cells #[.int .i64 a5,.string b5,.int .i64 c5,.slice ad5 n5 cc5] 24):=(by have h:=heap_alloc_new ((w5.setCell ⟨w1.heap.size+1,0,none⟩ (.int .i64 0)).setCell ⟨w1.heap.size+1,1,none⟩ (.int .i64 0)) (.cells #[.int .i64 a5,.string b5,.int .i64 c5,.slice ad5 n5 cc5] 24);rw[show((w5.setCell ⟨w1.heap.size+1,0,none⟩ (.int .i64 0)).setCell ⟨w1.heap.size+1,1,none⟩ (.int .i64 0)).heap.size=w5.heap.size by simp]at h;exact h);have hFb:=hF5.put (.int .i64 0) (.int .i64 0);have hFM:=hFb.below ((Zg _ ((w5.setCell ⟨w1.heap.size+1,0,none⟩ (.int .i64 0)).setCell ⟨w1.heap.size+1,1,none⟩ (.int .i64 0))).alloc (Z0 _) (.cells #[.int .i64 a5,.string b5,.int .i64 c5,.slice ad5 n5 cc5] 24)) hFb.facts.1;have hGb:=(hG5.setAt (N:=w1.heap.size+1) (j:=0) (by omega) (.int .i64 0)).setAt (N:=w1.heap.size+1) (j:=1) (by omega) (.int .i64 0);have hGM:=hGb.below ((Zg _ ((w5.setCell ⟨w1.heap.size+1,0,none⟩ (.int .i64 0)).setCell ⟨w1.heap.size+1,1,none⟩ (.int .i64 0))).alloc (Z0 _) (.cells #[.int .i64 a5,.string b5,.int .i64 c5,.slice ad5 n5 cc5] 24)) hGb.facts.1)
  | (go_at_call 5;refine(hpr _ _ _ (HE.out.lasts hBM) (HP.out.lasts hBM) hvM).mono ?_;rintro e w6 ⟨rfl,hb6⟩;have s6:=hb6.size;have hF6:=hFM.below hb6 hFM.facts.1;have hG6:=hGM.below hb6 hGM.facts.1;obtain⟨lF6,⟨fa6,fb6⟩,fz6,fy6⟩:=hF6.facts;obtain⟨lG6,⟨ga6,gb6⟩,gz6,gy6⟩:=hG6.facts;have hK6:Kp (w1.heap.size+1) w2.heap.size (((w5.setCell ⟨w1.heap.size+1,0,none⟩ (.int .i64 0)).setCell ⟨w1.heap.size+1,1,none⟩ (.int .i64 0)).alloc (.cells #[.int .i64 a5,.string b5,.int .i64 c5,.slice ad5 n5 cc5] 24)) w6:=Kp.of_below hb6;have hKN:Kp (w1.heap.size+1) w2.heap.size (((w3.setCell ⟨w1.heap.size+1,0,none⟩ (.int .i64 0)).setCell ⟨w1.heap.size+1,1,none⟩ (.int .i64 0)).alloc (.cells #[.int .i64 a3,.string b3,.int .i64 c3,.slice ad3 n3 cc3] 24)) w6:=hK4.trans (hK5.trans hK6);obtain⟨hXM6,⟨m0,m1,m2,m3⟩,lM6⟩:=hK6.cells hXM (by omega) (by omega);obtain⟨hXN6,⟨o0,o1,o2,o3⟩,lN6⟩:=hKN.cells hXN (by omega) (by omega);have e1:¬w2.heap.size=w5.heap.size:=(by omega);have e2:¬w2.heap.size=w3.heap.size:=(by omega);have e3:¬w5.heap.size=w2.heap.size:=(by omega);have e4:¬w3.heap.size=w2.heap.size:=(by omega);have hKR:Kp (w1.heap.size+1) w2.heap.size w6 ((w6.setCell ⟨w2.heap.size,0,none⟩ (.int .i64 0)).setCell ⟨w2.heap.size,1,none⟩ (.int .i64 0)):=Kp.setG w6 _ _;have hvm:=(hK6.trans hKR).node hvM (by omega) (by omega);have hvn:=(hKN.trans hKR).node hvN (by rw[sG];omega) (by rw[sG];omega);have sR:((w6.setCell ⟨w2.heap.size,0,none⟩ (.int .i64 0)).setCell ⟨w2.heap.size,1,none⟩ (.int .i64 0)).heap.size=w6.heap.size:=(by simp))
  | (go_at_call 4;refine(h2 _ (HE.out.lasts hBG)).mono ?_;rintro e w3 ⟨hb3,u3,rfl,hv3⟩;obtain⟨a3,b3,c3,ad3,n3,cc3,hu3⟩:=hv3.any;subst hu3;have s3:=hb3.size;have hF3:Box2 w3 (w1.heap.size+1) (.int .i64 0) (.int .i64 0):=(hF2.below hbG lF2).below hb3 (by simp;omega);have hG3:Box2 w3 w2.heap.size (.int .i64 0) (.int .i64 0):=(box2_new w2 _ _).below hb3 (by simp);obtain⟨lF3,⟨fa3,fb3⟩,fz3,fy3⟩:=hF3.facts;obtain⟨lG3,⟨ga3,gb3⟩,gz3,gy3⟩:=hG3.facts;have hB3:Below w.heap.size w w3:=hBG.trans (hb3.mono (by omega));have hKa:Kp (w1.heap.size+1) w2.heap.size w3 (((w3.setCell ⟨w1.heap.size+1,0,none⟩ (.int .i64 0)).setCell ⟨w1.heap.size+1,1,none⟩ (.int .i64 0)).alloc (.cells #[.int .i64 a3,.string b3,.int .i64 c3,.slice ad3 n3 cc3] 24)):=(Kp.setF w3 _ _).trans (Kp.alloc _ _);have hvN:=hKa.node hv3 (by rw[sG];omega) (by rw[sG];omega);have hBN:Below w.heap.size w (((w3.setCell ⟨w1.heap.size+1,0,none⟩ (.int .i64 0)).setCell ⟨w1.heap.size+1,1,none⟩ (.int .i64 0)).alloc (.cells #[.int .i64 a3,.string b3,.int .i64 c3,.slice ad3 n3 cc3] 24)):=hB3.trans (hKa.bel (by omega) (by omega) (by omega));have sN:(((w3.setCell ⟨w1.heap.size+1,0,none⟩ (.int .i64 0)).setCell ⟨w1.heap.size+1,1,none⟩ (.int .i64 0)).alloc (.cells #[.int .i64 a3,.string b3,.int .i64 c3,.slice ad3 n3 cc3] 24)).heap.size=w3.heap.size+1:=(by simp);have hXN:(((w3.setCell ⟨w1.heap.size+1,0,none⟩ (.int .i64 0)).setCell ⟨w1.heap.size+1,1,none⟩ (.int .i64 0)).alloc (.cells #[.int .i64 a3,.string b3,.int .i64 c3,.slice ad3 n3 cc3] 24)).heap[w3.heap.size]?=some (.cells #[.int .i64 a3,.string b3,.int .i64 c3,.slice ad3 n3 cc3] 24):=(by have h:=heap_alloc_new ((w3.setCell ⟨w1.heap.size+1,0,none⟩ (.int .i64 0)).setCell ⟨w1.heap.size+1,1,none⟩ (.int .i64 0)) (.cells #[.int .i64 a3,.string b3,.int .i64 c3,.slice ad3 n3 cc3] 24);rw[show((w3.setCell ⟨w1.heap.size+1,0,none⟩ (.int .i64 0)).setCell ⟨w1.heap.size+1,1,none⟩ (.int .i64 0)).heap.size=w3.heap.size by simp]at h;exact h);have hFa:=hF3.put (.int .i64 0) (.int .i64 0);have hFN:=hFa.below ((Zg _ ((w3.setCell ⟨w1.heap.size+1,0,none⟩ (.int .i64 0)).setCell ⟨w1.heap.size+1,1,none⟩ (.int .i64 0))).alloc (Z0 _) (.cells #[.int .i64 a3,.string b3,.int .i64 c3,.slice ad3 n3 cc3] 24)) hFa.facts.1;have hGa:=(hG3.setAt (N:=w1.heap.size+1) (j:=0) (by omega) (.int .i64 0)).setAt (N:=w1.heap.size+1) (j:=1) (by omega) (.int .i64 0);have hGN:=hGa.below ((Zg _ ((w3.setCell ⟨w1.heap.size+1,0,none⟩ (.int .i64 0)).setCell ⟨w1.heap.size+1,1,none⟩ (.int .i64 0))).alloc (Z0 _) (.cells #[.int .i64 a3,.string b3,.int .i64 c3,.slice ad3 n3 cc3] 24)) hGa.facts.1)
  | (go_at_call 5;refine(hpr _ _ _ (HE.out.lasts hBN) (HP.out.lasts hBN) hvN).mono ?_;rintro e w4 ⟨rfl,hb4⟩;have s4:=hb4.size;have hF4:=hFN.below hb4 hFN.facts.1;have hG4:=hGN.below hb4 hGN.facts.1;obtain⟨lF4,⟨fa4,fb4⟩,fz4,fy4⟩:=hF4.facts;obtain⟨lG4,⟨ga4,gb4⟩,gz4,gy4⟩:=hG4.facts;have hK4:Kp (w1.heap.size+1) w2.heap.size (((w3.setCell ⟨w1.heap.size+1,0,none⟩ (.int .i64 0)).setCell ⟨w1.heap.size+1,1,none⟩ (.int .i64 0)).alloc (.cells #[.int .i64 a3,.string b3,.int .i64 c3,.slice ad3 n3 cc3] 24)) ((w4.setCell ⟨w1.heap.size+1,0,none⟩ (.int .i64 0)).setCell ⟨w1.heap.size+1,1,none⟩ (.int .i64 0)):=(Kp.of_below hb4).trans (Kp.setF w4 _ _);have hBQ:Below w.heap.size w ((w4.setCell ⟨w1.heap.size+1,0,none⟩ (.int .i64 0)).setCell ⟨w1.heap.size+1,1,none⟩ (.int .i64 0)):=hBN.trans (hK4.bel (by omega) (by omega) (by have:=hBN.size;omega));have sQ:((w4.setCell ⟨w1.heap.size+1,0,none⟩ (.int .i64 0)).setCell ⟨w1.heap.size+1,1,none⟩ (.int .i64 0)).heap.size=w4.heap.size:=(by simp))
  | (go_at_call 5;refine(tiny_prints _ _ _ (HE.out.lasts hBS) (HP.out.lasts hBS) (hv1.above (Zk hbS))).mono ?_;rintro e w2 ⟨rfl,hb2⟩;have s2:=hb2.size;have s2':w1.heap.size+2<=w2.heap.size:=(by simp at s2;omega);have hF2:Box2 w2 (w1.heap.size+1) (.int .i64 0) (.int .i64 0):=Box2.below (GL w1 (.cells #[.int .i64 a1,.string b1,.int .i64 c1,.slice ad1 n1 cc1] 24) (.int .i64 0) (.int .i64 0)) hb2 (by simp);obtain⟨lF2,⟨fa2,fb2⟩,_⟩:=hF2.facts;have hB2:Below w.heap.size w w2:=hBS.trans (hb2.mono (by simp;omega));have hbG:Below w2.heap.size w2 (w2.alloc (.cells #[.int .i64 0,.int .i64 0] 27)):=(Zg _ _).alloc (Z0 _) _;have hBG:Below w.heap.size w (w2.alloc (.cells #[.int .i64 0,.int .i64 0] 27)):=hB2.trans (hbG.mono (by omega));have sG:(w2.alloc (.cells #[.int .i64 0,.int .i64 0] 27)).heap.size=w2.heap.size+1:=(by simp))
  | (go_at_call 4;refine(tiny_parses _ HE.out).mono ?_;rintro e w1 ⟨hb1,u1,rfl,hv1⟩;obtain⟨a1,b1,c1,ad1,n1,cc1,hu1⟩:=hv1.any;subst hu1;have s1:=hb1.size;have hbS:=EQ w1 (.cells #[.int .i64 a1,.string b1,.int .i64 c1,.slice ad1 n1 cc1] 24) (.cells #[.int .i64 0,.int .i64 0] 27);have hBS:Below w.heap.size w _:=hb1.trans (hbS.mono s1)))
 go_ret
 refine⟨by first | rfl | simp,?_⟩
 have hB6:Below w.heap.size w w6:=hBM.trans (hK6.bel (by omega) (by omega) (by have:=hBM.size;omega))
 have hBR:Below w.heap.size w ((w6.setCell ⟨w2.heap.size,0,none⟩ (.int .i64 0)).setCell ⟨w2.heap.size,1,none⟩ (.int .i64 0)):=hB6.trans (hKR.bel (by omega) (by omega) (by have:=hB6.size;omega))
 exact hBR.trans (hb7.mono (by have:=hBR.size;omega))
theorem parse_badT{T:List Int}{f:Int×Int}(h:CD T=.error f):f.1≠0:=by
 unfold CD at h
 cases hq:C9 T with
 | error e=>rw[hq]at h;cases h;exact MU hq
 | ok l=>
  rw[hq]at h
  have h':Cs ⟨l,T.length⟩ (Df ⟨l,T.length⟩)=.error f:=h
  rw[P3 _ (FP hq)]at h'
  cases hp:Ew ⟨l,T.length⟩ ⟨0,0,0⟩with
  | error e=>rw[hp]at h';cases h';exact MV hp
  | ok y=>
   obtain⟨m,s⟩:=y
   rw[hp]at h'
   dsimp only at h'
   split at h'
   ·cases h';decide
   ·cases h'
theorem walk(t:ByteArray)(w:World)(he:Errs w)(hp:PowW w w.heap.size)(hm:t.size<=maxLen) :
  Calls Tryz.prog 3 #[.string t] w fun e w'=>e=.returned (.bool true)/\Below w.heap.size w w':=by
 cases hq:CD (A7 t)with
 | error f=>
  refine walk_bad t w he hp f.1 f.2 (parse_badT hq) (fun w' he'=>(LK t w' he' hm).mono (fun e w2 h=>?_))
  unfold Id at h
  rw[hq]at h
  exact h
 | ok n=>
  have h2:DW t n:=Hl hq hm
  obtain⟨l,h1,hby,hlen,hpr⟩:=MX hq
  have hsz:=(NH hq).2
  have hps:PrintsTo n (strOfNums (C2 l)):=hpr
  have hss:(strOfNums (C2 l)).size=(C2 l).length:=strOfNums_size _
  by_cases hl:4000<(C2 l).length
  ·exact walk_long t _ n hsz w he hp h2 hps (by rw[hss];omega)
  ·refine walk_full t _ n hsz w he hp h2 hps (by rw[hss];omega) (Hl ?_ ?_)
   ·rw[I8 hby]
    exact Nt h1 (by omega)
   ·rw[hss]
    unfold maxLen
    omega
theorem own:ownKnob Tryz.prog.godebug=none:=by kernel_rfl
theorem lt4:Tryz.prog.underlying 4=some .bool:=by kernel_rfl
theorem gRange:Tryz.prog.globalNamed "strconv.ErrRange"=some 2:=by kernel_rfl
theorem gRangeType:(Tryz.prog.globals[2]?).map (·.type)=some 64:=by kernel_rfl
theorem star: "*"++ "errors.errorString"= "*errors.errorString":=by decide
theorem rowErr(u:TypeId)(h:Tryz.prog.typeName? 3 u=some "*errors.errorString"):u=137:=
 typeName_ptr_named (nm:= "errors.errorString") (by rw[star];kernel_rfl) (by kernel_rfl) (by decide) u (by rw[star];exact h)
theorem gPowType:(Tryz.prog.globals[5]?).map (·.type)=some 153:=by kernel_rfl
theorem pow_data:(Rows.laid_internal_strconv_uint64pow10:DataW Unit)=Lib.tabData .u64 Lib.pow10Tab:=by kernel_rfl
theorem of_pow{W:World}(h:laidMetH Tryz.prog Rows.syntaxTwiceRow.laid W):PowW W W.heap.size:=by
 rw[MakeChecks.laidMetH_plain _ _ _ (by kernel_rfl)]at h
 have h2:=h.tail.tail
 have h3:laidMet Tryz.prog (("internal/strconv.uint64pow10",Rows.laid_internal_strconv_uint64pow10)::_) W:=h2
 rw[pow_data]at h3
 have ht:Lib.TabIs Tryz.prog W "internal/strconv.uint64pow10" .u64 Lib.pow10Tab:=Lib.tabIs_of_head SA gPowType Tryz.underlying153 Tryz.underlying125 (by kernel_rfl) (by kernel_rfl) h3
 exact⟨Lib.lt_of_cell (ht.cell SA 0 (by decide)),ht⟩
theorem of_laid{W:World}(h:laidMetH Tryz.prog Rows.syntaxTwiceRow.laid W):Errs W:=by
 rw[MakeChecks.laidMetH_plain _ _ _ (by kernel_rfl)]at h
 have h3:=h.tail.tail.tail.tail
 obtain⟨a,s,hv,-,-,-⟩:=laid_sentinel h3 gRange gRangeType Tryz.underlying64 rowErr Tryz.underlying137 Tryz.underlying139 rfl rfl Tryz.underlying9 (by kernel_rfl) (by kernel_rfl)
 have hc:=World.var?_cell gRange hv 0
 simp at hc
 exact⟨Lib.lt_of_cell hc,_,_,hc⟩
theorem lifted(os:Os)(started:os.Started)(H:Type)(enc:TypeId×Value->H) :
  ReturnsInHanded {} Tryz.checked os 3 .any (fun w args=>(Rows.syntaxTwiceSpec.pre enc Tryz.prog Tryz.f3 Rows.syntaxTwiceRow.domain false w args/\laidMetH Tryz.prog Rows.syntaxTwiceRow.laid w)/\sizedMet enc Tryz.prog Tryz.f3 (OpenSpec.ofChange Rows.syntaxTwiceSpec) false w args)
   (Rows.syntaxTwiceSpec.post enc Tryz.prog Tryz.f3 false true false false):=by
 refine returnsInHanded_of_change_and (C:=Tryz.checked) (X:=fun w _=>laidMetH Tryz.prog Rows.syntaxTwiceRow.laid w) (fun _ _ _ hh h=>h.of_heap hh) own started (by kernel_rfl) Tryz.func3
  (ChangeSpec.witness_shaped (enc:=enc) (C:=Tryz.checked) (os:=os) (X:=fun w _=>laidMetH Tryz.prog Rows.syntaxTwiceRow.laid w) false (World.laidAll Tryz.prog os Rows.syntaxTwiceRow.laid) #[.string ⟨#[]⟩] 8 (World.laidAll_os _ _ _) (World.shaped_of_ZipB (by kernel_rfl) (by kernel_rfl)) (by kernel_rfl) (by kernel_rfl) (by kernel_rfl) (by rw[MakeChecks.laidMetH_plain _ _ _ (by kernel_rfl)];exact laidMet_laidAll _ (by kernel_rfl) (by kernel_rfl))) ?_
 intro W base args ds gs before hval0 hW _ _ hL _
 have hval:∀(j:Nat) t v,Tryz.f3.params[j]?=some t->args[j]?=some v->Value.okWide Tryz.prog W .any base t v:=hval0
 have hW':=hW
 obtain⟨p,q,hA0,hV,rfl,hfz,hnd⟩:=hW
 have hA:DataW.TrodAll enc Tryz.prog W 0 (fun _=>true) true Tryz.f3.params.toList args.toList ds p:=hA0
 rw[Tryz.params3]at hA hval
 obtain⟨v0,d0,rfl,rfl,h0⟩:=trodAll_one hA
 obtain⟨rfl,rfl⟩:=trodVars_none hV
 obtain⟨s,rfl,rfl,rfl,hs⟩:=Go.ChangeMaps.open_string Sh (hval 0 9 v0 rfl rfl) h0
 clear hA0 hval0
 simp only[List.append_nil]at hW'
 refine(walk s W (of_laid hL) (of_pow hL) hs).mono fun e W' ⟨he,bel⟩=>?_
 subst he
 exact⟨_,rfl,_,_,_,[],[],[],hW',trodAll_mk1 (shut_bool lt4 _),trodAll_mk1 (Go.ChangeMaps.shut_string Sh hs),rfl,bel.frame _,fun h=>by cases h⟩
theorem over:Rows.SyntaxTwiceSaid:=
 OpenClaim.holds_of_wide 3 Tryz.f3 rfl rfl rfl rfl rfl rfl rfl ⟨rfl,rfl,rfl,rfl,rfl⟩ rfl rfl rfl rfl rfl (by kernel_rfl) Tryz.func3 (by kernel_rfl)
  (of_decide_eq_true (by kernel_rfl)) (by unfold Func.isWrapper;first | (rw[if_pos (by decide +kernel)];kernel_rfl) | (rw[if_neg (by decide +kernel)];exact⟨rfl,rfl⟩))
  (fun os started H enc _=>lifted os started H enc)
theorem card:Rows.SyntaxTwiceCardSaid:=
 Claim7.holds_tied_plain_at .later [] [.data,.data,.data,.data,.sentinel,.sentinel,.pinned] true _ true
  over (fun _ h=>by cases h) (by kernel_rfl) (fun _ h=>by cases h) syntaxTwice_row_tie rfl ⟨rfl,rfl⟩ (by kernel_rfl) rfl
  (fun f fn hf hfn=>by
   obtain rfl:f=3:=Option.some.inj ((show Tryz.prog.funcNamed "gesso/gessokeep.SyntaxTwice"=some 3 by kernel_rfl).symm.trans hf) |>.symm
   obtain rfl:fn=Tryz.f3:=(Option.some.inj (Tryz.func3.symm.trans hfn)).symm
   exact⟨by kernel_rfl,fun j t ht=>by
    rw[Tryz.params3]at ht
    have hm:t∈[9]:=by simpa using Array.mem_of_getElem? ht
    have hall:([9].all fun u=>!Tryz.prog.wantsStandIn u)=true:=by kernel_rfl
    exact(show Tryz.prog.wantsStandIn t=false by simpa using List.all_eq_true.1 hall t hm)⟩)
  (by kernel_rfl)
end Go.Proofs.YtbglpanjpadldaaGreatDoor.syntaxTwice
namespace Go.Proofs.YtbglpanjpadldaaGreatDoor
theorem syntaxTwice_holds:Rows.SyntaxTwiceCardSaid:=syntaxTwice.card
#print axioms syntaxTwice_holds
end Go.Proofs.YtbglpanjpadldaaGreatDoor
