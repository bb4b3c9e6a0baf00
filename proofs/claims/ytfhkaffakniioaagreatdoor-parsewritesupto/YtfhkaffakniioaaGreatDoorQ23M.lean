/- Several texts, joined. -/
import Derived.Test.YtfhkaffakniioaaGreatDoorPsVM
set_option maxHeartbeats 4000000
set_option maxRecDepth 100000
namespace Go.Proofs.YtfhkaffakniioaaGreatDoor
open Go.RowKit
namespace Ps
section
variable {W0:World} {pb:Nat}
theorem ors_c (hO:HasO W0) (hL:HasL W0):∀n,n≤20001→∀m,m<n→DoesP W0 pb 106 (ors n) m
 | 0,_,_,h=>absurd h (Nat.not_lt_zero _)
 | n+1,hn,m,hm=>by
  have L:=less_ors n
  have h1:=less_primary L
  have h2:∀s,Less s (signed (ors n) s):=fun s=>zbT h1 _ s
  have h3:∀s,Less s (product (ors n) s):=fun s=>zcM _ h2 s
  have h4:∀s,Less s (sum (ors n) s):=fun s=>zcM _ h3 s
  have h5:∀s,Less s (not (ors n) s):=fun s=>zcS (zbZ h4) _ s
  have h6:∀s,Less s (ands (ors n) s):=fun s=>zcM _ h5 s
  have P:DoesP W0 pb 198 (zaQ (ors n)) m:=primary_c L (fun m1 e=>ors_c hO hL n (by omega) m1 (by omega)) hL
  have P2:DoesP W0 pb 197 (signed (ors n)) m:=signed_f h1 P 20001 m (Nat.le_refl _) (by omega)
  have P3:DoesP W0 pb 196 (product (ors n)) m:=product_of h2 P2 hO
  have P4:DoesP W0 pb 194 (sum (ors n)) m:=sum_of h3 P3 hO
  have P5:DoesP W0 pb 163 (not (ors n)) m:=not_f (zbZ h4) (comparison_c h4 P4 hO) 20001 m (Nat.le_refl _) (by omega)
  have P6:DoesP W0 pb 138 (ands (ors n)) m:=ands_of h5 P5 hO
  exact ors_of h6 P6 hO
end
def exprS (s:S):S:=ors 20001 { s with steps:=[] }
section
variable {W0:World} {pb:Nat} {W:World} {s:S} {sb:Option Nat}
theorem PS.setNil (h:PS W0 W pb s sb):PS W0 (W.setCell ⟨pb,6,none⟩ (.slice none 0 0)) pb { s with steps:=[] } none∧Kp (fun g=>g=pb) W (W.setCell ⟨pb,6,none⟩ (.slice none 0 0)):=by
 obtain⟨ra,rc,sv,h1,h2,h3,h4,h5,h6⟩:=h.ex
 have hl:=h.lt
 refine⟨⟨h.lt,h.below.setCell hl _,⟨ra,rc,.slice none 0 0,?_,h2.stays fun g hg=>heap_setCell_other _ _ _ _ (by show g≠pb;omega),h3,⟨rfl,.inl ⟨rfl,rfl⟩⟩,rfl,by simp⟩,?_,h.fit,h.around,h.nums⟩,kp_set _ _ _ _⟩
 ·rw[heap_setCell_same W pb 6 _ 67 (.slice none 0 0) h1]
  rfl
 ·have:=h.lim
  show 0+s.rest.length≤20000
  omega
theorem expr_c (h:PS W0 W pb s sb) (hO:HasO W0) (hL:HasL W0):Calls Tryz.prog 73 #[.pointer (some ⟨pb,0,none⟩)] W fun e W'=>∃v sb',e=.returned v∧W'.ownsRow W0.heap.size 29 3 v (exprS s).steps.length (scs (exprS s).steps)∧v.ownBlock=sb'∧W'.cell? ⟨pb,6,none⟩=some v∧PS W0 W' pb (exprS s) sb'∧Kp (fun g=>g=pb) W W'∧(sb'=none∨∃g,sb'=some g∧W.heap.size≤g):=by
 obtain⟨c1,c2⟩:=h.setNil
 obtain⟨ra,rc,sv,H,p0,p1,p2,p3,p4,p5,p6,pf⟩:=h.cells
 have hpl:=h.blt
 obtain⟨w1,hw1⟩:∃w1,w1=W.setCell ⟨pb,6,none⟩ (.slice none 0 0):=⟨_,rfl⟩
 rw[←hw1] at c1 c2
 have K1:Hid (Kp (fun g=>g=pb) W w1):=c2
 have CO:Hid (Calls Tryz.prog 106 #[.pointer (some ⟨pb,0,none⟩)] w1 fun e W'=>e=.returned (.tuple #[])∧Hid (PG W0 pb w1 none (exprS s) W')):=by
  refine(ors_c hO hL 20001 (Nat.le_refl _) 20000 (by decide) w1 _ none c1 (by have:=c1.lim;show s.rest.length≤20000;have e:({ s with steps:=[] }:S).rest=s.rest:=rfl;rw[e] at this;omega)).mono ?_
  rintro e W' ⟨rfl,q⟩
  exact⟨rfl,q⟩
 clear h hO hL c1 c2 H p0 p1 p2 p3 p4 p5
 go_enter Tryz.func73,Tryz.ntmps73
 go_wp2_with fail
 rw[←hw1]
 clear hw1 p6 pf hpl
 refine(CO.out).mono ?_
 rintro e w2 ⟨rfl,G2⟩
 clear CO
 obtain⟨sb2,k1,k2⟩:=G2.out
 have HK:Hid (PS W0 w2 pb (exprS s) sb2∧PCh pb w1 none w2 sb2):=⟨k1,k2⟩
 obtain⟨ra2,rc2,sv2,H2,q0,q1,q2,q3,q4,q5,q6,qf⟩:=k1.cells
 have Q6:Hid (w2.cell? ⟨pb,6,none⟩=some sv2):=q6
 clear k1 k2 q0 q1 q2 q3 q4 q5 qf G2
 go_wp2
 go_ret
 refine⟨sv2,sb2,rfl,H2.out.2.2.1,H2.out.2.2.2,Q6.out,HK.out.1,?_,?_⟩
 ·have a:=K1.out
  have b:=HK.out.2.kept
  exact⟨b.os.trans a.os,b.tape.trans a.tape,b.output.trans a.output,Nat.le_trans a.size b.size,fun g hg q=>(b.block g (Nat.lt_of_lt_of_le hg a.size) fun z=>z.elim q fun z=>by cases z).trans (a.block g hg q)⟩
 ·rcases HK.out.2.new with e | ⟨g,e,hg⟩
  ·exact .inl e
  ·exact .inr ⟨g,e,Nat.le_trans K1.out.size hg⟩
end
section
variable {W0:World} {pb:Nat} {W W1:World} {s:S} {sb:Option Nat}
end
structure It where
 name:Bs
 expr:List Sp
deriving DecidableEq
structure St where
 kind:Nat
 table:Bs
 field:Bs
 items:List It
 expr:List Sp
 history:Bool
 desc:Bool
deriving DecidableEq
def stZero:St:=⟨0,[],[],[],[],false,false⟩
def whereS (s:S):S:=if is [[87,72,69,82,69]] s then exprS (next s) else s
def whereE (s:S):List Sp:=if is [[87,72,69,82,69]] s then (exprS (next s)).steps else []
def updP (s:S) (l:List It):S × List It:=(exprS (must [[61]] (name (l.map It.name) s)),l++[⟨nameT (l.map It.name) s,(exprS (must [[61]] (name (l.map It.name) s))).steps⟩])
def selP (s:S) (l:List It):S × List It:=(name (l.map It.name) (must [[65,83]] (exprS s)),l++[⟨nameT (l.map It.name) (must [[65,83]] (exprS s)),(exprS s).steps⟩])
def zcA:List Bs:=[[84,65,66,76,69],[73,78,68,69,88]]
def zcD (s:S):S:=if mustT zcA s=[84,65,66,76,69] then name [] (must zcA s) else must [[41]] (name [] (must [[40]] (name [] (must [[79,78]] (must zcA s)))))
def zbU (s:S):St:=if mustT zcA s=[84,65,66,76,69] then ⟨1,nameT [] (must zcA s),[],[],[],false,false⟩ else ⟨2,nameT [] (must [[79,78]] (must zcA s)),nameT [] (must [[40]] (name [] (must [[79,78]] (must zcA s)))),[],[],false,false⟩
def zdG (s:S):S:=exprS (name [] (must [[73,78,84,79]] s))
def insertX (s:S):St:=⟨3,nameT [] (must [[73,78,84,79]] s),[],[],(zdG s).steps,false,false⟩
def zcI (s:S):S × List It × Nat:=parts updP (must [[83,69,84]] (name [] s)) []
def zdC (s:S):S:=whereS (zcI s).1
def zcH (s:S):St:=⟨4,nameT [] s,[],(zcI s).2.1,whereE (zcI s).1,false,false⟩
def deleteS (s:S):S:=whereS (name [] (must [[70,82,79,77]] s))
def deleteX (s:S):St:=⟨5,nameT [] (must [[70,82,79,77]] s),[],[],whereE (name [] (must [[70,82,79,77]] s)),false,false⟩
def itemsS (s:S):S:=if is [[42]] s then next s else (parts selP s []).1
def itemsX (s:S):List It:=if is [[42]] s then [] else (parts selP s []).2.1
def histB (s:S):Bool:=is [[72,73,83,84,79,82,89]] s
def histS (s:S):S:=if histB s then must [[40]] (next s) else s
def fromS (s:S):S:=if histB s then must [[41]] (name [] (histS s)) else name [] (histS s)
def orderB (s:S):Bool:=is [[79,82,68,69,82]] s
def byS (s:S):S:=must [[66,89]] (next s)
def descB (s:S):Bool:=is [[68,69,83,67]] (name [] (byS s))
def orderS (s:S):S:=if orderB s then may [[68,69,83,67]] (name [] (byS s)) else s
def zaS (s:S):S:=must [[70,82,79,77]] (itemsS s)
def zaP (s:S):S:=orderS (whereS (fromS (zaS s)))
def zaO (s:S):St:=⟨6,nameT [] (histS (zaS s)),if orderB (whereS (fromS (zaS s))) then nameT [] (byS (whereS (fromS (zaS s)))) else [],itemsX s,whereE (fromS (zaS s)),histB (zaS s),if orderB (whereS (fromS (zaS s))) then descB (whereS (fromS (zaS s))) else false⟩
def stmtK:List Bs:=[[67,82,69,65,84,69],[73,78,83,69,82,84],[85,80,68,65,84,69],[68,69,76,69,84,69],[83,69,76,69,67,84]]
def stmtS (s:S):S:=if mustT stmtK s=[67,82,69,65,84,69] then zcD (must stmtK s) else if mustT stmtK s=[73,78,83,69,82,84] then zdG (must stmtK s) else if mustT stmtK s=[85,80,68,65,84,69] then zdC (must stmtK s) else if mustT stmtK s=[68,69,76,69,84,69] then deleteS (must stmtK s) else if mustT stmtK s=[83,69,76,69,67,84] then zaP (must stmtK s) else must stmtK s
def stmtX (s:S):St:=if mustT stmtK s=[67,82,69,65,84,69] then zbU (must stmtK s) else if mustT stmtK s=[73,78,83,69,82,84] then insertX (must stmtK s) else if mustT stmtK s=[85,80,68,65,84,69] then zcH (must stmtK s) else if mustT stmtK s=[68,69,76,69,84,69] then deleteX (must stmtK s) else if mustT stmtK s=[83,69,76,69,67,84] then zaO (must stmtK s) else stZero
def endS (s:S):S:=if s.rest.length > 0 then fail 13 s else if s.over then fail 3 s else s
theorem less_expr (s:S):Less s (exprS s):=by
 have h:=less_ors 20001 { s with steps:=[] }
 have e:=h.both
 refine⟨h.rest,?_,h.around,h.size⟩
 have:({ s with steps:=[] }:S).steps.length=0:=rfl
 rw[this] at e
 have e2:({ s with steps:=[] }:S).rest=s.rest:=rfl
 rw[e2] at e
 show(ors 20001 { s with steps:=[] }).steps.length+(ors 20001 { s with steps:=[] }).rest.length≤_
 omega
theorem less_updP (s:S) (l:List It):Less s (updP s l).1:=((zbH _ s).trans (zbA _ _)).trans (less_expr _)
theorem less_selP (s:S) (l:List It):Less s (selP s l).1:=((less_expr s).trans (zbA _ _)).trans (zbH _ _)
theorem steps_fail (e:Nat) (s:S):(fail e s).steps=s.steps:=rfl
theorem steps_next (s:S):(next s).steps=s.steps:=by
 unfold next
 split<;>rfl
theorem steps_must (ts:List Bs) (s:S):(must ts s).steps=s.steps:=by
 unfold must
 split
 ·exact steps_next s
 ·rfl
theorem steps_may (ts:List Bs) (s:S):(may ts s).steps=s.steps:=by
 unfold may
 split
 ·exact steps_next s
 ·rfl
theorem steps_name (l:List Bs) (s:S):(name l s).steps=s.steps:=by
 unfold name
 split
 ·split
  ·rfl
  ·exact steps_next s
 ·rfl
end Ps
end Go.Proofs.YtfhkaffakniioaaGreatDoor
