/- Several texts, joined. -/
import Derived.Test.YtfhkaffakniioaaGreatDoorPrBM
import Derived.Test.YtfhkaffakniioaaGreatDoorPrNM
set_option maxHeartbeats 4000000
set_option maxRecDepth 100000
namespace Go.Proofs.YtfhkaffakniioaaGreatDoor
open Go.RowKit
theorem Kp.both {F G:Nat→Prop} {a b:World} (h:Kp F a b) (k:Kp G a b):Kp (fun g=>F g∧G g) a b:=⟨h.os,h.tape,h.output,h.size,fun g hg q=>by
 by_cases f:F g
 ·exact k.block g hg fun z=>q ⟨f,z⟩
 ·exact h.block g hg f⟩
theorem Kp.mono {F G:Nat→Prop} {a b:World} (h:Kp F a b) (hf:∀g,g<a.heap.size→F g→G g):Kp G a b:=⟨h.os,h.tape,h.output,h.size,fun g hg q=>h.block g hg fun z=>q (hf g hg z)⟩
namespace Ps
def KT (ts:List TypeId) (a b:World):Prop:=Kp (fun g=>∃D t,t∈ts∧a.heap[g]?=some (.cells D t (0,0))) a b
section
variable {ts us:List TypeId} {a b c:World}
theorem KT.of_below (h:Below a.heap.size a b):KT ts a b:=Kp.of_below h
theorem KT.row (h:KT ts a b) {g:Nat} {D:Array Value} {t:TypeId} (hg:a.heap[g]?=some (.cells D t (0,0))) (ht:t ∉ ts):b.heap[g]?=some (.cells D t (0,0)):=by
 refine(h.block g (row_lt hg) ?_).trans hg
 rintro⟨D',t',ht',hg'⟩
 rw[hg] at hg'
 cases hg'
 exact ht ht'
theorem KT.own (h:KT ts a b) {B size n:Nat} {t:TypeId} {v:Value} {L:List Value} (ho:a.ownsRow B t size v n L) (ht:t ∉ ts):b.ownsRow B t size v n L:=by
 refine⟨ho.1,?_⟩
 rcases ho.2 with q | ⟨g,cap,cur,q,q1,q2,q3⟩
 ·exact .inl q
 ·exact .inr ⟨g,cap,cur,q,q1,h.row q2 ht,q3⟩
theorem KT.mono (h:KT ts a b) (hs:∀t,t∈ts→t∈us):KT us a b:=Kp.mono h fun _ _ ⟨D,t,q1,q2⟩=>⟨D,t,hs t q1,q2⟩
theorem KT.trans (h:KT ts a b) (k:KT ts b c):KT ts a c:=Go.Proofs.YtfhkaffakniioaaGreatDoor.Kp.trans h k fun g hg ⟨D,t,q1,q2⟩=>by
 by_cases f:∃D t,t∈ts∧a.heap[g]?=some (.cells D t (0,0))
 ·exact f
 ·rw[h.block g hg f] at q2
  exact⟨D,t,q1,q2⟩
theorem KT.set {g i:Nat} {D:Array Value} {t:TypeId} {v:Value} (hg:a.heap[g]?=some (.cells D t (0,0))):KT [t] a (a.setCell ⟨g,i,none⟩ v):=(kp_set a g i v).mono fun k _ e=>⟨D,t,List.mem_singleton.2 rfl,by rw[e];exact hg⟩
theorem KT.grown {B size n:Nat} {t:TypeId} {v:Value} {L:List Value} (ho:a.ownsRow B t size v n L) (hg:a.grownBy b v.ownBlock):KT [t] a b:=(zdA hg).mono fun k _ e=>by
 rcases ho.2 with ⟨q,_⟩ | ⟨g,cap,cur,q,q1,q2,q3⟩
 ·rw[q] at e;cases e
 ·rw[q] at e
  cases e
  exact⟨cur,t,List.mem_singleton.2 rfl,q2⟩
theorem KT.parser {W0:World} {pb:Nat} {s:S} {sb:Option Nat} (hp:PS W0 a pb s sb) (k:Kp (fun g=>g=pb) a b):KT [67] a b:=k.mono fun g _ e=>by
 obtain⟨D,hD⟩:=hp.pbty
 exact⟨D,67,List.mem_singleton.2 rfl,by rw[e];exact hD⟩
theorem own_ty {B size n:Nat} {t:TypeId} {v:Value} {L:List Value} (ho:a.ownsRow B t size v n L) {g:Nat} (hg:v.ownBlock=some g):B≤g∧∃D,a.heap[g]?=some (.cells D t (0,0)):=by
 rcases ho.2 with ⟨q,_⟩ | ⟨g',cap,cur,q,q1,q2,q3⟩
 ·rw[q] at hg;cases hg
 ·rw[q] at hg
  cases hg
  exact⟨q1,cur,q2⟩
theorem own_to {B B' size n:Nat} {t:TypeId} {v:Value} {L:List Value} (ho:a.ownsRow B t size v n L) (hB:B'≤B):a.ownsRow B' t size v n L:=by
 refine⟨ho.1,?_⟩
 rcases ho.2 with q | ⟨g',cap,cur,q,q1,q2,q3⟩
 ·exact .inl q
 ·exact .inr ⟨g',cap,cur,q,Nat.le_trans hB q1,q2,q3⟩
theorem zcY {B size n:Nat} {t:TypeId} {v:Value} {L:List Value} (ho:a.ownsRow B t size v n L):∃x c,v=.slice x n c:=by
 rcases ho.2 with ⟨q,h0⟩ | ⟨g',cap,cur,q,_⟩
 ·exact⟨none,0,by rw[q,h0]⟩
 ·exact⟨_,cap,q⟩
theorem PS.kt {W0:World} {pb X:Nat} {s:S} {sb:Option Nat} (h:PS W0 a pb s sb) (k:KT ts a b) (kx:Kp (fun g=>g=pb∨X≤g) a b) (hX:W0.heap.size≤X) (h1:67 ∉ ts) (h2:29 ∉ ts):PS W0 b pb s sb:=by
 refine h.keep (k.both kx) fun g hg ⟨⟨D,t,q1,q2⟩,q3⟩=>?_
 obtain⟨n1,n2⟩:=h.other q2 (fun e=>h1 (e ▸ q1)) (fun e=>h2 (e ▸ q1))
 exact⟨by rcases q3 with q | q;exact absurd q n1;omega,n1,n2⟩
def NM (W:World) (X nb:Nat) (ns:List Bs):Prop:=∃sv,W.heap[nb]?=some (.cells #[sv] 50 (0,0))∧OwnT W X sv ns
def BO (W:World) (bx pb:Nat):Prop:=W.heap[bx]?=some (.cells #[.pointer (some ⟨pb,0,none⟩)] 99 (0,0))
def ics (l:List (It × Value)):List Value:=l.flatMap fun x=>[.string (Lx.bs x.1.name),x.2]
theorem ics_snoc (l:List (It × Value)) (x:It × Value):ics (l++[x])=ics l++[.string (Lx.bs x.1.name),x.2]:=by simp[ics]
def Its (W0 W:World) (X:Nat) (iv:Value) (l:List It):Prop:=∃L:List (It × Value),L.map Prod.fst=l∧W.ownsRow X 43 2 iv L.length (ics L)∧∀x∈L,RowE W0 W x.2 x.1.expr
def IT (W0 W:World) (X xb:Nat) (C:Value→Array Value) (ty:TypeId) (l:List It):Prop:=∃iv,W.heap[xb]?=some (.cells (C iv) ty (0,0))∧Its W0 W X iv l
theorem NM.kt {X nb:Nat} {ns:List Bs} (h:NM a X nb ns) (k:KT ts a b) (h1:50 ∉ ts) (h2:9 ∉ ts):NM b X nb ns:=by
 obtain⟨sv,q1,q2⟩:=h
 exact⟨sv,k.row q1 h1,k.own q2 h2⟩
theorem BO.kt {bx pb:Nat} (h:BO a bx pb) (k:KT ts a b) (h1:99 ∉ ts):BO b bx pb:=k.row h h1
theorem RowE.kt {W0:World} {v:Value} {l:List Sp} (h:RowE W0 a v l) (k:KT ts a b) (h1:29 ∉ ts):RowE W0 b v l:=k.own h h1
theorem Its.kt {W0:World} {X:Nat} {iv:Value} {l:List It} (h:Its W0 a X iv l) (k:KT ts a b) (h1:43 ∉ ts) (h2:29 ∉ ts):Its W0 b X iv l:=by
 obtain⟨L,q1,q2,q3⟩:=h
 exact⟨L,q1,k.own q2 h1,fun x hx=>(q3 x hx).kt k h2⟩
theorem Its.to {W0:World} {X Y:Nat} {iv:Value} {l:List It} (h:Its W0 a X iv l) (hY:Y≤X):Its W0 a Y iv l:=by
 obtain⟨L,q1,q2,q3⟩:=h
 exact⟨L,q1,own_to q2 hY,q3⟩
theorem Its.nil (W0 W:World) (X:Nat):Its W0 W X (.slice none 0 0) []:=⟨[],rfl,⟨rfl,.inl ⟨rfl,rfl⟩⟩,fun x hx=>by cases hx⟩
theorem Its.form {W0:World} {X:Nat} {iv:Value} {l:List It} (h:Its W0 a X iv l):∃x c,iv=.slice x l.length c:=by
 obtain⟨L,q1,q2,_⟩:=h
 obtain⟨x,c,e⟩:=zcY q2
 exact⟨x,c,by rw[e,←q1,List.length_map]⟩
theorem IT.kt {W0:World} {X xb:Nat} {C:Value→Array Value} {ty:TypeId} {l:List It} (h:IT W0 a X xb C ty l) (k:KT ts a b) (h0:ty ∉ ts) (h1:43 ∉ ts) (h2:29 ∉ ts):IT W0 b X xb C ty l:=by
 obtain⟨iv,q1,q2⟩:=h
 exact⟨iv,k.row q1 h0,q2.kt k h1 h2⟩
theorem kx_below {pb X:Nat} (h:Below a.heap.size a b):Kp (fun g=>g=pb∨X≤g) a b:=Kp.of_below h
theorem NM.push {w3 w4 w5:World} {pb X nb:Nat} {ns:List Bs} {sv v':Value} {x:Bs} (hs:w3.heap[nb]?=some (.cells #[sv] 50 (0,0))) (ho:OwnT w3 X sv ns) (hX:X≤nb) (hb:Below w3.heap.size w3 w4) (hgr:w4.grownBy w5 sv.ownBlock)
  (hn:w5.ownsRow X 9 1 v' (ns.length+1) ((ns.map fun x=>Value.string (Lx.bs x))++[.string (Lx.bs x)])):w5.heap[nb]?=some (.cells #[sv] 50 (0,0))∧NM (w5.setCell ⟨nb,0,none⟩ v') X nb (ns++[x])∧KT [9,50] w3 (w5.setCell ⟨nb,0,none⟩ v')∧Kp (fun g=>g=pb∨X≤g) w3 (w5.setCell ⟨nb,0,none⟩ v'):=by
 have o4:OwnT w4 X sv ns:=ho.call hb
 have r4:=(hb.block nb (row_lt hs)).trans hs
 have k45:KT [9] w4 w5:=KT.grown (show w4.ownsRow X 9 1 sv ns.length _ from o4) hgr
 have r5:=k45.row r4 (by decide)
 have k5:KT [50] w5 (w5.setCell ⟨nb,0,none⟩ v'):=KT.set r5
 refine⟨r5,⟨v',(heap_setCell_same w5 nb 0 _ 50 v' r5).trans rfl,?_⟩,((KT.of_below hb).trans (k45.mono (by decide))).trans (k5.mono (by decide)),?_⟩
 ·show World.ownsRow _ X 9 1 v' (ns++[x]).length _
  rw[List.length_append,List.map_append]
  exact k5.own hn (by decide)
 ·have e1:Kp (fun g=>g=pb∨X≤g) w4 w5:=(zdA hgr).mono fun g _ e=>.inr (own_ty (show w4.ownsRow X 9 1 sv ns.length _ from o4) e).1
  have e2:Kp (fun g=>g=pb∨X≤g) w5 (w5.setCell ⟨nb,0,none⟩ v'):=(kp_set w5 nb 0 v').mono fun g _ e=>.inr (by rw[e];exact hX)
  exact zaN (zaN (kx_below hb) e1) e2
theorem IT.push {W0 w3 w4 w5:World} {pb X xb r:Nat} {C:Value→Array Value} {ty:TypeId} {L:List (It × Value)} {iv v' ve:Value} {i:It} (hs:w3.heap[xb]?=some (.cells (C iv) ty (0,0))) (ho:w3.ownsRow X 43 2 iv L.length (ics L)) (hr:∀x∈L,RowE W0 w3 x.2 x.1.expr) (hX:X≤xb) (hb:Below w3.heap.size w3 w4) (hgr:w4.grownBy w5 iv.ownBlock)
  (hn:w5.ownsRow X 43 2 v' (L.length+1) (ics L++[.string (Lx.bs i.name),ve])) (he:RowE W0 w3 ve i.expr) (hC:(C iv).setIfInBounds r v'=C v') (h1:ty≠43) (h2:ty≠29):w5.heap[xb]?=some (.cells (C iv) ty (0,0))∧IT W0 (w5.setCell ⟨xb,r,none⟩ v') X xb C ty (L.map Prod.fst++[i])∧KT [43,ty] w3 (w5.setCell ⟨xb,r,none⟩ v')∧Kp (fun g=>g=pb∨X≤g) w3 (w5.setCell ⟨xb,r,none⟩ v'):=by
 have o4:=zaT ho hb
 have r4:=(hb.block xb (row_lt hs)).trans hs
 have k45:KT [43] w4 w5:=KT.grown o4 hgr
 have r5:=k45.row r4 (by simpa using h1)
 have k5:KT [ty] w5 (w5.setCell ⟨xb,r,none⟩ v'):=KT.set r5
 have kk:KT [43,ty] w3 (w5.setCell ⟨xb,r,none⟩ v'):=((KT.of_below hb).trans (k45.mono (by simp))).trans (k5.mono (by simp))
 have hst:29 ∉ [43,ty]:=by
  intro q
  rcases List.mem_cons.1 q with q | q
  ·exact absurd q (by decide)
  ·exact h2 (List.mem_singleton.1 q).symm
 refine⟨r5,⟨v',(heap_setCell_same w5 xb r _ ty v' r5).trans (by rw[hC]),L++[(i,ve)],by simp,?_,fun x hx=>?_⟩,kk,?_⟩
 ·rw[List.length_append,ics_snoc]
  exact k5.own hn (by simpa using h1.symm)
 ·rcases List.mem_append.1 hx with q | q
  ·exact(hr x q).kt kk hst
  ·rw[List.mem_singleton.1 q]
   exact he.kt kk hst
 ·have e1:Kp (fun g=>g=pb∨X≤g) w4 w5:=(zdA hgr).mono fun g _ e=>.inr (own_ty o4 e).1
  have e2:Kp (fun g=>g=pb∨X≤g) w5 (w5.setCell ⟨xb,r,none⟩ v'):=(kp_set w5 xb r v').mono fun g _ e=>.inr (by rw[e];exact hX)
  exact zaN (zaN (kx_below hb) e1) e2
end
theorem SR.take {W:World} {a:Option Addr} {l:List Bs} (h:SR W a l) (j:Nat):SR W a (l.take j):=fun i x hx=>by
 rw[List.getElem?_take] at hx
 split at hx
 ·exact h i x hx
 ·cases hx
theorem SR.below {W W':World} {a:Option Addr} {l:List Bs} (h:SR W a l) (hb:Below W.heap.size W W'):SR W' a l:=h.call hb
theorem areNs_step {l:List Bs} {j:Nat} {x:Bs} (hx:l[j]?=some x):areNs (l.take j) (l.drop j)=(isNm x && !(l.take j).contains x && areNs (l.take (j+1)) (l.drop (j+1))):=by
 have hj:=(List.getElem?_eq_some_iff.1 hx).1
 have e1:l.drop j=x :: l.drop (j+1):=by
  rw[List.drop_eq_getElem_cons hj]
  congr 1
  exact(List.getElem?_eq_some_iff.1 hx).2
 have e2:l.take (j+1)=l.take j++[x]:=by
  rw[List.take_add_one,hx]
  rfl
 rw[e1,areNs,e2]
theorem okL_step {i:Nat} {l:List Bs} {x:Bs} (hx:l[i]?=some x):okL i (l.drop i)=((isNm x || (decide (i≠0) && isNb x)) && okL (i+1) (l.drop (i+1))):=by
 have hj:=(List.getElem?_eq_some_iff.1 hx).1
 have e1:l.drop i=x :: l.drop (i+1):=by
  rw[List.drop_eq_getElem_cons hj]
  congr 1
  exact(List.getElem?_eq_some_iff.1 hx).2
 rw[e1,okL]
theorem areNames_c (l:List Bs) (a:Option Addr) (n c:Nat) (w:World) (hn:n=l.length) (hl:n≤100000) (hc:n≤c) (hr:SR w a l) (hL:HasL w):Calls Tryz.prog 88 #[.slice a n c] w fun e w'=>e=.returned (.bool (areNs [] l))∧Below w.heap.size w w':=by
 have HS:Hid (SR w a l∧n=l.length∧n≤100000∧n≤c):=⟨hr,hn,hl,hc⟩
 have CI:Hid (∀(x:Bs) W,Below w.heap.size w W→Calls Tryz.prog 62 #[.string (Lx.bs x)] W fun e w'=>e=.returned (.bool (isNm x))∧Below W.heap.size W w'):=fun x W hW=>isName_c x W (hL.stays hW)
 have CC:Hid (∀(x:Bs) (j:Nat) W,j≤n→Below w.heap.size w W→Calls Tryz.prog 105 #[.slice a j c,.string (Lx.bs x)] W fun e w'=>e=.returned (.bool ((l.take j).contains x))∧w'=W):=fun x j W hj hW=>contains_c (l.take j) x a j c W (by rw[List.length_take];omega) (by omega) ((hr.call hW).take j)
 clear hr hn hl hL
 go_enter Tryz.func88,Tryz.ntmps88
 go_wp2
 go_loopw [7] (fun v wr=>∃j:Nat,j≤n∧v=.int .i64 j∧areNs [] l=areNs (l.take j) (l.drop j)∧Below w.heap.size w wr) (fun v _=>n - (intOf v).toNat)
 case atStart=>exact⟨0,Nat.zero_le _,rfl,rfl,Below.refl _ _⟩
 case round =>
  obtain⟨j,hj,rfl,hno,hb⟩:=hrel
  have HI:Hid (j≤n∧areNs [] l=areNs (l.take j) (l.drop j)∧Below w.heap.size w wr):=⟨hj,hno,hb⟩
  clear hno hb
  by_cases hlt:j<n
  ·have q0:(j:Int)<(n:Int):=by omega
   have q1:(0:Int)≤(j:Int):=by omega
   obtain⟨x,hx⟩:∃x,l[j]?=some x:=⟨_,List.getElem?_eq_getElem (by have:=HS.out;omega)⟩
   obtain⟨g,o,rfl,c0⟩:=(HS.out.1.call HI.out.2.2) j x hx
   have HX:Hid (areNs [] l=(isNm x && !(l.take j).contains x && areNs (l.take (j+1)) (l.drop (j+1)))):=by show _=_;rw[HI.out.2.1];exact areNs_step hx
   have HJ:Hid (j<n):=hlt
   have q2:(j:Int)≤(n:Int):=by omega
   have q3:(j:Int)≤(c:Int):=by omega
   clear hx
   go_wp2_with fail
   refine(CI.out x wr HI.out.2.2).mono ?_
   rintro e w2 ⟨rfl,hb2⟩
   have B2:Hid (Below w.heap.size w w2):=HI.out.2.2.trans (hb2.mono HI.out.2.2.size)
   clear hb2 c0
   cases hm:isNm x with
   | false =>
    rw[hm] at HX
    go_wp2
    go_ret
    exact⟨by rw[HX.out];rfl,B2.out⟩
   | true =>
    rw[hm] at HX
    go_wp2_with fail
    refine(CC.out x j w2 (by have:=HJ.out;omega) B2.out).mono ?_
    rintro e w3 ⟨rfl,rfl⟩
    cases hcn:(l.take j).contains x with
    | true =>
     rw[hcn] at HX
     go_wp2
     go_ret
     exact⟨by rw[HX.out];rfl,B2.out⟩
    | false =>
     rw[hcn] at HX
     obtain⟨j1,hj1⟩:∃j1,j1=j+1:=⟨_,rfl⟩
     have HJ1:Hid (j1=j+1):=hj1
     have HV:Hid (IntKind.i64.wrap ((j:Int)+1)=(j1:Int)∧wrap64 ((j:Int)+1)=(j1:Int)):=wrp (by omega) (by have:=HS.out;omega)
     have HX2:Hid (areNs [] l=areNs (l.take j1) (l.drop j1)):=by show _=_;rw[HX.out,hj1];rfl
     clear hcn hm hlt hj hj1
     obtain⟨v1,v2⟩:=HV.out
     go_wp2
     clear v1 v2
     go_roundw
     case rel=>first | exact⟨j1,by have:=HJ1.out;have:=HJ.out;omega,rfl,HX2.out,B2.out⟩ | ((repeat apply Exists.intro);exact⟨⟨j1,by have:=HJ1.out;have:=HJ.out;omega,rfl,HX2.out,B2.out⟩,rfl⟩)
     case measure =>
      simp only[intOf]
      have:=HJ1.out
      have:=HJ.out
      omega
  ·have q0:¬(j:Int)<(n:Int):=by omega
   have HE:Hid (areNs [] l=true):=by
    show _=_
    rw[HI.out.2.1,List.drop_eq_nil_of_le (by have:=HS.out;omega)]
    rfl
   go_wp2
   go_ret
   exact⟨by rw[HE.out];rfl,HI.out.2.2⟩
def NumC:Prop:=∀(q:Bs) (w:World),q.length≤1024→HasL w→Calls Tryz.prog 86 #[.string (Lx.bs q)] w fun e w'=>e=.returned (.bool (isNb q))∧Below w.heap.size w w'
theorem isPath_c (hN:NumC) (t:Bs) (w:World) (hL:HasL w):Calls Tryz.prog 58 #[.string (Lx.bs t)] w fun e w'=>e=.returned (.bool (isPt t))∧Below w.heap.size w w':=by
 obtain⟨s,hs⟩:∃s,s=Lx.bs t:=⟨_,rfl⟩
 have hsz:(s.size:Int)=(t.length:Int):=by rw[hs,Lx.bs_size]
 by_cases hlen:t.length≤1024
 ·have q9:¬(1024:Int)<(t.length:Int):=by omega
  obtain⟨l,hl⟩:∃l,l=cut 46 t:=⟨_,rfl⟩
  have HQ:Hid (isPt t=okL 0 l):=by show _=_;rw[isPt,decide_eq_true hlen,hl];rfl
  have HB:Hid (l.length≤1025∧∀x∈l,x.length≤1024):=by
   refine⟨by rw[hl,zbQ];have:=List.count_le_length (a:=(46:UInt8)) (l:=t);omega,fun x hx=>?_⟩
   rw[hl] at hx
   exact Nat.le_trans (zcV 46 t x hx) hlen
  obtain⟨n,hn⟩:∃n,n=l.length:=⟨_,rfl⟩
  have HN:Hid (n=l.length∧n≤1025):=⟨hn,by rw[hn];exact HB.out.1⟩
  have CS:Hid (Calls Tryz.prog 85 #[.string s,.string ⟨#[46]⟩] w fun e w'=>∃g,e=.returned (.slice (some ⟨g,0,none⟩) n n)∧Below w.heap.size w w'∧SR w' (some ⟨g,0,none⟩) l):=by
   rw[hn,hl,hs]
   exact split_c 46 t (by omega) (by have:=List.count_le_length (a:=(46:UInt8)) (l:=t);omega) w
  have CI:Hid (∀(x:Bs) W,Below w.heap.size w W→Calls Tryz.prog 62 #[.string (Lx.bs x)] W fun e w'=>e=.returned (.bool (isNm x))∧Below W.heap.size W w'):=fun x W hW=>isName_c x W (hL.stays hW)
  have CB:Hid (∀(x:Bs) W,x∈l→Below w.heap.size w W→Calls Tryz.prog 86 #[.string (Lx.bs x)] W fun e w'=>e=.returned (.bool (isNb x))∧Below W.heap.size W w'):=fun x W hx hW=>hN x W (HB.out.2 x hx) (hL.stays hW)
  rw[←hs]
  clear hs hL hN hl hn hlen
  go_enter Tryz.func58,Tryz.ntmps58
  go_wp2_with fail
  refine(CS.out).mono ?_
  rintro e w1 ⟨g,rfl,hb1,hr1⟩
  have X1:Hid (Below w.heap.size w w1∧SR w1 (some ⟨g,0,none⟩) l):=⟨hb1,hr1⟩
  clear hb1 hr1 hsz q9 CS
  go_wp2
  go_loopw [11] (fun v wr=>∃j:Nat,j≤n∧v=.int .i64 j∧isPt t=okL j (l.drop j)∧Below w1.heap.size w1 wr) (fun v _=>n - (intOf v).toNat)
  case atStart=>exact⟨0,Nat.zero_le _,rfl,HQ.out,Below.refl _ _⟩
  case round =>
   obtain⟨j,hj,rfl,hno,hb⟩:=hrel
   have HI:Hid (j≤n∧isPt t=okL j (l.drop j)∧Below w1.heap.size w1 wr∧Below w.heap.size w wr):=⟨hj,hno,hb,X1.out.1.trans (hb.mono X1.out.1.size)⟩
   clear hno hb
   by_cases hlt:j<n
   ·have q0:(j:Int)<(n:Int):=by omega
    have q1:(0:Int)≤(j:Int):=by omega
    obtain⟨x,hx⟩:∃x,l[j]?=some x:=⟨_,List.getElem?_eq_getElem (by have:=HN.out;omega)⟩
    obtain⟨g',o,e0,c0⟩:=(X1.out.2.call HI.out.2.2.1) j x hx
    cases e0
    rw[Nat.zero_add] at c0
    have HX:Hid (isPt t=((isNm x || (decide (j≠0) && isNb x)) && okL (j+1) (l.drop (j+1)))∧x∈l):=⟨by rw[HI.out.2.1];exact okL_step hx,List.mem_of_getElem? hx⟩
    have HJ:Hid (j<n):=hlt
    obtain⟨j1,hj1⟩:∃j1,j1=j+1:=⟨_,rfl⟩
    have HJ1:Hid (j1=j+1):=hj1
    have HV:Hid (IntKind.i64.wrap ((j:Int)+1)=(j1:Int)∧wrap64 ((j:Int)+1)=(j1:Int)):=wrp (by omega) (by have:=HN.out;omega)
    rw[←hj1] at HX
    clear hx hj1
    go_wp2_with fail
    refine(CI.out x wr HI.out.2.2.2).mono ?_
    rintro e w2 ⟨rfl,hb2⟩
    have B2:Hid (Below w1.heap.size w1 w2∧Below w.heap.size w w2):=⟨HI.out.2.2.1.trans (hb2.mono HI.out.2.2.1.size),HI.out.2.2.2.trans (hb2.mono HI.out.2.2.2.size)⟩
    clear hb2 c0
    cases hm:isNm x with
    | true =>
     have HX2:Hid (isPt t=okL j1 (l.drop j1)):=by show _=_;rw[HX.out.1,hm];rfl
     clear hm hlt hj
     obtain⟨v1,v2⟩:=HV.out
     go_wp2
     clear v1 v2
     go_roundw
     case rel=>first | exact⟨j1,by have:=HJ1.out;have:=HJ.out;omega,rfl,HX2.out,B2.out.1⟩ | ((repeat apply Exists.intro);exact⟨⟨j1,by have:=HJ1.out;have:=HJ.out;omega,rfl,HX2.out,B2.out.1⟩,rfl⟩)
     case measure =>
      simp only[intOf]
      have:=HJ1.out
      have:=HJ.out
      omega
    | false =>
     rw[hm] at HX
     by_cases hz:j=0
     ·have z1:((j:Int)==0)=true:=by rw[hz];rfl
      have HX2:Hid (isPt t=false):=by show _=_;rw[HX.out.1,hz];rfl
      clear hm hz
      go_wp2
      go_ret
      exact⟨by rw[HX2.out];rfl,B2.out.2⟩
     ·have z1:((j:Int)==0)=false:=by simp;omega
      have z2:decide (j≠0)=true:=decide_eq_true hz
      rw[z2] at HX
      clear hm hz z2
      go_wp2_with fail
      refine(CB.out x w2 HX.out.2 B2.out.2).mono ?_
      rintro e w3 ⟨rfl,hb3⟩
      have B3:Hid (Below w1.heap.size w1 w3∧Below w.heap.size w w3):=⟨B2.out.1.trans (hb3.mono B2.out.1.size),B2.out.2.trans (hb3.mono B2.out.2.size)⟩
      clear hb3
      cases hnb:isNb x with
      | false =>
       have HX2:Hid (isPt t=false):=by show _=_;rw[HX.out.1,hnb];rfl
       clear hnb
       go_wp2
       go_ret
       exact⟨by rw[HX2.out];rfl,B3.out.2⟩
      | true =>
       have HX2:Hid (isPt t=okL j1 (l.drop j1)):=by show _=_;rw[HX.out.1,hnb];rfl
       clear hnb hlt hj
       obtain⟨v1,v2⟩:=HV.out
       go_wp2
       clear v1 v2
       go_roundw
       case rel=>first | exact⟨j1,by have:=HJ1.out;have:=HJ.out;omega,rfl,HX2.out,B3.out.1⟩ | ((repeat apply Exists.intro);exact⟨⟨j1,by have:=HJ1.out;have:=HJ.out;omega,rfl,HX2.out,B3.out.1⟩,rfl⟩)
       case measure =>
        simp only[intOf]
        have:=HJ1.out
        have:=HJ.out
        omega
   ·have q0:¬(j:Int)<(n:Int):=by omega
    have HE:Hid (isPt t=true):=by
     show _=_
     rw[HI.out.2.1,List.drop_eq_nil_of_le (by have:=HN.out;omega)]
     rfl
    go_wp2
    go_ret
    exact⟨by rw[HE.out];rfl,HI.out.2.2.2⟩
 ·have q9:(1024:Int)<(t.length:Int):=by omega
  have HQ:Hid (isPt t=false):=by show _=_;rw[isPt,decide_eq_false hlen];rfl
  rw[←hs]
  clear hs hL hN hlen
  go_enter Tryz.func58,Tryz.ntmps58
  go_wp2
  go_ret
  exact⟨by rw[HQ.out];rfl,Below.refl _ _⟩
end Ps
end Go.Proofs.YtfhkaffakniioaaGreatDoor
