/- Several texts, joined. -/
import Derived.Test.YtfhkaffakniioaaGreatDoorQ23M
import Derived.Lib.ItoaLen
namespace Go.Proofs.YtfhkaffakniioaaGreatDoor
open Go.RowKit
namespace Ps
theorem PS.slen {W0 W:World} {pb:Nat} {s:S} {sb:Option Nat} (h:PS W0 W pb s sb):Ps.slen W pb=s.steps.length:=by
 obtain⟨ra,rc,sv,hx,_,_,ho,_,_⟩:=h.ex
 rw[zcJ hx]
 rcases ho.2 with ⟨q,h0⟩ | ⟨g,cap,cur,q,_⟩
 ·rw[q];exact h0.symm
 ·rw[q];rfl
def PB (W0 W:World) (pb:Nat) (s':S) (W':World):Prop:=∃sb',PS W0 W' pb s' sb'∧Kp (fun g=>g=pb) W W'
section
variable {W0 W W1 W2:World} {pb:Nat} {s s':S} {sb:Option Nat} {ts:List Bs} {C:Array Value} {n:Nat}
theorem PB.refl (h:PS W0 W pb s sb):PB W0 W pb s W:=⟨sb,h,Kp.of_below (Below.refl _ _)⟩
theorem PB.of_pg (h:PS W0 W pb s sb) (hg:PG W0 pb W sb s' W1) (e:s'.steps=s.steps):PB W0 W pb s' W1:=by
 obtain⟨sb',k1,k2⟩:=hg
 obtain⟨_,a2⟩:=k2.stp h.blt
 obtain⟨_,a3⟩:=a2 (fun g q=>(h.sblt g q).2) (by rw[k1.slen,h.slen,e])
 refine⟨sb',k1,k2.kept.os,k2.kept.tape,k2.kept.output,k2.kept.size,fun k hk q=>?_⟩
 by_cases hb:sb=some k
 ·exact a3 k hb
 ·exact k2.kept.block k hk fun z=>z.elim q hb
theorem kp_trans {a b c:World} (h:Kp (fun g=>g=pb) a b) (k:Kp (fun g=>g=pb) b c):Kp (fun g=>g=pb) a c:=h.trans k fun _ _ q=>q
theorem PB.trans (h:PB W0 W pb s W1) (k:PB W0 W1 pb s' W2):PB W0 W pb s' W2:=by
 obtain⟨_,_,h2⟩:=h
 obtain⟨sb',k1,k2⟩:=k
 exact⟨sb',k1,kp_trans h2 k2⟩
theorem PB.call (h:PB W0 W pb s W1) (hb:Below W1.heap.size W1 W2):PB W0 W pb s W2:=by
 obtain⟨sb',k1,k2⟩:=h
 exact⟨sb',k1.call hb,kp_trans k2 (Kp.of_below hb)⟩
theorem PB.pre (h:PB W0 W1 pb s W2) (hb:Below W.heap.size W W1):PB W0 W pb s W2:=by
 obtain⟨sb',k1,k2⟩:=h
 exact⟨sb',k1,kp_trans (Kp.of_below hb) k2⟩
theorem PB.size (h:PB W0 W pb s W1):W.heap.size≤W1.heap.size:=by
 obtain⟨_,_,k⟩:=h
 exact k.size
theorem PB.block (h:PB W0 W pb s W1) (hp:PS W0 W pb s' sb) {g:Nat} {D:Array Value} {t:TypeId} (hg:W.heap[g]?=some (.cells D t (0,0))) (ht:t≠67):W1.heap[g]?=some (.cells D t (0,0)):=by
 obtain⟨_,_,k⟩:=h
 refine(k.block g (row_lt hg) fun e=>?_).trans hg
 obtain⟨D',hD⟩:=hp.pbty
 rw[e,hD] at hg
 cases hg
 exact ht rfl
theorem may_pb (hg:PB W0 W pb s W1) (hC:C=txs ts) (hn:n=ts.length) (hl:ts.length≤1000):Calls Tryz.prog 109 #[.pointer (some ⟨pb,0,none⟩),.slice (some ⟨W1.heap.size,0,none⟩) n n] (W1.alloc (.cells C 9)) fun e W'=>e=.returned (.bool (is ts s))∧Hid (PB W0 W pb (may ts s) W'):=by
 obtain⟨sb1,k1,k2⟩:=hg
 refine(zbN k1 hC hn hl).mono ?_
 rintro e W' ⟨rfl,q⟩
 exact⟨rfl,PB.trans ⟨sb1,k1,k2⟩ (PB.of_pg k1 q.out (steps_may ts s))⟩
theorem must_pb (hg:PB W0 W pb s W1) (hC:C=txs ts) (hn:n=ts.length) (hl:ts.length≤1000):Calls Tryz.prog 70 #[.pointer (some ⟨pb,0,none⟩),.slice (some ⟨W1.heap.size,0,none⟩) n n] (W1.alloc (.cells C 9)) fun e W'=>e=.returned (.string (Lx.bs (mustT ts s)))∧Hid (PB W0 W pb (must ts s) W'):=by
 obtain⟨sb1,k1,k2⟩:=hg
 refine(zcG k1 hC hn hl).mono ?_
 rintro e W' ⟨rfl,q⟩
 exact⟨rfl,PB.trans ⟨sb1,k1,k2⟩ (PB.of_pg k1 q.out (steps_must ts s))⟩
theorem name_pb (hg:PB W0 W pb s W1):Calls Tryz.prog 72 #[.pointer (some ⟨pb,0,none⟩),.slice none 0 0] W1 fun e W'=>e=.returned (.string (Lx.bs (nameT [] s)))∧Hid (PB W0 W pb (name [] s) W'∧(nameT [] s).length≤20000):=by
 obtain⟨sb1,k1,k2⟩:=hg
 refine(name_c k1 (SR.nil W1 none) (n:=0) (c:=0) rfl (by decide)).mono ?_
 rintro e W' ⟨rfl,q⟩
 exact⟨rfl,PB.trans ⟨sb1,k1,k2⟩ (PB.of_pg k1 q (steps_name [] s)),zdM k1 []⟩
theorem names_pb (hg:PB W0 W pb s W1) {a:Option Addr} {c:Nat} (hr:SR W1 a ts) (hn:n=ts.length) (hl:n≤100000):Calls Tryz.prog 72 #[.pointer (some ⟨pb,0,none⟩),.slice a n c] W1 fun e W'=>e=.returned (.string (Lx.bs (nameT ts s)))∧Hid (PB W0 W pb (name ts s) W'∧(nameT ts s).length≤20000):=by
 obtain⟨sb1,k1,k2⟩:=hg
 refine(name_c k1 hr hn hl).mono ?_
 rintro e W' ⟨rfl,q⟩
 exact⟨rfl,PB.trans ⟨sb1,k1,k2⟩ (PB.of_pg k1 q (steps_name ts s)),zdM k1 ts⟩
theorem fail_pb (hg:PB W0 W pb s W1) (k:Nat):Calls Tryz.prog 77 #[.pointer (some ⟨pb,0,none⟩),.int .i64 (k:Int)] W1 fun e W'=>e=.returned (.tuple #[])∧Hid (PB W0 W pb (fail k s) W'):=by
 obtain⟨sb1,k1,k2⟩:=hg
 refine(fail_c k1 k).mono ?_
 rintro e W' ⟨rfl,q⟩
 exact⟨rfl,PB.trans ⟨sb1,k1,k2⟩ (PB.of_pg k1 q (steps_fail k s))⟩
def RowE (W0 W:World) (v:Value) (l:List Sp):Prop:=W.ownsRow W0.heap.size 29 3 v l.length (scs l)
theorem RowE.nil (W0 W:World):RowE W0 W (.slice none 0 0) []:=⟨rfl,.inl ⟨rfl,rfl⟩⟩
theorem RowE.call {v:Value} {l:List Sp} (h:RowE W0 W v l) (hb:Below W.heap.size W W1):RowE W0 W1 v l:=zaT h hb
theorem RowE.form {v:Value} {l:List Sp} (h:RowE W0 W v l):∃a c,v=.slice a l.length c:=by
 rcases h.2 with ⟨q,h0⟩ | ⟨g',cap,cur,q,_⟩
 ·exact⟨none,0,by rw[q,h0]⟩
 ·exact⟨_,cap,q⟩
theorem RowE.kp {v:Value} {l:List Sp} {X:Nat→Prop} (h:RowE W0 W v l) (k:Kp X W W1) (hX:∀g D,W.heap[g]?=some (.cells D 29 (0,0))→¬X g):RowE W0 W1 v l:=by
 refine⟨h.1,?_⟩
 rcases h.2 with q | ⟨g,cap,cur,q,q1,q2,q3⟩
 ·exact .inl q
 ·exact .inr ⟨g,cap,cur,q,q1,(k.block g (row_lt q2) (hX g cur q2)).trans q2,q3⟩
theorem RowE.one {v:Value} {l:List Sp} (h:RowE W0 W v l) (hp:PS W0 W pb s sb) (k:Kp (fun g=>g=pb) W W1):RowE W0 W1 v l:=h.kp k fun g D hg e=>by
 obtain⟨D',hD⟩:=hp.pbty
 rw[e,hD] at hg
 cases hg
theorem RowE.pbb {v:Value} {l:List Sp} (h:RowE W0 W1 v l) (hp:PB W0 W pb s W1) (k:PB W0 W1 pb s' W2):RowE W0 W2 v l:=by
 obtain⟨_,h1,_⟩:=hp
 obtain⟨_,_,k2⟩:=k
 exact h.one h1 k2
theorem expr_pb (hg:PB W0 W pb s W1) (hO:HasO W0) (hL:HasL W0):Calls Tryz.prog 73 #[.pointer (some ⟨pb,0,none⟩)] W1 fun e W'=>∃a c,e=.returned (.slice a (exprS s).steps.length c)∧Hid (PB W0 W pb (exprS s) W'∧PB W0 W1 pb (exprS s) W'∧RowE W0 W' (.slice a (exprS s).steps.length c) (exprS s).steps):=by
 obtain⟨sb1,k1,k2⟩:=hg
 refine(expr_c k1 hO hL).mono ?_
 rintro e W' ⟨v,sb',rfl,a1,a2,a3,a4,a5,a6⟩
 have a1':RowE W0 W' v (exprS s).steps:=a1
 obtain⟨a,c,rfl⟩:=a1'.form
 exact⟨a,c,rfl,⟨sb',a4,kp_trans k2 a5⟩,⟨sb',a4,a5⟩,a1⟩
theorem where_pb (hg:PB W0 W pb s W1) (hO:HasO W0) (hL:HasL W0):Calls Tryz.prog 75 #[.pointer (some ⟨pb,0,none⟩)] W1 fun e W'=>∃a c,e=.returned (.slice a (whereE s).length c)∧Hid (PB W0 W pb (whereS s) W'∧PB W0 W1 pb (whereS s) W'∧RowE W0 W' (.slice a (whereE s).length c) (whereE s)):=by
 have hB:=hg
 obtain⟨sb1,k1,k2⟩:=hg
 have CM:Hid (Calls Tryz.prog 109 #[.pointer (some ⟨pb,0,none⟩),.slice (some ⟨W1.heap.size,0,none⟩) 1 1] (W1.alloc (.cells #[.string ⟨#[87,72,69,82,69]⟩] 9)) fun e W''=>e=.returned (.bool (is [[87,72,69,82,69]] s))∧Hid (PB W0 W1 pb (may [[87,72,69,82,69]] s) W'')):=may_pb (ts:=[[87,72,69,82,69]]) (PB.refl k1) rfl rfl (by decide)
 have HB:Hid (PB W0 W pb s W1):=hB
 cases hi:is [[87,72,69,82,69]] s with
 | false =>
  rw[hi,may,hi] at CM
  have HQ:Hid (whereS s=s∧whereE s=[]):=⟨by rw[whereS,hi];rfl,by rw[whereE,hi];rfl⟩
  clear hB k1 k2 hO hL hi
  go_enter Tryz.func75,Tryz.ntmps75
  go_wp2_with fail
  refine(CM.out).mono ?_
  rintro e w2 ⟨rfl,G2⟩
  go_wp2
  go_ret
  exact⟨none,0,by rw[HQ.out.2];rfl,by rw[HQ.out.1];exact HB.out.trans G2.out,by rw[HQ.out.1];exact G2.out,by rw[HQ.out.2];exact RowE.nil _ _⟩
 | true =>
  rw[hi,may,if_pos hi] at CM
  have HQ:Hid (whereS s=exprS (next s)∧whereE s=(exprS (next s)).steps):=⟨by rw[whereS,if_pos hi],by rw[whereE,if_pos hi]⟩
  have CE:Hid (∀W',PB W0 W1 pb (next s) W'→Calls Tryz.prog 73 #[.pointer (some ⟨pb,0,none⟩)] W' fun e W''=>∃a c,e=.returned (.slice a (exprS (next s)).steps.length c)∧Hid (PB W0 W1 pb (exprS (next s)) W''∧PB W0 W' pb (exprS (next s)) W''∧RowE W0 W'' (.slice a (exprS (next s)).steps.length c) (exprS (next s)).steps)):=fun W' hg=>expr_pb hg hO hL
  clear hB k1 k2 hO hL hi
  go_enter Tryz.func75,Tryz.ntmps75
  go_wp2_with fail
  refine(CM.out).mono ?_
  rintro e w2 ⟨rfl,G2⟩
  go_wp2_with fail
  refine(CE.out w2 G2.out).mono ?_
  rintro e w3 ⟨a,c,rfl,G3⟩
  go_wp2
  go_ret
  exact⟨a,c,by rw[HQ.out.2];rfl,by rw[HQ.out.1];exact HB.out.trans G3.out.1,by rw[HQ.out.1];exact G3.out.1,by rw[HQ.out.2];exact G3.out.2.2⟩
end
def isNm (t:Bs):Bool:=(Lx.shw 1 t 0).isSome
def digs:Bs→Bool
 | []=>true
 | b :: r=>decide (48≤b.toNat∧b.toNat≤57) && digs r
def numv:Nat→Bs→Nat
 | a,[]=>a
 | a,b :: r=>numv (a*10+(b.toNat - 48)) r
def isNb (t:Bs):Bool:=match t with
 | []=>false
 | b :: r=>digs (b :: r) && decide (numv 0 (b :: r)<9223372036854775808) && (decide (b≠48) || r.isEmpty)
def cut (c:UInt8):Bs→List Bs
 | []=>[[]]
 | b :: r=>if b=c then [] :: cut c r else match cut c r with
  | []=>[[b]]
  | p :: q=>(b :: p) :: q
def okL:Nat→List Bs→Bool
 | _,[]=>true
 | i,q :: r=>(isNm q || (decide (i≠0) && isNb q)) && okL (i+1) r
def isPt (t:Bs):Bool:=decide (t.length≤1024) && okL 0 (cut 46 t)
def areNs:List Bs→List Bs→Bool
 | _,[]=>true
 | done,x :: r=>isNm x && !done.contains x && areNs (done++[x]) r
def haveNs (t:Bs) (m:Nat):Bool:=if m=0 then decide (t=[]) else decide (t.count 44+1=m) && areNs [] (cut 44 t)
def zaE (p:Sp):Bool :=
 if p.kind=4 then decide (0≤p.n) && decide (p.text=[])
 else if p.kind=5 then decide (p.n=0) && decide (p.text.length≤1024) && Lib.validD p.text
 else if p.kind=6 then decide (p.n=0) && isPt p.text
 else if p.kind=7 then decide (0≤p.n) && decide (p.n≤64) && decide (p.text=[])
 else if p.kind=8 then decide (0≤p.n) && decide (p.n≤64) && haveNs p.text p.n.toNat
 else decide (0<p.kind) && decide (p.kind<23) && decide (p.n=0) && decide (p.text=[])
def zaI (p:Sp):Nat:=if p.kind=7∨p.kind=8 then p.n.toNat else if 12≤p.kind then 2 else if 9≤p.kind then 1 else 0
def rightL:List Sp→Nat→Bool
 | [],v=>decide (v=1)
 | p :: r,v=>zaE p && decide (zaI p≤v) && rightL r (v+1 - zaI p)
def rightE (l:List Sp):Bool:=decide (l.length≤128) && rightL l 0
def zaM (l:List Sp):Bool:=l.all fun p=>decide (p.kind≠6)
def rightC (l:List Sp):Bool:=decide (l=[]) || rightE l
def zaK (l:List It):Bool:=decide (l.length≤64) && (l.all fun i=>rightE i.expr) && areNs [] (l.map It.name)
def rightX (x:St):Bool:=isNm x.table && (decide (x.kind=6) || (!x.history && !x.desc)) &&
 (if x.kind=1 then decide (x.field=[]) && decide (x.items=[]) && decide (x.expr=[])
 else if x.kind=2 then isNm x.field && decide (x.items=[]) && decide (x.expr=[])
 else if x.kind=3 then decide (x.field=[]) && decide (x.items=[]) && rightE x.expr && zaM x.expr
 else if x.kind=4 then decide (x.field=[]) && !decide (x.items=[]) && zaK x.items && rightC x.expr
 else if x.kind=5 then decide (x.field=[]) && decide (x.items=[]) && rightC x.expr
 else if x.kind=6 then (isNm x.field || (decide (x.field=[]) && !x.desc)) && zaK x.items && rightC x.expr
 else false)
def start (t:Bs) (l:List Tk):S:=⟨l,t.length,false,0,0,0,[]⟩
def parseX (t:Bs):St × Nat × Nat :=
 if (Lx.lex t).err≠0 then (stZero,(Lx.lex t).err,(Lx.lex t).pos)
 else if (endS (stmtS (start t (Lx.lex t).toks))).why≠0 then (stZero,(endS (stmtS (start t (Lx.lex t).toks))).why,(endS (stmtS (start t (Lx.lex t).toks))).pos)
 else if rightX (stmtX (start t (Lx.lex t).toks)) then (stmtX (start t (Lx.lex t).toks),0,0)
 else (stZero,13,0)
structure TL (s:S):Prop where
 len:s.rest.length≤20000
 toks:∀t∈s.rest,t.text.length≤20000∧(-9223372036854775808≤t.n∧t.n≤9223372036854775807)
 steps:∀p∈s.steps,p.text.length≤500000000∧(-9223372036854775808≤p.n∧p.n≤9223372036854775807)
theorem tl_fail {s:S} (h:TL s) (e:Nat):TL (fail e s):=⟨Nat.zero_le _,(fun _ q=>nomatch q),h.steps⟩
theorem zaU {s:S} (h:TL s):TL (next s):=by
 unfold next
 split
 ·exact tl_fail h _
 ·exact⟨by have:=h.len;simp;omega,fun t q=>h.toks t (List.mem_of_mem_tail q),h.steps⟩
theorem zbM {s:S} (h:TL s) (ts:List Bs):TL (must ts s):=by
 unfold must
 split
 ·exact zaU h
 ·exact tl_fail h _
theorem zbW {s:S} (h:TL s) (l:List Bs):TL (name l s):=by
 unfold name
 split
 ·split
  ·exact tl_fail h _
  ·exact zaU h
 ·exact tl_fail h _
theorem tl_add {s:S} (h:TL s) {p:Sp} (hp:p.text.length≤500000000∧(-9223372036854775808≤p.n∧p.n≤9223372036854775807)):TL (add p s):=⟨h.len,h.toks,fun q hq=>by
 rcases List.mem_append.1 (show q∈s.steps++[p] from hq) with z | z
 ·exact h.steps q z
 ·rw[List.mem_singleton.1 z];exact hp⟩
theorem tl_around {s:S} (h:TL s) (k:Nat):TL { s with around:=k }:=⟨h.len,h.toks,h.steps⟩
theorem tl_token {s:S} (h:TL s):(token s).text.length≤20000∧(-9223372036854775808≤(token s).n∧(token s).n≤9223372036854775807):=by
 unfold token
 cases hr:s.rest with
 | nil=>exact⟨Nat.zero_le _,by decide,by decide⟩
 | cons t r=>exact h.toks t (by rw[hr];simp)
theorem tl_nextN {s:S} (h:TL s):-9223372036854775808≤(nextT s).n∧(nextT s).n≤9223372036854775807:=by
 unfold nextT
 split
 ·exact⟨by decide,by decide⟩
 ·exact(tl_token h).2
theorem tl_nextT {s:S} (h:TL s):(nextT s).text.length≤20000:=by
 unfold nextT
 split
 ·exact Nat.zero_le _
 ·exact(tl_token h).1
theorem zr:([]:Bs).length≤500000000∧(-9223372036854775808≤(0:Int)∧(0:Int)≤9223372036854775807):=by decide
theorem tl_nameT {s:S} (h:TL s) (l:List Bs):(nameT l s).length≤20000:=by
 unfold nameT
 split
 ·split
  ·exact Nat.zero_le _
  ·exact tl_nextT h
 ·exact Nat.zero_le _
theorem tl_rowL {part:S→S} {ts:List Bs} (hp:∀s,TL s→TL (part s)):∀(f:Nat) (s:S),TL s→TL (rowL part ts f s)
 | 0,_,h=>h
 | f+1,s,h=>by
  rw[rowL]
  split
  ·exact tl_rowL hp f _ (tl_add (hp _ (zaU h)) zr)
  ·exact h
theorem tl_row {part:S→S} {ts:List Bs} (hp:∀s,TL s→TL (part s)) (s:S) (h:TL s):TL (row part ts s):=tl_rowL hp _ _ (hp s h)
theorem tl_nest {inner:S→S} (hp:∀s,TL s→TL (inner s)) (s:S) (h:TL s):TL (nest inner s):=by
 unfold nest
 split
 ·exact tl_fail h _
 ·exact tl_around (hp _ (tl_around (zaU h) _)) _
theorem tl_open {s:S} (h:TL s) (m:Nat):TL (open1 m s):=⟨h.len,h.toks,h.steps⟩
theorem tl_partsL {E:Type} {part:S→E→S × E} (I:Nat→E→Prop) (hp:∀s e m,TL s→I m e→TL (part s e).1∧I (m+1) (part s e).2):∀(f m:Nat) (s:S) (e:E),TL s→I m e→TL (partsL part f m s e).1∧(partsL part f m s e).2.2≤m+f∧I (partsL part f m s e).2.2 (partsL part f m s e).2.1
 | 0,m,s,e,h,hi=>⟨h,Nat.le_refl _,hi⟩
 | f+1,m,s,e,h,hi=>by
  have h1:=hp _ e m (tl_open h m) hi
  rw[partsL]
  split
  ·obtain⟨h2,hk,h3⟩:=tl_partsL I hp f (m+1) _ _ (zaU h1.1) h1.2
   exact⟨h2,Nat.le_trans hk (by omega),h3⟩
  ·exact⟨h1.1,by show m+1≤_;omega,h1.2⟩
theorem tl_parts {E:Type} {part:S→E→S × E} (I:Nat→E→Prop) (hp:∀s e m,TL s→I m e→TL (part s e).1∧I (m+1) (part s e).2) (s:S) (e:E) (h:TL s) (hi:I 0 e):TL (parts part s e).1∧(parts part s e).2.2≤20001∧I (parts part s e).2.2 (parts part s e).2.1:=by
 obtain⟨h2,hk,h3⟩:=tl_partsL I hp (s.rest.length+1) 0 s e h hi
 exact⟨h2,Nat.le_trans hk (by have:=h.len;omega),h3⟩
theorem tl_till {E:Type} {part:S→E→S × E} (I:Nat→E→Prop) (closing:Bs) (hp:∀s e m,TL s→I m e→TL (part s e).1∧I (m+1) (part s e).2) (s:S) (e:E) (h:TL s) (hi:I 0 e):TL (zaG closing part s e).1∧(zaG closing part s e).2.2≤20001∧I (zaG closing part s e).2.2 (zaG closing part s e).2.1:=by
 unfold zaG
 split
 ·exact⟨zaU h,Nat.zero_le _,hi⟩
 ·obtain⟨h2,hk,h3⟩:=tl_parts I hp s e h hi
  exact⟨zbM h2 _,hk,h3⟩
theorem tl_nots {cmp:S→S} (hp:∀s,TL s→TL (cmp s)):∀(f:Nat) (s:S),TL s→TL (nots cmp f s)
 | 0,_,h=>h
 | f+1,s,h=>by
  rw[nots]
  split
  ·exact tl_add (tl_nest (tl_nots hp f) s h) zr
  ·exact hp s h
theorem tl_signeds {prim:S→S} (hp:∀s,TL s→TL (prim s)):∀(f:Nat) (s:S),TL s→TL (zbB prim f s)
 | 0,_,h=>h
 | f+1,s,h=>by
  rw[zbB]
  split
  ·exact tl_add (tl_nest (tl_signeds hp f) s h) zr
  ·exact hp s h
theorem tl_comparison {sum:S→S} (hp:∀s,TL s→TL (sum s)) (s:S) (h:TL s):TL (zaV sum s):=by
 have h0:=hp s h
 unfold zaV
 split
 ·exact tl_add (hp _ (zaU h0)) zr
 ·split
  ·split
   ·exact tl_add (tl_add (zbM (zaU (zaU h0)) _) zr) zr
   ·exact tl_add (zbM (zaU h0) _) zr
  ·exact h0
theorem join_len (sep:Bs) (hs:sep.length≤1):∀l:List Bs,(∀x∈l,x.length≤20000)→(join sep l).length≤l.length*20001
 | [],_=>Nat.zero_le _
 | [x],h=>by
  have:=h x (by simp)
  simp[join]
  omega
 | x :: y :: r,h=>by
  have h1:=h x (by simp)
  have h2:=join_len sep hs (y :: r) (fun z hz=>h z (List.mem_cons_of_mem _ hz))
  rw[join]
  ·simp only[List.length_append,List.length_cons] at h2 ⊢
   omega
  ·simp
theorem tl_pathL:∀(f:Nat) (s:S) (l:List Bs),TL s→(∀x∈l,x.length≤20000)→TL (pathL f s l).1∧(∀x∈(pathL f s l).2,x.length≤20000)∧(pathL f s l).2.length≤l.length+f
 | 0,_,_,h,hl=>⟨h,hl,Nat.le_refl _⟩
 | f+1,s,l,h,hl=>by
  have hx:∀y:Bs,y.length≤20000→∀x∈l++[y],x.length≤20000:=fun y hy x hm=>by
   rcases List.mem_append.1 hm with z | z
   ·exact hl x z
   ·rw[List.mem_singleton.1 z];exact hy
  rw[pathL]
  split
  ·split
   ·obtain⟨a1,a2,a3⟩:=tl_pathL f _ (l++[Lib.itoa (token (next s)).n]) (zaU (zaU h)) (hx _ (by
     have q:=(tl_token (zaU h)).2
     have:=Lib.itoa_length_le _ q.1 q.2
     omega))
    exact⟨a1,a2,Nat.le_trans a3 (by rw[List.length_append,List.length_singleton];omega)⟩
   ·obtain⟨a1,a2,a3⟩:=tl_pathL f _ (l++[nameT [] (next s)]) (zbW (zaU h) _) (hx _ (tl_nameT (zaU h) _))
    exact⟨a1,a2,Nat.le_trans a3 (by rw[List.length_append,List.length_singleton];omega)⟩
  ·exact⟨h,hl,Nat.le_add_right _ _⟩
theorem tl_path {s:S} (h:TL s):TL (path s).1∧(join [46] (path s).2).length≤500000000:=by
 obtain⟨a1,a2,a3⟩:=tl_pathL (name [] s).rest.length (name [] s) [nameT [] s] (zbW h _) (fun x hx=>by rw[List.mem_singleton.1 hx];exact tl_nameT h _)
 refine⟨a1,?_⟩
 have h1:=join_len [46] (by decide) (path s).2 a2
 have h2:(path s).2.length≤20001:=by
  have:=(zbW h []).len
  have a4:(path s).2.length≤1+(name [] s).rest.length:=a3
  omega
 have h3:(path s).2.length*20001≤20001*20001:=Nat.mul_le_mul_right _ h2
 omega
theorem tl_primary {ors:S→S} (hp:∀s,TL s→TL (ors s)) (s:S) (h:TL s):TL (zaQ ors s):=by
 have hl:∀s (e:Unit) (m:Nat),TL s→True→TL (listP ors s e).1∧True:=fun s _ _ h _=>⟨hp s h,trivial⟩
 have hf:∀s (l:List Bs) (m:Nat),TL s→(l.length=m∧∀x∈l,x.length≤20000)→TL (fieldP ors s l).1∧((fieldP ors s l).2.length=m+1∧∀x∈(fieldP ors s l).2,x.length≤20000):=fun s l m h hi=>by
  refine⟨hp _ (zbM (zbW h _) _),?_,fun x hx=>?_⟩
  ·show(l++[nameT l s]).length=m+1
   rw[List.length_append,List.length_singleton,hi.1]
  ·rcases List.mem_append.1 (show x∈l++[nameT l s] from hx) with z | z
   ·exact hi.2 x z
   ·rw[List.mem_singleton.1 z];exact tl_nameT h _
 unfold zaQ
 split
 ·exact tl_add (zaU h) ⟨Nat.zero_le _,tl_nextN h⟩
 split
 ·exact tl_add (zaU h) ⟨by have:=tl_nextT h;show(nextT s).text.length≤_;omega,zr.2⟩
 split
 ·exact tl_add (tl_path h).1 ⟨(tl_path h).2,zr.2⟩
 split
 ·exact tl_add (zaU h) zr
 split
 ·exact tl_add (zaU h) zr
 split
 ·exact tl_add (zaU h) zr
 split
 ·exact tl_nest (fun s h=>zbM (hp s h) _) s h
 split
 ·refine tl_nest (fun s h=>?_) s h
  obtain⟨a1,a2,_⟩:=tl_till (fun _ (_:Unit)=>True) [93] hl s () h trivial
  refine tl_add a1 ⟨Nat.zero_le _,?_⟩
  show -9223372036854775808≤(((zaG [93] (listP ors) s ()).2.2:Nat):Int)∧(((zaG [93] (listP ors) s ()).2.2:Nat):Int)≤9223372036854775807
  omega
 split
 ·refine tl_nest (fun s h=>?_) s h
  obtain⟨a1,hk,a2,a3⟩:=tl_till (fun m (l:List Bs)=>l.length=m∧∀x∈l,x.length≤20000) [125] hf s [] h ⟨rfl,fun x hx=>by cases hx⟩
  have h1:=join_len [44] (by decide) _ a3
  have h3:(zaG [125] (fieldP ors) s []).2.1.length*20001≤20001*20001:=Nat.mul_le_mul_right _ (by omega)
  refine tl_add a1 ⟨?_,?_⟩
  ·show(join [44] (zaG [125] (fieldP ors) s []).2.1).length≤_
   omega
  ·show -9223372036854775808≤(((zaG [125] (fieldP ors) s []).2.2:Nat):Int)∧(((zaG [125] (fieldP ors) s []).2.2:Nat):Int)≤9223372036854775807
   omega
 ·exact tl_fail h _
theorem tl_ors:∀(n:Nat) (s:S),TL s→TL (ors n s)
 | 0,_,h=>h
 | n+1,s,h=>by
  have h1:=tl_primary (tl_ors n)
  have h2:∀s,TL s→TL (signed (ors n) s):=fun s h=>tl_signeds h1 _ s h
  have h3:∀s,TL s→TL (product (ors n) s):=fun s h=>tl_row h2 s h
  have h4:∀s,TL s→TL (sum (ors n) s):=fun s h=>tl_row h3 s h
  have h5:∀s,TL s→TL (not (ors n) s):=fun s h=>tl_nots (tl_comparison h4) _ s h
  have h6:∀s,TL s→TL (ands (ors n) s):=fun s h=>tl_row h5 s h
  exact tl_row h6 s h
theorem tl_expr {s:S} (h:TL s):TL (exprS s):=tl_ors 20001 _ ⟨h.len,h.toks,fun p q=>by cases q⟩
def EL (l:List Sp):Prop:=∀p∈l,p.text.length≤500000000∧(-9223372036854775808≤p.n∧p.n≤9223372036854775807)
theorem tl_where {s:S} (h:TL s):TL (whereS s)∧EL (whereE s):=by
 unfold whereS whereE
 split
 ·exact⟨tl_expr (zaU h),(tl_expr (zaU h)).steps⟩
 ·exact⟨h,fun p q=>by cases q⟩
def IL (l:List It):Prop:=∀i∈l,EL i.expr
theorem il_snoc {l:List It} {i:It} (h:IL l) (hi:EL i.expr):IL (l++[i]):=fun j hj=>by
 rcases List.mem_append.1 hj with z | z
 ·exact h j z
 ·rw[List.mem_singleton.1 z];exact hi
theorem tl_upd (s:S) (l:List It) (_:Nat) (h:TL s) (hi:IL l):TL (updP s l).1∧IL (updP s l).2:=by
 have h1:=tl_expr (zbM (zbW h (l.map It.name)) [[61]])
 exact⟨h1,il_snoc hi h1.steps⟩
theorem tl_sel (s:S) (l:List It) (_:Nat) (h:TL s) (hi:IL l):TL (selP s l).1∧IL (selP s l).2:=by
 have h1:=tl_expr h
 exact⟨zbW (zbM h1 _) _,il_snoc hi h1.steps⟩
theorem il_nil:IL []:=fun i q=>by cases q
theorem el_nil:EL []:=fun p q=>by cases q
structure XL (x:St):Prop where
 items:IL x.items
 expr:EL x.expr
theorem tl_items {s:S} (h:TL s):TL (itemsS s)∧IL (itemsX s):=by
 unfold itemsS itemsX
 split
 ·exact⟨zaU h,il_nil⟩
 ·obtain⟨a1,_,a2⟩:=tl_parts (fun _ l=>IL l) tl_sel s [] h il_nil
  exact⟨a1,a2⟩
theorem tl_hist {s:S} (h:TL s):TL (histS s):=by
 unfold histS
 split
 ·exact zbM (zaU h) _
 ·exact h
theorem tl_from {s:S} (h:TL s):TL (fromS s):=by
 unfold fromS
 split
 ·exact zbM (zbW (tl_hist h) _) _
 ·exact zbW (tl_hist h) _
theorem xl_insert {s:S} (h:TL s):XL (insertX s):=by
 have h1:TL (zdG s):=tl_expr (zbW (zbM h _) _)
 exact⟨il_nil,h1.steps⟩
theorem xl_update {s:S} (h:TL s):XL (zcH s):=by
 have hR:TL (zcI s).1∧IL (zcI s).2.1:=by
  unfold zcI
  have hm:=zbM (zbW h []) [[83,69,84]]
  generalize must [[83,69,84]] (name [] s)=m at hm
  obtain⟨a1,_,a2⟩:=tl_parts (fun _ l=>IL l) tl_upd m [] hm il_nil
  exact⟨a1,a2⟩
 unfold zcH
 generalize zcI s=R at hR
 exact⟨hR.2,(tl_where hR.1).2⟩
theorem xl_delete {s:S} (h:TL s):XL (deleteX s):=by
 have h1:=zbW (zbM h [[70,82,79,77]]) []
 exact⟨il_nil,(tl_where h1).2⟩
theorem xl_select {s:S} (h:TL s):XL (zaO s):=by
 have h1:TL (zaS s):=zbM (tl_items h).1 _
 have h2:=tl_from h1
 exact⟨(tl_items h).2,(tl_where h2).2⟩
theorem xl_create (s:S):XL (zbU s):=by
 unfold zbU
 split<;>exact⟨il_nil,el_nil⟩
theorem xl_stmt {s:S} (h:TL s):XL (stmtX s):=by
 have hm:=zbM h stmtK
 unfold stmtX
 generalize must stmtK s=m at hm
 split
 ·exact xl_create m
 split
 ·exact xl_insert hm
 split
 ·exact xl_update hm
 split
 ·exact xl_delete hm
 split
 ·exact xl_select hm
 ·exact⟨il_nil,el_nil⟩
end Ps
end Go.Proofs.YtfhkaffakniioaaGreatDoor
