/- Several texts, joined. -/
import Derived.Test.YtfhkaffakniioaaGreatDoorPrGM
import Derived.Test.YtfhkaffakniioaaGreatDoorPrQM
set_option maxHeartbeats 8000000
set_option maxRecDepth 100000
namespace Go.Proofs.YtfhkaffakniioaaGreatDoor
open Go.RowKit
namespace Ps
def stc (x:St) (iv ev:Value):Array Value:=#[.int .u8 (x.kind:Int),.string (Lx.bs x.table),.string (Lx.bs x.field),iv,ev,.bool x.history,.bool x.desc]
structure RB (W0 W:World) (pb rb:Nat) (s':S) (w:World):Prop where
 pb:PB W0 W pb s' w
 row:w.heap[rb]?=some (.cells #[.int .u8 0,.string ⟨#[]⟩,.string ⟨#[]⟩,.slice none 0 0,.slice none 0 0,.bool false,.bool false] 26 (0,0))
 le:W.heap.size≤rb
 base:W0.heap.size≤W.heap.size
structure SL (W0 W:World) (pb rb xb:Nat) (s':S) (x:St) (iv ev:Value) (w:World):Prop extends RB W0 W pb rb s' w where
 xrow:w.heap[xb]?=some (.cells (stc x iv ev) 26 (0,0))
 its:Its W0 w W0.heap.size iv x.items
 exp:RowE W0 w ev x.expr
 lt:rb<xb
section
variable {W0 W w w':World} {pb rb xb:Nat} {s' s'':S} {x x':St} {iv ev iv' ev':Value} {ts:List Bs} {C:Array Value} {n:Nat}
theorem PB.kt {W1 W2:World} (h:PB W0 W pb s' W1) (k:PB W0 W1 pb s'' W2):KT [67] W1 W2:=by
 obtain⟨_,p,_⟩:=h
 obtain⟨_,_,q⟩:=k
 exact KT.parser p q
theorem RB.step (h:RB W0 W pb rb s' w) (q:PB W0 w pb s'' w'):RB W0 W pb rb s'' w':=⟨h.pb.trans q,(h.pb.kt q).row h.row (by decide),h.le,h.base⟩
theorem SL.step (h:SL W0 W pb rb xb s' x iv ev w) (q:PB W0 w pb s'' w'):SL W0 W pb rb xb s'' x iv ev w':=⟨h.toRB.step q,(h.pb.kt q).row h.xrow (by decide),h.its.kt (h.pb.kt q) (by decide) (by decide),h.exp.kt (h.pb.kt q) (by decide),h.lt⟩
theorem PB.own {g i:Nat} {us:List Value} {D:Array Value} (h:PB W0 W pb s' w) (hb:W0.heap.size≤W.heap.size) (hr:w.heap[g]?=some (.cells D 26 (0,0))) (hg:W.heap.size≤g):PB W0 W pb s' (w.setCells g i us):=by
 obtain⟨sb',p,k⟩:=h
 have x10:Kp (fun z=>z=pb∨W.heap.size≤z) w (w.setCells g i us):=(zbS _ _ _ _).mono fun z _ e=>.inr (by omega)
 have kx:Kp (fun z=>z=pb∨W.heap.size≤z) W (w.setCells g i us):=zaN (kx_of k) x10
 exact⟨sb',p.kt (X:=W.heap.size) (KT.sets hr) x10 hb (by decide) (by decide),kx.os,kx.tape,kx.output,kx.size,fun z hz q=>kx.block z hz fun y=>y.elim q (by omega)⟩
theorem RB.fin (h:RB W0 W pb rb s' w) (a0 a1 a2 a3 a4 a5 a6:Value):(w.setCells rb 0 [a0,a1,a2,a3,a4,a5,a6]).heap[rb]?=some (.cells #[a0,a1,a2,a3,a4,a5,a6] 26 (0,0))∧PB W0 W pb s' (w.setCells rb 0 [a0,a1,a2,a3,a4,a5,a6])∧KT [26] w (w.setCells rb 0 [a0,a1,a2,a3,a4,a5,a6]):=⟨put7 h.row _ _ _ _ _ _ _,h.pb.own h.base h.row h.le,KT.sets h.row⟩
theorem SL.set (h:SL W0 W pb rb xb s' x iv ev w) {i:Nat} {v:Value} (hc:(stc x iv ev).setIfInBounds i v=stc x' iv' ev') (hi:Its W0 w W0.heap.size iv' x'.items) (he:RowE W0 w ev' x'.expr):SL W0 W pb rb xb s' x' iv' ev' (w.setCell ⟨xb,i,none⟩ v):=by
 have k:KT [26] w (w.setCell ⟨xb,i,none⟩ v):=KT.set h.xrow
 have hlt:=h.lt
 have hle:=h.le
 exact⟨⟨h.pb.own (i:=i) (us:=[v]) h.base h.xrow (by omega),(zbG (by omega)).trans h.row,h.le,h.base⟩,(heap_setCell_same w xb i _ 26 v h.xrow).trans (by rw[hc]),hi.kt k (by decide) (by decide),he.kt k (by decide),h.lt⟩
theorem SL.cells (h:SL W0 W pb rb xb s' x iv ev w):(∀r v,(stc x iv ev)[r]?=some v→w.cell? ⟨xb,r,none⟩=some v)∧(∀r,w.frozen? ⟨xb,r,none⟩=false)∧xb<w.heap.size:=⟨fun r v hv=>by rw[cell_of_row _ _ _ _ _ _ h.xrow];exact hv,fun r=>by simp[World.frozen?,h.xrow],row_lt h.xrow⟩
theorem RB.cells (h:RB W0 W pb rb s' w):(∀r v,(#[.int .u8 0,.string ⟨#[]⟩,.string ⟨#[]⟩,.slice none 0 0,.slice none 0 0,.bool false,.bool false]:Array Value)[r]?=some v→w.cell? ⟨rb,r,none⟩=some v)∧(∀r,w.frozen? ⟨rb,r,none⟩=false)∧rb<w.heap.size:=⟨fun r v hv=>by rw[cell_of_row _ _ _ _ _ _ h.row];exact hv,fun r=>by simp[World.frozen?,h.row],row_lt h.row⟩
theorem SL.fin {ia ea:Option Addr} {ic ec:Nat} (h:SL W0 W pb rb xb s' x (.slice ia x.items.length ic) (.slice ea x.expr.length ec) w):(w.setCells rb 0 (stc x (.slice ia x.items.length ic) (.slice ea x.expr.length ec)).toList).heap[rb]?=some (.cells (stc x (.slice ia x.items.length ic) (.slice ea x.expr.length ec)) 26 (0,0))∧PB W0 W pb s' (w.setCells rb 0 (stc x (.slice ia x.items.length ic) (.slice ea x.expr.length ec)).toList)∧StV W0 (w.setCells rb 0 (stc x (.slice ia x.items.length ic) (.slice ea x.expr.length ec)).toList) (.agg (stc x (.slice ia x.items.length ic) (.slice ea x.expr.length ec))) x:=by
 have f:=h.toRB.fin (.int .u8 (x.kind:Int)) (.string (Lx.bs x.table)) (.string (Lx.bs x.field)) (.slice ia x.items.length ic) (.slice ea x.expr.length ec) (.bool x.history) (.bool x.desc)
 exact⟨f.1,f.2.1,ia,ic,ea,ec,rfl,h.its.kt f.2.2 (by decide) (by decide),h.exp.kt f.2.2 (by decide)⟩
theorem RB.must (h:RB W0 W pb rb s' w) (hC:C=txs ts) (hn:n=ts.length) (hl:ts.length≤1000):Calls Tryz.prog 70 #[.pointer (some ⟨pb,0,none⟩),.slice (some ⟨w.heap.size,0,none⟩) n n] (w.alloc (.cells C 9)) fun e W'=>e=.returned (.string (Lx.bs (mustT ts s')))∧Hid (PB W0 w pb (Ps.must ts s') W'):=by
 obtain⟨_,p,_⟩:=h.pb
 exact must_pb (PB.refl p) hC hn hl
theorem RB.may (h:RB W0 W pb rb s' w) (hC:C=txs ts) (hn:n=ts.length) (hl:ts.length≤1000):Calls Tryz.prog 109 #[.pointer (some ⟨pb,0,none⟩),.slice (some ⟨w.heap.size,0,none⟩) n n] (w.alloc (.cells C 9)) fun e W'=>e=.returned (.bool (is ts s'))∧Hid (PB W0 w pb (Ps.may ts s') W'):=by
 obtain⟨_,p,_⟩:=h.pb
 exact may_pb (PB.refl p) hC hn hl
theorem RB.name (h:RB W0 W pb rb s' w):Calls Tryz.prog 72 #[.pointer (some ⟨pb,0,none⟩),.slice none 0 0] w fun e W'=>e=.returned (.string (Lx.bs (nameT [] s')))∧Hid (PB W0 w pb (Ps.name [] s') W'):=by
 obtain⟨_,p,_⟩:=h.pb
 refine(name_pb (PB.refl p)).mono ?_
 rintro e W' ⟨rfl,q⟩
 exact⟨rfl,q.out.1⟩
theorem RB.expr (h:RB W0 W pb rb s' w) (hO:HasO W0) (hL:HasL W0):Calls Tryz.prog 73 #[.pointer (some ⟨pb,0,none⟩)] w fun e W'=>∃a c,e=.returned (.slice a (exprS s').steps.length c)∧Hid (PB W0 w pb (exprS s') W'∧RowE W0 W' (.slice a (exprS s').steps.length c) (exprS s').steps):=by
 obtain⟨_,p,_⟩:=h.pb
 refine(expr_pb (PB.refl p) hO hL).mono ?_
 rintro e W' ⟨a,c,rfl,q⟩
 exact⟨a,c,rfl,q.out.1,q.out.2.2⟩
theorem RB.wher (h:RB W0 W pb rb s' w) (hO:HasO W0) (hL:HasL W0):Calls Tryz.prog 75 #[.pointer (some ⟨pb,0,none⟩)] w fun e W'=>∃a c,e=.returned (.slice a (whereE s').length c)∧Hid (PB W0 w pb (whereS s') W'∧RowE W0 W' (.slice a (whereE s').length c) (whereE s')):=by
 obtain⟨_,p,_⟩:=h.pb
 refine(where_pb (PB.refl p) hO hL).mono ?_
 rintro e W' ⟨a,c,rfl,q⟩
 exact⟨a,c,rfl,q.out.1,q.out.2.2⟩
theorem RB.items (h:RB W0 W pb rb s' w) (hO:HasO W0) (hL:HasL W0):Calls Tryz.prog 110 #[.pointer (some ⟨pb,0,none⟩)] w fun e W'=>∃a c,e=.returned (.slice a (parts selP s' []).2.1.length c)∧Hid (PB W0 w pb (parts selP s' []).1 W'∧Its W0 W' W0.heap.size (.slice a (parts selP s' []).2.1.length c) (parts selP s' []).2.1):=by
 obtain⟨_,p,_⟩:=h.pb
 exact items_c p hO hL
theorem RB.start {s:S} {sb:Option Nat} (h:PS W0 W pb s sb) (hr:rb=W.heap.size) (hw:w=W.alloc (.cells #[.int .u8 0,.string ⟨#[]⟩,.string ⟨#[]⟩,.slice none 0 0,.slice none 0 0,.bool false,.bool false] 26)):RB W0 W pb rb s w:=by
 have hb:Below W.heap.size W w:=by rw[hw];exact bnew _ _
 exact⟨(PB.refl h).call hb,by rw[hw];exact new_at hr,by omega,h.base_le⟩
theorem SL.start {us:Array Value} (h:RB W0 W pb rb s' w) (hx:xb=w.heap.size) (hw:w'=w.alloc (.cells us 26)) (hu:us=stc x iv ev) (hi:Its W0 w W0.heap.size iv x.items) (he:RowE W0 w ev x.expr):SL W0 W pb rb xb s' x iv ev w':=by
 have hb:Below w.heap.size w w':=by rw[hw];exact bnew _ _
 have hq:PB W0 w pb s' w':=by obtain⟨_,p,_⟩:=h.pb;exact(PB.refl p).call hb
 have hl:=row_lt h.row
 exact⟨h.step hq,by rw[hw,hu];exact new_at hx,hi.kt (h.pb.kt hq) (by decide) (by decide),he.kt (h.pb.kt hq) (by decide),by omega⟩
end
def fitS (p:Sp):Prop:=p.text.length≤4611686018427387904∧(-9223372036854775808≤p.n∧p.n≤9223372036854775807)
def Sts (W:World) (a:Option Addr) (l:List Sp):Prop:=∀(j:Nat) (p:Sp),l[j]?=some p→∃g o,a=some ⟨g,o,none⟩∧W.cell? ⟨g,o+j*3,none⟩=some (.int .u8 (p.kind:Int))∧W.cell? ⟨g,o+j*3+1,none⟩=some (.string (Lx.bs p.text))∧W.cell? ⟨g,o+j*3+2,none⟩=some (.int .i64 p.n)
theorem Sts.call {W W':World} {a:Option Addr} {l:List Sp} (h:Sts W a l) (hb:Below W.heap.size W W'):Sts W' a l:=fun j p hp=>by
 obtain⟨g,o,e,c0,c1,c2⟩:=h j p hp
 exact⟨g,o,e,(hb.cell (p:=⟨g,o+j*3,none⟩) (block_lt_of_cell c0)).trans c0,(hb.cell (p:=⟨g,o+j*3+1,none⟩) (block_lt_of_cell c1)).trans c1,(hb.cell (p:=⟨g,o+j*3+2,none⟩) (block_lt_of_cell c2)).trans c2⟩
theorem Sts.nil (W:World) (a:Option Addr):Sts W a []:=fun j p h=>by simp at h
theorem Sts.block {W W':World} {a:Option Addr} {l:List Sp} (h:Sts W a l) (hb:∀g o,a=some ⟨g,o,none⟩→W'.heap[g]?=W.heap[g]?):Sts W' a l:=fun j p hp=>by
 obtain⟨g,o,e,c0,c1,c2⟩:=h j p hp
 have cl:=fun r=>World.cell?_of_block (w:=W) (w':=W') (a:=⟨g,r,none⟩) (hb g o e)
 exact⟨g,o,e,(cl _).trans c0,(cl _).trans c1,(cl _).trans c2⟩
theorem zcK {l:List Sp} {j:Nat} {p:Sp} (hp:l[j]?=some p) (v:Nat):rightL (l.drop j) v=(zaE p && decide (zaI p≤v) && rightL (l.drop (j+1)) (v+1 - zaI p)):=by
 have hj:=(List.getElem?_eq_some_iff.1 hp).1
 have e1:l.drop j=p :: l.drop (j+1):=by
  rw[List.drop_eq_getElem_cons hj]
  congr 1
  exact(List.getElem?_eq_some_iff.1 hp).2
 rw[e1,rightL]
theorem wsub1 {v t:Nat} (hv:v≤1000) (ht:t≤v):(IntKind.i64.wrap (1 - (t:Int))=1 - (t:Int)∧wrap64 (1 - (t:Int))=1 - (t:Int))∧(IntKind.i64.wrap ((v:Int)+(1 - (t:Int)))=((v+1 - t:Nat):Int)∧wrap64 ((v:Int)+(1 - (t:Int)))=((v+1 - t:Nat):Int)) :=
 ⟨⟨by rw[IntKind.wrap_i64];omega,by unfold wrap64;omega⟩,wrp (by omega) (by omega)⟩
theorem right_c (l:List Sp) (a:Option Addr) (n c:Nat) (w:World) (hn:n=l.length) (hb:n≤9223372036854775807) (hr:Sts w a l) (hf:∀p∈l,fitS p) (hL:HasL w):Calls Tryz.prog 16 #[.slice a n c] w fun e w'=>e=.returned (.bool (rightE l))∧Below w.heap.size w w':=by
 by_cases h128:n≤128
 ·have q9:¬(128:Int)<(n:Int):=by omega
  have HQ:Hid (rightE l=rightL l 0):=by show _=_;rw[rightE,decide_eq_true (by omega)];rfl
  have HS:Hid (Sts w a l∧n=l.length∧n≤128∧∀p∈l,fitS p):=⟨hr,hn,h128,hf⟩
  have CT:Hid (∀(p:Sp) W,fitS p→Below w.heap.size w W→Calls Tryz.prog 11 #[.agg #[.int .u8 (p.kind:Int),.string (Lx.bs p.text),.int .i64 p.n]] W fun e w'=>e=.returned (.tuple #[.int .i64 ((if zaE p=true then zaI p else 0:Nat):Int),.bool (zaE p)])∧Below W.heap.size W w'):=fun p W hp hW=>takesP_c p hp.1 W (hL.stays hW)
  clear hr hn hL hf h128 hb
  go_enter Tryz.func16,Tryz.ntmps16
  go_wp2
  clear q9
  go_loopw [3,13] (fun v i wr=>∃j u:Nat,j≤n∧i=.int .i64 j∧v=.int .i64 u∧u≤j∧rightE l=rightL (l.drop j) u∧Below w.heap.size w wr) (fun _ i _=>n - (intOf i).toNat)
  case atStart=>exact⟨0,0,Nat.zero_le _,rfl,rfl,Nat.le_refl _,HQ.out,Below.refl _ _⟩
  case round =>
   obtain⟨j,u,hj,rfl,rfl,hu,hno,hb⟩:=hrel
   have HI:Hid (j≤n∧u≤j∧rightE l=rightL (l.drop j) u∧Below w.heap.size w wr):=⟨hj,hu,hno,hb⟩
   clear hno hb hu
   by_cases hlt:j<n
   ·have q0:(j:Int)<(n:Int):=by omega
    have q1:(0:Int)≤(j:Int):=by omega
    obtain⟨p,hp⟩:∃p,l[j]?=some p:=⟨_,List.getElem?_eq_getElem (by have:=HS.out;omega)⟩
    obtain⟨g,o,rfl,c0,c1,c2⟩:=(HS.out.1.call HI.out.2.2.2) j p hp
    have HP:Hid (fitS p∧rightE l=(zaE p && decide (zaI p≤u) && rightL (l.drop (j+1)) (u+1 - zaI p))∧j<n):=⟨HS.out.2.2.2 p (List.mem_of_getElem? hp),by rw[HI.out.2.2.1];exact zcK hp u,hlt⟩
    obtain⟨w1,hw1⟩:∃w1,w1=wr.alloc (.cells #[.int .u8 (p.kind:Int),.string (Lx.bs p.text),.int .i64 p.n] 29):=⟨_,rfl⟩
    obtain⟨T,hT⟩:∃T,T=wr.heap.size:=⟨_,rfl⟩
    have X1:Hid (w1.heap[T]?=some (.cells #[.int .u8 (p.kind:Int),.string (Lx.bs p.text),.int .i64 p.n] 29 (0,0))∧Below w.heap.size w w1):=⟨by rw[hw1,hT];exact heap_alloc_new wr _,by rw[hw1];exact HI.out.2.2.2.alloc HI.out.2.2.2.size _⟩
    have y0:w1.cell? ⟨T,0,none⟩=some (.int .u8 (p.kind:Int)):=by rw[cell_of_row _ _ _ _ _ _ X1.out.1];rfl
    have y1:w1.cell? ⟨T,1,none⟩=some (.string (Lx.bs p.text)):=by rw[cell_of_row _ _ _ _ _ _ X1.out.1];rfl
    have y2:w1.cell? ⟨T,2,none⟩=some (.int .i64 p.n):=by rw[cell_of_row _ _ _ _ _ _ X1.out.1];rfl
    have CT1:=hidp (CT.out p w1 HP.out.1 X1.out.2)
    clear hp hlt hj
    go_upto_region 7 with fail
    rw[←hw1,←hT]
    clear hw1 hT c0 c1 c2
    cases hrs:zaE p with
    | false =>
     rw[hrs] at CT1 HP
     have HQ2:Hid (rightE l=false):=by show _=_;rw[HP.out.2.1];rfl
     clear hrs
     go_wp2_with fail
     refine(CT1.out).mono ?_
     rintro e w2 ⟨rfl,hb2⟩
     have B2:Hid (Below w.heap.size w w2):=X1.out.2.trans (hb2.mono X1.out.2.size)
     clear hb2 y0 y1 y2 CT1
     go_wp2
     go_ret
     exact⟨by rw[HQ2.out];rfl,B2.out⟩
    | true =>
     rw[hrs,if_pos rfl] at CT1
     rw[hrs] at HP
     obtain⟨t,ht⟩:∃t,t=zaI p:=⟨_,rfl⟩
     rw[←ht] at CT1 HP
     clear hrs ht
     go_wp2_with fail
     refine(CT1.out).mono ?_
     rintro e w2 ⟨rfl,hb2⟩
     have B2:Hid (Below w.heap.size w w2):=X1.out.2.trans (hb2.mono X1.out.2.size)
     clear hb2 y0 y1 y2 CT1
     by_cases htu:t≤u
     ·have q2:¬(u:Int)<(t:Int):=by omega
      have HQ2:Hid (rightE l=rightL (l.drop (j+1)) (u+1 - t)):=by show _=_;rw[HP.out.2.1,decide_eq_true htu];rfl
      obtain⟨j1,hj1⟩:∃j1,j1=j+1:=⟨_,rfl⟩
      obtain⟨u1,hu1⟩:∃u1,u1=u+1 - t:=⟨_,rfl⟩
      have HJ1:Hid (j1=j+1∧u1≤u+1):=⟨hj1,by omega⟩
      have HVV:=hidp (wsub1 (v:=u) (t:=t) (by have:=HI.out;have:=HS.out;omega) htu)
      have HV:Hid (IntKind.i64.wrap ((j:Int)+1)=(j1:Int)∧wrap64 ((j:Int)+1)=(j1:Int)):=wrp (by omega) (by have:=HS.out;have:=HI.out;omega)
      rw[←hu1] at HQ2 HVV
      rw[←hj1] at HQ2
      clear htu hj1 hu1
      obtain⟨v1,v2⟩:=HV.out
      obtain⟨⟨v3,v4⟩,v5,v6⟩:=HVV.out
      go_wp2
      clear v1 v2 v3 v4 v5 v6
      go_roundw
      case rel=>first | exact⟨j1,u1,by have:=HJ1.out;have:=HP.out;omega,rfl,rfl,by have:=HJ1.out;have:=HI.out;omega,HQ2.out,B2.out⟩ | ((repeat apply Exists.intro);exact⟨⟨j1,u1,by have:=HJ1.out;have:=HP.out;omega,rfl,rfl,by have:=HJ1.out;have:=HI.out;omega,HQ2.out,B2.out⟩,rfl⟩)
      case measure =>
       simp only[intOf]
       have:=HJ1.out
       have:=HP.out
       omega
     ·have q2:(u:Int)<(t:Int):=by omega
      have HQ2:Hid (rightE l=false):=by show _=_;rw[HP.out.2.1,decide_eq_false htu];rfl
      clear htu
      go_wp2
      go_ret
      exact⟨by rw[HQ2.out];rfl,B2.out⟩
   ·have q0:¬(j:Int)<(n:Int):=by omega
    obtain⟨b,hb⟩:∃b,b=decide (u=1):=⟨_,rfl⟩
    have HE:Hid (rightE l=b):=by
     show _=_
     rw[HI.out.2.2.1,List.drop_eq_nil_of_le (by have:=HS.out;omega),rightL,hb]
    have HB:Hid (((u:Int)==1)=b):=by
     show _=_
     rw[hb]
     by_cases h1:u=1
     ·rw[h1];rfl
     ·rw[decide_eq_false h1];simp;omega
    clear hb
    obtain bq:=HB.out
    go_wp2
    go_ret
    exact⟨by rw[HE.out];first | rfl | rw[bq],HI.out.2.2.2⟩
 ·have q9:(128:Int)<(n:Int):=by omega
  have HQ:Hid (rightE l=false):=by show _=_;rw[rightE,decide_eq_false (by omega)];rfl
  clear hr hn hL hf h128 hb
  go_enter Tryz.func16,Tryz.ntmps16
  go_wp2
  go_ret
  exact⟨by rw[HQ.out];rfl,Below.refl _ _⟩
theorem rightC_c (l:List Sp) (a:Option Addr) (n c:Nat) (w:World) (hn:n=l.length) (hb:n≤9223372036854775807) (hr:Sts w a l) (hf:∀p∈l,fitS p) (hL:HasL w):Calls Tryz.prog 64 #[.slice a n c] w fun e w'=>e=.returned (.bool (rightC l))∧Below w.heap.size w w':=by
 have CR:=hidp (right_c l a n c w hn hb hr hf hL)
 by_cases h0:n=0
 ·have q0:((n:Int)==0)=true:=by rw[h0];rfl
  have HQ:Hid (rightC l=true):=by
   show _=_
   have:l=[]:=List.length_eq_zero_iff.1 (by omega)
   rw[this];rfl
  clear hr hn hL hf hb h0
  go_enter Tryz.func64,Tryz.ntmps64
  go_wp2
  go_ret
  exact⟨by rw[HQ.out];rfl,Below.refl _ _⟩
 ·have q0:((n:Int)==0)=false:=by simp;omega
  obtain⟨b,hbb⟩:∃b,b=rightE l:=⟨_,rfl⟩
  have HQ:Hid (rightC l=b):=by
   show _=_
   have:¬l=[]:=fun e=>h0 (by rw[hn,e];rfl)
   rw[rightC,decide_eq_false this,hbb];rfl
  rw[←hbb] at CR
  clear hr hn hL hf hb h0 hbb
  go_enter Tryz.func64,Tryz.ntmps64
  go_wp2_with fail
  refine(CR.out).mono ?_
  rintro e w1 ⟨rfl,hb1⟩
  have B1:=hidp hb1
  clear hb1 CR
  go_wp2
  go_ret
  exact⟨by rw[HQ.out];rfl,B1.out⟩
theorem closedP_c (p:Sp) (w:World):Calls Tryz.prog 38 #[.agg #[.int .u8 (p.kind:Int),.string (Lx.bs p.text),.int .i64 p.n]] w fun e w'=>e=.returned (.bool (decide (p.kind=6)))∧Below w.heap.size w w':=by
 obtain⟨w1,hw1⟩:∃w1,w1=w.alloc (.cells #[.int .u8 (p.kind:Int),.string (Lx.bs p.text),.int .i64 p.n] 29):=⟨_,rfl⟩
 obtain⟨T,hT⟩:∃T,T=w.heap.size:=⟨_,rfl⟩
 have X1:Hid (w1.heap[T]?=some (.cells #[.int .u8 (p.kind:Int),.string (Lx.bs p.text),.int .i64 p.n] 29 (0,0))∧Below w.heap.size w w1):=⟨by rw[hw1,hT];exact heap_alloc_new w _,by rw[hw1];exact bnew _ _⟩
 have y0:w1.cell? ⟨T,0,none⟩=some (.int .u8 (p.kind:Int)):=by rw[cell_of_row _ _ _ _ _ _ X1.out.1];rfl
 obtain⟨b,hb⟩:∃b,b=decide (p.kind=6):=⟨_,rfl⟩
 have HB:Hid (((p.kind:Int)==6)=b):=by
  show _=_
  rw[hb]
  by_cases h1:p.kind=6
  ·rw[h1];rfl
  ·rw[decide_eq_false h1];simp;omega
 rw[←hb]
 clear hb
 obtain bq:=HB.out
 go_enter Tryz.func38,Tryz.ntmps38
 go_upto_region 1 with fail
 rw[←hw1,←hT]
 clear hw1 hT
 go_wp2
 go_ret
 exact⟨by first | rfl | rw[bq],X1.out.2⟩
theorem closed_step {l:List Sp} {j:Nat} {p:Sp} (hp:l[j]?=some p):zaM (l.drop j)=(decide (p.kind≠6) && zaM (l.drop (j+1))):=by
 have hj:=(List.getElem?_eq_some_iff.1 hp).1
 have e1:l.drop j=p :: l.drop (j+1):=by
  rw[List.drop_eq_getElem_cons hj]
  congr 1
  exact(List.getElem?_eq_some_iff.1 hp).2
 rw[e1]
 rfl
theorem closedI_c (l:List Sp) (a:Option Addr) (n c:Nat) (w:World) (hn:n=l.length) (hb:n≤9223372036854775807) (hr:Sts w a l):Calls Tryz.prog 66 #[.slice a n c,.func (.func 38) #[] #[]] w fun e w'=>(∃z:Int,e=.returned (.int .i64 z)∧decide (0≤z)=!(zaM l))∧Below w.heap.size w w':=by
 have HS:Hid (Sts w a l∧n=l.length∧n≤9223372036854775807):=⟨hr,hn,hb⟩
 have CP:Hid (∀(p:Sp) W,Calls Tryz.prog 38 #[.agg #[.int .u8 (p.kind:Int),.string (Lx.bs p.text),.int .i64 p.n]] W fun e w'=>e=.returned (.bool (decide (p.kind=6)))∧Below W.heap.size W w'):=closedP_c
 clear hr hn hb
 go_enter Tryz.func66,Tryz.ntmps66
 go_wp2
 go_loopw [8] (fun i wr=>∃j:Nat,j≤n∧i=.int .i64 j∧zaM l=zaM (l.drop j)∧Below w.heap.size w wr) (fun i _=>n - (intOf i).toNat)
 case atStart=>exact⟨0,Nat.zero_le _,rfl,rfl,Below.refl _ _⟩
 case round =>
  obtain⟨j,hj,rfl,hno,hb⟩:=hrel
  have HI:Hid (j≤n∧zaM l=zaM (l.drop j)∧Below w.heap.size w wr):=⟨hj,hno,hb⟩
  clear hno hb
  by_cases hlt:j<n
  ·have q0:(j:Int)<(n:Int):=by omega
   have q1:(0:Int)≤(j:Int):=by omega
   obtain⟨p,hp⟩:∃p,l[j]?=some p:=⟨_,List.getElem?_eq_getElem (by have:=HS.out;omega)⟩
   obtain⟨g,o,rfl,c0,c1,c2⟩:=(HS.out.1.call HI.out.2.2) j p hp
   have HP:Hid (zaM l=(decide (p.kind≠6) && zaM (l.drop (j+1)))∧j<n):=⟨by rw[HI.out.2.1];exact closed_step hp,hlt⟩
   have CP1:=hidp (CP.out p wr)
   clear hp hlt hj
   by_cases h6:p.kind=6
   ·have HE:Hid (zaM l=false):=by show _=_;rw[HP.out.1,decide_eq_false (by simpa using h6)];rfl
    rw[decide_eq_true h6] at CP1
    clear h6
    go_wp2_with fail
    refine(CP1.out).mono ?_
    rintro e w1 ⟨rfl,hb1⟩
    have B1:Hid (Below w.heap.size w w1):=HI.out.2.2.trans (hb1.mono HI.out.2.2.size)
    clear hb1 CP1 c0 c1 c2
    go_wp2
    go_ret
    exact⟨⟨(j:Int),rfl,by rw[HE.out,decide_eq_true (by omega)];rfl⟩,B1.out⟩
   ·rw[decide_eq_false h6] at CP1
    obtain⟨j1,hj1⟩:∃j1,j1=j+1:=⟨_,rfl⟩
    have HJ1:Hid (j1=j+1):=hj1
    have HE:Hid (zaM l=zaM (l.drop j1)):=by show _=_;rw[HP.out.1,decide_eq_true h6,hj1];rfl
    have HV:Hid (IntKind.i64.wrap ((j:Int)+1)=(j1:Int)∧wrap64 ((j:Int)+1)=(j1:Int)):=wrp (by omega) (by have:=HS.out;have:=HP.out;omega)
    clear h6 hj1
    go_wp2_with fail
    refine(CP1.out).mono ?_
    rintro e w1 ⟨rfl,hb1⟩
    have B1:Hid (Below w.heap.size w w1):=HI.out.2.2.trans (hb1.mono HI.out.2.2.size)
    clear hb1 CP1 c0 c1 c2
    obtain⟨v1,v2⟩:=HV.out
    go_wp2
    clear v1 v2
    go_roundw
    case rel=>first | exact⟨j1,by have:=HJ1.out;have:=HP.out;omega,rfl,HE.out,B1.out⟩ | ((repeat apply Exists.intro);exact⟨⟨j1,by have:=HJ1.out;have:=HP.out;omega,rfl,HE.out,B1.out⟩,rfl⟩)
    case measure =>
     simp only[intOf]
     have:=HJ1.out
     have:=HP.out
     omega
  ·have q0:¬(j:Int)<(n:Int):=by omega
   have HE:Hid (zaM l=true):=by
    show _=_
    rw[HI.out.2.1,List.drop_eq_nil_of_le (by have:=HS.out;omega)]
    rfl
   go_wp2
   go_ret
   exact⟨⟨-1,rfl,by rw[HE.out];rfl⟩,HI.out.2.2⟩
theorem closedL_c (l:List Sp) (a:Option Addr) (n c:Nat) (w:World) (hn:n=l.length) (hb:n≤9223372036854775807) (hr:Sts w a l):Calls Tryz.prog 18 #[.slice a n c] w fun e w'=>e=.returned (.bool (zaM l))∧Below w.heap.size w w':=by
 have CI:=hidp (closedI_c l a n c w hn hb hr)
 have CC:Hid (Calls Tryz.prog 37 #[.slice a n c,.func (.func 38) #[] #[]] w fun e w'=>e=.returned (.bool (!(zaM l)))∧Below w.heap.size w w'):=by
  clear hn hb hr
  go_enter Tryz.func37,Tryz.ntmps37
  go_wp2_with fail
  refine(CI.out).mono ?_
  rintro e w1 ⟨⟨z,rfl,hz⟩,hb1⟩
  have B1:Hid (Below w.heap.size w w1):=hb1
  have HZ:=hidp hz
  clear hb1 CI hz
  go_wp2
  go_ret
  exact⟨by first | rfl | (rw[←HZ.out];rfl),B1.out⟩
 clear hn hb hr CI
 obtain⟨b,hb⟩:∃b,b=zaM l:=⟨_,rfl⟩
 rw[←hb] at CC ⊢
 clear hb
 go_enter Tryz.func18,Tryz.ntmps18
 go_wp2_with fail
 refine(CC.out).mono ?_
 rintro e w1 ⟨rfl,hb1⟩
 have B1:=hidp hb1
 clear hb1 CC
 go_wp2
 go_ret
 exact⟨by cases b<;>rfl,B1.out⟩
end Ps
end Go.Proofs.YtfhkaffakniioaaGreatDoor
