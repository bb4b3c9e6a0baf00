/- Several texts, joined. -/
import Derived.Test.YtfhkaffakniioaaGreatDoorQ33M
import Derived.Test.YtfhkaffakniioaaGreatDoorQ18M
import Derived.Deep.QuietTactic
set_option maxHeartbeats 16000000
set_option maxRecDepth 100000
namespace Go.Proofs.YtfhkaffakniioaaGreatDoor
open Go.RowKit
namespace Ps
def Itm (W:World) (a:Option Addr) (l:List It):Prop:=∀(j:Nat) (i:It),l[j]?=some i→∃g o ea ec,a=some ⟨g,o,none⟩∧W.cell? ⟨g,o+j*2,none⟩=some (.string (Lx.bs i.name))∧W.cell? ⟨g,o+j*2+1,none⟩=some (.slice ea i.expr.length ec)∧Sts W ea i.expr
theorem Itm.call {W W':World} {a:Option Addr} {l:List It} (h:Itm W a l) (hb:Below W.heap.size W W'):Itm W' a l:=fun j p hp=>by
 obtain⟨g,o,ea,ec,e,c0,c1,hs⟩:=h j p hp
 exact⟨g,o,ea,ec,e,(hb.cell (p:=⟨g,o+j*2,none⟩) (block_lt_of_cell c0)).trans c0,(hb.cell (p:=⟨g,o+j*2+1,none⟩) (block_lt_of_cell c1)).trans c1,hs.call hb⟩
theorem Itm.nil (W:World) (a:Option Addr):Itm W a []:=fun j p h=>by simp at h
def fitE (l:List Sp):Prop:=l.length≤9223372036854775807∧∀p∈l,fitS p
def itsL (l:List It):Bool:=l.all fun i=>rightE i.expr
theorem its_step {l:List It} {j:Nat} {i:It} (hp:l[j]?=some i):itsL (l.drop j)=(rightE i.expr && itsL (l.drop (j+1))):=by
 have hj:=(List.getElem?_eq_some_iff.1 hp).1
 have e1:l.drop j=i :: l.drop (j+1):=by
  rw[List.drop_eq_getElem_cons hj]
  congr 1
  exact(List.getElem?_eq_some_iff.1 hp).2
 rw[e1]
 rfl
theorem rightItems_c (l:List It) (a:Option Addr) (n c:Nat) (w:World) (hn:n=l.length) (hb:n≤9223372036854775807) (hr:Itm w a l) (hf:∀i∈l,fitE i.expr) (hL:HasL w):Calls Tryz.prog 63 #[.slice a n c] w fun e w'=>e=.returned (.bool (zaK l))∧Below w.heap.size w w':=by
 obtain⟨i0,hi,hz0,hz1,hz2⟩:=zaJ zbE
 by_cases h64:n≤64
 ·have q9:¬(64:Int)<(n:Int):=by omega
  have HQ:Hid (zaK l=(itsL l && areNs [] (l.map It.name))):=by show _=_;rw[zaK,decide_eq_true (by omega)];rfl
  have HS:Hid (Itm w a l∧n=l.length∧n≤64∧∀i∈l,fitE i.expr):=⟨hr,hn,h64,hf⟩
  have CR:Hid (∀(i:It) ea ec W,fitE i.expr→Sts W ea i.expr→Below w.heap.size w W→Calls Tryz.prog 16 #[.slice ea i.expr.length ec] W fun e w'=>e=.returned (.bool (rightE i.expr))∧Below W.heap.size W w'):=fun i ea ec W hp hs hW=>right_c i.expr ea _ ec W rfl hp.1 hs hp.2 (hL.stays hW)
  have CA:Hid (∀(m:List Bs) x k cc W,k=m.length→k≤100000→k≤cc→SR W x m→Below w.heap.size w W→Calls Tryz.prog 88 #[.slice x k cc] W fun e w'=>e=.returned (.bool (areNs [] m))∧Below W.heap.size W w'):=fun m x k cc W h1 h2 h3 h4 hW=>areNames_c m x k cc W h1 h2 h3 h4 (hL.stays hW)
  clear hr hn hL hf h64 hb
  go_enter Tryz.func63,Tryz.ntmps63
  go_wp2
  clear q9
  go_loopw [3,11] (fun v i wr=>∃j:Nat,j≤n∧i=.int .i64 j∧Hid (itsL l=itsL (l.drop j)∧Below w.heap.size w wr∧OwnT wr w.heap.size v ((l.take j).map It.name))) (fun _ i _=>n - (intOf i).toNat)
  case atStart=>exact⟨0,Nat.zero_le _,rfl,rfl,Below.refl _ _,rfl,.inl ⟨rfl,rfl⟩⟩
  case round =>
   obtain⟨j,hj,rfl,HI⟩:=hrel
   obtain⟨nl,hnl⟩:∃nl,nl=(l.take j).map It.name:=⟨_,rfl⟩
   rw[←hnl] at HI
   obtain⟨na,nc,hnv⟩:=HI.out.2.2.form
   obtain⟨k,hk⟩:∃k,k=nl.length:=⟨_,rfl⟩
   rw[←hk] at hnv
   have HK:Hid (k=nl.length∧k=j∧nl=(l.take j).map It.name):=⟨hk,by rw[hk,hnl,List.length_map,List.length_take];have:=HS.out;omega,hnl⟩
   subst hnv
   clear hk hnl
   have HI2:Hid (itsL l=itsL (l.drop j)∧Below w.heap.size w wr∧wr.ownsRow w.heap.size 9 1 (.slice na k nc) k (nl.map fun x=>Value.string (Lx.bs x))):=⟨HI.out.1,HI.out.2.1,by have:=HI.out.2.2;unfold OwnT at this;rw[←HK.out.1] at this;exact this⟩
   by_cases hlt:j<n
   ·have q0:(j:Int)<(n:Int):=by omega
    have q1:(0:Int)≤(j:Int):=by omega
    obtain⟨i,hi2⟩:∃i,l[j]?=some i:=⟨_,List.getElem?_eq_getElem (by have:=HS.out;omega)⟩
    obtain⟨g,o,ea,ec,rfl,c0,c1,hsts⟩:=(HS.out.1.call HI.out.2.1) j i hi2
    have HP:Hid (fitE i.expr∧itsL l=(rightE i.expr && itsL (l.drop (j+1)))∧j<n∧(l.take (j+1)).map It.name=nl++[i.name]∧Sts wr ea i.expr):=⟨HS.out.2.2.2 i (List.mem_of_getElem? hi2),by rw[HI.out.1];exact its_step hi2,hlt,by rw[HK.out.2.2,List.take_add_one,hi2];simp,hsts⟩
    obtain⟨w1,hw1⟩:∃w1,w1=wr.alloc (.cells #[.string (Lx.bs i.name),.slice ea i.expr.length ec] 43):=⟨_,rfl⟩
    obtain⟨T,hT⟩:∃T,T=wr.heap.size:=⟨_,rfl⟩
    have X1:Hid (w1.heap[T]?=some (.cells #[.string (Lx.bs i.name),.slice ea i.expr.length ec] 43 (0,0))∧Below w.heap.size w w1∧Below wr.heap.size wr w1):=⟨by rw[hw1,hT];exact heap_alloc_new wr _,by rw[hw1];exact HI.out.2.1.alloc HI.out.2.1.size _,by rw[hw1];exact bnew _ _⟩
    have y0:w1.cell? ⟨T,0,none⟩=some (.string (Lx.bs i.name)):=by rw[cell_of_row _ _ _ _ _ _ X1.out.1];rfl
    have y1:w1.cell? ⟨T,1,none⟩=some (.slice ea i.expr.length ec):=by rw[cell_of_row _ _ _ _ _ _ X1.out.1];rfl
    have CR1:=hidp (CR.out i ea ec w1 HP.out.1 (HP.out.2.2.2.2.call X1.out.2.2) X1.out.2.1)
    clear hi2 hlt hj hsts
    go_upto_region 7 with fail
    rw[←hw1,←hT]
    clear hw1 hT c0 c1
    go_wp2_with fail
    refine(CR1.out).mono ?_
    rintro e w2 ⟨rfl,hb2⟩
    have B2:Hid (Below w.heap.size w w2∧Below wr.heap.size wr w2∧w2.heap[T]?=some (.cells #[.string (Lx.bs i.name),.slice ea i.expr.length ec] 43 (0,0))):=⟨X1.out.2.1.trans (hb2.mono X1.out.2.1.size),X1.out.2.2.trans (hb2.mono X1.out.2.2.size),(hb2.block T (row_lt X1.out.1)).trans X1.out.1⟩
    clear hb2 y0 y1 CR1
    have y0:w2.cell? ⟨T,0,none⟩=some (.string (Lx.bs i.name)):=by rw[cell_of_row _ _ _ _ _ _ B2.out.2.2];rfl
    cases hre:rightE i.expr with
    | false =>
     rw[hre] at HP
     have HE:Hid (zaK l=false):=by show _=_;rw[HQ.out,HP.out.2.1];rfl
     clear hre
     go_wp2
     go_ret
     exact⟨by rw[HE.out];rfl,B2.out.1⟩
    | true =>
     rw[hre] at HP
     have HE:Hid (itsL l=itsL (l.drop (j+1))):=by show _=_;rw[HP.out.2.1];rfl
     have O6:Hid (w2.ownsRow w.heap.size 9 1 (.slice na k nc) k (nl.map fun x=>Value.string (Lx.bs x))):=zaT HI2.out.2.2 B2.out.2.1
     have fit63:Hid (k+1≤maxLen):=by show _≤_;have:=HK.out;have:=HS.out;have:=HP.out;unfold maxLen;omega
     have fit47:Hid ((k+1)*16≤140737488355328):=by show _≤_;have:=HK.out;have:=HS.out;have:=HP.out;omega
     obtain⟨j1,hj1⟩:∃j1,j1=j+1:=⟨_,rfl⟩
     have HJ1:Hid (j1=j+1):=hj1
     have HV:Hid (IntKind.i64.wrap ((j:Int)+1)=(j1:Int)∧wrap64 ((j:Int)+1)=(j1:Int)):=wrp (by omega) (by have:=HS.out;have:=HP.out;omega)
     clear hre hj1
     go_wp2_with (at_builtin;refine wpList_append_own _ rfl _ _ 50 rfl w.heap.size 9 i0 (.string ⟨#[]⟩) 1 16 Tryz.underlying50 hi hz0 hz1 hz2 rfl (by decide) _ _ _ rfl (O6.out.alloc _) ⟨w2.heap.size,0,none⟩ 1 1 [.string (Lx.bs i.name)] rfl rfl ?c1 ?c2 fit63.out fit47.out ?c5 ?_)
     case c1 =>
      intro j u hj
      match j,hj with
      | 0,hj=>simp at hj;subst hj;simp[Addr.add]
     case c2=>intro u hu;simp at hu;subst hu;rfl
     case c5=>have h1:=B2.out.1.size;simp;omega
     intro v' w7 hown7 hgrow7 _
     have I7:Hid (Below w.heap.size w w7∧OwnT w7 w.heap.size v' ((l.take j1).map It.name)):=by
      refine⟨?_,?_⟩
      ·have hb3:Below w.heap.size w (w2.alloc (.cells #[.string (Lx.bs i.name)] 9)):=B2.out.1.alloc B2.out.1.size _
       refine hb3.grown hgrow7 hb3.size fun q hq=>?_
       rcases O6.out.2 with ⟨e,_⟩ | ⟨g',cap,cur,e,h1,_⟩
       ·cases e;cases hq
       ·cases e;cases hq;exact h1
      ·rw[HJ1.out,HP.out.2.2.2.1]
       unfold OwnT
       rw[List.length_append,List.length_singleton,←HK.out.1,List.map_append]
       exact hown7
     clear hown7 hgrow7
     obtain⟨v1,v2⟩:=HV.out
     go_wp2
     clear v1 v2
     go_roundw
     case rel=>first | exact⟨j1,by have:=HJ1.out;have:=HP.out;omega,rfl,by rw[HJ1.out];exact HE.out,I7.out.1,I7.out.2⟩ | ((repeat apply Exists.intro);exact⟨⟨j1,by have:=HJ1.out;have:=HP.out;omega,rfl,by rw[HJ1.out];exact HE.out,I7.out.1,I7.out.2⟩,rfl⟩)
     case measure =>
      simp only[intOf]
      have:=HJ1.out
      have:=HP.out
      omega
   ·have q0:¬(j:Int)<(n:Int):=by omega
    have hjn:j=n:=by omega
    have HE:Hid (zaK l=areNs [] nl):=by
     show _=_
     rw[HK.out.2.2,HQ.out,HI.out.1,List.drop_eq_nil_of_le (by have:=HS.out;omega),List.take_of_length_le (by have:=HS.out;omega)]
     rfl
    obtain⟨m,hm⟩:∃m,m=nl:=⟨_,rfl⟩
    have CA1:Hid (Calls Tryz.prog 88 #[.slice na k nc] wr fun e w'=>e=.returned (.bool (areNs [] m))∧Below wr.heap.size wr w'):=by
     obtain⟨e1,e2,e3,e4⟩:=HI.out.2.2.sr
     rw[hm]
     exact CA.out _ na k nc wr e1 (by have:=HK.out;have:=HS.out;omega) e2 e3 HI.out.2.1
    rw[←hm] at HE
    obtain⟨b,hbb⟩:∃b,b=areNs [] m:=⟨_,rfl⟩
    rw[←hbb] at HE CA1
    clear hm hbb hjn hlt hj
    go_wp2_with fail
    refine(CA1.out).mono ?_
    rintro e w3 ⟨rfl,hb3⟩
    have B3:Hid (Below w.heap.size w w3):=HI.out.2.1.trans (hb3.mono HI.out.2.1.size)
    clear hb3 CA1
    go_wp2
    go_ret
    exact⟨by rw[HE.out];rfl,B3.out⟩
 ·have q9:(64:Int)<(n:Int):=by omega
  have HQ:Hid (zaK l=false):=by show _=_;rw[zaK,decide_eq_false (by omega)];rfl
  clear hr hn hL hf h64 hb hi hz0 hz1 hz2
  go_enter Tryz.func63,Tryz.ntmps63
  go_wp2
  go_ret
  exact⟨by rw[HQ.out];rfl,Below.refl _ _⟩
structure FitX (x:St):Prop where
 items:x.items.length≤9223372036854775807∧∀i∈x.items,fitE i.expr
 expr:fitE x.expr
structure StM (W:World) (ia ea:Option Addr) (x:St):Prop where
 its:Itm W ia x.items
 exp:Sts W ea x.expr
theorem StM.call {W W':World} {ia ea:Option Addr} {x:St} (h:StM W ia ea x) (hb:Below W.heap.size W W'):StM W' ia ea x:=⟨h.its.call hb,h.exp.call hb⟩
theorem rightStmt_c (x:St) (ia ea:Option Addr) (ic ec:Nat) (w:World) (hx:FitX x) (hm:StM w ia ea x) (hL:HasL w):Calls Tryz.prog 34 #[.agg #[.int .u8 (x.kind:Int),.string (Lx.bs x.table),.string (Lx.bs x.field),.slice ia x.items.length ic,.slice ea x.expr.length ec,.bool x.history,.bool x.desc]] w fun e w'=>e=.returned (.bool (rightX x))∧Below w.heap.size w w':=by
 obtain⟨xk,xt,xf,xi,xe,xh,xd⟩:=x
 have CI:Hid (∀(t:Bs) W,Below w.heap.size w W→Calls Tryz.prog 62 #[.string (Lx.bs t)] W fun e w'=>e=.returned (.bool (isNm t))∧Below W.heap.size W w'):=fun t W hW=>isName_c t W (hL.stays hW)
 have CR:Hid (∀W,Below w.heap.size w W→Calls Tryz.prog 16 #[.slice ea xe.length ec] W fun e w'=>e=.returned (.bool (rightE xe))∧Below W.heap.size W w'):=fun W hW=>right_c xe ea _ ec W rfl hx.expr.1 (hm.exp.call hW) hx.expr.2 (hL.stays hW)
 have CC:Hid (∀W,Below w.heap.size w W→Calls Tryz.prog 64 #[.slice ea xe.length ec] W fun e w'=>e=.returned (.bool (rightC xe))∧Below W.heap.size W w'):=fun W hW=>rightC_c xe ea _ ec W rfl hx.expr.1 (hm.exp.call hW) hx.expr.2 (hL.stays hW)
 have CL:Hid (∀W,Below w.heap.size w W→Calls Tryz.prog 18 #[.slice ea xe.length ec] W fun e w'=>e=.returned (.bool (zaM xe))∧Below W.heap.size W w'):=fun W hW=>closedL_c xe ea _ ec W rfl hx.expr.1 (hm.exp.call hW)
 have CT:Hid (∀W,Below w.heap.size w W→Calls Tryz.prog 63 #[.slice ia xi.length ic] W fun e w'=>e=.returned (.bool (zaK xi))∧Below W.heap.size W w'):=fun W hW=>rightItems_c xi ia _ ic W rfl hx.items.1 (hm.its.call hW) hx.items.2 (hL.stays hW)
 clear hx hm hL
 obtain⟨f,hf⟩:∃f,f=decide (xf=[]):=⟨_,rfl⟩
 obtain⟨i,hi⟩:∃i,i=decide (xi=[]):=⟨_,rfl⟩
 obtain⟨e,he⟩:∃e,e=decide (xe=[]):=⟨_,rfl⟩
 obtain⟨b,hb⟩:∃b,b=isNm xt:=⟨_,rfl⟩
 obtain⟨b2,hb2⟩:∃b2,b2=isNm xf:=⟨_,rfl⟩
 obtain⟨r,hr⟩:∃r,r=rightE xe:=⟨_,rfl⟩
 obtain⟨rc,hrc⟩:∃rc,rc=rightC xe:=⟨_,rfl⟩
 obtain⟨cl,hcl⟩:∃cl,cl=zaM xe:=⟨_,rfl⟩
 obtain⟨ri,hri⟩:∃ri,ri=zaK xi:=⟨_,rfl⟩
 obtain⟨ft,hft⟩:∃ft,ft=Lx.bs xf:=⟨_,rfl⟩
 obtain⟨ni,hni⟩:∃ni,ni=xi.length:=⟨_,rfl⟩
 obtain⟨ne,hne⟩:∃ne,ne=xe.length:=⟨_,rfl⟩
 have HF:Hid ((ft.toList==[])=f):=by
  show _=_
  rw[hf,hft,Lx.bs_toList]
  cases xf<;>rfl
 have HI:Hid (((ni:Int)==0)=i):=by
  show _=_
  rw[hi,hni]
  cases xi with
  | nil=>rfl
  | cons p q=>simp;omega
 have HE:Hid (((ne:Int)==0)=e):=by
  show _=_
  rw[he,hne]
  cases xe with
  | nil=>rfl
  | cons p q=>simp;omega
 have HQ:Hid (rightX ⟨xk,xt,xf,xi,xe,xh,xd⟩=(b && (decide (xk=6) || (!xh && !xd)) && (if xk=1 then f && i && e else if xk=2 then b2 && i && e else if xk=3 then f && i && r && cl else if xk=4 then f && !i && ri && rc else if xk=5 then f && i && rc else if xk=6 then (b2 || (f && !xd)) && ri && rc else false))):=by
  show _=_
  rw[hf,hi,he,hb,hb2,hr,hrc,hcl,hri]
  rfl
 have CI1:=hidp (fun W hW=>CI.out xt W hW)
 have CI2:=hidp (fun W hW=>CI.out xf W hW)
 obtain⟨tt,htt⟩:∃tt,tt=Lx.bs xt:=⟨_,rfl⟩
 show Calls Tryz.prog 34 #[.agg #[.int .u8 (xk:Int),.string (Lx.bs xt),.string (Lx.bs xf),.slice ia xi.length ic,.slice ea xe.length ec,.bool xh,.bool xd]] w _
 rw[←hb,←htt] at CI1
 rw[←hb2,←hft] at CI2
 rw[←hne,←hr] at CR
 rw[←hne,←hrc] at CC
 rw[←hne,←hcl] at CL
 rw[←hni,←hri] at CT
 rw[←htt,←hft,←hni,←hne]
 clear hf hi he hb hb2 hr hrc hcl hri hft hni hne htt CI
 obtain⟨w1,hw1⟩:∃w1,w1=w.alloc (.cells #[.int .u8 (xk:Int),.string tt,.string ft,.slice ia ni ic,.slice ea ne ec,.bool xh,.bool xd] 26):=⟨_,rfl⟩
 obtain⟨T,hT⟩:∃T,T=w.heap.size:=⟨_,rfl⟩
 have X1:Hid (w1.heap[T]?=some (.cells #[.int .u8 (xk:Int),.string tt,.string ft,.slice ia ni ic,.slice ea ne ec,.bool xh,.bool xd] 26 (0,0))∧Below w.heap.size w w1):=⟨by rw[hw1,hT];exact heap_alloc_new w _,by rw[hw1];exact bnew _ _⟩
 have y1:w1.cell? ⟨T,1,none⟩=some (.string tt):=by rw[cell_of_row _ _ _ _ _ _ X1.out.1];rfl
 go_enter Tryz.func34,Tryz.ntmps34
 go_upto_region 1 with fail
 rw[←hw1,←hT]
 clear hw1 hT
 go_wp2_with fail
 refine(CI1.out w1 X1.out.2).mono ?_
 rintro en w2 ⟨rfl,hb2⟩
 have X2:Hid (w2.heap[T]?=some (.cells #[.int .u8 (xk:Int),.string tt,.string ft,.slice ia ni ic,.slice ea ne ec,.bool xh,.bool xd] 26 (0,0))∧Below w.heap.size w w2):=⟨(hb2.block T (row_lt X1.out.1)).trans X1.out.1,X1.out.2.trans (hb2.mono X1.out.2.size)⟩
 clear hb2 y1 CI1
 have YS:Hid (∀W:World,W.heap[T]?=w2.heap[T]?→W.cell? ⟨T,0,none⟩=some (.int .u8 (xk:Int))∧W.cell? ⟨T,2,none⟩=some (.string ft)∧W.cell? ⟨T,3,none⟩=some (.slice ia ni ic)∧W.cell? ⟨T,4,none⟩=some (.slice ea ne ec)∧W.cell? ⟨T,5,none⟩=some (.bool xh)∧W.cell? ⟨T,6,none⟩=some (.bool xd)):=fun W hW=>by
  have h:=hW.trans X2.out.1
  exact⟨by rw[cell_of_row _ _ _ _ _ _ h];rfl,by rw[cell_of_row _ _ _ _ _ _ h];rfl,by rw[cell_of_row _ _ _ _ _ _ h];rfl,by rw[cell_of_row _ _ _ _ _ _ h];rfl,by rw[cell_of_row _ _ _ _ _ _ h];rfl,by rw[cell_of_row _ _ _ _ _ _ h];rfl⟩
 have HT:Hid (T<w2.heap.size):=row_lt X2.out.1
 obtain⟨y0,y2,y3,y4,y5,y6⟩:=YS.out w2 rfl
 cases b with
 | false =>
  have HR:Hid (rightX ⟨xk,xt,xf,xi,xe,xh,xd⟩=false):=by show _=_;rw[HQ.out];rfl
  go_wp2
  go_ret
  exact⟨by rw[HR.out];rfl,X2.out.2⟩
 | true =>
  obtain fq:=HF.out
  obtain iq:=HI.out
  obtain eq:=HE.out
  by_cases hk6:xk=6
  ·have k6:((xk:Int)==6)=true:=by rw[hk6];rfl
   have k6':((xk:Int) != 6)=false:=by rw[hk6];rfl
   have k1:((xk:Int)==1)=false:=by rw[hk6];rfl
   have k2:((xk:Int)==2)=false:=by rw[hk6];rfl
   have k3:((xk:Int)==3)=false:=by rw[hk6];rfl
   have k4:((xk:Int)==4)=false:=by rw[hk6];rfl
   have k5:((xk:Int)==5)=false:=by rw[hk6];rfl
   have HQ6:Hid (rightX ⟨xk,xt,xf,xi,xe,xh,xd⟩=((b2 || (f && !xd)) && ri && rc)):=by show _=_;rw[HQ.out];simp[hk6]
   clear hk6
   go_upto_region 3 with fail
   go_upto_region 4 with (first | (go_quiet (fail)) | fail "no way")
   clear fq iq eq
   generalize hwd:w2.drewN _=wd
   have Xd:Hid (Below w2.heap.size w2 wd∧Below w.heap.size w wd):=by rw[←hwd];exact⟨⟨rfl,rfl,rfl,Nat.le_refl _,fun _ _=>rfl⟩,X2.out.2.trans ⟨rfl,rfl,rfl,Nat.le_refl _,fun _ _=>rfl⟩⟩
   clear hwd y0 y2 y3 y4 y5 y6
   obtain⟨y0,y2,y3,y4,y5,y6⟩:=YS.out wd (Xd.out.1.block T HT.out)
   go_wp2_with fail
   refine(CI2.out wd Xd.out.2).mono ?_
   rintro en w3 ⟨rfl,hb3⟩
   have X3:Hid (w3.heap[T]?=w2.heap[T]?∧Below w.heap.size w w3):=⟨(Xd.out.1.trans (hb3.mono Xd.out.1.size)).block T HT.out,Xd.out.2.trans (hb3.mono Xd.out.2.size)⟩
   clear hb3 y0 y2 y3 y4 y5 y6
   obtain⟨y0,y2,y3,y4,y5,y6⟩:=YS.out w3 X3.out.1
   have W3:Hid (T<w3.heap.size):=by show _<_;exact row_lt (X3.out.1.trans X2.out.1)
   have SIX:Hid (∀W,Below w.heap.size w W→Calls Tryz.prog 63 #[.slice ia ni ic] W fun e w'=>e=.returned (.bool ri)∧Below W.heap.size W w'):=CT
   cases hc:(b2 || (f && !xd)) with
   | false =>
    have HR:Hid (rightX ⟨xk,xt,xf,xi,xe,xh,xd⟩=false):=by show _=_;rw[HQ6.out,hc];rfl
    cases b2<;>cases f<;>cases xd<;>first | exact absurd hc (by decide) | (clear hc;go_wp2;go_ret;exact⟨by rw[HR.out];rfl,X3.out.2⟩)
   | true =>
    have HR:Hid (rightX ⟨xk,xt,xf,xi,xe,xh,xd⟩=(ri && rc)):=by show _=_;rw[HQ6.out,hc];rfl
    cases b2<;>cases f<;>cases xd<;>first
     | exact absurd hc (by decide)
     |(clear hc
       go_wp2_with fail
       refine(CT.out w3 X3.out.2).mono ?_
       rintro en w4 ⟨rfl,hb4⟩
       have X4:Hid (w4.heap[T]?=w2.heap[T]?∧Below w.heap.size w w4):=⟨(hb4.block T W3.out).trans X3.out.1,X3.out.2.trans (hb4.mono X3.out.2.size)⟩
       clear hb4 y0 y2 y3 y4 y5 y6
       obtain⟨y0,y2,y3,y4,y5,y6⟩:=YS.out w4 X4.out.1
       cases ri with
       | false =>
        go_wp2
        go_ret
        exact⟨by rw[HR.out];rfl,X4.out.2⟩
       | true =>
        go_wp2_with fail
        refine(CC.out w4 X4.out.2).mono ?_
        rintro en w5 ⟨rfl,hb5⟩
        have X5:Hid (Below w.heap.size w w5):=X4.out.2.trans (hb5.mono X4.out.2.size)
        clear hb5 y0 y2 y3 y4 y5 y6
        go_wp2
        go_ret
        exact⟨by rw[HR.out];first | rfl | (cases rc<;>rfl),X5.out⟩)
  ·have k6:((xk:Int)==6)=false:=by simp;omega
   have k6':((xk:Int) != 6)=true:=by simp;omega
   cases hd:(xh || xd) with
   | true =>
    have HR:Hid (rightX ⟨xk,xt,xf,xi,xe,xh,xd⟩=false):=by show _=_;rw[HQ.out,decide_eq_false hk6];cases xh<;>cases xd<;>first | rfl | cases hd
    cases xh<;>cases xd<;>first | exact absurd hd (by decide) | (clear hd hk6;go_wp2;go_ret;exact⟨by rw[HR.out];rfl,X2.out.2⟩)
   | false =>
    have hxh:xh=false:=by cases xh<;>first | rfl | cases hd
    have hxd:xd=false:=by cases xd<;>first | rfl | (cases xh<;>cases hd)
    subst hxh hxd
    have HQ7:Hid (rightX ⟨xk,xt,xf,xi,xe,false,false⟩=(if xk=1 then f && i && e else if xk=2 then b2 && i && e else if xk=3 then f && i && r && cl else if xk=4 then f && !i && ri && rc else if xk=5 then f && i && rc else false)):=by show _=_;rw[HQ.out];simp[hk6]
    clear hd hk6 HQ
    go_upto_region 3 with fail
    go_upto_region 4 with (first | (go_quiet (fail)) | fail "no way")
    clear fq iq eq k6'
    generalize hwd:w2.drewN _=wd
    have Xd:Hid (Below w2.heap.size w2 wd∧Below w.heap.size w wd):=by rw[←hwd];exact⟨⟨rfl,rfl,rfl,Nat.le_refl _,fun _ _=>rfl⟩,X2.out.2.trans ⟨rfl,rfl,rfl,Nat.le_refl _,fun _ _=>rfl⟩⟩
    clear hwd y0 y2 y3 y4 y5 y6
    obtain⟨y0,y2,y3,y4,y5,y6⟩:=YS.out wd (Xd.out.1.block T HT.out)
    by_cases h1:xk=1
    ·have k1:((xk:Int)==1)=true:=by rw[h1];rfl
     have HR:Hid (rightX ⟨xk,xt,xf,xi,xe,false,false⟩=(f && i && e)):=by show _=_;rw[HQ7.out];simp[h1]
     clear h1 
     cases f<;>cases i<;>(go_wp2;go_ret;exact⟨by rw[HR.out];first | rfl | (cases e<;>rfl),Xd.out.2⟩)
    by_cases h2:xk=2
    ·have k1:((xk:Int)==1)=false:=by simp;omega
     have k2:((xk:Int)==2)=true:=by rw[h2];rfl
     have HR:Hid (rightX ⟨xk,xt,xf,xi,xe,false,false⟩=(b2 && i && e)):=by show _=_;rw[HQ7.out];simp[h2]
     clear h2 h1
     go_wp2_with fail
     refine(CI2.out wd Xd.out.2).mono ?_
     rintro en w3 ⟨rfl,hb9⟩
     have X3:Hid (Below w2.heap.size w2 w3∧Below w.heap.size w w3):=⟨Xd.out.1.trans (hb9.mono Xd.out.1.size),Xd.out.2.trans (hb9.mono Xd.out.2.size)⟩
     clear hb9 y0 y2 y3 y4 y5 y6
     obtain⟨y0,y2,y3,y4,y5,y6⟩:=YS.out w3 (X3.out.1.block T HT.out)
     cases b2<;>cases i<;>(go_wp2;go_ret;exact⟨by rw[HR.out];first | rfl | (cases e<;>rfl),X3.out.2⟩)
    by_cases h3:xk=3
    ·have k1:((xk:Int)==1)=false:=by simp;omega
     have k2:((xk:Int)==2)=false:=by simp;omega
     have k3:((xk:Int)==3)=true:=by rw[h3];rfl
     have HR:Hid (rightX ⟨xk,xt,xf,xi,xe,false,false⟩=(f && i && r && cl)):=by show _=_;rw[HQ7.out];simp[h3]
     clear h3 h1 h2
     cases hc:(f && i) with
     | false =>
      rw[hc] at HR
      cases f<;>cases i<;>first | exact absurd hc (by decide) | (clear hc;go_wp2;go_ret;exact⟨by rw[HR.out];rfl,Xd.out.2⟩)
     | true =>
      rw[hc] at HR
      cases f<;>cases i<;>first
       | exact absurd hc (by decide)
       |(clear hc
         go_wp2_with fail
         refine(CR.out wd Xd.out.2).mono ?_
         rintro en w3 ⟨rfl,hb9⟩
         have X3:Hid (Below w2.heap.size w2 w3∧Below w.heap.size w w3):=⟨Xd.out.1.trans (hb9.mono Xd.out.1.size),Xd.out.2.trans (hb9.mono Xd.out.2.size)⟩
         clear hb9 y0 y2 y3 y4 y5 y6
         obtain⟨y0,y2,y3,y4,y5,y6⟩:=YS.out w3 (X3.out.1.block T HT.out)
         cases r with
         | false =>
          go_wp2
          go_ret
          exact⟨by rw[HR.out];rfl,X3.out.2⟩
         | true =>
          go_wp2_with fail
          refine(CL.out w3 X3.out.2).mono ?_
          rintro en w4 ⟨rfl,hb9⟩
          have X4:Hid (Below w2.heap.size w2 w4∧Below w.heap.size w w4):=⟨X3.out.1.trans (hb9.mono X3.out.1.size),X3.out.2.trans (hb9.mono X3.out.2.size)⟩
          clear hb9 y0 y2 y3 y4 y5 y6
          obtain⟨y0,y2,y3,y4,y5,y6⟩:=YS.out w4 (X4.out.1.block T HT.out)
          go_wp2
          go_ret
          exact⟨by rw[HR.out];first | rfl | (cases cl<;>rfl),X4.out.2⟩)
    by_cases h4:xk=4
    ·have k1:((xk:Int)==1)=false:=by simp;omega
     have k2:((xk:Int)==2)=false:=by simp;omega
     have k3:((xk:Int)==3)=false:=by simp;omega
     have k4:((xk:Int)==4)=true:=by rw[h4];rfl
     have HR:Hid (rightX ⟨xk,xt,xf,xi,xe,false,false⟩=(f && !i && ri && rc)):=by show _=_;rw[HQ7.out];simp[h4]
     clear h4 h1 h2 h3
     cases hc:(f && !i) with
     | false =>
      rw[hc] at HR
      cases f<;>cases i<;>first | exact absurd hc (by decide) | (clear hc;go_wp2;go_ret;exact⟨by rw[HR.out];rfl,Xd.out.2⟩)
     | true =>
      rw[hc] at HR
      cases f<;>cases i<;>first
       | exact absurd hc (by decide)
       |(clear hc
         go_wp2_with fail
         refine(CT.out wd Xd.out.2).mono ?_
         rintro en w3 ⟨rfl,hb9⟩
         have X3:Hid (Below w2.heap.size w2 w3∧Below w.heap.size w w3):=⟨Xd.out.1.trans (hb9.mono Xd.out.1.size),Xd.out.2.trans (hb9.mono Xd.out.2.size)⟩
         clear hb9 y0 y2 y3 y4 y5 y6
         obtain⟨y0,y2,y3,y4,y5,y6⟩:=YS.out w3 (X3.out.1.block T HT.out)
         cases ri with
         | false =>
          go_wp2
          go_ret
          exact⟨by rw[HR.out];rfl,X3.out.2⟩
         | true =>
          go_wp2_with fail
          refine(CC.out w3 X3.out.2).mono ?_
          rintro en w4 ⟨rfl,hb9⟩
          have X4:Hid (Below w2.heap.size w2 w4∧Below w.heap.size w w4):=⟨X3.out.1.trans (hb9.mono X3.out.1.size),X3.out.2.trans (hb9.mono X3.out.2.size)⟩
          clear hb9 y0 y2 y3 y4 y5 y6
          obtain⟨y0,y2,y3,y4,y5,y6⟩:=YS.out w4 (X4.out.1.block T HT.out)
          go_wp2
          go_ret
          exact⟨by rw[HR.out];first | rfl | (cases rc<;>rfl),X4.out.2⟩)
    by_cases h5:xk=5
    ·have k1:((xk:Int)==1)=false:=by simp;omega
     have k2:((xk:Int)==2)=false:=by simp;omega
     have k3:((xk:Int)==3)=false:=by simp;omega
     have k4:((xk:Int)==4)=false:=by simp;omega
     have k5:((xk:Int)==5)=true:=by rw[h5];rfl
     have HR:Hid (rightX ⟨xk,xt,xf,xi,xe,false,false⟩=(f && i && rc)):=by show _=_;rw[HQ7.out];simp[h5]
     clear h5 h1 h2 h3 h4
     cases hc:(f && i) with
     | false =>
      rw[hc] at HR
      cases f<;>cases i<;>first | exact absurd hc (by decide) | (clear hc;go_wp2;go_ret;exact⟨by rw[HR.out];rfl,Xd.out.2⟩)
     | true =>
      rw[hc] at HR
      cases f<;>cases i<;>first
       | exact absurd hc (by decide)
       |(clear hc
         go_wp2_with fail
         refine(CC.out wd Xd.out.2).mono ?_
         rintro en w3 ⟨rfl,hb9⟩
         have X3:Hid (Below w2.heap.size w2 w3∧Below w.heap.size w w3):=⟨Xd.out.1.trans (hb9.mono Xd.out.1.size),Xd.out.2.trans (hb9.mono Xd.out.2.size)⟩
         clear hb9 y0 y2 y3 y4 y5 y6
         obtain⟨y0,y2,y3,y4,y5,y6⟩:=YS.out w3 (X3.out.1.block T HT.out)
         go_wp2
         go_ret
         exact⟨by rw[HR.out];first | rfl | (cases rc<;>rfl),X3.out.2⟩)
    have k1:((xk:Int)==1)=false:=by simp;omega
    have k2:((xk:Int)==2)=false:=by simp;omega
    have k3:((xk:Int)==3)=false:=by simp;omega
    have k4:((xk:Int)==4)=false:=by simp;omega
    have k5:((xk:Int)==5)=false:=by simp;omega
    have HR:Hid (rightX ⟨xk,xt,xf,xi,xe,false,false⟩=false):=by show _=_;rw[HQ7.out,if_neg h1,if_neg h2,if_neg h3,if_neg h4,if_neg h5]
    clear h1 h2 h3 h4 h5
    go_wp2
    go_ret
    exact⟨by rw[HR.out];rfl,Xd.out.2⟩
theorem zdS (x:St) (ia ea:Option Addr) (ic ec:Nat) (w:World) (hx:FitX x) (hm:StM w ia ea x) (hL:HasL w):Calls Tryz.prog 14 #[.agg #[.int .u8 (x.kind:Int),.string (Lx.bs x.table),.string (Lx.bs x.field),.slice ia x.items.length ic,.slice ea x.expr.length ec,.bool x.history,.bool x.desc]] w fun e w'=>e=.returned (.int .i64 (if rightX x=true then 0 else 13))∧Below w.heap.size w w':=by
 obtain⟨w1,hw1⟩:∃w1,w1=w.alloc (.cells #[.int .u8 (x.kind:Int),.string (Lx.bs x.table),.string (Lx.bs x.field),.slice ia x.items.length ic,.slice ea x.expr.length ec,.bool x.history,.bool x.desc] 26):=⟨_,rfl⟩
 obtain⟨T,hT⟩:∃T,T=w.heap.size:=⟨_,rfl⟩
 have X1:Hid (w1.heap[T]?=some (.cells #[.int .u8 (x.kind:Int),.string (Lx.bs x.table),.string (Lx.bs x.field),.slice ia x.items.length ic,.slice ea x.expr.length ec,.bool x.history,.bool x.desc] 26 (0,0))∧Below w.heap.size w w1):=⟨by rw[hw1,hT];exact heap_alloc_new w _,by rw[hw1];exact bnew _ _⟩
 have C:=hidp (rightStmt_c x ia ea ic ec w1 hx (hm.call X1.out.2) (hL.stays X1.out.2))
 have YC:Hid (∀r v,(#[.int .u8 (x.kind:Int),.string (Lx.bs x.table),.string (Lx.bs x.field),.slice ia x.items.length ic,.slice ea x.expr.length ec,.bool x.history,.bool x.desc]:Array Value)[r]?=some v→w1.cell? ⟨T,r,none⟩=some v):=fun r v hv=>by rw[cell_of_row _ _ _ _ _ _ X1.out.1];exact hv
 have y0:=YC.out 0 _ rfl
 have y1:=YC.out 1 _ rfl
 have y2:=YC.out 2 _ rfl
 have y3:=YC.out 3 _ rfl
 have y4:=YC.out 4 _ rfl
 have y5:=YC.out 5 _ rfl
 have y6:=YC.out 6 _ rfl
 obtain⟨b,hb⟩:∃b,b=rightX x:=⟨_,rfl⟩
 rw[←hb] at C ⊢
 clear hb hx hm hL
 go_enter Tryz.func14,Tryz.ntmps14
 go_upto_region 1 with fail
 rw[←hw1,←hT]
 clear hw1 hT
 go_wp2_with fail
 refine(C.out).mono ?_
 rintro e w2 ⟨rfl,hb2⟩
 have X2:Hid (Below w.heap.size w w2):=X1.out.2.trans (hb2.mono X1.out.2.size)
 clear hb2 C y0 y1 y2 y3 y4 y5 y6
 cases b
 ·go_wp2
  go_ret
  exact⟨rfl,X2.out⟩
 ·go_wp2
  go_ret
  exact⟨rfl,X2.out⟩
end Ps
end Go.Proofs.YtfhkaffakniioaaGreatDoor
