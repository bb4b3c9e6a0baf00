/- Several texts, joined. -/
import Derived.Test.YtfhkaffakniioaaGreatDoorWrDM
set_option maxHeartbeats 8000000
set_option maxRecDepth 100000
namespace Go.Proofs.YtfhkaffakniioaaGreatDoor
open Go.RowKit
namespace Ps
theorem wsub2 {v t:Nat} (hv:v≤1048576) (ht:t≤v):(IntKind.i64.wrap (1 - (t:Int))=1 - (t:Int)∧wrap64 (1 - (t:Int))=1 - (t:Int))∧(IntKind.i64.wrap ((v:Int)+(1 - (t:Int)))=((v+1 - t:Nat):Int)∧wrap64 ((v:Int)+(1 - (t:Int)))=((v+1 - t:Nat):Int)) :=
 ⟨⟨by rw[IntKind.wrap_i64];omega,by unfold wrap64;omega⟩,wrp (by omega) (by omega)⟩
theorem zdJ (l:List Sp) (a:Option Addr) (n c:Nat) (w:World) (hn:n=l.length) (hb:n≤1048576) (hr:Sts w a l) (hf:∀p∈l,p.text.length≤1048576):Calls Tryz.prog 17 #[.slice a n c] w fun e w'=>e=.returned (.bool (rightE l))∧Below w.heap.size w w':=by
 have HS:Hid (Sts w a l∧n=l.length∧n≤1048576∧∀p∈l,p.text.length≤1048576):=⟨hr,hn,hb,hf⟩
 have CT:Hid (∀(p:Sp) W,p.text.length≤1048576→Below w.heap.size w W→Calls Tryz.prog 12 #[.agg #[.int .u8 (p.kind:Int),.string (Lx.bs p.text),.int .i64 p.n]] W fun e w'=>e=.returned (.tuple #[.int .i64 ((if zaE p=true then zaI p else 0:Nat):Int),.bool (zaE p)])∧Below W.heap.size W w'):=fun p W hp _=>rtakes_c p hp W
 obtain⟨R,hR⟩:∃R,R=rightL l 0:=⟨_,rfl⟩
 have HQ:Hid (rightE l=(decide (n≤128) && R)):=by show _=_;rw[rightE,hn,hR]
 have HRR:=hidp hR
 clear hr hn hf hb hR
 go_enter Tryz.func17,Tryz.ntmps17
 go_wp2
 go_loopw [3,10] (fun v i wr=>∃j u:Nat,j≤n∧i=.int .i64 j∧v=.int .i64 u∧u≤j∧R=rightL (l.drop j) u∧Below w.heap.size w wr) (fun _ i _=>n - (intOf i).toNat)
 case atStart=>exact⟨0,0,Nat.zero_le _,rfl,rfl,Nat.le_refl _,HRR.out,Below.refl _ _⟩
 case round =>
  obtain⟨j,u,hj,rfl,rfl,hu,hno,hb⟩:=hrel
  have HI:Hid (j≤n∧u≤j∧R=rightL (l.drop j) u∧Below w.heap.size w wr):=⟨hj,hu,hno,hb⟩
  clear hno hb hu
  by_cases hlt:j<n
  ·have q0:(j:Int)<(n:Int):=by omega
   have q1:(0:Int)≤(j:Int):=by omega
   obtain⟨p,hp⟩:∃p,l[j]?=some p:=⟨_,List.getElem?_eq_getElem (by have:=HS.out;omega)⟩
   obtain⟨g,o,rfl,c0,c1,c2⟩:=(HS.out.1.call HI.out.2.2.2) j p hp
   have HP:Hid (p.text.length≤1048576∧R=(zaE p && decide (zaI p≤u) && rightL (l.drop (j+1)) (u+1 - zaI p))∧j<n):=⟨HS.out.2.2.2 p (List.mem_of_getElem? hp),by rw[HI.out.2.2.1];exact zcK hp u,hlt⟩
   obtain⟨w1,hw1⟩:∃w1,w1=wr.alloc (.cells #[.int .u8 (p.kind:Int),.string (Lx.bs p.text),.int .i64 p.n] 29):=⟨_,rfl⟩
   obtain⟨T,hT⟩:∃T,T=wr.heap.size:=⟨_,rfl⟩
   have X1:Hid (w1.heap[T]?=some (.cells #[.int .u8 (p.kind:Int),.string (Lx.bs p.text),.int .i64 p.n] 29 (0,0))∧Below w.heap.size w w1):=⟨by rw[hw1,hT];exact heap_alloc_new wr _,by rw[hw1];exact HI.out.2.2.2.alloc HI.out.2.2.2.size _⟩
   have y0:w1.cell? ⟨T,0,none⟩=some (.int .u8 (p.kind:Int)):=by rw[cell_of_row _ _ _ _ _ _ X1.out.1];rfl
   have y1:w1.cell? ⟨T,1,none⟩=some (.string (Lx.bs p.text)):=by rw[cell_of_row _ _ _ _ _ _ X1.out.1];rfl
   have y2:w1.cell? ⟨T,2,none⟩=some (.int .i64 p.n):=by rw[cell_of_row _ _ _ _ _ _ X1.out.1];rfl
   have CT1:=hidp (CT.out p w1 HP.out.1 X1.out.2)
   clear hp hlt hj
   go_upto_region 5 with fail
   rw[←hw1,←hT]
   clear hw1 hT c0 c1 c2
   cases hrs:zaE p with
   | false =>
    rw[hrs] at CT1 HP
    have HQ2:Hid (rightE l=false):=by show _=_;rw[HQ.out,HP.out.2.1];simp
    clear hrs
    go_wp2_with fail
    refine(CT1.out).mono ?_
    rintro e w2 ⟨rfl,hb2⟩
    have B2:Hid (Below w.heap.size w w2):=X1.out.2.trans (hb2.mono X1.out.2.size)
    clear hb2 y0 y1 y2 CT1
    go_wp2
    go_ret
    exact⟨by rw[HQ2.out];rfl,B2.out⟩
   | true =>
    rw[hrs,if_pos rfl] at CT1
    rw[hrs] at HP
    obtain⟨t,ht⟩:∃t,t=zaI p:=⟨_,rfl⟩
    rw[←ht] at CT1 HP
    clear hrs ht
    go_wp2_with fail
    refine(CT1.out).mono ?_
    rintro e w2 ⟨rfl,hb2⟩
    have B2:Hid (Below w.heap.size w w2):=X1.out.2.trans (hb2.mono X1.out.2.size)
    clear hb2 y0 y1 y2 CT1
    by_cases htu:t≤u
    ·have q2:¬(u:Int)<(t:Int):=by omega
     have HQ2:Hid (R=rightL (l.drop (j+1)) (u+1 - t)):=by show _=_;rw[HP.out.2.1,decide_eq_true htu];rfl
     obtain⟨j1,hj1⟩:∃j1,j1=j+1:=⟨_,rfl⟩
     obtain⟨u1,hu1⟩:∃u1,u1=u+1 - t:=⟨_,rfl⟩
     have HJ1:Hid (j1=j+1∧u1≤u+1):=⟨hj1,by omega⟩
     have HVV:=hidp (wsub2 (v:=u) (t:=t) (by have:=HI.out;have:=HS.out;omega) htu)
     have HV:Hid (IntKind.i64.wrap ((j:Int)+1)=(j1:Int)∧wrap64 ((j:Int)+1)=(j1:Int)):=wrp (by omega) (by have:=HS.out;have:=HI.out;omega)
     rw[←hu1] at HQ2 HVV
     rw[←hj1] at HQ2
     clear htu hj1 hu1
     obtain⟨v1,v2⟩:=HV.out
     obtain⟨⟨v3,v4⟩,v5,v6⟩:=HVV.out
     go_wp2
     clear v1 v2 v3 v4 v5 v6
     go_roundw
     case rel=>first | exact⟨j1,u1,by have:=HJ1.out;have:=HP.out;omega,rfl,rfl,by have:=HJ1.out;have:=HI.out;omega,HQ2.out,B2.out⟩ | ((repeat apply Exists.intro);exact⟨⟨j1,u1,by have:=HJ1.out;have:=HP.out;omega,rfl,rfl,by have:=HJ1.out;have:=HI.out;omega,HQ2.out,B2.out⟩,rfl⟩)
     case measure =>
      simp only[intOf]
      have:=HJ1.out
      have:=HP.out
      omega
    ·have q2:(u:Int)<(t:Int):=by omega
     have HQ2:Hid (rightE l=false):=by show _=_;rw[HQ.out,HP.out.2.1,decide_eq_false htu];simp
     clear htu
     go_wp2
     go_ret
     exact⟨by rw[HQ2.out];rfl,B2.out⟩
  ·have q0:¬(j:Int)<(n:Int):=by omega
   have HE:Hid (R=decide (u=1)):=by
    show _=_
    rw[HI.out.2.2.1,List.drop_eq_nil_of_le (by have:=HS.out;omega),rightL]
   by_cases h1:u=1
   ·have bq:((u:Int)==1)=true:=by rw[h1];rfl
    rw[decide_eq_true h1] at HE
    clear h1
    by_cases h2:n≤128
    ·have b2:(n:Int)≤128:=by omega
     have HF:Hid (rightE l=true):=by show _=_;rw[HQ.out,HE.out,decide_eq_true h2];rfl
     clear h2
     go_wp2
     go_ret
     exact⟨by rw[HF.out];rfl,HI.out.2.2.2⟩
    ·have b2:¬(n:Int)≤128:=by omega
     have HF:Hid (rightE l=false):=by show _=_;rw[HQ.out,HE.out,decide_eq_false h2];rfl
     clear h2
     go_wp2
     go_ret
     exact⟨by rw[HF.out];rfl,HI.out.2.2.2⟩
   ·have bq:((u:Int)==1)=false:=by rw[beq_eq_false_iff_ne];omega
    rw[decide_eq_false h1] at HE
    have HF:Hid (rightE l=false):=by show _=_;rw[HQ.out,HE.out,Bool.and_false]
    clear h1
    go_wp2
    go_ret
    exact⟨by rw[HF.out];rfl,HI.out.2.2.2⟩
theorem rclosed_c (l:List Sp) (a:Option Addr) (n c:Nat) (w:World) (hn:n=l.length) (hb:n≤1048576) (hr:Sts w a l):Calls Tryz.prog 19 #[.slice a n c] w fun e w'=>e=.returned (.bool (zaM l))∧Below w.heap.size w w':=by
 have HS:Hid (Sts w a l∧n=l.length∧n≤1048576):=⟨hr,hn,hb⟩
 clear hr hn hb
 go_enter Tryz.func19,Tryz.ntmps19
 go_wp2
 go_loopw [7] (fun i wr=>∃j:Nat,j≤n∧i=.int .i64 j∧Hid (zaM l=zaM (l.drop j)∧Below w.heap.size w wr)) (fun i _=>n - (intOf i).toNat)
 case atStart=>exact⟨0,Nat.zero_le _,rfl,rfl,Below.refl _ _⟩
 case round =>
  obtain⟨j,hj,rfl,HI⟩:=hrel
  by_cases hlt:j<n
  ·have q0:(j:Int)<(n:Int):=by omega
   have q1:(0:Int)≤(j:Int):=by omega
   obtain⟨p,hp⟩:∃p,l[j]?=some p:=⟨_,List.getElem?_eq_getElem (by have:=HS.out;omega)⟩
   obtain⟨g,o,rfl,c0,c1,c2⟩:=(HS.out.1.call HI.out.2) j p hp
   have HP:Hid (zaM l=(decide (p.kind≠6) && zaM (l.drop (j+1)))∧j<n):=⟨by rw[HI.out.1];exact closed_step hp,hlt⟩
   obtain⟨w1,hw1⟩:∃w1,w1=wr.alloc (.cells #[.int .u8 (p.kind:Int),.string (Lx.bs p.text),.int .i64 p.n] 29):=⟨_,rfl⟩
   obtain⟨T,hT⟩:∃T,T=wr.heap.size:=⟨_,rfl⟩
   have X1:Hid (w1.heap[T]?=some (.cells #[.int .u8 (p.kind:Int),.string (Lx.bs p.text),.int .i64 p.n] 29 (0,0))∧Below w.heap.size w w1):=⟨by rw[hw1,hT];exact heap_alloc_new wr _,by rw[hw1];exact HI.out.2.alloc HI.out.2.size _⟩
   have y0:w1.cell? ⟨T,0,none⟩=some (.int .u8 (p.kind:Int)):=by rw[cell_of_row _ _ _ _ _ _ X1.out.1];rfl
   obtain⟨j1,hj1⟩:∃j1,j1=j+1:=⟨_,rfl⟩
   have HJ1:=hidp hj1
   have HV:Hid (IntKind.i64.wrap ((j:Int)+1)=(j1:Int)∧wrap64 ((j:Int)+1)=(j1:Int)):=wrp (by omega) (by have:=HS.out;omega)
   clear hp hj hj1
   go_upto_region 4 with fail
   rw[←hw1,←hT]
   clear hw1 hT c0 c1 c2
   by_cases h6:p.kind=6
   ·have q6:((p.kind:Int)==6)=true:=by rw[h6];rfl
    have HE:Hid (zaM l=false):=by show _=_;rw[HP.out.1,decide_eq_false (by simpa using h6)];rfl
    clear h6 hlt
    go_wp2
    go_ret
    exact⟨by rw[HE.out];rfl,X1.out.2⟩
   ·have q6:((p.kind:Int)==6)=false:=by rw[beq_eq_false_iff_ne];omega
    have HE:Hid (zaM l=zaM (l.drop j1)):=by show _=_;rw[HP.out.1,decide_eq_true h6,Bool.true_and,HJ1.out]
    obtain⟨v1,v2⟩:=HV.out
    clear h6 hlt
    go_wp2
    clear v1 v2
    go_roundw
    all_goals first
     |(simp only[intOf];have:=HJ1.out;have:=HP.out.2;omega)
     | exact⟨j1,by have:=HJ1.out;have:=HP.out.2;omega,rfl,HE.out,X1.out.2⟩
     |((repeat apply Exists.intro);exact⟨⟨j1,by have:=HJ1.out;have:=HP.out.2;omega,rfl,HE.out,X1.out.2⟩,rfl⟩)
  ·have q0:¬(j:Int)<(n:Int):=by omega
   have HE:Hid (zaM l=true):=by
    show _=_
    rw[HI.out.1,List.drop_eq_nil_of_le (by have:=HS.out;omega)]
    rfl
   clear hlt hj
   go_wp2
   go_ret
   exact⟨by rw[HE.out];rfl,HI.out.2⟩
def itsN (l:List It):Bool:=l.all fun i=>isNm i.name && rightE i.expr
theorem itsN_step {l:List It} {j:Nat} {i:It} (hp:l[j]?=some i):itsN (l.drop j)=(isNm i.name && rightE i.expr && itsN (l.drop (j+1))):=by
 rw[drop_at'' hp,itsN,List.all_cons,←itsN]
def ritR (l:List It) (least:Nat):Bool:=itsN l && (decide (least≤l.length) && decide (l.length≤64) && !dup [] (l.map It.name))
theorem ritR_its (l:List It) (least:Nat):ritR l least=(decide (least≤l.length) && zaK l):=by
 have h1:itsN l=((l.all fun i=>rightE i.expr) && (l.map It.name).all isNm):=by
  rw[itsN]
  clear least
  induction l with
  | nil=>rfl
  | cons x r ih =>
   rw[List.all_cons,List.all_cons,List.map_cons,List.all_cons,ih]
   cases isNm x.name<;>cases rightE x.expr<;>cases (r.all fun i=>rightE i.expr)<;>cases (r.map It.name).all isNm<;>rfl
 rw[ritR,zaK,areNs_dup,h1]
 cases decide (least≤l.length)<;>cases decide (l.length≤64)<;>cases (l.all fun i=>rightE i.expr)<;>cases (l.map It.name).all isNm<;>cases dup [] (l.map It.name)<;>rfl
theorem ritems_c (l:List It) (a:Option Addr) (n c least:Nat) (w:World) (hn:n=l.length) (hb:n≤1048576) (hr:Itm w a l) (hf:∀i∈l,i.name.length≤1048576∧i.expr.length≤1048576∧∀p∈i.expr,p.text.length≤1048576):Calls Tryz.prog 36 #[.slice a n c,.int .i64 (least:Int)] w fun e w'=>e=.returned (.bool (ritR l least))∧Below w.heap.size w w':=by
 obtain⟨i0,hi,hz0,hz1,hz2⟩:=zaJ zbE
 have HQ:Hid (ritR l least=(itsN l && (decide (least≤n) && decide (n≤64) && !dup [] (l.map It.name)))):=by show _=_;rw[ritR,hn]
 have HS:Hid (Itm w a l∧n=l.length∧n≤1048576∧∀i∈l,i.name.length≤1048576∧i.expr.length≤1048576∧∀p∈i.expr,p.text.length≤1048576):=⟨hr,hn,hb,hf⟩
 have CN:Hid (∀(i:It) W,i.name.length≤1048576→Calls Tryz.prog 35 #[.string (Lx.bs i.name)] W fun e w'=>e=.returned (.bool (isNm i.name))∧Below W.heap.size W w'):=fun i W h=>rname_c i.name h W
 have CR:Hid (∀(i:It) ea ec W,(i.expr.length≤1048576∧∀p∈i.expr,p.text.length≤1048576)→Sts W ea i.expr→Calls Tryz.prog 17 #[.slice ea i.expr.length ec] W fun e w'=>e=.returned (.bool (rightE i.expr))∧Below W.heap.size W w'):=fun i ea ec W hp hs=>zdJ i.expr ea _ ec W rfl hp.1 hs hp.2
 clear hr hn hf hb
 go_enter Tryz.func36,Tryz.ntmps36
 go_wp2
 go_loopw [5,10] (fun v i wr=>∃j:Nat,j≤n∧i=.int .i64 j∧Hid (itsN l=itsN (l.drop j)∧Below w.heap.size w wr∧OwnT wr w.heap.size v ((l.take j).map It.name))) (fun _ i _=>n - (intOf i).toNat)
 case atStart=>exact⟨0,Nat.zero_le _,rfl,rfl,Below.refl _ _,rfl,.inl ⟨rfl,rfl⟩⟩
 case round =>
  obtain⟨j,hj,rfl,HI⟩:=hrel
  obtain⟨nl,hnl⟩:∃nl,nl=(l.take j).map It.name:=⟨_,rfl⟩
  rw[←hnl] at HI
  obtain⟨na,nc,hnv⟩:=HI.out.2.2.form
  obtain⟨k,hk⟩:∃k,k=nl.length:=⟨_,rfl⟩
  rw[←hk] at hnv
  have HK:Hid (k=nl.length∧k=j∧nl=(l.take j).map It.name):=⟨hk,by rw[hk,hnl,List.length_map,List.length_take];have:=HS.out;omega,hnl⟩
  subst hnv
  clear hk hnl
  have HI2:Hid (itsN l=itsN (l.drop j)∧Below w.heap.size w wr∧wr.ownsRow w.heap.size 9 1 (.slice na k nc) k (nl.map fun x=>Value.string (Lx.bs x))):=⟨HI.out.1,HI.out.2.1,by have:=HI.out.2.2;unfold OwnT at this;rw[←HK.out.1] at this;exact this⟩
  by_cases hlt:j<n
  ·have q0:(j:Int)<(n:Int):=by omega
   have q1:(0:Int)≤(j:Int):=by omega
   obtain⟨i,hi2⟩:∃i,l[j]?=some i:=⟨_,List.getElem?_eq_getElem (by have:=HS.out;omega)⟩
   obtain⟨g,o,ea,ec,rfl,c0,c1,hsts⟩:=(HS.out.1.call HI.out.2.1) j i hi2
   have HP:Hid (i.name.length≤1048576∧itsN l=(isNm i.name && rightE i.expr && itsN (l.drop (j+1)))∧j<n∧(l.take (j+1)).map It.name=nl++[i.name]∧i∈l∧Sts wr ea i.expr):=⟨(HS.out.2.2.2 i (List.mem_of_getElem? hi2)).1,by rw[HI.out.1];exact itsN_step hi2,hlt,by rw[HK.out.2.2,List.take_add_one,hi2];simp,List.mem_of_getElem? hi2,hsts⟩
   obtain⟨w1,hw1⟩:∃w1,w1=wr.alloc (.cells #[.string (Lx.bs i.name),.slice ea i.expr.length ec] 43):=⟨_,rfl⟩
   obtain⟨T,hT⟩:∃T,T=wr.heap.size:=⟨_,rfl⟩
   have X1:Hid (w1.heap[T]?=some (.cells #[.string (Lx.bs i.name),.slice ea i.expr.length ec] 43 (0,0))∧Below w.heap.size w w1∧Below wr.heap.size wr w1):=⟨by rw[hw1,hT];exact heap_alloc_new wr _,by rw[hw1];exact HI.out.2.1.alloc HI.out.2.1.size _,by rw[hw1];exact bnew _ _⟩
   have y0:w1.cell? ⟨T,0,none⟩=some (.string (Lx.bs i.name)):=by rw[cell_of_row _ _ _ _ _ _ X1.out.1];rfl
   have y1:w1.cell? ⟨T,1,none⟩=some (.slice ea i.expr.length ec):=by rw[cell_of_row _ _ _ _ _ _ X1.out.1];rfl
   have CN1:=hidp (CN.out i w1 HP.out.1)
   obtain⟨bn,hbn⟩:∃b,b=isNm i.name:=⟨_,rfl⟩
   rw[←hbn] at HP CN1
   clear hi2 hlt hj hsts hbn
   go_upto_region 5 with fail
   rw[←hw1,←hT]
   clear hw1 hT c0 c1
   go_wp2_with fail
   refine(CN1.out).mono ?_
   rintro e w2 ⟨rfl,hb2⟩
   have B1:Hid (Below w.heap.size w w2∧Below wr.heap.size wr w2∧w2.heap[T]?=some (.cells #[.string (Lx.bs i.name),.slice ea i.expr.length ec] 43 (0,0))):=⟨X1.out.2.1.trans (hb2.mono X1.out.2.1.size),X1.out.2.2.trans (hb2.mono X1.out.2.2.size),(hb2.block T (row_lt X1.out.1)).trans X1.out.1⟩
   clear hb2 y0 y1 CN1
   cases bn with
   | false =>
    have HE:Hid (ritR l least=false):=by show _=_;rw[HQ.out,HP.out.2.1];rfl
    go_wp2
    go_ret
    exact⟨by rw[HE.out];rfl,B1.out.1⟩
   | true =>
   have y1:w2.cell? ⟨T,1,none⟩=some (.slice ea i.expr.length ec):=by rw[cell_of_row _ _ _ _ _ _ B1.out.2.2];rfl
   have CR1:=hidp (CR.out i ea ec w2 (HS.out.2.2.2 i (HP.out.2.2.2.2.1)).2 (HP.out.2.2.2.2.2.call B1.out.2.1))
   obtain⟨br,hbr⟩:∃b,b=rightE i.expr:=⟨_,rfl⟩
   rw[←hbr] at HP CR1
   clear hbr
   go_wp2_with fail
   refine(CR1.out).mono ?_
   rintro e w3 ⟨rfl,hb3⟩
   have B2:Hid (Below w.heap.size w w3∧Below wr.heap.size wr w3∧w3.heap[T]?=some (.cells #[.string (Lx.bs i.name),.slice ea i.expr.length ec] 43 (0,0))):=⟨B1.out.1.trans (hb3.mono B1.out.1.size),B1.out.2.1.trans (hb3.mono B1.out.2.1.size),(hb3.block T (row_lt B1.out.2.2)).trans B1.out.2.2⟩
   clear hb3 y1 CR1 B1
   have y0:w3.cell? ⟨T,0,none⟩=some (.string (Lx.bs i.name)):=by rw[cell_of_row _ _ _ _ _ _ B2.out.2.2];rfl
   cases br with
   | false =>
    have HE:Hid (ritR l least=false):=by show _=_;rw[HQ.out,HP.out.2.1];rfl
    go_wp2
    go_ret
    exact⟨by rw[HE.out];rfl,B2.out.1⟩
   | true =>
    have HE:Hid (itsN l=itsN (l.drop (j+1))):=by show _=_;rw[HP.out.2.1];rfl
    have O6:Hid (w3.ownsRow w.heap.size 9 1 (.slice na k nc) k (nl.map fun x=>Value.string (Lx.bs x))):=zaT HI2.out.2.2 B2.out.2.1
    have fit63:Hid (k+1≤maxLen):=by show _≤_;have:=HK.out;have:=HS.out;have:=HP.out;unfold maxLen;omega
    have fit47:Hid ((k+1)*16≤140737488355328):=by show _≤_;have:=HK.out;have:=HS.out;have:=HP.out;omega
    obtain⟨j1,hj1⟩:∃j1,j1=j+1:=⟨_,rfl⟩
    have HJ1:Hid (j1=j+1):=hj1
    have HV:Hid (IntKind.i64.wrap ((j:Int)+1)=(j1:Int)∧wrap64 ((j:Int)+1)=(j1:Int)):=wrp (by omega) (by have:=HS.out;have:=HP.out;omega)
    clear hj1
    go_wp2_with (at_builtin;refine wpList_append_own _ rfl _ _ 50 rfl w.heap.size 9 i0 (.string ⟨#[]⟩) 1 16 Tryz.underlying50 hi hz0 hz1 hz2 rfl (by decide) _ _ _ rfl (O6.out.alloc _) ⟨w3.heap.size,0,none⟩ 1 1 [.string (Lx.bs i.name)] rfl rfl ?c1 ?c2 fit63.out fit47.out ?c5 ?_)
    case c1 =>
     intro j u hj
     match j,hj with
     | 0,hj=>simp at hj;subst hj;simp[Addr.add]
    case c2=>intro u hu;simp at hu;subst hu;rfl
    case c5=>have h1:=B2.out.1.size;simp;omega
    intro v' w7 hown7 hgrow7 _
    have I7:Hid (Below w.heap.size w w7∧OwnT w7 w.heap.size v' ((l.take j1).map It.name)):=by
     refine⟨?_,?_⟩
     ·have hb3:Below w.heap.size w (w3.alloc (.cells #[.string (Lx.bs i.name)] 9)):=B2.out.1.alloc B2.out.1.size _
      refine hb3.grown hgrow7 hb3.size fun q hq=>?_
      rcases O6.out.2 with ⟨e,_⟩ | ⟨g',cap,cur,e,h1,_⟩
      ·cases e;cases hq
      ·cases e;cases hq;exact h1
     ·rw[HJ1.out,HP.out.2.2.2.1]
      unfold OwnT
      rw[List.length_append,List.length_singleton,←HK.out.1,List.map_append]
      exact hown7
    clear hown7 hgrow7
    obtain⟨v1,v2⟩:=HV.out
    go_wp2
    clear v1 v2
    go_roundw
    case rel=>first | exact⟨j1,by have:=HJ1.out;have:=HP.out;omega,rfl,by rw[HJ1.out];exact HE.out,I7.out.1,I7.out.2⟩ | ((repeat apply Exists.intro);exact⟨⟨j1,by have:=HJ1.out;have:=HP.out;omega,rfl,by rw[HJ1.out];exact HE.out,I7.out.1,I7.out.2⟩,rfl⟩)
    case measure =>
     simp only[intOf]
     have:=HJ1.out
     have:=HP.out
     omega
  ·have q0:¬(j:Int)<(n:Int):=by omega
   have hjn:j=n:=by omega
   have HE:Hid (ritR l least=(decide (least≤n) && decide (n≤64) && !dup [] nl)):=by
    show _=_
    rw[HQ.out,HI.out.1,List.drop_eq_nil_of_le (by have:=HS.out;omega),HK.out.2.2,List.take_of_length_le (by have:=HS.out;omega)]
    rfl
   obtain⟨m,hm⟩:∃m,m=nl:=⟨_,rfl⟩
   have CA1:Hid (Calls Tryz.prog 61 #[.slice na k nc] wr fun e w'=>e=.returned (.bool (dup [] m))∧w'=wr):=by
    obtain⟨e1,e2,e3,e4⟩:=HI.out.2.2.sr
    rw[hm]
    exact rtwice_c nl na k nc wr e1 (by have:=HK.out;have:=HS.out;omega) e2 e3
   rw[←hm] at HE
   obtain⟨b,hbb⟩:∃b,b=dup [] m:=⟨_,rfl⟩
   rw[←hbb] at HE CA1
   clear hm hbb hjn hlt hj
   by_cases h1:least≤n
   ·have r1:(least:Int)≤(n:Int):=by omega
    by_cases h2:n≤64
    ·have r2:(n:Int)≤64:=by omega
     rw[decide_eq_true h1,decide_eq_true h2] at HE
     clear h1 h2
     go_wp2_with fail
     refine(CA1.out).mono ?_
     rintro e w3 ⟨rfl,rfl⟩
     go_wp2
     go_ret
     exact⟨by rw[HE.out];rfl,HI.out.2.1⟩
    ·have r2:¬(n:Int)≤64:=by omega
     rw[decide_eq_true h1,decide_eq_false h2] at HE
     clear h1 h2
     go_wp2
     go_ret
     exact⟨by rw[HE.out];rfl,HI.out.2.1⟩
   ·have r1:¬(least:Int)≤(n:Int):=by omega
    rw[decide_eq_false h1] at HE
    clear h1
    go_wp2
    go_ret
    exact⟨by rw[HE.out];rfl,HI.out.2.1⟩
end Ps
end Go.Proofs.YtfhkaffakniioaaGreatDoor
