/- Several texts, joined. -/
import Derived.Test.YtfhkaffakniioaaGreatDoorPrXM
import Derived.Test.YtfhkaffakniioaaGreatDoorQ79M
import Derived.Test.YtfhkaffakniioaaGreatDoorQ51M
set_option maxHeartbeats 8000000
set_option maxRecDepth 100000
namespace Go.Proofs.YtfhkaffakniioaaGreatDoor
open Go.RowKit
namespace Ps
theorem rname_c (t:Bs) (ht:t.length≤1048576) (w:World):Calls Tryz.prog 35 #[.string (Lx.bs t)] w fun e w'=>e=.returned (.bool (isNm t))∧Below w.heap.size w w':=by
 obtain⟨os,hos⟩:∃os,os=Lx.shw 1 t 0:=⟨_,rfl⟩
 have CS:Hid (Calls Tryz.prog 65 #[.agg #[.int .u8 1,.string (Lx.bs t),.int .i64 0,.int .i64 0]] w fun e w'=>e=Lx.shown os∧Below w.heap.size w w'):=by
  rw[hos]
  exact rshow_c 1 t 0 0 ht (by decide) w
 have HN:Hid (isNm t=os.isSome):=by show _=_;rw[isNm,hos]
 rw[HN.out]
 obtain⟨s,hs⟩:∃s,s=Lx.bs t:=⟨_,rfl⟩
 rw[←hs] at CS ⊢
 clear hs hos HN ht
 go_enter Tryz.func35,Tryz.ntmps35
 go_wp2_with fail
 refine(CS.out).mono ?_
 rintro e w1 ⟨rfl,hb1⟩
 have X1:=hidp hb1
 clear hb1 CS
 cases os with
 | none =>
  simp only[Lx.shown]
  go_wp2
  go_ret
  exact⟨rfl,X1.out⟩
 | some q =>
  simp only[Lx.shown]
  go_wp2
  go_ret
  exact⟨rfl,X1.out⟩
def pre (g:Bs):List Bs→List Bs
 | []=>[g]
 | p :: q=>(g++p) :: q
theorem cut_same (c:UInt8) (r:Bs) (g:Bs):pre g (cut c (c :: r))=g :: cut c r:=by
 rw[cut,if_pos rfl,pre,List.append_nil]
theorem cut_other (c:UInt8) {b:UInt8} (h:b≠c) (r:Bs) (g:Bs):pre g (cut c (b :: r))=pre (g++[b]) (cut c r):=by
 rw[cut,if_neg h]
 cases cut c r with
 | nil=>rfl
 | cons p q=>simp[pre]
theorem pre_nil {l:List Bs} (h:l≠[]):pre [] l=l:=by
 cases l with
 | nil=>exact absurd rfl h
 | cons p q=>rfl
theorem cut_few (c:UInt8) (t:Bs):(cut c t).length≤t.length+1:=by
 rw[zbQ]
 have:=List.count_le_length (a:=c) (l:=t)
 omega
theorem seg_more {t:Bs} {f i:Nat} {b:UInt8} (hf:f≤i) (hb:t[i]?=some b):(t.drop f).take (i+1 - f)=(t.drop f).take (i - f)++[b]:=by
 rw[show i+1 - f=(i - f)+1 by omega,List.take_add_one,List.getElem?_drop,show f+(i - f)=i by omega,hb]
 rfl
theorem drop_at' {t:Bs} {i:Nat} {b:UInt8} (hb:t[i]?=some b):t.drop i=b :: t.drop (i+1):=by
 have hi:=(List.getElem?_eq_some_iff.1 hb).1
 rw[List.drop_eq_getElem_cons hi]
 congr 1
 exact(List.getElem?_eq_some_iff.1 hb).2
def CutI (c:UInt8) (t:Bs) (f i:Nat) (out:List Bs):Prop:=(i≤t.length∧f≤i∧cut c t=out++pre ((t.drop f).take (i - f)) (cut c (t.drop i))∧out.length≤i)∨(i=t.length+1∧out=cut c t)
theorem rcut_c (t:Bs) (c:UInt8) (ht:t.length≤1048576) (w:World):Calls Tryz.prog 55 #[.string (Lx.bs t),.int .u8 ((c.toNat:Nat):Int)] w fun e w'=>∃v,e=.returned v∧Hid (Below w.heap.size w w'∧OwnT w' w.heap.size v (cut c t)):=by
 obtain⟨s,hs⟩:∃s,s=Lx.bs t:=⟨_,rfl⟩
 obtain⟨n,hn⟩:∃n,n=t.length:=⟨_,rfl⟩
 have hsz:(s.size:Int)=(n:Int):=by rw[hs,Lx.bs_size,hn]
 have HN:Hid (n=t.length∧n≤1048576):=⟨hn,by rw[hn];exact ht⟩
 obtain⟨cn,hcn⟩:∃cn,cn=c.toNat:=⟨_,rfl⟩
 have HIX:Hid (∀(k:Nat) (x:UInt8),t[k]?=some x→∀wx,(Instr.index 9 (.string s) (.int .i64 (k:Int))).run Tryz.prog wx=.ok (.int .u8 ((x.toNat:Nat):Int)) wx):=fun k x hx wx=>by rw[hs];exact Lx.index_at t k k x rfl hx wx
 have HSL:Hid (∀(f i:Nat),f≤i→i≤n→∀wx,(Instr.slice 9 (.string s) (some (.int .i64 (f:Int))) (some (.int .i64 (i:Int))) none).run Tryz.prog wx=.ok (.string (Lx.bs ((t.drop f).take (i - f)))) wx):=fun f i h1 h2 wx=>by
  rw[run_slice_string wx 9 s .i64 .i64 (f:Int) (i:Int) Tryz.underlying9 (by omega) (by omega) (by omega),hs]
  show Result.ok (Value.string ((ByteArray.mk t.toArray).extract _ _)) wx=_
  rw[ByteArray.extract_mk]
  rfl
 have HC:Hid (∀x:UInt8,((x.toNat:Int)==(cn:Int))=decide (x=c)):=fun x=>by
  rw[hcn]
  by_cases h:x=c
  ·subst h;rw[decide_eq_true rfl];exact beq_self_eq_true _
  ·rw[decide_eq_false h,beq_eq_false_iff_ne]
   intro e
   exact h (UInt8.toNat_inj.1 (by omega))
 obtain⟨i0,hi,hz0,hz1,hz2⟩:=zaJ zbE
 rw[←hs,←hcn]
 clear hs hn hcn ht
 go_enter Tryz.func55,Tryz.ntmps55
 go_wp2
 go_loopw [5,6,7] (fun v f i wr=>∃(fj j:Nat) (out:List Bs),f=.int .i64 fj∧i=.int .i64 j∧j≤n+1∧Hid (CutI c t fj j out∧Below w.heap.size w wr∧OwnT wr w.heap.size v out)) (fun _ _ i _=>n+1 - (intOf i).toNat)
 case atStart=>exact⟨0,0,[],rfl,rfl,Nat.zero_le _,.inl ⟨Nat.zero_le _,Nat.le_refl _,by rw[List.drop_zero,List.nil_append];exact(pre_nil (cut_ne c t)).symm,Nat.le_refl _⟩,Below.refl _ _,rfl,.inl ⟨rfl,rfl⟩⟩
 case round =>
  obtain⟨fj,j,out,rfl,rfl,hj,HI⟩:=hrel
  obtain⟨na,nc,hnv⟩:=HI.out.2.2.form
  obtain⟨k,hk⟩:∃k,k=out.length:=⟨_,rfl⟩
  rw[←hk] at hnv
  subst hnv
  have HK:=hidp hk
  clear hk
  by_cases hle:j≤n
  ·have q0:(j:Int)≤(n:Int):=by omega
   have HCI:Hid (fj≤j∧cut c t=out++pre ((t.drop fj).take (j - fj)) (cut c (t.drop j))∧k≤j):=by
    rcases HI.out.1 with h | h
    ·exact⟨h.2.1,h.2.2.1,by rw[HK.out];exact h.2.2.2⟩
    ·have:=HN.out.1;omega
   have O6:Hid (wr.ownsRow w.heap.size 9 1 (.slice na k nc) k (out.map fun x=>Value.string (Lx.bs x))):=by have:=HI.out.2.2;unfold OwnT at this;rw[←HK.out] at this;exact this
   have fit63:Hid (k+1≤maxLen):=by show _≤_;have:=HCI.out.2.2;have:=HN.out;unfold maxLen;omega
   have fit47:Hid ((k+1)*16≤140737488355328):=by show _≤_;have:=HCI.out.2.2;have:=HN.out;omega
   have SL:=HSL.out fj j HCI.out.1 hle
   obtain⟨sg1,hsg⟩:∃z,z=(t.drop fj).take (j - fj):=⟨_,rfl⟩
   rw[←hsg] at SL
   have HSG:=hidp hsg
   obtain⟨j1,hj1⟩:∃j1,j1=j+1:=⟨_,rfl⟩
   have HJ1:=hidp hj1
   have HV:Hid (IntKind.i64.wrap ((j:Int)+1)=(j1:Int)∧wrap64 ((j:Int)+1)=(j1:Int)):=wrp (by omega) (by have:=HN.out;omega)
   have FIN:Hid (∀v' w7,w7.ownsRow w.heap.size 9 1 v' (k+1) (out.map (fun x=>Value.string (Lx.bs x))++[.string (Lx.bs sg1)])→(wr.alloc (.cells #[.string (Lx.bs sg1)] 9)).grownBy w7 (Value.slice na k nc).ownBlock→Below w.heap.size w w7∧OwnT w7 w.heap.size v' (out++[sg1])):=fun v' w7 hown hg=>by
    refine⟨?_,?_⟩
    ·have hb3:Below w.heap.size w (wr.alloc (.cells #[.string (Lx.bs sg1)] 9)):=HI.out.2.1.alloc HI.out.2.1.size _
     refine hb3.grown hg hb3.size fun q hq=>?_
     rcases O6.out.2 with ⟨e,_⟩ | ⟨g',cap,cur,e,h1,_⟩
     ·cases e;cases hq
     ·cases e;cases hq;exact h1
    ·unfold OwnT
     rw[List.length_append,List.length_singleton,←HK.out,List.map_append]
     exact hown
   clear hsg hj1 hj
   have HLE:=hidp hle
   by_cases hend:j=n
   ·have qe:((j:Int)==(n:Int))=true:=by rw[hend];exact beq_self_eq_true _
    have HE:Hid (CutI c t j1 j1 (out++[sg1])):=by
     refine .inr ⟨by rw[HJ1.out,hend,HN.out.1],?_⟩
     rw[HCI.out.2.1,←HSG.out,List.drop_of_length_le (by rw[hend,HN.out.1];exact Nat.le_refl _)]
     show _=out++pre sg1 [[]]
     rw[pre,List.append_nil]
    obtain⟨v1,v2⟩:=HV.out
    clear hend hle
    go_wp2_with (at_builtin;refine wpList_append_own _ rfl _ _ 50 rfl w.heap.size 9 i0 (.string ⟨#[]⟩) 1 16 Tryz.underlying50 hi hz0 hz1 hz2 rfl (by decide) _ _ _ rfl (O6.out.alloc _) ⟨wr.heap.size,0,none⟩ 1 1 [.string (Lx.bs sg1)] rfl rfl ?c1 ?c2 fit63.out fit47.out ?c5 ?_)
    case c1 =>
     intro j u hj
     match j,hj with
     | 0,hj=>simp at hj;subst hj;simp[Addr.add]
    case c2=>intro u hu;simp at hu;subst hu;rfl
    case c5=>have h1:=HI.out.2.1.size;simp;omega
    intro v' w7 hown7 hgrow7 _
    have I7:Hid (Below w.heap.size w w7∧OwnT w7 w.heap.size v' (out++[sg1])):=FIN.out v' w7 hown7 hgrow7
    clear hown7 hgrow7
    go_wp2
    clear v1 v2
    go_roundw
    all_goals first
     |(simp only[intOf];have:=HJ1.out;have:=HLE.out;omega)
     | exact⟨j1,j1,_,rfl,rfl,by have:=HJ1.out;have:=HLE.out;omega,HE.out,I7.out.1,I7.out.2⟩
     |((repeat apply Exists.intro);exact⟨⟨j1,j1,_,rfl,rfl,by have:=HJ1.out;have:=HLE.out;omega,HE.out,I7.out.1,I7.out.2⟩,rfl⟩)
   ·have qe:((j:Int)==(n:Int))=false:=by rw[beq_eq_false_iff_ne];omega
    have hjl:j<t.length:=by have:=HN.out.1;omega
    obtain⟨b,hb⟩:∃b,t[j]?=some b:=⟨_,List.getElem?_eq_getElem hjl⟩
    have hix:=HIX.out j b hb
    have hcc:=HC.out b
    obtain⟨bn,hbn⟩:∃bn,bn=b.toNat:=⟨_,rfl⟩
    rw[←hbn] at hix hcc
    by_cases hbc:b=c
    ·rw[decide_eq_true hbc] at hcc
     have HE:Hid (CutI c t j1 j1 (out++[sg1])):=by
      refine .inl ⟨by rw[HJ1.out];omega,Nat.le_refl _,?_,by rw[List.length_append,List.length_singleton,←HK.out,HJ1.out];have:=HCI.out.2.2;omega⟩
      rw[HCI.out.2.1,←HSG.out,drop_at' hb,hbc,cut_same,Nat.sub_self,List.take_zero,pre_nil (cut_ne c _),HJ1.out,List.append_assoc]
      rfl
     obtain⟨v1,v2⟩:=HV.out
     clear hend hle hbn hbc hb hjl
     go_wp2_with (at_builtin;refine wpList_append_own _ rfl _ _ 50 rfl w.heap.size 9 i0 (.string ⟨#[]⟩) 1 16 Tryz.underlying50 hi hz0 hz1 hz2 rfl (by decide) _ _ _ rfl (O6.out.alloc _) ⟨wr.heap.size,0,none⟩ 1 1 [.string (Lx.bs sg1)] rfl rfl ?c1 ?c2 fit63.out fit47.out ?c5 ?_)
     case c1 =>
      intro j u hj
      match j,hj with
      | 0,hj=>simp at hj;subst hj;simp[Addr.add]
     case c2=>intro u hu;simp at hu;subst hu;rfl
     case c5=>have h1:=HI.out.2.1.size;simp;omega
     intro v' w7 hown7 hgrow7 _
     have I7:Hid (Below w.heap.size w w7∧OwnT w7 w.heap.size v' (out++[sg1])):=FIN.out v' w7 hown7 hgrow7
     clear hown7 hgrow7
     go_wp2
     clear v1 v2
     go_roundw
     all_goals first
      |(simp only[intOf];have:=HJ1.out;have:=HLE.out;omega)
      | exact⟨j1,j1,_,rfl,rfl,by have:=HJ1.out;have:=HLE.out;omega,HE.out,I7.out.1,I7.out.2⟩
      |((repeat apply Exists.intro);exact⟨⟨j1,j1,_,rfl,rfl,by have:=HJ1.out;have:=HLE.out;omega,HE.out,I7.out.1,I7.out.2⟩,rfl⟩)
    ·rw[decide_eq_false hbc] at hcc
     have HE:Hid (CutI c t fj j1 out):=by
      refine .inl ⟨by rw[HJ1.out];omega,by rw[HJ1.out];have:=HCI.out.1;omega,?_,by rw[←HK.out,HJ1.out];have:=HCI.out.2.2;omega⟩
      rw[HJ1.out,seg_more HCI.out.1 hb,←HSG.out,HCI.out.2.1,←HSG.out,drop_at' hb,cut_other c hbc]
     obtain⟨v1,v2⟩:=HV.out
     clear hend hle hbn hbc hb hjl SL
     go_wp2
     clear v1 v2
     go_roundw
     all_goals first
      |(simp only[intOf];have:=HJ1.out;have:=HLE.out;omega)
      | exact⟨fj,j1,out,rfl,rfl,by have:=HJ1.out;have:=HLE.out;omega,HE.out,HI.out.2.1,HI.out.2.2⟩
      |((repeat apply Exists.intro);exact⟨⟨fj,j1,out,rfl,rfl,by have:=HJ1.out;have:=HLE.out;omega,HE.out,HI.out.2.1,HI.out.2.2⟩,rfl⟩)
  ·have q0:¬(j:Int)≤(n:Int):=by omega
   have HE:Hid (out=cut c t):=by
    rcases HI.out.1 with h | h
    ·have:=h.1;have:=HN.out.1;omega
    ·exact h.2
   clear hle hj
   go_wp2
   go_ret
   exact⟨_,rfl,HI.out.2.1,by rw[←HE.out];exact HI.out.2.2⟩
def dup:List Bs→List Bs→Bool
 | _,[]=>false
 | d,x :: r=>d.contains x || dup (d++[x]) r
theorem dup_step {l:List Bs} {j:Nat} {x:Bs} (hx:l[j]?=some x):dup (l.take j) (l.drop j)=((l.take j).contains x || dup (l.take (j+1)) (l.drop (j+1))):=by
 have hj:=(List.getElem?_eq_some_iff.1 hx).1
 have e1:l.drop j=x :: l.drop (j+1):=by
  rw[List.drop_eq_getElem_cons hj]
  congr 1
  exact(List.getElem?_eq_some_iff.1 hx).2
 have e2:l.take j++[x]=l.take (j+1):=by rw[List.take_add_one,hx];rfl
 rw[e1,dup,e2]
theorem areNs_dup:∀(l d:List Bs),areNs d l=(l.all isNm && !dup d l)
 | [],_=>rfl
 | x :: r,d=>by
  rw[areNs,areNs_dup r,dup,List.all_cons]
  cases isNm x<;>cases d.contains x<;>cases r.all isNm<;>cases dup (d++[x]) r<;>rfl
theorem drop_at'' {α:Type} {l:List α} {j:Nat} {x:α} (hx:l[j]?=some x):l.drop j=x :: l.drop (j+1):=by
 have hj:=(List.getElem?_eq_some_iff.1 hx).1
 rw[List.drop_eq_getElem_cons hj]
 congr 1
 exact(List.getElem?_eq_some_iff.1 hx).2
theorem rtwice_c (l:List Bs) (a:Option Addr) (n c:Nat) (w:World) (hn:n=l.length) (hl:n≤4000000) (hc:n≤c) (hr:SR w a l):Calls Tryz.prog 61 #[.slice a n c] w fun e w'=>e=.returned (.bool (dup [] l))∧w'=w:=by
 have HS:Hid (SR w a l∧n=l.length∧n≤4000000∧n≤c):=⟨hr,hn,hl,hc⟩
 clear hr hn hl
 go_enter Tryz.func61,Tryz.ntmps61
 go_wp2
 go_loopw [9] (fun v wr=>∃j:Nat,j≤n∧v=.int .i64 j∧wr=w∧dup [] l=dup (l.take j) (l.drop j)) (fun v _=>n - (intOf v).toNat)
 case atStart=>exact⟨0,Nat.zero_le _,rfl,rfl,rfl⟩
 case round =>
  obtain⟨j,hj,rfl,rfl,hno⟩:=hrel
  have HI:Hid (j≤n∧dup [] l=dup (l.take j) (l.drop j)):=⟨hj,hno⟩
  clear hno
  by_cases hlt:j<n
  ·have q0:(j:Int)<(n:Int):=by omega
   have q1:(0:Int)≤(j:Int):=by omega
   obtain⟨x,hx⟩:∃x,l[j]?=some x:=⟨_,List.getElem?_eq_getElem (by have:=HS.out;omega)⟩
   obtain⟨g,o,rfl,c0⟩:=HS.out.1 j x hx
   have HX:Hid (dup [] l=((l.take j).contains x || dup (l.take (j+1)) (l.drop (j+1)))∧j<n):=⟨by rw[HI.out.2];exact dup_step hx,hlt⟩
   have q2:(j:Int)≤(n:Int):=by omega
   have q3:(j:Int)≤(c:Int):=by omega
   obtain⟨sx,hsx⟩:∃sx,sx=Lx.bs x:=⟨_,rfl⟩
   rw[←hsx] at c0
   have HSX:=hidp hsx
   obtain⟨j1,hj1⟩:∃j1,j1=j+1:=⟨_,rfl⟩
   have HJ1:=hidp hj1
   have HV:Hid (IntKind.i64.wrap ((j:Int)+1)=(j1:Int)∧wrap64 ((j:Int)+1)=(j1:Int)):=wrp (by omega) (by have:=HS.out;omega)
   clear hx hlt hj hsx hj1
   obtain⟨w0,hw0⟩:∃w0,w0=wr:=⟨_,rfl⟩
   have HW:=hidp hw0
   rw[←hw0] at c0 HS ⊢
   clear hw0
   go_wp2
   go_loopw [18] (fun v wq=>∃i:Nat,i≤j∧v=.int .i64 i∧wq=w0∧(l.take i).contains x=false) (fun v _=>j - (intOf v).toNat)
   case atStart=>exact⟨0,Nat.zero_le _,rfl,rfl,rfl⟩
   case round =>
    obtain⟨i,hi,rfl,rfl,hno⟩:=hrel
    have HNO:=hidp hno
    clear hno c0
    by_cases hil:i<j
    ·have r0:(i:Int)<(j:Int):=by omega
     have r1:(0:Int)≤(i:Int):=by omega
     obtain⟨y,hy⟩:∃y,l[i]?=some y:=⟨_,List.getElem?_eq_getElem (by have:=HS.out;have:=HX.out.2;omega)⟩
     obtain⟨g',o',e',c1⟩:=HS.out.1 i y hy
     cases e'
     have hcmp:((Lx.bs y).toList==sx.toList)=decide (y=x):=by
      rw[HSX.out,Lx.bs_toList,Lx.bs_toList]
      by_cases h:y=x
      ·rw[h,decide_eq_true rfl];simp
      ·rw[decide_eq_false h];simpa using h
     obtain⟨sy,hsy⟩:∃sy,sy=Lx.bs y:=⟨_,rfl⟩
     rw[←hsy] at c1 hcmp
     obtain⟨i1,hi1⟩:∃i1,i1=i+1:=⟨_,rfl⟩
     have HI1:Hid (i1=i+1∧i<j):=⟨hi1,hil⟩
     have HVI:Hid (IntKind.i64.wrap ((i:Int)+1)=(i1:Int)∧wrap64 ((i:Int)+1)=(i1:Int)):=wrp (by omega) (by have:=HS.out;have:=HX.out.2;omega)
     have HY:=hidp hy
     clear hsy hi1 hil hi
     by_cases hyx:y=x
     ·rw[decide_eq_true hyx] at hcmp
      have HE:Hid (dup [] l=true):=by
       show _=_
       rw[HX.out.1]
       have:(l.take j).contains x=true:=by
        rw[List.contains_iff_mem]
        rw[←hyx]
        refine List.mem_of_getElem? (i:=i) ?_
        rw[List.getElem?_take_of_lt HI1.out.2]
        exact HY.out
       rw[this,Bool.true_or]
      clear hyx
      go_wp2
      go_ret
      exact⟨by rw[HE.out];rfl,HW.out⟩
     ·rw[decide_eq_false hyx] at hcmp
      have HN2:Hid ((l.take i1).contains x=false):=by
       show _=_
       rw[HI1.out.1,List.take_add_one,HY.out,Option.toList_some,←Bool.not_eq_true,List.contains_iff_mem,List.mem_append,List.mem_singleton]
       rintro(h | h)
       ·have:=HNO.out
        rw[←Bool.not_eq_true,List.contains_iff_mem] at this
        exact this h
       ·exact hyx h.symm
      obtain⟨v1,v2⟩:=HVI.out
      clear hyx
      go_wp2
      clear v1 v2
      go_roundw
      all_goals first
       |(simp only[intOf];have:=HI1.out;omega)
       | exact⟨i1,by have:=HI1.out;omega,rfl,trivial,HN2.out⟩
       | exact⟨i1,by have:=HI1.out;omega,rfl,rfl,HN2.out⟩
       |((repeat apply Exists.intro);exact⟨⟨i1,by have:=HI1.out;omega,rfl,rfl,HN2.out⟩,rfl⟩)
    ·have r0:¬(i:Int)<(j:Int):=by omega
     have hij:i=j:=by omega
     have HE:Hid (dup [] l=dup (l.take j1) (l.drop j1)):=by
      show _=_
      have:=HNO.out
      rw[hij] at this
      rw[HX.out.1,this,HJ1.out]
      rfl
     obtain⟨v1,v2⟩:=HV.out
     clear hij hil hi
     go_wp2
     clear v1 v2
     go_roundw
     case measure =>
      simp only[intOf]
      have:=HJ1.out
      have:=HX.out.2
      omega
     case rel =>
      first
       | exact⟨j1,by have:=HJ1.out;have:=HX.out.2;omega,rfl,trivial,HE.out⟩
       | exact⟨j1,by have:=HJ1.out;have:=HX.out.2;omega,rfl,HW.out,HE.out⟩
  ·have q0:¬(j:Int)<(n:Int):=by omega
   have HE:Hid (dup [] l=false):=by
    show _=_
    rw[HI.out.2,List.drop_eq_nil_of_le (by have:=HS.out;omega)]
    rfl
   clear hlt hj
   go_wp2
   go_ret
   exact⟨by rw[HE.out];rfl,rfl⟩
theorem rnames_c (t:Bs) (N:Int) (ht:t.length≤1048576) (w:World):Calls Tryz.prog 33 #[.string (Lx.bs t),.int .i64 N] w fun e w'=>e=.returned (.bool (if N=0 then decide (t=[]) else ((cut 44 t).all isNm && (decide (((cut 44 t).length:Int)=N) && !dup [] (cut 44 t)))))∧Below w.heap.size w w':=by
 by_cases h0:N=0
 ·subst h0
  rw[if_pos rfl]
  have he:(Lx.bs t).toList.isEmpty=decide (t=[]):=by
   rw[Lx.bs_toList]
   cases t with
   | nil=>rfl
   | cons x r=>rw[decide_eq_false (by simp)];rfl
  obtain⟨s,hs⟩:∃s,s=Lx.bs t:=⟨_,rfl⟩
  rw[←hs] at he ⊢
  have HE:=hidp he
  clear hs he
  go_enter Tryz.func33,Tryz.ntmps33
  go_wp2
  go_ret
  exact⟨by rw[←HE.out];rfl,Below.refl _ _⟩
 ·rw[if_neg h0]
  have q0:(N==0)=false:=beq_eq_false_iff_ne.2 h0
  have CC:Hid (Calls Tryz.prog 55 #[.string (Lx.bs t),.int .u8 44] w fun e w'=>∃v,e=.returned v∧Hid (Below w.heap.size w w'∧OwnT w' w.heap.size v (cut 44 t))):=rcut_c t 44 ht w
  have CN:Hid (∀x∈cut 44 t,∀W,Calls Tryz.prog 35 #[.string (Lx.bs x)] W fun e w'=>e=.returned (.bool (isNm x))∧Below W.heap.size W w'):=fun x hx W=>rname_c x (Nat.le_trans (zcV 44 t x hx) ht) W
  have HF:=hidp (cut_few 44 t)
  have HT:=hidp ht
  obtain⟨l,hl⟩:∃l,l=cut 44 t:=⟨_,rfl⟩
  rw[←hl] at CC CN HF ⊢
  obtain⟨s,hs⟩:∃s,s=Lx.bs t:=⟨_,rfl⟩
  rw[←hs] at CC ⊢
  clear hl hs h0 ht
  go_enter Tryz.func33,Tryz.ntmps33
  go_wp2_with fail
  refine(CC.out).mono ?_
  rintro e w1 ⟨v,rfl,G1⟩
  obtain⟨a,c,hv⟩:=G1.out.2.form
  obtain⟨n,hn⟩:∃n,n=l.length:=⟨_,rfl⟩
  rw[←hn] at hv
  subst hv
  obtain⟨e1,e2,e3,e4⟩:=G1.out.2.sr
  have HS:Hid (n=l.length∧n≤1048577∧n≤c∧SR w1 a l):=⟨hn,by rw[hn];have:=HF.out;have:=HT.out;omega,e2,e3⟩
  have B1:=hidp G1.out.1
  clear G1 CC e1 e2 e3 e4 hn
  go_wp2
  go_loopw [16] (fun v wr=>∃j:Nat,j≤n∧v=.int .i64 j∧l.all isNm=(l.drop j).all isNm∧Below w1.heap.size w1 wr) (fun v _=>n - (intOf v).toNat)
  case atStart=>first | exact⟨0,Nat.zero_le _,rfl,rfl,Below.refl _ _⟩ | exact⟨0,Nat.zero_le _,rfl,trivial,Below.refl _ _⟩
  case round =>
   obtain⟨j,hj,rfl,hno,hb⟩:=hrel
   have HI:Hid (j≤n∧l.all isNm=(l.drop j).all isNm∧Below w1.heap.size w1 wr):=⟨hj,hno,hb⟩
   clear hno hb
   by_cases hlt:j<n
   ·have r0:(j:Int)<(n:Int):=by omega
    have r1:(0:Int)≤(j:Int):=by omega
    obtain⟨x,hx⟩:∃x,l[j]?=some x:=⟨_,List.getElem?_eq_getElem (by have:=HS.out.1;omega)⟩
    obtain⟨g,o,rfl,c0⟩:=(HS.out.2.2.2.call HI.out.2.2) j x hx
    have HX:Hid (l.all isNm=(isNm x && (l.drop (j+1)).all isNm)∧j<n):=⟨by rw[HI.out.2.1,drop_at'' hx,List.all_cons],hlt⟩
    have CX:=hidp (CN.out x (List.mem_of_getElem? hx) wr)
    obtain⟨b,hb⟩:∃b,b=isNm x:=⟨_,rfl⟩
    rw[←hb] at CX HX
    obtain⟨sx,hsx⟩:∃sx,sx=Lx.bs x:=⟨_,rfl⟩
    rw[←hsx] at c0 CX
    clear hx hlt hj hb hsx
    go_wp2_with fail
    refine(CX.out).mono ?_
    rintro e w2 ⟨rfl,hb2⟩
    have B2:Hid (Below w1.heap.size w1 w2):=HI.out.2.2.trans (hb2.mono HI.out.2.2.size)
    clear hb2 c0 CX
    cases b with
    | false =>
     have HE:Hid (l.all isNm=false):=by show _=_;rw[HX.out.1];rfl
     go_wp2
     go_ret
     exact⟨by rw[HE.out];rfl,B1.out.trans (B2.out.mono B1.out.size)⟩
    | true =>
     obtain⟨j1,hj1⟩:∃j1,j1=j+1:=⟨_,rfl⟩
     have HJ1:=hidp hj1
     have HV:Hid (IntKind.i64.wrap ((j:Int)+1)=(j1:Int)∧wrap64 ((j:Int)+1)=(j1:Int)):=wrp (by omega) (by have:=HS.out.2.1;have:=HX.out.2;omega)
     have HX2:Hid (l.all isNm=(l.drop j1).all isNm):=by show _=_;rw[HX.out.1,hj1];rfl
     clear hj1
     obtain⟨v1,v2⟩:=HV.out
     go_wp2
     clear v1 v2
     go_roundw
     case rel=>first | exact⟨j1,by have:=HJ1.out;have:=HX.out.2;omega,rfl,HX2.out,B2.out⟩ | ((repeat apply Exists.intro);exact⟨⟨j1,by have:=HJ1.out;have:=HX.out.2;omega,rfl,HX2.out,B2.out⟩,rfl⟩)
     case measure =>
      simp only[intOf]
      have:=HJ1.out
      have:=HX.out.2
      omega
   ·have r0:¬(j:Int)<(n:Int):=by omega
    have HE:Hid (l.all isNm=true):=by
     show _=_
     rw[HI.out.2.1,List.drop_eq_nil_of_le (by have:=HS.out.1;omega)]
     rfl
    have CT:Hid (Calls Tryz.prog 61 #[.slice a n c] wr fun e w'=>e=.returned (.bool (dup [] l))∧w'=wr):=rtwice_c l a n c wr HS.out.1 (by have:=HS.out.2.1;omega) HS.out.2.2.1 (HS.out.2.2.2.call HI.out.2.2)
    obtain⟨d,hd⟩:∃d,d=dup [] l:=⟨_,rfl⟩
    have HD:Hid (d=dup [] l):=hd
    rw[←hd] at CT
    clear hd hlt hj
    by_cases hnN:(n:Int)=N
    ·have r2:((n:Int)==N)=true:=by rw[hnN];exact beq_self_eq_true _
     have HR:Hid (decide ((l.length:Int)=N)=true):=by show _=_;rw[←HS.out.1,hnN,decide_eq_true rfl]
     clear hnN
     go_wp2_with fail
     refine(CT.out).mono ?_
     rintro e w2 ⟨rfl,rfl⟩
     go_wp2
     go_ret
     exact⟨by rw[HE.out,HR.out,←HD.out];rfl,B1.out.trans (HI.out.2.2.mono B1.out.size)⟩
    ·have r2:((n:Int)==N)=false:=beq_eq_false_iff_ne.2 hnN
     have HR:Hid (decide ((l.length:Int)=N)=false):=by show _=_;rw[←HS.out.1,decide_eq_false hnN]
     clear hnN
     go_wp2
     go_ret
     exact⟨by rw[HE.out,HR.out];rfl,B1.out.trans (HI.out.2.2.mono B1.out.size)⟩
theorem allD_digs:∀l:Bs,Lx.allD l=true→digs l=true
 | [],_=>rfl
 | b :: r,h=>by
  obtain⟨h1,h2⟩:=(Lx.allD_cons b r).1 h
  rw[digs,Bool.and_eq_true,decide_eq_true_iff]
  exact⟨h1,allD_digs r h2⟩
theorem nb_dec {m:Nat} (hm:m≤9223372036854775807):isNb (Lib.decDigits m)=true:=by
 obtain⟨h2,h3,x,r,h4⟩:=dec_facts m
 have hz:r=[]∨x≠48:=by
  by_cases hx:x=48
  ·subst hx;exact .inl (Lx.dec_head m m (Nat.le_refl _) r h4)
  ·exact .inr hx
 rw[h4] at h2 h3 ⊢
 rw[isNb,Bool.and_eq_true,Bool.and_eq_true,decide_eq_true_iff,Bool.or_eq_true,decide_eq_true_iff,numv_dv,h3]
 exact⟨⟨allD_digs _ h2,by omega⟩,hz.elim (fun h=>.inr (by rw[h];rfl)) .inl⟩
theorem int_pos {x:UInt8} {r:Bs} (h:(Lx.frst (x :: r)).kind=3):0≤(Lx.frst (x :: r)).n:=by
 rw[Lx.frst] at h ⊢
 by_cases h1:Lx.isL x.toNat
 ·rw[if_pos h1,Lx.word] at h
  split at h
  ·cases h
  ·split at h<;>cases h
 rw[if_neg h1] at h ⊢
 by_cases h2:Lx.isD x.toNat
 ·rw[if_pos h2,Lx.numb] at h ⊢
  cases hn:Lx.numOf ((x :: r).take (Lx.wsz (x :: r))) with
  | none=>rw[hn] at h;cases h
  | some v =>
   show 0≤v
   obtain⟨z,hz⟩:∃z,Lx.wsz (x :: r)=z+1:=⟨Lx.wsz r,by rw[Lx.wsz,if_pos (by rw[Lx.isW,h2,Bool.or_true])]⟩
   rw[hz,List.take_succ_cons] at hn
   have:=Lx.int_of x (r.take z) h2
   have e:Lx.numOf (x :: r.take z)=some v:=hn
   rw[show Lx.numOf (x :: r.take z)=_ from this] at e
   split at e
   ·cases e;omega
   ·cases e
 rw[if_neg h2] at h ⊢
 by_cases h3:x=39
 ·rw[if_pos h3,Lx.text] at h
  split at h
  ·rw[Lx.tok] at h
   split at h
   ·cases h
   ·split at h<;>cases h
  ·cases h
 rw[if_neg h3] at h
 split at h
 ·cases h
 ·cases h
theorem nb_lex (s:Bs):((Lx.lex s).err≠0→isNb s=false)∧((Lx.lex s).err=0→((Lx.lex s).toks.length≠1→isNb s=false)∧∀t,(Lx.lex s).toks=[t]→(t.kind≠3→isNb s=false)∧(t.kind=3→0≤t.n∧t.n≤9223372036854775807∧isNb s=decide (Lib.itoa t.n=s))):=by
 have num:∀t,(Lx.lex s).err=0→(Lx.lex s).toks=[t]→t.kind=3→0≤t.n∧t.n≤9223372036854775807:=fun t he ht hk=>by
  obtain⟨_,h2⟩:=Lx.lex_toks he
  obtain⟨_,_,_,⟨x,r,_,e1,_,e3,_⟩,_⟩:=Lx.toks_at h2 0 t (by rw[ht];rfl)
  rw[e3]
  exact⟨int_pos (by rw[←e1];exact hk),(Lx.n_bounds x r).2⟩
 by_cases h:isNb s=true
 ·obtain⟨e1,e2⟩:=nb_itoa h
  have hz:=Lz.num (n:=((numv 0 s:Nat):Int)) (by omega) (by omega) sep_nil .nil
  rw[e1,List.append_nil] at hz
  have hlen:s.length≤16384:=by
   have:=Lib.itoa_length_le ((numv 0 s:Nat):Int) (by omega) (by omega)
   rw[e1] at this
   omega
  obtain⟨h1,h2⟩:=hz.lex hlen
  refine⟨fun k=>absurd h1 k,fun _=>⟨fun k=>absurd (by have:=congrArg List.length h2;rw[List.length_map] at this;exact this) k,fun t ht=>?_⟩⟩
  rw[ht] at h2
  have e3:=(List.cons.inj h2).1
  have k3:(z t).kind=3:=by rw[e3];rfl
  have n3:(z t).n=((numv 0 s:Nat):Int):=by rw[e3];rfl
  have k4:t.kind=3:=k3
  have n4:t.n=((numv 0 s:Nat):Int):=n3
  exact⟨fun k=>absurd k4 k,fun _=>⟨by omega,by omega,by rw[n4,e1,h];simp⟩⟩
 ·have hf:isNb s=false:=by simpa using h
  refine⟨fun _=>hf,fun he=>⟨fun _=>hf,fun t ht=>⟨fun _=>hf,fun hk=>?_⟩⟩⟩
  obtain⟨n1,n2⟩:=num t he ht hk
  refine⟨n1,n2,?_⟩
  rw[hf,eq_comm,decide_eq_false_iff_not]
  intro e
  obtain⟨m,hm⟩:=Int.eq_ofNat_of_zero_le n1
  rw[hm,Lib.itoa_nonneg] at e
  have:=nb_dec (m:=m) (by omega)
  rw[e] at this
  exact h this
theorem rnum_c (s:Bs) (w:World):Calls Tryz.prog 60 #[.string (Lx.bs s)] w fun e w'=>e=.returned (.bool (isNb s))∧Below w.heap.size w w':=by
 obtain⟨o,ho⟩:∃o,o=Lx.lex s:=⟨_,rfl⟩
 have CL:Hid (Calls Tryz.prog 89 #[.string (Lx.bs s)] w (Lx.LexGave o w)):=by rw[ho];exact rlex_c s w
 have HN:=hidp (nb_lex s)
 rw[←ho] at HN
 obtain⟨b,hb⟩:∃b,b=isNb s:=⟨_,rfl⟩
 rw[←hb] at HN ⊢
 obtain⟨t,ht⟩:∃t,t=Lx.bs s:=⟨_,rfl⟩
 have HT:=hidp ht
 rw[←ht] at CL ⊢
 clear ho hb ht
 go_enter Tryz.func60,Tryz.ntmps60
 go_wp2_with fail
 refine(CL.out).mono ?_
 rintro e w1 ⟨hb1,lv,rfl,hown⟩
 have X1:Hid (Below w.heap.size w w1∧w1.ownsRow w.heap.size 92 4 lv o.toks.length (Lx.tcs o.toks)):=⟨hb1,hown⟩
 obtain⟨a,c,hlv⟩:=zdL hown
 obtain⟨n,hn⟩:∃n,n=o.toks.length:=⟨_,rfl⟩
 rw[←hn] at hlv
 subst hlv
 have HNN:=hidp hn
 clear hb1 hown CL hn
 by_cases he:o.err=0
 ·obtain⟨er,hee⟩:∃er,er=o.err:=⟨_,rfl⟩
  rw[←hee] at he ⊢
  subst he
  have HE:Hid (o.err=0):=hee.symm
  clear hee
  by_cases h1:n=1
  ·obtain⟨tk,htk⟩:∃tk,o.toks=[tk]:=List.length_eq_one_iff.1 (by rw[←HNN.out];exact h1)
   have HTK:=hidp htk
   obtain⟨g,cap,e1,hg,hc⟩:=zcF (by rw[←HNN.out,h1];exact Nat.one_pos) X1.out.2
   have ea:a=some ⟨g,0,none⟩:=by injection e1
   subst ea
   have c0:w1.cell? ⟨g,0,none⟩=some (.int .u8 (tk.kind:Int)):=hc 0 _ (by rw[HTK.out];rfl)
   have c2:w1.cell? ⟨g,2,none⟩=some (.int .i64 tk.n):=hc 2 _ (by rw[HTK.out];rfl)
   subst h1
   obtain⟨tk0,tt0,tn0,ta0⟩:=tk
   dsimp only at c0 c2
   clear hc htk hg e1
   by_cases h3:tk0=3
   ·subst h3
    obtain⟨n1,n2,n3⟩:=((HN.out.2 HE.out).2 _ HTK.out).2 rfl
    obtain⟨m,hm⟩:=Int.eq_ofNat_of_zero_le n1
    have hm2:tn0=(m:Int):=hm
    subst hm2
    have CN:Hid (Calls Tryz.prog 53 #[.int .i64 (m:Int)] w1 fun e w'=>e=.returned (.string (Lx.bs (Lib.decDigits m)))∧w'=w1):=rnumber2_c m (by have:((m:Nat):Int)≤9223372036854775807:=n2;omega) w1
    have n3':b=decide (Lib.decDigits m=s):=by rw[n3,←Lib.itoa_nonneg]
    have hcmp:((Lx.bs (Lib.decDigits m)).toList==t.toList)=b:=by
     rw[n3',HT.out,Lx.bs_toList,Lx.bs_toList]
     by_cases h:Lib.decDigits m=s
     ·rw[h,decide_eq_true rfl];simp
     ·rw[decide_eq_false h];simpa using h
    obtain⟨u,hu⟩:∃u,u=Lx.bs (Lib.decDigits m):=⟨_,rfl⟩
    rw[←hu] at CN hcmp
    clear hu n3 n3' hm n1 n2
    go_wp2_with fail
    refine(CN.out).mono ?_
    rintro e w2 ⟨rfl,rfl⟩
    go_wp2
    go_ret
    exact⟨rfl,X1.out.1⟩
   ·have hk:((tk0:Int)==3)=false:=by rw[beq_eq_false_iff_ne];omega
    have HF:Hid (b=false):=((HN.out.2 HE.out).2 _ HTK.out).1 h3
    clear h3
    go_wp2
    go_ret
    exact⟨by rw[HF.out];rfl,X1.out.1⟩
  ·have hk:((n:Int)==1)=false:=by rw[beq_eq_false_iff_ne];omega
   have HF:Hid (b=false):=(HN.out.2 HE.out).1 (by rw[←HNN.out];exact h1)
   clear h1
   go_wp2
   go_ret
   exact⟨by rw[HF.out];rfl,X1.out.1⟩
 ·have hk:((o.err:Int)==0)=false:=by rw[beq_eq_false_iff_ne];omega
  have HF:Hid (b=false):=HN.out.1 he
  obtain⟨er,hee⟩:∃er,er=o.err:=⟨_,rfl⟩
  obtain⟨ps,hps⟩:∃er,er=o.pos:=⟨_,rfl⟩
  rw[←hee] at hk ⊢
  rw[←hps]
  clear he hee hps
  go_wp2
  go_ret
  exact⟨by rw[HF.out];rfl,X1.out.1⟩
end Ps
end Go.Proofs.YtfhkaffakniioaaGreatDoor
