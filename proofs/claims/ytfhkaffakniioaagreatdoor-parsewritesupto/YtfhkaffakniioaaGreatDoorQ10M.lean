/- Several texts, joined. -/
import Derived.Test.YtfhkaffakniioaaGreatDoorQ09M
import Derived.LoopTactic
set_option maxHeartbeats 2000000
set_option maxRecDepth 100000
namespace Go.Proofs.YtfhkaffakniioaaGreatDoor
open Go.RowKit
namespace Ps
def SR (W:World) (a:Option Addr) (l:List Bs):Prop:=∀(j:Nat) (x:Bs),l[j]?=some x→∃g o,a=some ⟨g,o,none⟩∧W.cell? ⟨g,o+j,none⟩=some (.string (Lx.bs x))
theorem SR.call {W W':World} {a:Option Addr} {l:List Bs} (h:SR W a l) (hb:Below W.heap.size W W'):SR W' a l:=fun j x hx=>by
 obtain⟨g,o,e,hc⟩:=h j x hx
 exact⟨g,o,e,(hb.cell (p:=⟨g,o+j,none⟩) (block_lt_of_cell hc)).trans hc⟩
theorem SR.nil (W:World) (a:Option Addr):SR W a []:=fun j x h=>by simp at h
theorem wrp {x:Int} {c:Nat} (h:x=(c:Int)) (hc:c≤9223372036854775807):IntKind.i64.wrap x=(c:Int)∧wrap64 x=(c:Int):=by
 subst h
 exact⟨by rw[IntKind.wrap_i64];omega,by unfold wrap64;omega⟩
theorem index_c (l:List Bs) (x:Bs) (a:Option Addr) (n c:Nat) (W:World) (hn:n=l.length) (hl:n≤100000) (hr:SR W a l):Calls Tryz.prog 136 #[.slice a n c,.string (Lx.bs x)] W fun e W'=>(∃i:Int,e=.returned (.int .i64 i)∧(i<0 ↔ x ∉ l))∧W'=W:=by
 have HR:Hid (SR W a l):=hr
 have HN:Hid (n=l.length∧n≤100000):=⟨hn,hl⟩
 obtain⟨xs,hxs⟩:∃xs,xs=Lx.bs x:=⟨_,rfl⟩
 have HX:Hid (xs=Lx.bs x):=hxs
 rw[←hxs]
 clear hr hxs hn hl
 go_enter Tryz.func136,Tryz.ntmps136
 go_wp2
 go_loopw [8] (fun i wr=>∃j:Nat,j≤n∧i=.int .i64 j∧(∀k y,k<j→l[k]?=some y→y≠x)∧wr=W) (fun i _=>n - (intOf i).toNat)
 case atStart=>exact⟨0,Nat.zero_le _,rfl,fun k y hk=>by omega,rfl⟩
 case round =>
  obtain⟨j,hj,rfl,hno,hwr⟩:=hrel
  subst hwr
  have HNO:Hid (∀k y,k<j→l[k]?=some y→y≠x):=hno
  clear hno
  by_cases hlt:j<n
  ·have q0:(j:Int)<(n:Int):=by omega
   have q1:(0:Int)≤(j:Int):=by omega
   obtain⟨y,hy⟩:∃y,l[j]?=some y:=⟨_,List.getElem?_eq_getElem (by have:=HN.out;omega)⟩
   obtain⟨g,o,rfl,c0⟩:=HR.out j y hy
   obtain⟨ys,hys⟩:∃ys,ys=Lx.bs y:=⟨_,rfl⟩
   rw[←hys] at c0
   have HY:Hid (l[j]?=some y∧ys=Lx.bs y∧j<n):=⟨hy,hys,hlt⟩
   clear hy hys
   by_cases he:y=x
   ·have t0:(xs.toList==ys.toList)=true:=by rw[HX.out,HY.out.2.1,he];simp
    have HE:Hid (y=x):=he
    clear he
    go_wp2
    go_ret
    refine⟨⟨(j:Int),rfl,?_⟩,rfl⟩
    constructor
    ·intro h;omega
    ·intro h
     exact absurd (List.mem_of_getElem? HY.out.1) (HE.out ▸ h)
   ·have t0:(xs.toList==ys.toList)=false:=by
     rw[HX.out,HY.out.2.1,Lx.bs_toList,Lx.bs_toList]
     simpa using fun e=>he e.symm
    have HE:Hid (y≠x):=he
    obtain⟨j1,hj1⟩:∃j1,j1=j+1:=⟨_,rfl⟩
    have HJ:Hid (j1=j+1):=hj1
    have HV:Hid (IntKind.i64.wrap ((j:Int)+1)=(j1:Int)∧wrap64 ((j:Int)+1)=(j1:Int)):=wrp (by omega) (by have:=HN.out;omega)
    have HNO2:Hid (∀k y,k<j1→l[k]?=some y→y≠x):=fun k z hk hz=>by
     rcases Nat.lt_or_ge k j with q | q
     ·exact HNO.out k z q hz
     ·have hkj:k=j:=by have:=HJ.out;omega
      rw[hkj,HY.out.1] at hz
      cases hz
      exact HE.out
    clear he hj1 hlt hj
    obtain⟨v1,v2⟩:=HV.out
    go_wp2
    clear v1 v2
    go_roundw
    case rel=>first | exact⟨j1,by have:=HJ.out;have:=HY.out;omega,rfl,HNO2.out,by first | rfl | trivial⟩ | ((repeat apply Exists.intro);exact⟨⟨j1,by have:=HJ.out;have:=HY.out;omega,rfl,HNO2.out,by first | rfl | trivial⟩,rfl⟩)
    case measure =>
     simp only[intOf]
     have:=HJ.out
     have:=HY.out
     omega
  ·have q0:¬(j:Int)<(n:Int):=by omega
   have HE:Hid (x ∉ l):=fun h=>by
    obtain⟨k,hk⟩:=List.getElem?_of_mem h
    have:=(List.getElem?_eq_some_iff.1 hk).1
    exact HNO.out k x (by have:=HN.out;omega) hk rfl
   go_wp2
   go_ret
   exact⟨⟨-1,rfl,fun _=>HE.out,fun _=>by omega⟩,rfl⟩
theorem contains_c (l:List Bs) (x:Bs) (a:Option Addr) (n c:Nat) (W:World) (hn:n=l.length) (hl:n≤100000) (hr:SR W a l):Calls Tryz.prog 105 #[.slice a n c,.string (Lx.bs x)] W fun e W'=>e=.returned (.bool (l.contains x))∧W'=W:=by
 have CI:Hid (Calls Tryz.prog 136 #[.slice a n c,.string (Lx.bs x)] W fun e W'=>(∃i:Int,e=.returned (.int .i64 i)∧(i<0 ↔ x ∉ l))∧W'=W):=index_c l x a n c W hn hl hr
 obtain⟨b,hb⟩:∃b,b=l.contains x:=⟨_,rfl⟩
 have HB:Hid (b=l.contains x):=hb
 rw[←hb]
 clear hb hr hl hn
 go_enter Tryz.func105,Tryz.ntmps105
 go_wp2_with fail
 refine(CI.out).mono ?_
 rintro e W' ⟨⟨i,rfl,hi⟩,rfl⟩
 have HI:Hid (decide ((0:Int)≤i)=b):=by
  show _=_
  rw[HB.out]
  by_cases h:i<0
  ·rw[decide_eq_false (by omega)]
   have:=hi.1 h
   simp[this]
  ·rw[decide_eq_true (by omega)]
   have:x∈l:=Decidable.byContradiction fun q=>h (hi.2 q)
   simp[this]
 clear hi CI
 go_wp2
 go_ret
 exact⟨by rw[←HI.out];rfl,rfl⟩
end Ps
end Go.Proofs.YtfhkaffakniioaaGreatDoor
namespace Go.Proofs.YtfhkaffakniioaaGreatDoor
open Go.RowKit
namespace Lx
def in1:Bs:=[115,101,108,101,99,116,32,97,46,98,44,32,39,105,116,39,39,115,39,32,60,61,32,55]
def out1:List Tk:=[⟨2,[83,69,76,69,67,84],0,0⟩,⟨1,[97],0,7⟩,⟨5,[46],0,8⟩,⟨1,[98],0,9⟩,⟨5,[44],0,10⟩,⟨4,[105,116,39,115],0,12⟩,⟨5,[60,61],0,20⟩,⟨3,[],7,23⟩]
end Lx
end Go.Proofs.YtfhkaffakniioaaGreatDoor
namespace Go.Proofs.YtfhkaffakniioaaGreatDoor
open Go.RowKit
namespace Ps
theorem zaR (x0 x1 x2 x3:Value) (wx:World):(Instr.field 92 (.agg #[x0,x1,x2,x3]) 1).run Tryz.prog wx=.ok x1 wx:=by kernel_rfl
attribute [local go_sem] zaR
theorem token_fits {W0:World} {pb:Nat} {W:World} {s:S} {sb:Option Nat} (h:PS W0 W pb s sb):fits (token s):=by
 unfold token
 split
 ·exact⟨by decide,by decide,by decide,by decide⟩
 ·rename_i t r e
  exact h.fit t (by rw[e];simp)
section
variable {W0:World} {pb:Nat} {W W' W1:World} {s s':S} {sb sb1:Option Nat} {ts:List Bs} {a:Option Addr} {n c:Nat}
theorem is_c (h:PS W0 W pb s sb) (hr:SR W a ts) (hn:n=ts.length) (hl:n≤1000):Calls Tryz.prog 102 #[.pointer (some ⟨pb,0,none⟩),.slice a n c] W fun e W'=>e=.returned (.bool (is ts s))∧Below W.heap.size W W':=by
 obtain⟨t,ht⟩:∃t,t=token s:=⟨_,rfl⟩
 have CT:Hid (Calls Tryz.prog 104 #[.pointer (some ⟨pb,0,none⟩)] W fun e W'=>e=.returned (.agg #[.int .u8 (t.kind:Int),.string (Lx.bs t.text),.int .i64 t.n,.int .i64 (t.at':Int)])∧Below W.heap.size W W'):=by
  have:=token_c h
  rw[←ht] at this
  exact this
 obtain⟨cn,hcn⟩:∃cn,cn=ts.contains t.text:=⟨_,rfl⟩
 have CC:Hid (∀W',Below W.heap.size W W'→Calls Tryz.prog 105 #[.slice a n c,.string (Lx.bs t.text)] W' fun e W''=>e=.returned (.bool cn)∧W''=W'):=fun W' hb=>by
  rw[hcn]
  exact contains_c ts t.text a n c W' hn (by omega) (hr.call hb)
 obtain⟨r,hrr⟩:∃r,r=is ts s:=⟨_,rfl⟩
 have HR:Hid (r=((t.kind==2 || t.kind==5) && cn)):=by
  show _=_
  rw[hrr,is,hcn,ht]
 rw[←hrr]
 clear hrr hcn hr hn hl h ht
 go_enter Tryz.func102,Tryz.ntmps102
 go_wp2_with fail
 refine(CT.out).mono ?_
 rintro e w2 ⟨rfl,hb2⟩
 have B2:Hid (Below W.heap.size W w2):=hb2
 clear hb2 CT
 go_upto_region 2 with fail
 obtain⟨w3,hw3⟩:∃w3,w3=w2.alloc (.cells #[.int .u8 (t.kind:Int),.string (Lx.bs t.text),.int .i64 t.n,.int .i64 (t.at':Int)] 92):=⟨_,rfl⟩
 obtain⟨T,hT⟩:∃T,T=w2.heap.size:=⟨_,rfl⟩
 have X3:Hid (w3.heap[T]?=some (.cells #[.int .u8 (t.kind:Int),.string (Lx.bs t.text),.int .i64 t.n,.int .i64 (t.at':Int)] 92 (0,0))∧Below W.heap.size W w3):=by
  have hb:Below w2.heap.size w2 w3:=by rw[hw3];exact bnew _ _
  exact⟨by rw[hw3,hT];exact heap_alloc_new w2 _,B2.out.trans (hb.mono B2.out.size)⟩
 rw[←hw3,←hT]
 clear hw3 hT B2
 have y0:w3.cell? ⟨T,0,none⟩=some (.int .u8 (t.kind:Int)):=by rw[cell_of_row _ _ _ _ _ _ X3.out.1];rfl
 have y1:w3.cell? ⟨T,1,none⟩=some (.string (Lx.bs t.text)):=by rw[cell_of_row _ _ _ _ _ _ X3.out.1];rfl
 by_cases k2:t.kind=2
 ·have q2:((t.kind:Int)==2)=true:=by rw[k2];rfl
  have HE:Hid (r=cn):=by
   show _=_
   rw[HR.out,k2];rfl
  clear k2
  go_wp2_with (go_at_call 105;refine(CC.out w3 X3.out.2).mono ?_;rintro en w4 ⟨rfl,rfl⟩)
  go_ret
  exact⟨by rw[HE.out];rfl,X3.out.2⟩
 ·have q2:((t.kind:Int)==2)=false:=by simp;omega
  by_cases k5:t.kind=5
  ·have q5:((t.kind:Int)==5)=true:=by rw[k5];rfl
   have HE:Hid (r=cn):=by
    show _=_
    rw[HR.out,k5];rfl
   clear k2 k5
   go_wp2_with (go_at_call 105;refine(CC.out w3 X3.out.2).mono ?_;rintro en w4 ⟨rfl,rfl⟩)
   go_ret
   exact⟨by rw[HE.out];rfl,X3.out.2⟩
  ·have q5:((t.kind:Int)==5)=false:=by simp;omega
   have HE:Hid (r=false):=by
    show _=_
    rw[HR.out]
    simp[k2,k5]
   clear k2 k5
   go_wp2
   go_ret
   exact⟨by rw[HE.out];rfl,X3.out.2⟩
theorem may_c (h:PS W0 W pb s sb) (hr:SR W a ts) (hn:n=ts.length) (hl:n≤1000):Calls Tryz.prog 109 #[.pointer (some ⟨pb,0,none⟩),.slice a n c] W fun e W'=>e=.returned (.bool (is ts s))∧PG W0 pb W sb (may ts s) W':=by
 have CI:Hid (Calls Tryz.prog 102 #[.pointer (some ⟨pb,0,none⟩),.slice a n c] W fun e W'=>e=.returned (.bool (is ts s))∧Below W.heap.size W W'):=is_c h hr hn hl
 have HP:Hid (PS W0 W pb s sb):=h
 cases hi:is ts s with
 | true =>
  rw[hi] at CI
  have HI:Hid (may ts s=next s):=by show _=_;rw[may,if_pos hi]
  have CN:Hid (∀W',Below W.heap.size W W'→Calls Tryz.prog 103 #[.pointer (some ⟨pb,0,none⟩)] W' fun e W''=>e=.returned (tv (nextT s))∧PG W0 pb W sb (next s) W''):=fun W' hb=>by
   refine(next_c (h.call hb) fun _=>is_ne hi).mono ?_
   rintro e W'' ⟨rfl,q⟩
   exact⟨rfl,q.pre hb⟩
  clear hi hr hn hl h
  go_enter Tryz.func109,Tryz.ntmps109
  go_wp2_with (first
   |(go_at_call 102;refine(CI.out).mono ?_;rintro en w1 ⟨rfl,hb1⟩;have B1:Hid (Below W.heap.size W w1):=hb1;clear hb1)
   |(go_at_call 103;refine(CN.out w1 B1.out).mono ?_;rintro en w2 ⟨rfl,hg2⟩;have G2:Hid (PG W0 pb W sb (next s) w2):=hg2;clear hg2))
  go_ret
  exact⟨rfl,by rw[HI.out];exact G2.out⟩
 | false =>
  rw[hi] at CI
  have HI:Hid (may ts s=s):=by show _=_;rw[may,hi];rfl
  clear hi hr hn hl h
  go_enter Tryz.func109,Tryz.ntmps109
  go_wp2_with (go_at_call 102;refine(CI.out).mono ?_;rintro en w1 ⟨rfl,hb1⟩;have B1:Hid (Below W.heap.size W w1):=hb1;clear hb1)
  go_ret
  exact⟨rfl,by rw[HI.out];exact⟨sb,HP.out.call B1.out,PCh.of_below B1.out⟩⟩
theorem must_c (h:PS W0 W pb s sb) (hr:SR W a ts) (hn:n=ts.length) (hl:n≤1000):Calls Tryz.prog 70 #[.pointer (some ⟨pb,0,none⟩),.slice a n c] W fun e W'=>e=.returned (.string (Lx.bs (mustT ts s)))∧PG W0 pb W sb (must ts s) W':=by
 have CI:Hid (Calls Tryz.prog 102 #[.pointer (some ⟨pb,0,none⟩),.slice a n c] W fun e W'=>e=.returned (.bool (is ts s))∧Below W.heap.size W W'):=is_c h hr hn hl
 cases hi:is ts s with
 | true =>
  rw[hi] at CI
  have HI:Hid (must ts s=next s∧mustT ts s=(nextT s).text):=⟨by rw[must,if_pos hi],by rw[mustT,if_pos hi]⟩
  obtain⟨t,ht⟩:∃t,t=nextT s:=⟨_,rfl⟩
  have CN:Hid (∀W',Below W.heap.size W W'→Calls Tryz.prog 103 #[.pointer (some ⟨pb,0,none⟩)] W' fun e W''=>e=.returned (.agg #[.int .u8 (t.kind:Int),.string (Lx.bs t.text),.int .i64 t.n,.int .i64 (t.at':Int)])∧PG W0 pb W sb (next s) W''):=fun W' hb=>by
   refine(next_c (h.call hb) fun _=>is_ne hi).mono ?_
   rintro e W'' ⟨rfl,q⟩
   exact⟨by rw[ht];rfl,q.pre hb⟩
  have HT:Hid (mustT ts s=t.text):=by show _=_;rw[HI.out.2,ht]
  clear hi hr hn hl h ht
  go_enter Tryz.func70,Tryz.ntmps70
  go_wp2_with (first
   |(go_at_call 102;refine(CI.out).mono ?_;rintro en w1 ⟨rfl,hb1⟩;have B1:Hid (Below W.heap.size W w1):=hb1;clear hb1)
   |(go_at_call 103;refine(CN.out w1 B1.out).mono ?_;rintro en w2 ⟨rfl,hg2⟩;have G2:Hid (PG W0 pb W sb (next s) w2):=hg2;clear hg2))
  go_ret
  exact⟨by rw[HT.out];rfl,by rw[HI.out.1];exact G2.out⟩
 | false =>
  rw[hi] at CI
  have HI:Hid (must ts s=fail 13 s∧mustT ts s=[]):=⟨by rw[must,hi];rfl,by rw[mustT,hi];rfl⟩
  have CF:Hid (∀W',Below W.heap.size W W'→Calls Tryz.prog 77 #[.pointer (some ⟨pb,0,none⟩),.int .i64 13] W' fun e W''=>e=.returned (.tuple #[])∧PG W0 pb W sb (fail 13 s) W''):=fun W' hb=>by
   refine(fail_c (h.call hb) 13).mono ?_
   rintro e W'' ⟨rfl,q⟩
   exact⟨rfl,q.pre hb⟩
  clear hi hr hn hl h
  go_enter Tryz.func70,Tryz.ntmps70
  go_wp2_with (first
   |(go_at_call 102;refine(CI.out).mono ?_;rintro en w1 ⟨rfl,hb1⟩;have B1:Hid (Below W.heap.size W w1):=hb1;clear hb1)
   |(go_at_call 77;refine(CF.out w1 B1.out).mono ?_;rintro en w2 ⟨rfl,hg2⟩;have G2:Hid (PG W0 pb W sb (fail 13 s) w2):=hg2;clear hg2))
  go_ret
  exact⟨by rw[HI.out.2];rfl,by rw[HI.out.1];exact G2.out⟩
theorem name_c (h:PS W0 W pb s sb) (hr:SR W a ts) (hn:n=ts.length) (hl:n≤100000):Calls Tryz.prog 72 #[.pointer (some ⟨pb,0,none⟩),.slice a n c] W fun e W'=>e=.returned (.string (Lx.bs (nameT ts s)))∧PG W0 pb W sb (name ts s) W':=by
 obtain⟨t,ht⟩:∃t,t=token s:=⟨_,rfl⟩
 have CT:Hid (Calls Tryz.prog 104 #[.pointer (some ⟨pb,0,none⟩)] W fun e W'=>e=.returned (.agg #[.int .u8 (t.kind:Int),.string (Lx.bs t.text),.int .i64 t.n,.int .i64 (t.at':Int)])∧Below W.heap.size W W'):=by
  have:=token_c h
  rw[←ht] at this
  exact this
 obtain⟨cn,hcn⟩:∃cn,cn=ts.contains t.text:=⟨_,rfl⟩
 have CC:Hid (∀W',Below W.heap.size W W'→Calls Tryz.prog 105 #[.slice a n c,.string (Lx.bs t.text)] W' fun e W''=>e=.returned (.bool cn)∧W''=W'):=fun W' hb=>by
  rw[hcn]
  exact contains_c ts t.text a n c W' hn (by omega) (hr.call hb)
 have CF:Hid (∀(e0:Nat) W',Below W.heap.size W W'→Calls Tryz.prog 77 #[.pointer (some ⟨pb,0,none⟩),.int .i64 (e0:Int)] W' fun e W''=>e=.returned (.tuple #[])∧PG W0 pb W sb (fail e0 s) W''):=fun e0 W' hb=>by
  refine(fail_c (h.call hb) e0).mono ?_
  rintro e W'' ⟨rfl,q⟩
  exact⟨rfl,q.pre hb⟩
 have CF13:Hid (∀W',Below W.heap.size W W'→Calls Tryz.prog 77 #[.pointer (some ⟨pb,0,none⟩),.int .i64 13] W' fun e W''=>e=.returned (.tuple #[])∧PG W0 pb W sb (fail 13 s) W''):=CF.out 13
 have CF18:Hid (∀W',Below W.heap.size W W'→Calls Tryz.prog 77 #[.pointer (some ⟨pb,0,none⟩),.int .i64 18] W' fun e W''=>e=.returned (.tuple #[])∧PG W0 pb W sb (fail 18 s) W''):=CF.out 18
 obtain⟨u,hu⟩:∃u,u=nextT s:=⟨_,rfl⟩
 have CN:Hid (t.kind=1→∀W',Below W.heap.size W W'→Calls Tryz.prog 103 #[.pointer (some ⟨pb,0,none⟩)] W' fun e W''=>e=.returned (.agg #[.int .u8 (u.kind:Int),.string (Lx.bs u.text),.int .i64 u.n,.int .i64 (u.at':Int)])∧PG W0 pb W sb (next s) W''):=fun hk W' hb=>by
  refine(next_c (h.call hb) fun _=>zcT (k:=1) (by decide) (by rw[←ht];exact hk)).mono ?_
  rintro e W'' ⟨rfl,q⟩
  exact⟨by rw[hu];rfl,q.pre hb⟩
 have HN:Hid (name ts s=(if t.kind=1 then (if cn=true then fail 18 s else next s) else fail 13 s)∧nameT ts s=(if t.kind=1 then (if cn=true then [] else u.text) else [])):=⟨by rw[name,ht,hcn,ht],by rw[nameT,ht,hcn,ht,hu]⟩
 clear hr hn hl h ht hu hcn CF
 go_enter Tryz.func72,Tryz.ntmps72
 go_wp2_with fail
 refine(CT.out).mono ?_
 rintro e w2 ⟨rfl,hb2⟩
 have B2:Hid (Below W.heap.size W w2):=hb2
 clear hb2 CT
 go_upto_region 2 with fail
 obtain⟨w3,hw3⟩:∃w3,w3=w2.alloc (.cells #[.int .u8 (t.kind:Int),.string (Lx.bs t.text),.int .i64 t.n,.int .i64 (t.at':Int)] 92):=⟨_,rfl⟩
 obtain⟨T,hT⟩:∃T,T=w2.heap.size:=⟨_,rfl⟩
 have X3:Hid (w3.heap[T]?=some (.cells #[.int .u8 (t.kind:Int),.string (Lx.bs t.text),.int .i64 t.n,.int .i64 (t.at':Int)] 92 (0,0))∧Below W.heap.size W w3):=by
  have hb:Below w2.heap.size w2 w3:=by rw[hw3];exact bnew _ _
  exact⟨by rw[hw3,hT];exact heap_alloc_new w2 _,B2.out.trans (hb.mono B2.out.size)⟩
 rw[←hw3,←hT]
 clear hw3 hT B2
 have y0:w3.cell? ⟨T,0,none⟩=some (.int .u8 (t.kind:Int)):=by rw[cell_of_row _ _ _ _ _ _ X3.out.1];rfl
 have y1:w3.cell? ⟨T,1,none⟩=some (.string (Lx.bs t.text)):=by rw[cell_of_row _ _ _ _ _ _ X3.out.1];rfl
 by_cases k1:t.kind=1
 ·have q1:((t.kind:Int) != 1)=false:=by rw[k1];rfl
  have CN1:=hidp (CN.out k1)
  have HN1:=hidp HN.out
  rw[if_pos k1,if_pos k1] at HN1
  clear k1 CN
  cases cn with
  | true =>
   go_wp2_with (first
    |(go_at_call 105;refine(CC.out w3 X3.out.2).mono ?_;rintro en w4 ⟨rfl,rfl⟩)
    |(go_at_call 77;refine(CF18.out _ X3.out.2).mono ?_;rintro en w5 ⟨rfl,hg5⟩;have G5:Hid (PG W0 pb W sb (fail 18 s) w5):=hg5;clear hg5))
   go_ret
   exact⟨by rw[HN1.out.2];rfl,by rw[HN1.out.1];exact G5.out⟩
  | false =>
   go_wp2_with (first
    |(go_at_call 105;refine(CC.out w3 X3.out.2).mono ?_;rintro en w4 ⟨rfl,rfl⟩)
    |(go_at_call 103;refine(CN1.out _ X3.out.2).mono ?_;rintro en w5 ⟨rfl,hg5⟩;have G5:Hid (PG W0 pb W sb (next s) w5):=hg5;clear hg5))
   go_ret
   exact⟨by rw[HN1.out.2];rfl,by rw[HN1.out.1];exact G5.out⟩
 ·have q1:((t.kind:Int) != 1)=true:=by simp;omega
  have HN1:=hidp HN.out
  rw[if_neg k1,if_neg k1] at HN1
  clear k1 CN
  go_wp2_with (go_at_call 77;refine(CF13.out _ X3.out.2).mono ?_;rintro en w5 ⟨rfl,hg5⟩;have G5:Hid (PG W0 pb W sb (fail 13 s) w5):=hg5;clear hg5)
  go_ret
  exact⟨by rw[HN1.out.2];rfl,by rw[HN1.out.1];exact G5.out⟩
end
end Ps
end Go.Proofs.YtfhkaffakniioaaGreatDoor
