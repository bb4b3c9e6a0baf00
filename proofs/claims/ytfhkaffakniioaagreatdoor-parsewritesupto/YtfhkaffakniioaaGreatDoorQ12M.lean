/- Several texts, joined. -/
import Derived.Test.YtfhkaffakniioaaGreatDoorQ10M
import Derived.Test.YtfhkaffakniioaaGreatDoorQ11M
set_option maxHeartbeats 4000000
set_option maxRecDepth 100000
namespace Go.Proofs.YtfhkaffakniioaaGreatDoor
open Go.RowKit
namespace Ps
def otx:List Bs:=[[43],[45],[42],[61],[60,62],[60],[60,61],[62],[62,61],[65,78,68],[79,82]]
def okd:List Nat:=[12,13,14,15,16,17,18,19,20,21,22]
def HasO (w:World):Prop:=2<w.heap.size∧∀i,i<11→w.cell? ⟨2,2*i,none⟩=some (.string (Lx.bs (otx.getD i [])))∧w.cell? ⟨2,2*i+1,none⟩=some (.int .u8 ((okd.getD i 0:Nat):Int))
theorem HasO.stays {w w':World} (h:HasO w) (hb:Below w.heap.size w w'):HasO w' :=
 ⟨Nat.lt_of_lt_of_le h.1 hb.size,fun i hi=>⟨(hb.cell (p:=⟨2,2*i,none⟩) h.1).trans (h.2 i hi).1,(hb.cell (p:=⟨2,2*i+1,none⟩) h.1).trans (h.2 i hi).2⟩⟩
theorem kind_at:∀j,j<11→kindOf (otx.getD j [])=okd.getD j 0:=by decide
theorem kind_none {x:Bs} (h:∀k,k<11→otx.getD k []≠x):kindOf x=0:=by
 have g:=fun k hk=>(h k hk)
 have e:∀k (y:Bs),k<11→otx.getD k []=y→¬x=y:=fun k y hk hy q=>g k hk (hy.trans q.symm)
 unfold kindOf
 rw[if_neg (e 0 [43] (by decide) rfl),if_neg (e 1 [45] (by decide) rfl),if_neg (e 2 [42] (by decide) rfl),if_neg (e 3 [61] (by decide) rfl),if_neg (e 4 [60,62] (by decide) rfl),if_neg (e 5 [60] (by decide) rfl),if_neg (e 6 [60,61] (by decide) rfl),if_neg (e 7 [62] (by decide) rfl),if_neg (e 8 [62,61] (by decide) rfl),if_neg (e 9 [65,78,68] (by decide) rfl),if_neg (e 10 [79,82] (by decide) rfl)]
def opsV:Array Value:=#[.string ⟨#[43]⟩,.int .u8 12,.string ⟨#[45]⟩,.int .u8 13,.string ⟨#[42]⟩,.int .u8 14,.string ⟨#[61]⟩,.int .u8 15,.string ⟨#[60,62]⟩,.int .u8 16,.string ⟨#[60]⟩,.int .u8 17,.string ⟨#[60,61]⟩,.int .u8 18,.string ⟨#[62]⟩,.int .u8 19,.string ⟨#[62,61]⟩,.int .u8 20,.string ⟨#[65,78,68]⟩,.int .u8 21,.string ⟨#[79,82]⟩,.int .u8 22]
theorem range_ops {W:World} (hO:HasO W):W.rangeAt 2 0 opsV.toList:=fun j v hv=>by
  have hj:j<22:=(List.getElem?_eq_some_iff.1 hv).1
  have h2:∀j,j<22→opsV.toList[j]?=some (if j % 2=0 then .string (Lx.bs (otx.getD (j / 2) [])) else .int .u8 ((okd.getD (j / 2) 0:Nat):Int)):=fun j hj=>by
   rcases j with _ | _ | _ | _ | _ | _ | _ | _ | _ | _ | _ | _ | _ | _ | _ | _ | _ | _ | _ | _ | _ | _ | j
   all_goals first | rfl | omega
  rw[h2 j hj] at hv
  cases hv
  have h3:=hO.2 (j / 2) (by omega)
  rw[Nat.zero_add]
  by_cases hp:j % 2=0
  ·have e:j=2*(j / 2):=by omega
   rw[if_pos hp]
   generalize j / 2=k at h3 e ⊢
   rw[e]
   exact h3.1
  ·have e:j=2*(j / 2)+1:=by omega
   rw[if_neg hp]
   generalize j / 2=k at h3 e ⊢
   rw[e]
   exact h3.2
theorem index_ops:∀(j:Nat),j<11→∀(wx:World),(Instr.index 132 (.agg opsV) (.int .i64 (j:Int))).run Tryz.prog wx=.ok (.agg #[.string (Lx.bs (otx.getD j [])),.int .u8 ((okd.getD j 0:Nat):Int)]) wx
 | 0,_,_=>by kernel_rfl
 | 1,_,_=>by kernel_rfl
 | 2,_,_=>by kernel_rfl
 | 3,_,_=>by kernel_rfl
 | 4,_,_=>by kernel_rfl
 | 5,_,_=>by kernel_rfl
 | 6,_,_=>by kernel_rfl
 | 7,_,_=>by kernel_rfl
 | 8,_,_=>by kernel_rfl
 | 9,_,_=>by kernel_rfl
 | 10,_,_=>by kernel_rfl
 | j+11,h,_=>by omega
theorem zdN (x:Bs) (W:World) (hO:HasO W):Calls Tryz.prog 161 #[.string (Lx.bs x)] W fun e W'=>e=.returned (.int .u8 (kindOf x:Int))∧Below W.heap.size W W':=by
 obtain⟨xs,hxs⟩:∃xs,xs=Lx.bs x:=⟨_,rfl⟩
 have HX:Hid (xs=Lx.bs x):=hxs
 rw[←hxs]
 clear hxs
 go_enter Tryz.func161,Tryz.ntmps161
 go_upto_region 1 with fail
 first | refine wp_seq ?_ | skip
 refine wp_region_lit ?_
 refine wpList_load_mid rfl 132 (.global 2) rfl 2 0 rfl opsV.toList _ (range_ops hO) Tryz.underlying132 rfl (by kernel_rfl) ?_
 have HO:Hid (HasO W):=hO
 clear hO
 obtain⟨A,hA⟩:∃A:Array Value,A=opsV.toList.toArray:=⟨_,rfl⟩
 rw[←hA]
 have HIX:Hid (∀j:Nat,j<11→∀wx:World,(Instr.index 132 (.agg A) (.int .i64 (j:Int))).run Tryz.prog wx=.ok (.agg #[.string (Lx.bs (otx.getD j [])),.int .u8 ((okd.getD j 0:Nat):Int)]) wx):=by
  intro j hj wx
  rw[hA]
  exact index_ops j hj wx
 clear hA
 go_wp2
 go_loopw [6] (fun i wr=>∃j:Nat,j≤11∧i=.int .i64 j∧(∀k,k<j→otx.getD k []≠x)∧Below W.heap.size W wr) (fun i _=>11 - (intOf i).toNat)
 case atStart=>exact⟨0,Nat.zero_le _,rfl,fun k hk=>by omega,Below.refl _ _⟩
 case round =>
  obtain⟨j,hj,rfl,hno,hwr⟩:=hrel
  have HW:Hid ((∀k,k<j→otx.getD k []≠x)∧Below W.heap.size W wr):=⟨hno,hwr⟩
  clear hno hwr
  by_cases hlt:j<11
  ·have q0:(j:Int)<11:=by omega
   have ix:=HIX.out j hlt
   obtain⟨y,hy⟩:∃y,y=otx.getD j []:=⟨_,rfl⟩
   obtain⟨ys,hys⟩:∃ys,ys=Lx.bs y:=⟨_,rfl⟩
   obtain⟨kd,hkd⟩:∃kd,kd=okd.getD j 0:=⟨_,rfl⟩
   rw[←hy,←hys,←hkd] at ix
   have HY:Hid (y=otx.getD j []∧ys=Lx.bs y∧kd=okd.getD j 0∧j<11):=⟨hy,hys,hkd,hlt⟩
   clear hy hys hkd hlt hj
   go_upto_region 4 with fail
   obtain⟨w3,hw3⟩:∃w3,w3=wr.alloc (.cells #[.string ys,.int .u8 (kd:Int)] 131):=⟨_,rfl⟩
   obtain⟨T,hT⟩:∃T,T=wr.heap.size:=⟨_,rfl⟩
   have X3:Hid (w3.heap[T]?=some (.cells #[.string ys,.int .u8 (kd:Int)] 131 (0,0))∧Below W.heap.size W w3):=by
    have hb:Below wr.heap.size wr w3:=by rw[hw3];exact bnew _ _
    exact⟨by rw[hw3,hT];exact heap_alloc_new wr _,HW.out.2.trans (hb.mono HW.out.2.size)⟩
   rw[←hw3,←hT]
   clear hw3 hT ix
   have y0:w3.cell? ⟨T,0,none⟩=some (.string ys):=by rw[cell_of_row _ _ _ _ _ _ X3.out.1];rfl
   have y1:w3.cell? ⟨T,1,none⟩=some (.int .u8 (kd:Int)):=by rw[cell_of_row _ _ _ _ _ _ X3.out.1];rfl
   by_cases he:y=x
   ·have t0:(ys.toList==xs.toList)=true:=by rw[HY.out.2.1,HX.out,he];simp
    have HK:Hid (kindOf x=kd):=by
     show _=_
     rw[←he,HY.out.1,kind_at j HY.out.2.2.2,HY.out.2.2.1]
    clear he
    go_wp2
    go_ret
    exact⟨by rw[HK.out];rfl,X3.out.2⟩
   ·have t0:(ys.toList==xs.toList)=false:=by
     rw[HY.out.2.1,HX.out,Lx.bs_toList,Lx.bs_toList]
     simpa using he
    obtain⟨j1,hj1⟩:∃j1,j1=j+1:=⟨_,rfl⟩
    have HJ:Hid (j1=j+1):=hj1
    have HV:Hid (IntKind.i64.wrap ((j:Int)+1)=(j1:Int)∧wrap64 ((j:Int)+1)=(j1:Int)):=wrp (by omega) (by have:=HY.out;omega)
    have HNO2:Hid (∀k,k<j1→otx.getD k []≠x):=fun k hk=>by
     rcases Nat.lt_or_ge k j with q | q
     ·exact HW.out.1 k q
     ·have hkj:k=j:=by have:=HJ.out;omega
      rw[hkj,←HY.out.1]
      exact he
    clear he hj1
    obtain⟨v1,v2⟩:=HV.out
    go_wp2
    clear v1 v2
    go_roundw
    case rel=>first | exact⟨j1,by have:=HJ.out;have:=HY.out;omega,rfl,HNO2.out,X3.out.2⟩ | ((repeat apply Exists.intro);exact⟨⟨j1,by have:=HJ.out;have:=HY.out;omega,rfl,HNO2.out,X3.out.2⟩,rfl⟩)
    case measure =>
     simp only[intOf]
     have:=HJ.out
     have:=HY.out
     omega
  ·have hj11:j=11:=by omega
   subst hj11
   have HK:Hid (kindOf x=0):=kind_none HW.out.1
   clear hlt hj
   go_wp2
   go_ret
   exact⟨by rw[HK.out];rfl,HW.out.2⟩
theorem join_cons (sep:Bs):∀(x:Bs) (r:List Bs),join sep (x :: r)=x++r.flatMap fun y=>sep++y
 | x,[]=>by simp[join]
 | x,y :: r=>by
  rw[join,join_cons sep y r]
  ·simp[List.append_assoc]
  ·simp
def sofar (sep x:Bs) (r:List Bs) (j:Nat):Bs:=x++(r.take j).flatMap fun y=>sep++y
theorem zcW {sep x y:Bs} {r:List Bs} {j:Nat} (h:r[j]?=some y):sofar sep x r (j+1)=sofar sep x r j++(sep++y):=by
 rw[sofar,sofar,List.take_add_one,h]
 simp[List.append_assoc]
theorem sofar_le {sep x:Bs} {r:List Bs} (hs:sep.length≤10) (hx:x.length≤30000) (hr:∀y∈r,y.length≤30000):∀j,(sofar sep x r j).length≤30000+j*30010
 | 0=>by simp[sofar];omega
 | j+1=>by
  cases h:r[j]? with
  | none =>
   have e:r.take (j+1)=r.take j:=by rw[List.take_add_one,h];simp
   have e2:sofar sep x r (j+1)=sofar sep x r j:=by unfold sofar;rw[e]
   rw[e2]
   exact Nat.le_trans (sofar_le hs hx hr j) (Nat.add_le_add_left (Nat.mul_le_mul_right _ (Nat.le_succ j)) _)
  | some y =>
   rw[zcW h,List.length_append,List.length_append]
   have:=sofar_le hs hx hr j
   have:=hr y (List.mem_of_getElem? h)
   omega
theorem quoN (n:Nat) (h:n≤20001) (h2:2≤n):(20:Int)≤Int.tdiv 9223372036854775807 ((n:Int) - 1):=by
 have e:Int.tdiv 9223372036854775807 ((n:Int) - 1)=9223372036854775807 / ((n:Int) - 1):=Int.tdiv_eq_ediv_of_nonneg (by decide)
 rw[e,Int.le_ediv_iff_mul_le (by omega)]
 omega
theorem wrz {z:Int} (h:0≤z) (h2:z≤9223372036854775807):IntKind.i64.wrap z=z∧wrap64 z=z:=⟨by rw[IntKind.wrap_i64];omega,by unfold wrap64;omega⟩
theorem subM {T:Nat} (h:T≤1000000000):IntKind.i64.wrap (9223372036854775807 - (T:Int))=((9223372036854775807 - T:Nat):Int)∧wrap64 (9223372036854775807 - (T:Int))=((9223372036854775807 - T:Nat):Int):=wrp (by omega) (by omega)
theorem lessM {T z:Nat} (h:T≤1000000000) (h2:z≤30000):¬((9223372036854775807 - T:Nat):Int)<(z:Int):=by omega
theorem join_c (sep:Bs) (l:List Bs) (a:Option Addr) (n c:Nat) (W:World) (hn:n=l.length) (hl:n≤20001) (hnc:n≤c) (hc:c≤9223372036854775807) (hr:SR W a l) (hs:1≤sep.length∧sep.length≤10) (hx:∀x∈l,x.length≤30000):Calls Tryz.prog 23 #[.slice a n c,.string (Lx.bs sep)] W fun e W'=>e=.returned (.string (Lx.bs (join sep l)))∧Below W.heap.size W W':=by
 cases l with
 | nil =>
  have:n=0:=hn
  subst this
  clear hl hnc hc hr hs hx hn
  go_enter Tryz.func23,Tryz.ntmps23
  go_wp2
  go_ret
  exact⟨rfl,Below.refl _ _⟩
 | cons x r0 =>
 cases r0 with
 | nil =>
  have:n=1:=hn
  subst this
  obtain⟨g,o,rfl,c0⟩:=hr 0 x rfl
  rw[Nat.add_zero] at c0
  clear hl hnc hc hr hs hx hn
  go_enter Tryz.func23,Tryz.ntmps23
  go_wp2
  go_ret
  exact⟨rfl,Below.refl _ _⟩
 | cons y r =>
  obtain⟨g,o,rfl,c0⟩:=hr 0 x rfl
  rw[Nat.add_zero] at c0
  have hn2:2≤n:=by rw[hn];simp
  obtain⟨ss,hss⟩:∃ss,ss=Lx.bs sep:=⟨_,rfl⟩
  obtain⟨k,hk⟩:∃k,k=sep.length:=⟨_,rfl⟩
  have hsz:(ss.size:Int)=(k:Int):=by rw[hss,Lx.bs_size,hk]
  have HSS:Hid (ss=Lx.bs sep∧k=sep.length∧1≤k∧k≤10):=⟨hss,hk,by omega,by omega⟩
  rw[←hss]
  obtain⟨n1,hn1⟩:∃n1,n=n1+1:=⟨n - 1,by omega⟩
  have HN:Hid (n=(x :: y :: r).length∧n≤20001∧n≤c∧c≤9223372036854775807∧2≤n∧n=n1+1∧n1=(y :: r).length):=⟨hn,hl,hnc,hc,hn2,hn1,by rw[hn] at hn1;simp at hn1;simp;omega⟩
  have HR:Hid (SR W (some ⟨g,o,none⟩) (x :: y :: r)∧∀z∈x :: y :: r,z.length≤30000):=⟨hr,hx⟩
  have q0:((n:Int)==0)=false:=by simp;omega
  have q1:((n:Int)==1)=false:=by simp;omega
  have q2:(0:Int)<(k:Int):=by omega
  have q3:¬((n:Int) - 1=0):=by omega
  have q4:IntKind.i64.wrap ((n:Int) - 1)=(n1:Int)∧wrap64 ((n:Int) - 1)=(n1:Int):=wrp (by omega) (by omega)
  obtain⟨qq,hqq⟩:∃qq,qq=Int.tdiv 9223372036854775807 (n1:Int):=⟨_,rfl⟩
  have HQ:Hid (20≤qq):=by
   have:=quoN n hl hn2
   show(20:Int)≤qq
   rw[hqq,show(n1:Int)=(n:Int) - 1 by omega]
   exact this
  obtain⟨q4a,q4b⟩:=q4
  have hq9:qq≤9223372036854775807:=by
   rw[hqq,Int.tdiv_eq_ediv_of_nonneg (by decide)]
   exact Int.ediv_le_self _ (by decide)
  have q5:¬((n1:Int)=0):=by omega
  have hq20:20≤qq:=HQ.out
  obtain⟨t0,ht0⟩:∃t0,t0=k*n1:=⟨_,rfl⟩
  have ht0b:t0≤200000:=by
   rw[ht0]
   have h1:n1≤20000:=by omega
   have h2:k≤10:=by have:=HSS.out;omega
   exact Nat.le_trans (Nat.mul_le_mul h2 h1) (by decide)
  obtain⟨q6a,q6b⟩:=wrz (z:=qq) (by omega) hq9
  have q7:¬(qq≤(k:Int)):=by have:=HSS.out;omega
  have HT0:Hid (t0≤200000):=ht0b
  obtain⟨q8a,q8b⟩:=wrp (x:=(k:Int)*(n1:Int)) (c:=t0) (by rw[ht0];simp) (Nat.le_trans ht0b (by decide))
  obtain⟨q9a,q9b⟩:=wrp (x:=(t0:Int)) (c:=t0) rfl (Nat.le_trans ht0b (by decide))
  have hqq':=hqq.symm
  clear hn hl hnc hc hn2 hn1 hr hx hs hss hk hqq hq9 hq20 ht0 ht0b
  go_enter Tryz.func23,Tryz.ntmps23
  go_upto_region 11 with fail
  clear hqq' q4a q4b q6a q6b q7 q5 q3 q8a q8b q9a q9b q2
  have HC1:Hid (¬c=1):=by show ¬_;have:=HN.out;omega
  go_wp2
  go_loopw [5,7,41] (fun t _ i wr=>∃j T:Nat,j≤n∧i=.int .i64 j∧t=.int .i64 (T:Int)∧T≤200000+j*30000∧wr=W) (fun _ _ i _=>n - (intOf i).toNat)
  case atStart=>exact⟨0,t0,Nat.zero_le _,rfl,rfl,by have:=HT0.out;omega,rfl⟩
  case round =>
   obtain⟨j,T,hj,rfl,rfl,hT,hwr⟩:=hrel
   subst hwr
   by_cases hlt:j<n
   ·have q0:(j:Int)<(n:Int):=by omega
    have q1:(0:Int)≤(j:Int):=by omega
    obtain⟨z,hz⟩:∃z,(x :: y :: r)[j]?=some z:=⟨_,List.getElem?_eq_getElem (by have:=HN.out.1;omega)⟩
    obtain⟨g',o',e,cz⟩:=HR.out.1 j z hz
    cases e
    obtain⟨zs,hzs⟩:∃zs,zs=Lx.bs z:=⟨_,rfl⟩
    obtain⟨zk,hzk⟩:∃zk,zk=z.length:=⟨_,rfl⟩
    have hzz:(zs.size:Int)=(zk:Int):=by rw[hzs,Lx.bs_size,hzk]
    rw[←hzs] at cz
    have hzl:zk≤30000:=by rw[hzk];exact HR.out.2 z (List.mem_of_getElem? hz)
    have hTb:T≤1000000000:=by have:=HN.out.2.1;omega
    obtain⟨T1,hT1⟩:∃T1,T1=T+zk:=⟨_,rfl⟩
    obtain⟨j1,hj1⟩:∃j1,j1=j+1:=⟨_,rfl⟩
    have HJ:Hid (T1=T+zk∧j1=j+1∧j<n∧T≤200000+j*30000∧zk≤30000):=⟨hT1,hj1,hlt,hT,hzl⟩
    have HV:Hid ((IntKind.i64.wrap ((T:Int)+(zk:Int))=(T1:Int)∧wrap64 ((T:Int)+(zk:Int))=(T1:Int))∧(IntKind.i64.wrap ((j:Int)+1)=(j1:Int)∧wrap64 ((j:Int)+1)=(j1:Int))):=⟨wrp (by omega) (by omega),wrp (by omega) (by have:=HN.out.2.1;omega)⟩
    have ql:=lessM hTb hzl
    obtain⟨sa,sb⟩:=subM hTb
    obtain⟨mT,hmT⟩:∃mT:Nat,mT=9223372036854775807 - T:=⟨_,rfl⟩
    rw[←hmT] at ql sa sb
    clear hz hzs hzk hT1 hj1 hlt hT hzl hTb hj hmT
    obtain⟨⟨v1,v2⟩,v3,v4⟩:=HV.out
    go_wp2
    clear v1 v2 v3 v4
    go_roundw
    case rel=>first | exact⟨j1,T1,by have:=HJ.out;omega,rfl,rfl,by have:=HJ.out;omega,by first | rfl | trivial⟩ | ((repeat apply Exists.intro);exact⟨⟨j1,T1,by have:=HJ.out;omega,rfl,rfl,by have:=HJ.out;omega,by first | rfl | trivial⟩,rfl⟩)
    case measure =>
     simp only[intOf]
     have:=HJ.out
     omega
   ·have q0:¬(j:Int)<(n:Int):=by omega
    have HT:Hid (T≤281474976710656):=by show _≤_;have:=HN.out.2.1;omega
    clear hlt hj hT
    obtain⟨w0,rfl⟩:∃w0,w0=wr:=⟨_,rfl⟩
    go_upto_region 19 with fail
    obtain⟨w1,hw1⟩:∃w1,w1=w0.alloc (.cells #[.pointer none,.slice none 0 0] 73):=⟨_,rfl⟩
    obtain⟨b,hb⟩:∃b,b=w0.heap.size:=⟨_,rfl⟩
    have X1:Hid (w1.heap[b]?=some (.cells #[.pointer none,.slice none 0 0] 73 (0,0))∧Below w0.heap.size w0 w1∧b=w0.heap.size):=⟨by rw[hw1,hb];exact heap_alloc_new w0 _,by rw[hw1];exact bnew _ _,hb⟩
    rw[←hw1,←hb]
    clear hw1 hb
    have CG:Hid (Calls Tryz.prog 43 #[.pointer (some ⟨b,0,none⟩),.int .i64 (T:Int)] w1 fun e w'=>e=.returned (.tuple #[])∧Hid (Lib.BuilderAt 73 5 w0.heap.size b (.pointer (some ⟨b,0,none⟩)) [] w'∧Below w0.heap.size w1 w')):=Tryz.Builder_Grow_fresh w0.heap.size b T w1 (by rw[X1.out.2.2];exact Nat.le_refl _) X1.out.1 X1.out.2.1.size HT.out
    go_wp2_with fail
    refine(CG.out).mono ?_
    rintro e w2 ⟨rfl,G2⟩
    have B2:Hid (Below w0.heap.size w0 w2):=X1.out.2.1.trans G2.out.2
    have c0':w2.cell? ⟨g,o,none⟩=some (.string (Lx.bs x)):=(B2.out.cell (p:=⟨g,o,none⟩) (block_lt_of_cell c0)).trans c0
    have HC0:Hid (w0.cell? ⟨g,o,none⟩=some (.string (Lx.bs x))):=c0
    have CW:Hid (∀(l s:Bs) (w:World),Lib.BuilderAt 73 5 w0.heap.size b (.pointer (some ⟨b,0,none⟩)) (Lib.byteCells l) w→Below w0.heap.size w0 w→l.length+s.length≤140737488355328→Calls Tryz.prog 44 #[.pointer (some ⟨b,0,none⟩),.string (Lx.bs s)] w fun e w'=>(∃m:Int,e=.returned (.tuple #[.int .i64 m,.nilIface]))∧Hid (Lib.BuilderAt 73 5 w0.heap.size b (.pointer (some ⟨b,0,none⟩)) (Lib.byteCells (l++s)) w'∧Below w0.heap.size w0 w')):=fun l s w h1 h2 h3=>by
     refine(zdH w0.heap.size b l s w (.inr h1) h3 h2.size).mono ?_
     rintro e w' ⟨rfl,k1,k2⟩
     exact⟨⟨_,rfl⟩,k1,h2.trans k2⟩
    clear c0 CG
    have q10:(0:Int)<(n:Int):=by have:=HN.out;omega
    go_wp2_with fail
    refine(CW.out [] x w2 G2.out.1 B2.out (by have:=HR.out.2 x (by simp);simp;omega)).mono ?_
    rintro e w3 ⟨⟨m3,rfl⟩,G3⟩
    clear c0'
    have q5:(1:Int)≤(n:Int):=by have:=HN.out;omega
    have q6:(n:Int)≤(c:Int):=by have:=HN.out;omega
    have q7:¬c=1:=HC1.out
    have q8:n - 1=n1:=by have:=HN.out;omega
    clear q0
    go_wp2
    clear q5 q6 q7 q8 q10
    go_loopw [10,65] (fun _ i w'=>∃j:Nat,j≤n1∧i=.int .i64 j∧Lib.BuilderAt 73 5 w0.heap.size b (.pointer (some ⟨b,0,none⟩)) (Lib.byteCells (sofar sep x (y :: r) j)) w'∧Below w0.heap.size w0 w') (fun _ i _=>n1 - (intOf i).toNat)
    case atStart=>exact⟨0,Nat.zero_le _,rfl,by have:=G3.out.1;simpa [sofar] using this,G3.out.2⟩
    case round =>
     clear G3 G2
     obtain⟨j,hj,rfl,hB,hbl⟩:=hrel
     have HB:Hid (Lib.BuilderAt 73 5 w0.heap.size b (.pointer (some ⟨b,0,none⟩)) (Lib.byteCells (sofar sep x (y :: r) j)) wr∧Below w0.heap.size w0 wr):=⟨hB,hbl⟩
     clear hB hbl
     have HLE:Hid (∀j,j≤n1→(sofar sep x (y :: r) j).length≤30000+j*30010):=fun j _=>sofar_le (by have:=HSS.out;omega) (HR.out.2 x (by simp)) (fun z hz=>HR.out.2 z (by simp at hz ⊢;exact .inr hz)) j
     by_cases hlt:j<n1
     ·have q0:(j:Int)<(n1:Int):=by omega
      have q1:(0:Int)≤(j:Int):=by omega
      obtain⟨z,hz⟩:∃z,(y :: r)[j]?=some z:=⟨_,List.getElem?_eq_getElem (by have:=HN.out;omega)⟩
      obtain⟨g',o',e,cz⟩:=HR.out.1 (j+1) z (by simpa using hz)
      cases e
      have cz':wr.cell? ⟨g,o+1+j,none⟩=some (.string (Lx.bs z)):=by
       have:=(HB.out.2.cell (p:=⟨g,o+(j+1),none⟩) (block_lt_of_cell cz)).trans cz
       rwa [show o+(j+1)=o+1+j by omega] at this
      have hzl:=HR.out.2 z (by have:=List.mem_of_getElem? hz;simp at this ⊢;exact .inr this)
      obtain⟨j1,hj1⟩:∃j1,j1=j+1:=⟨_,rfl⟩
      have HJ:Hid (j1=j+1∧j<n1∧z.length≤30000∧sofar sep x (y :: r) j1=sofar sep x (y :: r) j++(sep++z)):=⟨hj1,hlt,hzl,by rw[hj1];exact zcW hz⟩
      have HV:Hid (IntKind.i64.wrap ((j:Int)+1)=(j1:Int)∧wrap64 ((j:Int)+1)=(j1:Int)):=wrp (by omega) (by have:=HN.out;omega)
      have hl1:=HLE.out j hj
      have HL1:Hid ((sofar sep x (y :: r) j).length≤700000000):=by show _≤_;have:=HN.out;omega
      have CW1:Hid (Calls Tryz.prog 44 #[.pointer (some ⟨b,0,none⟩),.string ss] wr fun e w'=>(∃m:Int,e=.returned (.tuple #[.int .i64 m,.nilIface]))∧Hid (Lib.BuilderAt 73 5 w0.heap.size b (.pointer (some ⟨b,0,none⟩)) (Lib.byteCells (sofar sep x (y :: r) j++sep)) w'∧Below w0.heap.size w0 w')):=by
       have:=CW.out (sofar sep x (y :: r) j) sep wr HB.out.1 HB.out.2 (by have:=HL1.out;have:=HSS.out;omega)
       rw[←HSS.out.1] at this
       exact this
      have CW2:Hid (∀w',Lib.BuilderAt 73 5 w0.heap.size b (.pointer (some ⟨b,0,none⟩)) (Lib.byteCells (sofar sep x (y :: r) j++sep)) w'→Below w0.heap.size w0 w'→Calls Tryz.prog 44 #[.pointer (some ⟨b,0,none⟩),.string (Lx.bs z)] w' fun e w''=>(∃m:Int,e=.returned (.tuple #[.int .i64 m,.nilIface]))∧Hid (Lib.BuilderAt 73 5 w0.heap.size b (.pointer (some ⟨b,0,none⟩)) (Lib.byteCells (sofar sep x (y :: r) j1)) w''∧Below w0.heap.size w0 w'')):=fun w' h1 h2=>by
       have:=CW.out (sofar sep x (y :: r) j++sep) z w' h1 h2 (by have:=HL1.out;have:=HSS.out;have:=HJ.out;simp;omega)
       rw[List.append_assoc,←HJ.out.2.2.2] at this
       exact this
      clear hz cz hzl hj1 hlt hj hl1 CW
      go_wp2_with fail
      refine(CW1.out).mono ?_
      rintro e w5 ⟨⟨m5,rfl⟩,G5⟩
      go_wp2_with fail
      refine(CW2.out w5 G5.out.1 G5.out.2).mono ?_
      rintro e w6 ⟨⟨m6,rfl⟩,G6⟩
      obtain⟨v1,v2⟩:=HV.out
      go_wp2
      clear v1 v2
      go_roundw
      case rel=>first | exact⟨j1,by have:=HJ.out;omega,rfl,G6.out.1,G6.out.2⟩ | ((repeat apply Exists.intro);exact⟨⟨j1,by have:=HJ.out;omega,rfl,G6.out.1,G6.out.2⟩,rfl⟩)
      case measure =>
       simp only[intOf]
       have:=HJ.out
       omega
     ·have q0:¬(j:Int)<(n1:Int):=by omega
      have hjn:j=n1:=by omega
      have CST:Hid (Calls Tryz.prog 45 #[.pointer (some ⟨b,0,none⟩)] wr fun e w'=>e=.returned (.string (Lx.bs (join sep (x :: y :: r))))∧Below w0.heap.size wr w'):=by
       have:=Tryz.Builder_String_any w0.heap.size b (sofar sep x (y :: r) j) wr (.inr HB.out.1) HB.out.2.size
       have e:sofar sep x (y :: r) j=join sep (x :: y :: r):=by
        rw[join_cons,sofar,List.take_of_length_le (by have:=HN.out;omega)]
       rw[e] at this
       exact this
      clear hlt hj hjn CW
      go_wp2_with fail
      refine(CST.out).mono ?_
      rintro e w5 ⟨rfl,hb5⟩
      have G5:Hid (Below w0.heap.size w0 w5):=HB.out.2.trans hb5
      clear hb5
      go_wp2
      go_ret
      exact⟨rfl,G5.out⟩
end Ps
end Go.Proofs.YtfhkaffakniioaaGreatDoor
