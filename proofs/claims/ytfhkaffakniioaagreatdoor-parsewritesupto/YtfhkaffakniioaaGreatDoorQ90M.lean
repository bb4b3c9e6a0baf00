/- Several texts, joined. -/
import Derived.Test.YtfhkaffakniioaaGreatDoorQ38M
import Derived.Test.YtfhkaffakniioaaGreatDoorQ14M
import Derived.Test.YtfhkaffakniioaaGreatDoorPrNM
import Derived.Test.YtfhkaffakniioaaGreatDoorQ08M
import Derived.Test.YtfhkaffakniioaaGreatDoorQ11M
import Derived.Deep.MidRow
import Derived.Test.YtfhkaffakniioaaGreatDoorPrXM
import Derived.SizedLaws
import Derived.Deep.Upon
import Derived.Deep.AppendLies
import Derived.Deep.RegionHeld3
import Derived.Lib.AppendZeros
set_option maxHeartbeats 8000000
set_option maxRecDepth 100000
namespace Go.Proofs.YtfhkaffakniioaaGreatDoor
open Go.RowKit
namespace Ps
theorem add_s {a b:ByteArray} {x y:Bs} (ha:a=Lx.bs x) (hb:b=Lx.bs y) (h:x.length+y.length≤9223372036854775807) (W:World):(Op.stringOp .add a b).run Tryz.prog W=.ok (.string (Lx.bs (x++y))) W:=by
 subst ha hb
 rw[run_string_add_sum W _ _ (by rw[Lx.bs_size,Lx.bs_size];exact h)]
 congr 2
theorem kd_at:∀j,j<11→okd.getD j 0=12+j:=by decide
theorem opTx_at {k j:Nat} (hj:j<11) (h:okd.getD j 0=k):opTx k=otx.getD j []:=by
 rw[kd_at j hj] at h
 rw[opTx,if_pos (by omega),show k - 12=j by omega]
theorem opTx_none {k:Nat} (h:∀j,j<11→okd.getD j 0≠k):opTx k=[]:=by
 rw[opTx,if_neg]
 intro q
 exact h (k - 12) (by omega) (by rw[kd_at (k - 12) (by omega)];omega)
theorem operatorOf_c (k:Nat) (W:World) (hO:HasO W):Calls Tryz.prog 83 #[.int .u8 (k:Int)] W fun e W'=>e=.returned (.string (Lx.bs (opTx k)))∧Below W.heap.size W W':=by
 go_enter Tryz.func83,Tryz.ntmps83
 go_upto_region 1 with fail
 first | refine wp_seq ?_ | skip
 refine wp_region_lit ?_
 refine wpList_load_mid rfl 132 (.global 2) rfl 2 0 rfl opsV.toList _ (range_ops hO) Tryz.underlying132 rfl (by kernel_rfl) ?_
 clear hO
 obtain⟨A,hA⟩:∃A:Array Value,A=opsV.toList.toArray:=⟨_,rfl⟩
 rw[←hA]
 have HIX:Hid (∀j:Nat,j<11→∀wx:World,(Instr.index 132 (.agg A) (.int .i64 (j:Int))).run Tryz.prog wx=.ok (.agg #[.string (Lx.bs (otx.getD j [])),.int .u8 ((okd.getD j 0:Nat):Int)]) wx):=by
  intro j hj wx
  rw[hA]
  exact index_ops j hj wx
 clear hA
 go_wp2
 go_loopw [6] (fun i wr=>∃j:Nat,j≤11∧i=.int .i64 j∧(∀m,m<j→okd.getD m 0≠k)∧Below W.heap.size W wr) (fun i _=>11 - (intOf i).toNat)
 case atStart=>exact⟨0,Nat.zero_le _,rfl,fun k hk=>by omega,Below.refl _ _⟩
 case round =>
  obtain⟨j,hj,rfl,hno,hwr⟩:=hrel
  have HW:Hid ((∀m,m<j→okd.getD m 0≠k)∧Below W.heap.size W wr):=⟨hno,hwr⟩
  clear hno hwr
  by_cases hlt:j<11
  ·have q0:(j:Int)<11:=by omega
   have ix:=HIX.out j hlt
   obtain⟨y,hy⟩:∃y,y=otx.getD j []:=⟨_,rfl⟩
   obtain⟨ys,hys⟩:∃ys,ys=Lx.bs y:=⟨_,rfl⟩
   obtain⟨kd,hkd⟩:∃kd,kd=okd.getD j 0:=⟨_,rfl⟩
   rw[←hy,←hys,←hkd] at ix
   have HY:Hid (y=otx.getD j []∧ys=Lx.bs y∧kd=okd.getD j 0∧j<11):=⟨hy,hys,hkd,hlt⟩
   clear hy hys hkd hlt hj
   go_upto_region 4 with fail
   obtain⟨w3,hw3⟩:∃w3,w3=wr.alloc (.cells #[.string ys,.int .u8 (kd:Int)] 131):=⟨_,rfl⟩
   obtain⟨T,hT⟩:∃T,T=wr.heap.size:=⟨_,rfl⟩
   have X3:Hid (w3.heap[T]?=some (.cells #[.string ys,.int .u8 (kd:Int)] 131 (0,0))∧Below W.heap.size W w3):=by
    have hb:Below wr.heap.size wr w3:=by rw[hw3];exact bnew _ _
    exact⟨by rw[hw3,hT];exact heap_alloc_new wr _,HW.out.2.trans (hb.mono HW.out.2.size)⟩
   rw[←hw3,←hT]
   clear hw3 hT ix
   have y0:w3.cell? ⟨T,0,none⟩=some (.string ys):=by rw[cell_of_row _ _ _ _ _ _ X3.out.1];rfl
   have y1:w3.cell? ⟨T,1,none⟩=some (.int .u8 (kd:Int)):=by rw[cell_of_row _ _ _ _ _ _ X3.out.1];rfl
   by_cases he:kd=k
   ·have t0:((kd:Int)==(k:Int))=true:=by rw[he];simp
    have HK:Hid (Lx.bs (opTx k)=ys):=by
     show _=_
     rw[opTx_at HY.out.2.2.2 (HY.out.2.2.1.symm.trans he),←HY.out.1,HY.out.2.1]
    clear he
    go_wp2
    go_ret
    exact⟨by rw[HK.out];rfl,X3.out.2⟩
   ·have t0:((kd:Int)==(k:Int))=false:=by simp;omega
    obtain⟨j1,hj1⟩:∃j1,j1=j+1:=⟨_,rfl⟩
    have HJ:Hid (j1=j+1):=hj1
    have HV:Hid (IntKind.i64.wrap ((j:Int)+1)=(j1:Int)∧wrap64 ((j:Int)+1)=(j1:Int)):=wrp (by omega) (by have:=HY.out;omega)
    have HNO2:Hid (∀m,m<j1→okd.getD m 0≠k):=fun m hm=>by
     rcases Nat.lt_or_ge m j with q | q
     ·exact HW.out.1 m q
     ·have hkj:m=j:=by have:=HJ.out;omega
      rw[hkj,←HY.out.2.2.1]
      exact he
    clear he hj1
    obtain⟨v1,v2⟩:=HV.out
    go_wp2
    clear v1 v2
    go_roundw
    case rel=>first | exact⟨j1,by have:=HJ.out;have:=HY.out;omega,rfl,HNO2.out,X3.out.2⟩ | ((repeat apply Exists.intro);exact⟨⟨j1,by have:=HJ.out;have:=HY.out;omega,rfl,HNO2.out,X3.out.2⟩,rfl⟩)
    case measure =>
     simp only[intOf]
     have:=HJ.out
     have:=HY.out
     omega
  ·have hj11:j=11:=by omega
   subst hj11
   have HK:Hid (opTx k=[]):=opTx_none HW.out.1
   clear hlt hj
   go_wp2
   go_ret
   exact⟨by rw[HK.out];rfl,HW.out.2⟩
theorem OwnT.push {w W W5:World} {sv v':Value} {l:List Bs} {x:Bs} (h:OwnT W w.heap.size sv l) (hb:Below w.heap.size w W) {W4:World} (h4:Below W.heap.size W W4) (hg:W4.grownBy W5 sv.ownBlock) (hn:W5.ownsRow w.heap.size 9 1 v' (l.length+1) ((l.map fun x=>Value.string (Lx.bs x))++[.string (Lx.bs x)])):Below w.heap.size w W5∧OwnT W5 w.heap.size v' (l++[x]):=by
 have b4:Below w.heap.size w W4:=hb.trans (h4.mono hb.size)
 refine⟨b4.grown hg b4.size fun q hq=>(h.ty hq).1,?_⟩
 unfold OwnT
 rw[List.length_append,List.length_singleton,List.map_append]
 exact hn
theorem field_step {ns ps:List Bs} {j:Nat} {n p:Bs} (hn:ns[j]?=some n) (hp:ps[j]?=some p):zaL (ns.take (j+1)) (ps.take (j+1))=zaL (ns.take j) (ps.take j)++[n++[58,32]++p]:=by
 have h1:=(List.getElem?_eq_some_iff.1 hn).1
 have h2:=(List.getElem?_eq_some_iff.1 hp).1
 rw[List.take_add_one,List.take_add_one,hn,hp,zaL,zaL]
 show List.zipWith _ (ns.take j++[n]) (ps.take j++[p])=_
 rw[List.zipWith_append (by rw[List.length_take,List.length_take];omega)]
 rfl
theorem zip_take:∀ns ps:List Bs,List.zipWith (fun n p:Bs=>n++[58,32]++p) ns ps=List.zipWith (fun n p:Bs=>n++[58,32]++p) (ns.take ps.length) ps
 | [],_=>by simp
 | _ :: _,[]=>by simp
 | n :: ns,p :: ps=>by
  have:=zip_take ns ps
  show _ :: _=_ :: _
  rw[this]
theorem fieldTexts_c (t:Bs) (ps:List Bs) (a:Option Addr) (n c:Nat) (w:World) (hn:n=ps.length) (h64:n≤64) (hc:n≤c) (hcut:n≤(cut 44 t).length) (hk:t.count 44≤64) (ht:t.length≤4611686018427387904) (hz:∀x∈cut 44 t,x.length≤64) (hp:∀x∈ps,x.length≤1000000) (hr:SR w a ps):Calls Tryz.prog 82 #[.string (Lx.bs t),.slice a n c] w fun e w'=>∃a' c',e=.returned (.slice a' n c')∧Hid (Below w.heap.size w w'∧OwnT w' w.heap.size (.slice a' n c') (zaL (cut 44 t) ps)):=by
 obtain⟨i0,hi,hz0,hz1,hz2⟩:=zaJ zbE
 obtain⟨ns,hns⟩:∃ns,ns=cut 44 t:=⟨_,rfl⟩
 obtain⟨m,hm⟩:∃m,m=ns.length:=⟨_,rfl⟩
 have CS:Hid (Calls Tryz.prog 85 #[.string (Lx.bs t),.string ⟨#[44]⟩] w fun e w'=>∃g,e=.returned (.slice (some ⟨g,0,none⟩) m m)∧Below w.heap.size w w'∧SR w' (some ⟨g,0,none⟩) ns):=by
  rw[hm,hns]
  exact split_c 44 t ht (by omega) w
 rw[←hns] at hcut hz ⊢
 have HS:Hid (n=ps.length∧n≤64∧n≤c∧n≤m∧m=ns.length∧(∀x∈ns,x.length≤64)∧(∀x∈ps,x.length≤1000000)∧SR w a ps):=⟨hn,h64,hc,by omega,hm,hz,hp,hr⟩
 obtain⟨ts,hts⟩:∃ts,ts=Lx.bs t:=⟨_,rfl⟩
 rw[←hts] at CS ⊢
 have qs1:(0:Int)≤(n:Int):=by omega
 have qs2:(n:Int)≤(m:Int):=by have:=HS.out.2.2.2.1;omega
 clear hts hns hm hn hc hcut hz hp hr ht hk
 go_enter Tryz.func82,Tryz.ntmps82
 go_wp2_with fail
 refine(CS.out).mono ?_
 rintro e w1 ⟨g,rfl,hb1,hr1⟩
 have X1:Hid (Below w.heap.size w w1∧SR w1 (some ⟨g,0,none⟩) ns):=⟨hb1,hr1⟩
 clear hb1 hr1 CS
 go_wp2
 clear qs1 qs2
 go_loopw [5,14] (fun v i wr=>∃j:Nat,j≤n∧i=.int .i64 j∧Hid (Below w1.heap.size w1 wr∧Below w.heap.size w wr∧OwnT wr w1.heap.size v (zaL (ns.take j) (ps.take j)))) (fun _ i _=>n - (intOf i).toNat)
 case atStart=>exact⟨0,Nat.zero_le _,rfl,Below.refl _ _,X1.out.1,rfl,.inl ⟨rfl,rfl⟩⟩
 case round =>
  obtain⟨j,hj,rfl,HI⟩:=hrel
  obtain⟨nl,hnl⟩:∃nl,nl=zaL (ns.take j) (ps.take j):=⟨_,rfl⟩
  rw[←hnl] at HI
  obtain⟨na,nc,hnv⟩:=HI.out.2.2.form
  obtain⟨k,hk⟩:∃k,k=nl.length:=⟨_,rfl⟩
  rw[←hk] at hnv
  have HK:Hid (k=nl.length∧k=j∧nl=zaL (ns.take j) (ps.take j)):=⟨hk,by rw[hk,hnl,zaL,List.length_zipWith,List.length_take,List.length_take];have:=HS.out;omega,hnl⟩
  subst hnv
  clear hk hnl
  by_cases hlt:j<n
  ·have q0:(j:Int)<(n:Int):=by omega
   have q1:(0:Int)≤(j:Int):=by omega
   obtain⟨y,hy⟩:∃y,ns[j]?=some y:=⟨_,List.getElem?_eq_getElem (by have:=HS.out;omega)⟩
   obtain⟨p,hp⟩:∃p,ps[j]?=some p:=⟨_,List.getElem?_eq_getElem (by have:=HS.out;omega)⟩
   obtain⟨g',o',e0,c0⟩:=(X1.out.2.call HI.out.1) j y hy
   cases e0
   obtain⟨g2,o2,rfl,c1⟩:=(HS.out.2.2.2.2.2.2.2.call HI.out.2.1) j p hp
   have hyl:=HS.out.2.2.2.2.2.1 y (List.mem_of_getElem? hy)
   have hpl:=HS.out.2.2.2.2.2.2.1 p (List.mem_of_getElem? hp)
   rw[Nat.zero_add] at c0
   have HP:Hid (zaL (ns.take (j+1)) (ps.take (j+1))=nl++[y++[58,32]++p]∧j<n):=⟨by rw[HK.out.2.2];exact field_step hy hp,hlt⟩
   have a1:=add_s (a:=Lx.bs y) (b:=⟨#[58,32]⟩) (x:=y) (y:=[58,32]) rfl rfl (by show y.length+2≤_;omega)
   have a2:=add_s (a:=Lx.bs (y++[58,32])) (b:=Lx.bs p) (x:=y++[58,32]) (y:=p) rfl rfl (by rw[List.length_append];show y.length+2+p.length≤_;omega)
   obtain⟨z,hzz⟩:∃z,z=y++[58,32]++p:=⟨_,rfl⟩
   rw[←hzz] at a2 HP
   obtain⟨yy,hyy⟩:∃yy,yy=Lx.bs (y++[58,32]):=⟨_,rfl⟩
   rw[←hyy] at a1 a2
   have O6:Hid (wr.ownsRow w1.heap.size 9 1 (.slice na k nc) k (nl.map fun x=>Value.string (Lx.bs x))):=by
    have:=HI.out.2.2
    unfold OwnT at this
    rw[←HK.out.1] at this
    exact this
   have fit63:Hid (k+1≤maxLen):=by show _≤_;have:=HK.out;have:=HS.out;unfold maxLen;omega
   have fit47:Hid ((k+1)*16≤140737488355328):=by show _≤_;have:=HK.out;have:=HS.out;omega
   obtain⟨j1,hj1⟩:∃j1,j1=j+1:=⟨_,rfl⟩
   have HJ1:Hid (j1=j+1):=hj1
   have HV:Hid (IntKind.i64.wrap ((j:Int)+1)=(j1:Int)∧wrap64 ((j:Int)+1)=(j1:Int)):=wrp (by omega) (by have:=HS.out;omega)
   clear hy hp hlt hj hzz hyy hj1 hyl hpl
   go_wp2_with (at_builtin;refine wpList_append_own _ rfl _ _ 50 rfl w1.heap.size 9 i0 (.string ⟨#[]⟩) 1 16 Tryz.underlying50 hi hz0 hz1 hz2 rfl (by decide) _ _ _ rfl (O6.out.alloc _) ⟨wr.heap.size,0,none⟩ 1 1 [.string (Lx.bs z)] rfl rfl ?c1 ?c2 fit63.out fit47.out ?c5 ?_)
   case c1 =>
    intro j u hj
    match j,hj with
    | 0,hj=>simp at hj;subst hj;simp[Addr.add]
   case c2=>intro u hu;simp at hu;subst hu;rfl
   case c5=>have h1:=HI.out.1.size;simp;omega
   intro v' w7 hown7 hgrow7 _
   have I7:Hid (Below w1.heap.size w1 w7∧Below w.heap.size w w7∧OwnT w7 w1.heap.size v' (zaL (ns.take j1) (ps.take j1))):=by
    rw[HJ1.out,HP.out.1]
    obtain⟨r1,r2⟩:=HI.out.2.2.push HI.out.1 (bnew wr _) hgrow7 (by rw[←HK.out.1];exact hown7)
    exact⟨r1,X1.out.1.trans (r1.mono X1.out.1.size),r2⟩
   clear hown7 hgrow7
   obtain⟨v1,v2⟩:=HV.out
   go_wp2
   clear v1 v2
   go_roundw
   case rel=>first | exact⟨j1,by have:=HJ1.out;have:=HP.out;omega,rfl,I7.out⟩ | ((repeat apply Exists.intro);exact⟨⟨j1,by have:=HJ1.out;have:=HP.out;omega,rfl,I7.out⟩,rfl⟩)
   case measure =>
    simp only[intOf]
    have:=HJ1.out
    have:=HP.out
    omega
  ·have q0:¬(j:Int)<(n:Int):=by omega
   have HE:Hid (k=n∧zaL ns ps=nl):=by
    have e1:j=n:=by omega
    refine⟨by rw[HK.out.2.1,e1],?_⟩
    rw[HK.out.2.2,e1]
    show List.zipWith _ _ _=List.zipWith _ _ _
    rw[List.take_of_length_le (l:=ps) (by have:=HS.out.1;omega)]
    rw[HS.out.1]
    exact zip_take ns ps
   clear hlt hj
   go_wp2
   go_ret
   exact⟨na,nc,by rw[←HE.out.1];rfl,HI.out.2.1,by rw[HE.out.2,←HE.out.1];exact own_to HI.out.2.2 X1.out.1.size⟩
theorem zbL:∀(l:List Bs) (M:Nat),(∀x∈l,x.length≤M)→tot l≤l.length*M
 | [],_,_=>Nat.zero_le _
 | x :: r,M,h=>by
  have h1:=h x (List.mem_cons_self ..)
  have h2:=zbL r M (fun y hy=>h y (List.mem_cons_of_mem _ hy))
  have e:(x :: r).length*M=r.length*M+M:=Nat.succ_mul _ _
  rw[e,tot]
  omega
theorem mem_zip {f:Bs→Bs→Bs}:∀{a b:List Bs} {x:Bs},x∈List.zipWith f a b→∃u v,u∈a∧v∈b∧x=f u v
 | [],_,x,h=>by simp at h
 | _ :: _,[],x,h=>by simp at h
 | u :: a,v :: b,x,h=>by
  rcases List.mem_cons.1 (show x∈f u v :: List.zipWith f a b from h) with e | e
  ·exact⟨u,v,List.mem_cons_self ..,List.mem_cons_self ..,e⟩
  ·obtain⟨u',v',h1,h2,h3⟩:=mem_zip e
   exact⟨u',v',List.mem_cons_of_mem _ h1,List.mem_cons_of_mem _ h2,h3⟩
theorem show_text (t:Bs) (w:World) (hL:HasL w):Calls Tryz.prog 81 #[.agg #[.int .u8 4,.string (Lx.bs t),.int .i64 0,.int .i64 0]] w fun e w'=>∃r:Int,e=.returned (.tuple #[.string (Lx.bs ((Lx.shw 4 t 0).getD [])),.int .i64 r])∧Below w.heap.size w w':=by
 have h:=show_c 4 t 0 0 (by decide) w hL
 refine h.mono ?_
 rintro e w' ⟨rfl,hb⟩
 cases hs:Lx.shw 4 t 0 with
 | none=>exact⟨13,rfl,hb⟩
 | some y=>exact⟨0,rfl,hb⟩
theorem stepText_c (p:Sp) (ps:List Bs) (a:Option Addr) (n c:Nat) (w:World) (hr:zaE p=true) (hnum:-9223372036854775808≤p.n∧p.n≤9223372036854775807) (htx:p.text.length≤4611686018427387904) (hn:n=ps.length) (htk:n=zaI p) (hc:n≤c∧c≤9223372036854775807) (hp:∀x∈ps,x.length≤1000000) (hs:SR w a ps) (hL:HasL w) (hO:HasO w):Calls Tryz.prog 52 #[.agg #[.int .u8 (p.kind:Int),.string (Lx.bs p.text),.int .i64 p.n],.slice a n c] w fun e w'=>e=.returned (.string (Lx.bs (stepTx p ps)))∧Below w.heap.size w w':=by
 obtain⟨pk,pt,pn⟩:=p
 have h64:n≤64:=by rw[htk];exact zbX hr
 obtain⟨s,hss⟩:∃s,s=Lx.bs pt:=⟨_,rfl⟩
 obtain⟨w1,hw1⟩:∃w1,w1=w.alloc (.cells #[.int .u8 (pk:Int),.string s,.int .i64 pn] 29):=⟨_,rfl⟩
 obtain⟨T,hT⟩:∃T,T=w.heap.size:=⟨_,rfl⟩
 have X1:Hid (w1.heap[T]?=some (.cells #[.int .u8 (pk:Int),.string s,.int .i64 pn] 29 (0,0))∧Below w.heap.size w w1∧HasL w1∧HasO w1∧SR w1 a ps):=by
  have hb:Below w.heap.size w w1:=by rw[hw1];exact bnew _ _
  exact⟨by rw[hw1,hT];exact heap_alloc_new w _,hb,hL.stays hb,hO.stays hb,hs.call hb⟩
 have y0:w1.cell? ⟨T,0,none⟩=some (.int .u8 (pk:Int)):=by rw[cell_of_row _ _ _ _ _ _ X1.out.1];rfl
 have y1:w1.cell? ⟨T,1,none⟩=some (.string s):=by rw[cell_of_row _ _ _ _ _ _ X1.out.1];rfl
 have y2:w1.cell? ⟨T,2,none⟩=some (.int .i64 pn):=by rw[cell_of_row _ _ _ _ _ _ X1.out.1];rfl
 have HS:Hid (n=ps.length∧n=zaI ⟨pk,pt,pn⟩∧n≤c∧c≤9223372036854775807∧n≤64∧(∀x∈ps,x.length≤1000000)∧zaE ⟨pk,pt,pn⟩=true∧s=Lx.bs pt∧pt.length≤4611686018427387904∧(-9223372036854775808≤pn∧pn≤9223372036854775807)):=⟨hn,htk,hc.1,hc.2,h64,hp,hr,hss,htx,hnum⟩
 show Calls Tryz.prog 52 #[.agg #[.int .u8 (pk:Int),.string (Lx.bs pt),.int .i64 pn],.slice a n c] w _
 rw[←hss]
 clear hr hnum htx hn htk hc hp hs hL hO h64 hss
 by_cases h1:pk=1
 ·have q1:((pk:Int)==1)=true:=by rw[h1];rfl
  have HQ:Hid (stepTx ⟨pk,pt,pn⟩ ps=[78,85,76,76]):=by show _=_;rw[stepTx,if_pos h1]
  clear h1
  go_enter Tryz.func52,Tryz.ntmps52
  go_upto_region 1 with fail
  rw[←hw1,←hT]
  clear hw1 hT
  go_wp2
  go_ret
  exact⟨by rw[HQ.out];rfl,X1.out.2.1⟩
 have q1:((pk:Int)==1)=false:=by simp;omega
 by_cases h2:pk=2
 ·have q2:((pk:Int)==2)=true:=by rw[h2];rfl
  have HQ:Hid (stepTx ⟨pk,pt,pn⟩ ps=[84,82,85,69]):=by show _=_;rw[stepTx,if_neg h1,if_pos h2]
  clear h1 h2
  go_enter Tryz.func52,Tryz.ntmps52
  go_upto_region 1 with fail
  rw[←hw1,←hT]
  clear hw1 hT
  go_wp2
  go_ret
  exact⟨by rw[HQ.out];rfl,X1.out.2.1⟩
 have q2:((pk:Int)==2)=false:=by simp;omega
 by_cases h3:pk=3
 ·have q3:((pk:Int)==3)=true:=by rw[h3];rfl
  have HQ:Hid (stepTx ⟨pk,pt,pn⟩ ps=[70,65,76,83,69]):=by show _=_;rw[stepTx,if_neg h1,if_neg h2,if_pos h3]
  clear h1 h2 h3
  go_enter Tryz.func52,Tryz.ntmps52
  go_upto_region 1 with fail
  rw[←hw1,←hT]
  clear hw1 hT
  go_wp2
  go_ret
  exact⟨by rw[HQ.out];rfl,X1.out.2.1⟩
 have q3:((pk:Int)==3)=false:=by simp;omega
 by_cases h4:pk=4
 ·have q4:((pk:Int)==4)=true:=by rw[h4];rfl
  have HQ:Hid (stepTx ⟨pk,pt,pn⟩ ps=Lib.itoa pn):=by show _=_;rw[stepTx,if_neg h1,if_neg h2,if_neg h3,if_pos h4]
  have CF:=hidp (format_c pn HS.out.2.2.2.2.2.2.2.2.2.1 HS.out.2.2.2.2.2.2.2.2.2.2 w1 X1.out.2.2.1)
  clear h1 h2 h3 h4
  go_enter Tryz.func52,Tryz.ntmps52
  go_upto_region 1 with fail
  rw[←hw1,←hT]
  clear hw1 hT
  go_wp2_with fail
  refine(CF.out).mono ?_
  rintro e w2 ⟨rfl,hb2⟩
  have B2:Hid (Below w.heap.size w w2):=X1.out.2.1.trans (hb2.mono X1.out.2.1.size)
  clear hb2 CF y0 y1 y2
  go_wp2
  go_ret
  exact⟨by rw[HQ.out];rfl,B2.out⟩
 have q4:((pk:Int)==4)=false:=by simp;omega
 by_cases h5:pk=5
 ·have q5:((pk:Int)==5)=true:=by rw[h5];rfl
  have HQ:Hid (stepTx ⟨pk,pt,pn⟩ ps=(Lx.shw 4 pt 0).getD []):=by show _=_;rw[stepTx,if_neg h1,if_neg h2,if_neg h3,if_neg h4,if_pos h5]
  have CF:Hid (Calls Tryz.prog 81 #[.agg #[.int .u8 4,.string s,.int .i64 0,.int .i64 0]] w1 fun e w'=>∃r:Int,e=.returned (.tuple #[.string (Lx.bs ((Lx.shw 4 pt 0).getD [])),.int .i64 r])∧Below w1.heap.size w1 w'):=by
   rw[HS.out.2.2.2.2.2.2.2.1]
   exact show_text pt w1 X1.out.2.2.1
  clear h1 h2 h3 h4 h5
  go_enter Tryz.func52,Tryz.ntmps52
  go_upto_region 1 with fail
  rw[←hw1,←hT]
  clear hw1 hT
  go_wp2_with fail
  refine(CF.out).mono ?_
  rintro e w2 ⟨r,rfl,hb2⟩
  have B2:Hid (Below w.heap.size w w2):=X1.out.2.1.trans (hb2.mono X1.out.2.1.size)
  clear hb2 CF y0 y1 y2
  go_wp2
  go_ret
  exact⟨by rw[HQ.out];rfl,B2.out⟩
 have q5:((pk:Int)==5)=false:=by simp;omega
 by_cases h6:pk=6
 ·have q6:((pk:Int)==6)=true:=by rw[h6];rfl
  have HQ:Hid (stepTx ⟨pk,pt,pn⟩ ps=pt):=by show _=_;rw[stepTx,if_neg h1,if_neg h2,if_neg h3,if_neg h4,if_neg h5,if_pos h6]
  clear h1 h2 h3 h4 h5 h6
  go_enter Tryz.func52,Tryz.ntmps52
  go_upto_region 1 with fail
  rw[←hw1,←hT]
  clear hw1 hT
  go_wp2
  go_ret
  exact⟨by rw[HQ.out,←HS.out.2.2.2.2.2.2.2.1];rfl,X1.out.2.1⟩
 have q6:((pk:Int)==6)=false:=by simp;omega
 by_cases h7:pk=7
 ·have q7:((pk:Int)==7)=true:=by rw[h7];rfl
  have HQ:Hid (stepTx ⟨pk,pt,pn⟩ ps=[91]++join [44,32] ps++[93]):=by show _=_;rw[stepTx,if_neg h1,if_neg h2,if_neg h3,if_neg h4,if_neg h5,if_neg h6,if_pos h7]
  obtain⟨J,hJ⟩:∃J,J=join [44,32] ps:=⟨_,rfl⟩
  have HJ:Hid (J.length≤900000000):=by
   show _≤_
   have h1:=zbK [44,32] ps
   have h2:=zbL ps 1000000 HS.out.2.2.2.2.2.1
   have e:[(44:UInt8),32].length=2:=rfl
   have h3:=HS.out.1
   have h4:=HS.out.2.2.2.2.1
   have h5:ps.length*1000000≤64*1000000:=Nat.mul_le_mul_right _ (by omega)
   rw[e] at h1
   rw[hJ]
   omega
  have CF:Hid (Calls Tryz.prog 23 #[.slice a n c,.string ⟨#[44,32]⟩] w1 fun e w'=>e=.returned (.string (Lx.bs J))∧Below w1.heap.size w1 w'):=by
   rw[hJ]
   exact join_g 1000000 [44,32] ps a n c w1 HS.out.1 (by have:=HS.out;omega) HS.out.2.2.1 HS.out.2.2.2.1 X1.out.2.2.2.2 (by decide) HS.out.2.2.2.2.2.1 (Nat.le_trans (Nat.mul_le_mul_right _ (show n+1≤65 by have:=HS.out;omega)) (by decide))
  rw[←hJ] at HQ
  have a1:=add_s (a:=⟨#[91]⟩) (b:=Lx.bs J) (x:=[91]) (y:=J) rfl rfl (by have:=HJ.out;show 1+J.length≤_;omega)
  have a2:=add_s (a:=Lx.bs ([91]++J)) (b:=⟨#[93]⟩) (x:=[91]++J) (y:=[93]) rfl rfl (by have:=HJ.out;rw[List.length_append];show 1+J.length+1≤_;omega)
  obtain⟨z1,hz1⟩:∃z1,z1=Lx.bs ([91]++J):=⟨_,rfl⟩
  rw[←hz1] at a1 a2
  clear hz1 hJ
  clear h1 h2 h3 h4 h5 h6 h7
  go_enter Tryz.func52,Tryz.ntmps52
  go_upto_region 1 with fail
  rw[←hw1,←hT]
  clear hw1 hT
  go_wp2_with fail
  refine(CF.out).mono ?_
  rintro e w2 ⟨rfl,hb2⟩
  have B2:Hid (Below w.heap.size w w2):=X1.out.2.1.trans (hb2.mono X1.out.2.1.size)
  clear hb2 CF y0 y1 y2
  go_wp2
  go_ret
  exact⟨by rw[HQ.out];rfl,B2.out⟩
 have q7:((pk:Int)==7)=false:=by simp;omega
 by_cases h8:pk=8
 ·have q8:((pk:Int)==8)=true:=by rw[h8];rfl
  have HQ:Hid (stepTx ⟨pk,pt,pn⟩ ps=[123]++join [44,32] (zaL (cut 44 pt) ps)++[125]):=by show _=_;rw[stepTx,if_neg h1,if_neg h2,if_neg h3,if_neg h4,if_neg h5,if_neg h6,if_neg h7,if_pos h8]
  have K8:=struct_cut HS.out.2.2.2.2.2.2.1 h8
  have KF:=hidp (fieldTexts_c pt ps a n c w1 HS.out.1 HS.out.2.2.2.2.1 HS.out.2.2.1 (by have:=K8.1;rw[←HS.out.2.1] at this;exact this) K8.2.2 HS.out.2.2.2.2.2.2.2.2.1 K8.2.1 HS.out.2.2.2.2.2.1 X1.out.2.2.2.2)
  obtain⟨fl,hfl⟩:∃fl,fl=zaL (cut 44 pt) ps:=⟨_,rfl⟩
  have HFL:Hid (fl.length=n∧∀x∈fl,x.length≤1000066):=by
   refine⟨?_,fun x hx=>?_⟩
   ·have k1:=K8.1
    rw[←HS.out.2.1] at k1
    rw[hfl,zaL,List.length_zipWith,←HS.out.1]
    exact Nat.min_eq_right k1
   ·rw[hfl,zaL] at hx
    obtain⟨u,v,hu,hv,rfl⟩:=mem_zip hx
    have q1:=K8.2.1 u hu
    have q2:=HS.out.2.2.2.2.2.1 v hv
    rw[List.length_append,List.length_append]
    show u.length+2+v.length≤_
    omega
  obtain⟨J,hJ⟩:∃J,J=join [44,32] fl:=⟨_,rfl⟩
  have HJ:Hid (J.length≤900000000):=by
   show _≤_
   have h1:=zbK [44,32] fl
   have h2:=zbL fl 1000066 HFL.out.2
   have e:[(44:UInt8),32].length=2:=rfl
   have h3:=HFL.out.1
   have h4:=HS.out.2.2.2.2.1
   have h5:fl.length*1000066≤64*1000066:=Nat.mul_le_mul_right _ (by omega)
   rw[e] at h1
   rw[hJ]
   omega
  have CF:Hid (∀W a' c',Below w.heap.size w W→OwnT W w1.heap.size (.slice a' n c') fl→Calls Tryz.prog 23 #[.slice a' n c',.string ⟨#[44,32]⟩] W fun e w'=>e=.returned (.string (Lx.bs J))∧Below W.heap.size W w'):=fun W a' c' hW ho=>by
   rw[hJ]
   obtain⟨o1,o2,o3,o4⟩:=ho.sr
   have e9:maxLen=9223372036854775807:=by decide
   exact join_g 1000066 [44,32] fl a' n c' W HFL.out.1.symm (by have:=HS.out;omega) o2 (by omega) o3 (by decide) HFL.out.2 (Nat.le_trans (Nat.mul_le_mul_right _ (show n+1≤65 by have:=HS.out;omega)) (by decide))
  rw[←hfl] at KF HQ
  rw[←hJ] at HQ
  rw[←HS.out.2.2.2.2.2.2.2.1] at KF
  have a1:=add_s (a:=⟨#[123]⟩) (b:=Lx.bs J) (x:=[123]) (y:=J) rfl rfl (by have:=HJ.out;show 1+J.length≤_;omega)
  have a2:=add_s (a:=Lx.bs ([123]++J)) (b:=⟨#[125]⟩) (x:=[123]++J) (y:=[125]) rfl rfl (by have:=HJ.out;rw[List.length_append];show 1+J.length+1≤_;omega)
  obtain⟨z1,hz1⟩:∃z1,z1=Lx.bs ([123]++J):=⟨_,rfl⟩
  rw[←hz1] at a1 a2
  clear hz1 hJ hfl K8
  clear h1 h2 h3 h4 h5 h6 h7 h8
  go_enter Tryz.func52,Tryz.ntmps52
  go_upto_region 1 with fail
  rw[←hw1,←hT]
  clear hw1 hT
  go_wp2_with fail
  refine(KF.out).mono ?_
  rintro e w2 ⟨a',c',rfl,G2⟩
  have B2:Hid (Below w.heap.size w w2):=X1.out.2.1.trans (G2.out.1.mono X1.out.2.1.size)
  have CF2:=hidp (CF.out w2 a' c' B2.out G2.out.2)
  clear KF CF y0 y1 y2
  go_wp2_with fail
  refine(CF2.out).mono ?_
  rintro e w3 ⟨rfl,hb3⟩
  have B3:Hid (Below w.heap.size w w3):=B2.out.trans (hb3.mono B2.out.size)
  clear hb3 CF2
  go_wp2
  go_ret
  exact⟨by rw[HQ.out];rfl,B3.out⟩
 have q8:((pk:Int)==8)=false:=by simp;omega
 by_cases h9:pk=9
 ·have q9:((pk:Int)==9)=true:=by rw[h9];rfl
  have HQ:Hid (stepTx ⟨pk,pt,pn⟩ ps=[40,45]++ps.getD 0 []++[41]):=by show _=_;rw[stepTx,if_neg h1,if_neg h2,if_neg h3,if_neg h4,if_neg h5,if_neg h6,if_neg h7,if_neg h8,if_pos h9]
  have hk1:n=1:=by
   rw[HS.out.2.1,zaI,if_neg (by show ¬(pk=7∨pk=8);omega),if_neg (by show ¬12≤pk;omega),if_pos (by show 9≤pk;omega)]
  obtain⟨x,hx⟩:∃x,ps[0]?=some x:=⟨_,List.getElem?_eq_getElem (by have:=HS.out;omega)⟩
  obtain⟨g,o,rfl,c0⟩:=X1.out.2.2.2.2 0 x hx
  rw[Nat.add_zero] at c0
  have hxl:=HS.out.2.2.2.2.2.1 x (List.mem_of_getElem? hx)
  have HX:Hid (stepTx ⟨pk,pt,pn⟩ ps=[40,45]++x++[41]):=by show _=_;rw[HQ.out,List.getD_eq_getElem?_getD,hx];rfl
  have a1:=add_s (a:=⟨#[40,45]⟩) (b:=Lx.bs x) (x:=[40,45]) (y:=x) rfl rfl (by show 2+x.length≤_;omega)
  have a2:=add_s (a:=Lx.bs ([40,45]++x)) (b:=⟨#[41]⟩) (x:=[40,45]++x) (y:=[41]) rfl rfl (by rw[List.length_append];show 2+x.length+1≤_;omega)
  obtain⟨z1,hz1⟩:∃z1,z1=Lx.bs ([40,45]++x):=⟨_,rfl⟩
  rw[←hz1] at a1 a2
  have q0:(0:Int)<(n:Int):=by omega
  clear hz1 hx hxl HQ
  clear h1 h2 h3 h4 h5 h6 h7 h8 h9 hk1
  go_enter Tryz.func52,Tryz.ntmps52
  go_upto_region 1 with fail
  rw[←hw1,←hT]
  clear hw1 hT
  go_wp2
  go_ret
  exact⟨by rw[HX.out];rfl,X1.out.2.1⟩
 have q9:((pk:Int)==9)=false:=by simp;omega
 by_cases h10:pk=10
 ·have q10:((pk:Int)==10)=true:=by rw[h10];rfl
  have HQ:Hid (stepTx ⟨pk,pt,pn⟩ ps=[40,78,79,84,32]++ps.getD 0 []++[41]):=by show _=_;rw[stepTx,if_neg h1,if_neg h2,if_neg h3,if_neg h4,if_neg h5,if_neg h6,if_neg h7,if_neg h8,if_neg h9,if_pos h10]
  have hk1:n=1:=by
   rw[HS.out.2.1,zaI,if_neg (by show ¬(pk=7∨pk=8);omega),if_neg (by show ¬12≤pk;omega),if_pos (by show 9≤pk;omega)]
  obtain⟨x,hx⟩:∃x,ps[0]?=some x:=⟨_,List.getElem?_eq_getElem (by have:=HS.out;omega)⟩
  obtain⟨g,o,rfl,c0⟩:=X1.out.2.2.2.2 0 x hx
  rw[Nat.add_zero] at c0
  have hxl:=HS.out.2.2.2.2.2.1 x (List.mem_of_getElem? hx)
  have HX:Hid (stepTx ⟨pk,pt,pn⟩ ps=[40,78,79,84,32]++x++[41]):=by show _=_;rw[HQ.out,List.getD_eq_getElem?_getD,hx];rfl
  have a1:=add_s (a:=⟨#[40,78,79,84,32]⟩) (b:=Lx.bs x) (x:=[40,78,79,84,32]) (y:=x) rfl rfl (by show 5+x.length≤_;omega)
  have a2:=add_s (a:=Lx.bs ([40,78,79,84,32]++x)) (b:=⟨#[41]⟩) (x:=[40,78,79,84,32]++x) (y:=[41]) rfl rfl (by rw[List.length_append];show 5+x.length+1≤_;omega)
  obtain⟨z1,hz1⟩:∃z1,z1=Lx.bs ([40,78,79,84,32]++x):=⟨_,rfl⟩
  rw[←hz1] at a1 a2
  have q0:(0:Int)<(n:Int):=by omega
  clear hz1 hx hxl HQ
  clear h1 h2 h3 h4 h5 h6 h7 h8 h9 h10 hk1
  go_enter Tryz.func52,Tryz.ntmps52
  go_upto_region 1 with fail
  rw[←hw1,←hT]
  clear hw1 hT
  go_wp2
  go_ret
  exact⟨by rw[HX.out];rfl,X1.out.2.1⟩
 have q10:((pk:Int)==10)=false:=by simp;omega
 by_cases h11:pk=11
 ·have q11:((pk:Int)==11)=true:=by rw[h11];rfl
  have HQ:Hid (stepTx ⟨pk,pt,pn⟩ ps=[40]++ps.getD 0 []++[32,73,83,32,78,85,76,76,41]):=by show _=_;rw[stepTx,if_neg h1,if_neg h2,if_neg h3,if_neg h4,if_neg h5,if_neg h6,if_neg h7,if_neg h8,if_neg h9,if_neg h10,if_pos h11]
  have hk1:n=1:=by
   rw[HS.out.2.1,zaI,if_neg (by show ¬(pk=7∨pk=8);omega),if_neg (by show ¬12≤pk;omega),if_pos (by show 9≤pk;omega)]
  obtain⟨x,hx⟩:∃x,ps[0]?=some x:=⟨_,List.getElem?_eq_getElem (by have:=HS.out;omega)⟩
  obtain⟨g,o,rfl,c0⟩:=X1.out.2.2.2.2 0 x hx
  rw[Nat.add_zero] at c0
  have hxl:=HS.out.2.2.2.2.2.1 x (List.mem_of_getElem? hx)
  have HX:Hid (stepTx ⟨pk,pt,pn⟩ ps=[40]++x++[32,73,83,32,78,85,76,76,41]):=by show _=_;rw[HQ.out,List.getD_eq_getElem?_getD,hx];rfl
  have a1:=add_s (a:=⟨#[40]⟩) (b:=Lx.bs x) (x:=[40]) (y:=x) rfl rfl (by show 1+x.length≤_;omega)
  have a2:=add_s (a:=Lx.bs ([40]++x)) (b:=⟨#[32,73,83,32,78,85,76,76,41]⟩) (x:=[40]++x) (y:=[32,73,83,32,78,85,76,76,41]) rfl rfl (by rw[List.length_append];show 1+x.length+9≤_;omega)
  obtain⟨z1,hz1⟩:∃z1,z1=Lx.bs ([40]++x):=⟨_,rfl⟩
  rw[←hz1] at a1 a2
  have q0:(0:Int)<(n:Int):=by omega
  clear hz1 hx hxl HQ
  clear h1 h2 h3 h4 h5 h6 h7 h8 h9 h10 h11 hk1
  go_enter Tryz.func52,Tryz.ntmps52
  go_upto_region 1 with fail
  rw[←hw1,←hT]
  clear hw1 hT
  go_wp2
  go_ret
  exact⟨by rw[HX.out];rfl,X1.out.2.1⟩
 have q11:((pk:Int)==11)=false:=by simp;omega
 have HQ:Hid (stepTx ⟨pk,pt,pn⟩ ps=[40]++ps.getD 0 []++[32]++opTx pk++[32]++ps.getD 1 []++[41]):=by show _=_;rw[stepTx,if_neg h1,if_neg h2,if_neg h3,if_neg h4,if_neg h5,if_neg h6,if_neg h7,if_neg h8,if_neg h9,if_neg h10,if_neg h11]
 have hk12:12≤pk:=by
  have:=HS.out.2.2.2.2.2.2.1
  rw[zaE,if_neg h4,if_neg h5,if_neg h6,if_neg h7,if_neg h8,Bool.and_eq_true,Bool.and_eq_true,Bool.and_eq_true,decide_eq_true_iff] at this
  have h0:0<pk:=this.1.1.1
  omega
 have hk2:n=2:=by
  rw[HS.out.2.1,zaI,if_neg (by show ¬(pk=7∨pk=8);omega),if_pos hk12]
 obtain⟨x,hx⟩:∃x,ps[0]?=some x:=⟨_,List.getElem?_eq_getElem (by have:=HS.out;omega)⟩
 obtain⟨y,hy⟩:∃y,ps[1]?=some y:=⟨_,List.getElem?_eq_getElem (by have:=HS.out;omega)⟩
 obtain⟨g,o,rfl,c0⟩:=X1.out.2.2.2.2 0 x hx
 obtain⟨g',o',e',c1⟩:=X1.out.2.2.2.2 1 y hy
 cases e'
 rw[Nat.add_zero] at c0
 have hxl:=HS.out.2.2.2.2.2.1 x (List.mem_of_getElem? hx)
 have hyl:=HS.out.2.2.2.2.2.1 y (List.mem_of_getElem? hy)
 obtain⟨op,hop⟩:∃op,op=opTx pk:=⟨_,rfl⟩
 have hol:op.length≤3:=by rw[hop];exact opTx_len pk
 have CO:Hid (∀q:BelowOf w1.heap.size w1,Calls Tryz.prog 83 #[.int .u8 (pk:Int)] q.W fun e W'=>e=.returned (.string (Lx.bs (opTx pk)))∧Below q.W.heap.size q.W W'):=fun q=>operatorOf_c pk q.W (X1.out.2.2.2.1.stays q.h)
 rw[←hop] at CO HQ
 have HX:Hid (stepTx ⟨pk,pt,pn⟩ ps=[40]++x++[32]++op++[32]++y++[41]):=by show _=_;rw[HQ.out,List.getD_eq_getElem?_getD,List.getD_eq_getElem?_getD,hx,hy];rfl
 have a1:=add_s (a:=⟨#[40]⟩) (b:=Lx.bs x) (x:=[40]) (y:=x) rfl rfl (by show 1+x.length≤_;omega)
 obtain⟨z1,hz1⟩:∃z,z=Lx.bs ([40]++x):=⟨_,rfl⟩
 rw[←hz1] at a1
 have a2:=add_s (a:=z1) (b:=⟨#[32]⟩) (x:=[40]++x) (y:=[32]) hz1 rfl (by rw[List.length_append];show 1+x.length+1≤_;omega)
 obtain⟨z2,hz2⟩:∃z,z=Lx.bs ([40]++x++[32]):=⟨_,rfl⟩
 rw[←hz2] at a2
 have a3:=add_s (a:=z2) (b:=Lx.bs op) (x:=[40]++x++[32]) (y:=op) hz2 rfl (by rw[List.length_append,List.length_append];show 1+x.length+1+op.length≤_;omega)
 obtain⟨z3,hz3⟩:∃z,z=Lx.bs ([40]++x++[32]++op):=⟨_,rfl⟩
 rw[←hz3] at a3
 have a4:=add_s (a:=z3) (b:=⟨#[32]⟩) (x:=[40]++x++[32]++op) (y:=[32]) hz3 rfl (by rw[List.length_append,List.length_append,List.length_append];show 1+x.length+1+op.length+1≤_;omega)
 obtain⟨z4,hz4⟩:∃z,z=Lx.bs ([40]++x++[32]++op++[32]):=⟨_,rfl⟩
 rw[←hz4] at a4
 have a5:=add_s (a:=z4) (b:=Lx.bs y) (x:=[40]++x++[32]++op++[32]) (y:=y) hz4 rfl (by rw[List.length_append,List.length_append,List.length_append,List.length_append];show 1+x.length+1+op.length+1+y.length≤_;omega)
 obtain⟨z5,hz5⟩:∃z,z=Lx.bs ([40]++x++[32]++op++[32]++y):=⟨_,rfl⟩
 rw[←hz5] at a5
 have a6:=add_s (a:=z5) (b:=⟨#[41]⟩) (x:=[40]++x++[32]++op++[32]++y) (y:=[41]) hz5 rfl (by rw[List.length_append,List.length_append,List.length_append,List.length_append,List.length_append];show 1+x.length+1+op.length+1+y.length+1≤_;omega)
 obtain⟨z6,hz6⟩:∃z,z=Lx.bs ([40]++x++[32]++op++[32]++y++[41]):=⟨_,rfl⟩
 rw[←hz6] at a6
 have q0:(0:Int)<(n:Int):=by omega
 have q1':(1:Int)<(n:Int):=by omega
 have hgl:=block_lt_of_cell c0
 have htl:=row_lt X1.out.1
 have HZ:Hid (Lx.bs (stepTx ⟨pk,pt,pn⟩ ps)=z6):=by show _=_;rw[HX.out,hz6]
 clear hz6 hz1 hz2 hz3 hz4 hz5 hx hy hxl hyl hol hop HQ hk12 hk2 h1 h2 h3 h4 h5 h6 h7 h8 h9 h10 h11
 go_enter Tryz.func52,Tryz.ntmps52
 go_upto_region 1 with fail
 rw[←hw1,←hT]
 clear hw1 hT
 go_upto_region 25 with fail
 have yc0:∀q:BelowOf w1.heap.size w1,q.W.cell? ⟨g,o,none⟩=some (.string (Lx.bs x)):=fun q=>(q.h.cell (p:=⟨g,o,none⟩) hgl).trans c0
 have yc1:∀q:BelowOf w1.heap.size w1,q.W.cell? ⟨g,o+1,none⟩=some (.string (Lx.bs y)):=fun q=>(q.h.cell (p:=⟨g,o+1,none⟩) hgl).trans c1
 have yk:∀q:BelowOf w1.heap.size w1,q.W.cell? ⟨T,0,none⟩=some (.int .u8 (pk:Int)):=fun q=>(q.h.cell (p:=⟨T,0,none⟩) htl).trans y0
 clear y0 y1 y2 c0 c1 hgl htl
 refine zaC w1.heap.size w1 (Below.refl _ _) (by kernel_rfl) (by kernel_rfl) ?_
 repeat (go_big_quiet_step (first | (go_at_call 83;exact below_call _ (Nat.le_refl _) (CO.out _))))
 refine wpQuiet_nil ?_
 intro _ hw'
 obtain⟨pq,hw''⟩:=hw'
 subst hw''
 have B9:Hid (Below w.heap.size w pq.W):=X1.out.2.1.trans (pq.h.mono X1.out.2.1.size)
 go_wp2
 go_ret
 exact⟨by rw[HZ.out];rfl,B9.out⟩
end Ps
end Go.Proofs.YtfhkaffakniioaaGreatDoor
namespace Go.Proofs.YtfhkaffakniioaaGreatDoor
open Go.ChangeShapes Go.WideShapes Go.ChangeAt Go.RowKit
namespace Ps
theorem cellsStep:Tryz.prog.cellsOf 29=3:=by kernel_rfl
theorem cellsItem:Tryz.prog.cellsOf 43=2:=by kernel_rfl
theorem cellsStmt:Tryz.prog.cellsOf 26=7:=by kernel_rfl
theorem cellsStepk:Tryz.prog.cellsOf 27=1:=by kernel_rfl
theorem cellsStmtk:Tryz.prog.cellsOf 22=1:=by kernel_rfl
theorem cellsSteps:Tryz.prog.cellsOf 24=1:=by kernel_rfl
theorem cellsItems:Tryz.prog.cellsOf 23=1:=by kernel_rfl
theorem zdT:Tryz.prog.cellsOf 9=1:=by kernel_rfl
theorem cellsBool:Tryz.prog.cellsOf 4=1:=by kernel_rfl
theorem cellsI64:Tryz.prog.cellsOf 2=1:=by kernel_rfl
theorem cellsOpst:Tryz.prog.cellsOf 131=2:=by kernel_rfl
theorem gOpL:Tryz.prog.globalNamed "codicil/parse.operators"=some 2:=by kernel_rfl
theorem yOpL:(Tryz.prog.globals[2]?).map (·.type)=some 132:=by kernel_rfl
theorem list2P {cs:List Value} (h:cs.length=2):∃c0 c1,cs=[c0,c1]:=by
 match cs,h with
 | [c0,c1],_=>exact⟨c0,c1,rfl⟩
theorem list3P {cs:List Value} (h:cs.length=3):∃c0 c1 c2,cs=[c0,c1,c2]:=by
 match cs,h with
 | [c0,c1,c2],_=>exact⟨c0,c1,c2,rfl⟩
theorem list7P {cs:List Value} (h:cs.length=7):∃c0 c1 c2 c3 c4 c5 c6,cs=[c0,c1,c2,c3,c4,c5,c6]:=by
 match cs,h with
 | [c0,c1,c2,c3,c4,c5,c6],_=>exact⟨c0,c1,c2,c3,c4,c5,c6,rfl⟩
theorem nat_u8P {z:Int} (h:(Lit.int .u8 z).wf=true):∃n:Nat,z=(n:Int)∧n<256:=by
 have h1:=bounds_u8 h
 exact⟨z.toNat,by omega,by omega⟩
theorem int_i64P {z:Int} (h:(Lit.int .i64 z).wf=true):-9223372036854775808≤z∧z≤9223372036854775807:=by
 simp only[Lit.wf,IntKind.min,IntKind.max,IntKind.signed,IntKind.bits,Bool.and_eq_true] at h
 simpa using h
theorem gatherP {α:Type} {P:Nat→α→Prop}:∀(n:Nat),(∀i,i<n→∃x,P i x)→∃l:List α,l.length=n∧∀i x,l[i]?=some x→P i x
 | 0,_=>⟨[],rfl,fun i x h=>by simp at h⟩
 | n+1,h=>by
  obtain⟨l,hl,hp⟩:=gatherP n (fun i hi=>h i (by omega))
  obtain⟨x,hx⟩:=h n (by omega)
  refine⟨l++[x],by simp[hl],fun i y hy=>?_⟩
  by_cases hi:i<n
  ·rw[List.getElem?_append_left (by omega)] at hy
   exact hp i y hy
  ·rw[List.getElem?_append_right (by omega),hl] at hy
   have:i - n=0:=by
    have:=(List.getElem?_eq_some_iff.1 hy).1
    simpa using this
   rw[this] at hy
   simp only[List.getElem?_cons_zero,Option.some.injEq] at hy
   rw[←hy,show i=n by omega]
   exact hx
theorem spot_noneP {W:World} {a:Addr} {base n:Nat} {cs:List Value} (h:W.cells? base (a.add 0) n=some cs) (hn:0<n):∃g o,a=⟨g,o,none⟩:=by
 obtain⟨hb,hl,hc⟩:=World.cells?_some h
 have h0:=hc 0 hn
 obtain⟨v,hv⟩:∃v,cs[0]?=some v:=⟨_,List.getElem?_eq_getElem (by omega)⟩
 rw[hv] at h0
 obtain⟨g,o,sp⟩:=a
 have hs:sp=none:=by simpa [Addr.add] using World.cell?_spot h0
 subst hs
 exact⟨g,o,rfl⟩
def Zp {H:Type} (t:TypeId) (d:DataW H):Prop:=∀n∈d.weights Tryz.prog t,n≤140737488351232
theorem zp_part {H:Type} {T t:TypeId} {fs:Array Field} {x:DataW H × List MemPlace} {xs:List (DataW H × List MemPlace)} {ps:List MemPlace} {i:Nat} {y:DataW H × List MemPlace} (hu:Tryz.prog.underlying T=some (.struct fs)) (ht:(fs.toList.map (·.type))[i]?=some t) (h:x=(.agg (xs.map (·.1)),ps)) (hy:xs[i]?=some y) (hz:Zp T x.1):Zp t y.1:=by
 intro n hn
 apply hz n
 rw[h]
 simp only[DataW.weights,hu]
 exact DataW.weights_mem_each ht (by rw[List.getElem?_map,hy];rfl) n hn
theorem weightsP_all {H:Type} {e:TypeId}:∀(l:List (DataW H)) (d:DataW H),d∈l→∀n∈d.weights Tryz.prog e,n∈DataW.weightsAll Tryz.prog e l
 | [],_,h=>by cases h
 | x :: r,d,h=>by
  intro n hn
  simp only[DataW.weightsAll,List.mem_append]
  cases List.mem_cons.1 h with
  | inl e=>subst e;exact Or.inl hn
  | inr e=>exact Or.inr (weightsP_all r d e n hn)
theorem zp_elem {H:Type} {T e:TypeId} {x:DataW H × List MemPlace} {es rs:List (DataW H × List MemPlace)} {ps:List MemPlace} {i:Nat} {y:DataW H × List MemPlace} (hu:Tryz.prog.underlying T=some (.slice e)) (h:x=(.slice (es.map (·.1)) (rs.map (·.1)),ps)) (hy:es[i]?=some y) (hz:Zp T x.1):Zp e y.1:=by
 intro n hn
 apply hz n
 rw[h]
 simp only[DataW.weights,hu]
 refine List.mem_cons_of_mem _ (List.mem_append.2 (Or.inl ?_))
 exact weightsP_all (es.map (·.1)) y.1 (List.mem_map_of_mem (List.mem_of_getElem? hy)) n hn
theorem zp_len {H:Type} {T e:TypeId} {b:Nat} {x:DataW H × List MemPlace} {es rs:List (DataW H × List MemPlace)} {ps:List MemPlace} (hu:Tryz.prog.underlying T=some (.slice e)) (hb:Tryz.prog.bytesOf e=b) (h:x=(.slice (es.map (·.1)) (rs.map (·.1)),ps)) (hz:Zp T x.1):es.length*b≤140737488351232:=by
 have h1:(es.length+rs.length)*b≤140737488351232:=by
  apply hz
  rw[h]
  simp only[DataW.weights,hu]
  rw[hb,List.length_map,List.length_map]
  exact List.mem_cons_self
 exact Nat.le_trans (Nat.mul_le_mul_right _ (Nat.le_add_right _ _)) h1
theorem zp_text {H:Type} {t:TypeId} (l:List UInt8) (hz:Zp t (DataW.lit (H:=H) (.string l))):l.length≤140737488351232 :=
 hz l.length (by simp only[DataW.weights];exact List.mem_cons_self)
theorem sizedP_at {H:Type} {ts:List TypeId} {ds:List (DataW H)} (h:(DataW.weightsEach Tryz.prog ts ds).all (·≤reachBytes)=true) {j:Nat} {t:TypeId} {d:DataW H} (ht:ts[j]?=some t) (hd:ds[j]?=some d):Zp t d:=by
 intro n hn
 have:=List.all_eq_true.1 h _ (DataW.weights_mem_each ht hd n hn)
 have h2:n≤reachBytes:=of_decide_eq_true this
 exact h2
theorem bytesStep:Tryz.prog.bytesOf 29=32:=by kernel_rfl
theorem bytesItem:Tryz.prog.bytesOf 43=40:=by kernel_rfl
theorem open_op {H:Type} {enc:TypeId × Value→H} {W:World} {base:Nat} {sp:Nat→Bool} {held:Bool} {F:Nat} {cs:List Value} {s:List UInt8} {k:Int} {x:DataW H × List MemPlace} (h:DataW.trod enc Tryz.prog W base sp held F 131 cs=some x) (hd:x.1=.agg [.lit (.string s),.lit (.int .u8 k)]):cs=[.string (Lx.bs s),.int .u8 k]:=by
 obtain⟨xs,n,hn,hx1,hl,hxl,hf⟩:=DataW.trod_struct Tryz.underlying131 h
 rw[cellsOpst] at hl
 obtain⟨c0,c1,rfl⟩:=list2P hl
 have f0:DataW.trod enc Tryz.prog W base sp held n 9 (([c0,c1].drop 0).take (Tryz.prog.cellsOf 9))=xs[0]?:=hf 0 _ rfl
 have f1:DataW.trod enc Tryz.prog W base sp held n 27 (([c0,c1].drop 1).take (Tryz.prog.cellsOf 27))=xs[1]?:=hf 1 _ rfl
 obtain⟨y0,y1,rfl⟩:∃y0 y1,xs=[y0,y1]:=by
  match xs,hxl with
  | [y0,y1],_=>exact⟨y0,y1,rfl⟩
 rw[zdT] at f0
 rw[cellsStepk] at f1
 simp only[List.drop_zero,List.drop_succ_cons,List.take_succ_cons,List.take_zero,List.getElem?_cons_zero,List.getElem?_cons_succ] at f0 f1
 obtain⟨s',hs,q0,_⟩:=DataW.trod_string Tryz.underlying9 f0
 obtain⟨k',hk,q1,_⟩:=DataW.trod_int Tryz.underlying27 f1
 simp only[List.cons.injEq,and_true] at hs hk
 rw[hx1,q0,q1] at hd
 simp at hd
 obtain⟨rfl,rfl⟩:=hd
 rw[hs,hk,Lx.bs_of]
theorem hasO_of {W:World} {L:List (String × DataW Unit)} (h:laidMet Tryz.prog L W) (h1:("codicil/parse.operators",(Rows.laid_codicil_parse_operators:DataW Unit))∈L):HasO W:=by
 obtain⟨g,t,cs,fuel,p,hg,hty,hvar,hd⟩:=Lib.laidMet.reads h h1
 obtain rfl:=Option.some.inj (gOpL.symm.trans hg)
 obtain rfl:=Option.some.inj (yOpL.symm.trans hty)
 obtain⟨xs,m,_,hx,hl,hxl,hf⟩:=DataW.trod_array Tryz.underlying132 hd
 have hX:(Rows.laid_codicil_parse_operators:DataW Unit)=.agg (xs.map (·.1)):=congrArg Prod.fst hx
 rw[Rows.laid_codicil_parse_operators] at hX
 have hX2:=DataW.agg.inj hX
 have key:∀i,i<11→(xs.map (·.1))[i]?=some (.agg [.lit (.string (otx.getD i [])),.lit (.int .u8 ((okd.getD i 0:Nat):Int))])→W.cell? ⟨2,2*i,none⟩=some (.string (Lx.bs (otx.getD i [])))∧W.cell? ⟨2,2*i+1,none⟩=some (.int .u8 ((okd.getD i 0:Nat):Int)):=fun i hi hxi=>by
  rw[List.getElem?_map] at hxi
  obtain⟨y,hy,hy1⟩:=Option.map_eq_some_iff.1 hxi
  have h2:=hf i hi
  rw[hy,cellsOpst] at h2
  have h3:=open_op h2 hy1
  have c0:=World.var?_cell hg hvar (2*i)
  have c1:=World.var?_cell hg hvar (2*i+1)
  have d0:=congrArg (fun l=>l[0]?) h3
  have d1:=congrArg (fun l=>l[1]?) h3
  simp only[List.getElem?_take,List.getElem?_drop,List.getElem?_cons_zero,List.getElem?_cons_succ] at d0 d1
  rw[if_pos (by omega)] at d0 d1
  rw[←Array.getElem?_toList] at c0 c1
  rw[show i*2+0=2*i by omega] at d0
  rw[show i*2+1=2*i+1 by omega] at d1
  exact⟨c0.trans d0,c1.trans d1⟩
 have all:∀i,i<11→W.cell? ⟨2,2*i,none⟩=some (.string (Lx.bs (otx.getD i [])))∧W.cell? ⟨2,2*i+1,none⟩=some (.int .u8 ((okd.getD i 0:Nat):Int)):=fun i hi=>key i hi (by
  rw[←hX2]
  rcases i with _ | _ | _ | _ | _ | _ | _ | _ | _ | _ | _ | i
  all_goals first | rfl | omega)
 exact⟨by have:=(all 0 (by omega)).1;exact block_lt_of_cell this,all⟩
open Go.RowKit
def SrcC (W:World) (xa:Option Addr) (news:List Value):Prop:=∀j u,news[j]?=some u→∃g o,xa=some ⟨g,o,none⟩∧W.cell? ⟨g,o+j,none⟩=some u
theorem SrcC.call {W W':World} {xa:Option Addr} {l:List Value} (h:SrcC W xa l) (hb:Below W.heap.size W W'):SrcC W' xa l:=fun j u hu=>by
 obtain⟨g,o,e,h1⟩:=h j u hu
 exact⟨g,o,e,(hb.cell (p:=⟨g,o+j,none⟩) (block_lt_of_cell h1)).trans h1⟩
theorem own_block_le {W:World} {B size n:Nat} {t:TypeId} {v:Value} {L:List Value} (h:W.ownsRow B t size v n L):∀k,v.ownBlock=some k→B≤k:=by
 intro k hk
 rcases h.2 with ⟨e,_⟩ | ⟨g,cap,cur,e,hb,_⟩
 ·rw[e] at hk;cases hk
 ·rw[e] at hk;cases hk;exact hb
theorem append_none_any {t e:TypeId} {i:TypeInfo} (ht:Tryz.prog.underlying t=some (.slice e)) (hi:Tryz.prog.info? e=some i) (ao:Option Addr) (cap:Nat) (W:World) (b:Option Addr) (n c:Nat) (hnc:n≤c) (ty:TypeId):(Builtin.append_ #[t,t] ty #[.slice b n c,.slice ao 0 cap]).run Tryz.prog W=.ok (.slice b n c) W:=by
 refine run_append_nothing W t t ty e i ht hi _ n c hnc _ ⟨Or.inl ⟨e,ht⟩,fun w'=>?_,?_,?_,by simp,fun u hu=>by cases hu⟩
 ·simp[Builtin.lenOf]
 ·cases ao<;>simp[Builtin.firstCells,loadCells,loadCellsFrom]
 ·cases ao<;>simp[Builtin.firstCells,loadCells,loadCellsFrom]
theorem zdI {o:Oper} {a:Act} {W:World} {K:Act→World→Prop} {Q:Exit→Act→World→Prop} (s x:Operand) (t:TypeId) (ho:o.op=.call { callee:=.builtin .append,args:=#[s,x],argTypes:=#[t,t] })
  (base:Nat) (e:TypeId) (i:TypeInfo) (z:Value) (size bytes:Nat) (ht:Tryz.prog.underlying t=some (.slice e)) (hi:Tryz.prog.info? e=some i) (hz:i.zero=some z) (hsize:i.size=size) (hby:i.bytes=bytes) (hzs:z.cells.size=size) (hsz:0<size)
  (v:Value) (n:Nat) (xs:List Value) (hs:a.eval s=v) (hown:W.ownsRow base e size v n xs)
  (xa:Option Addr) (m c:Nat) (news:List Value) (hx:a.eval x=.slice xa m c) (hl:news.length=m*size) (hnews:SrcC W xa news) (h1:∀u∈news,u.oneCell'=true)
  (h63:n+m≤maxLen) (hbytes:(n+m)*bytes≤140737488355328) (hbase:base≤W.heap.size)
  (h:∀b cap w',w'.ownsRow base e size (.slice b (n+m) cap) (n+m) (xs++news)→Below base W w'→(∀k,k<W.heap.size→v.ownBlock≠some k→w'.heap[k]?=W.heap[k]?)→K (a.put o.dst (.slice b (n+m) cap)) w'):o.wp Tryz.prog a W K Q:=by
 by_cases h0:m=0
 ·subst h0
  have hn:news=[]:=List.eq_nil_of_length_eq_zero (by rw[hl,Nat.zero_mul])
  subst hn
  obtain⟨b,k,hv,hbk⟩:∃b k,v=.slice b n k∧n≤k:=by
   rcases hown.2 with ⟨e,e0⟩ | ⟨g,cap,cur,e,_,_,e4,_⟩
   ·rw[e0];exact⟨_,_,e,Nat.le_refl _⟩
   ·exact⟨_,_,e,e4⟩
  have hrun:=append_none_any ht hi xa c W b n k hbk o.type
  subst hv
  have hk:=h b k W (by rw[List.append_nil];exact hown) (Below.refl _ _) (fun _ _ _=>rfl)
  unfold Oper.wp execOp
  simp only[ho,resolve,invoke,builtin,Sem.run_bind,Sem.run_pure,Result.andThen_ok,List.map_toArray,List.map_cons,List.map_nil,hs,hx,hrun]
  exact hk
 ·have hm:0<m:=Nat.pos_of_ne_zero h0
  have hlen:0<news.length:=by rw[hl];exact Nat.mul_pos hm hsz
  obtain⟨g,off,e0,_⟩:=hnews 0 _ (List.getElem?_eq_getElem hlen)
  subst e0
  refine wp_append_lies W s x t ho base e i z size bytes ht hi hz hsize hby hzs hsz v n xs hs hown ⟨g,off,none⟩ m c news hx hl (fun j u hu=>?_) h1 hm h63 hbytes hbase _ rfl ?_
  ·obtain⟨g',o',e1,h2⟩:=hnews j u hu
   cases e1
   rw[Addr.add_mid]
   exact h2
  ·intro g cap w' ho' hg _ _
   exact h _ _ w' ho' ((Below.refl base W).grown hg hbase (own_block_le hown)) (fun k hk q=>hg.block k hk (fun e=>q e.symm))
theorem zbF {ops:Array Oper} {rest:List Oper} {o:Oper} {a:Act} {W:World} {Q:Exit→Act→World→Prop} (hgd:o.guard=none) (s x:Operand) (t:TypeId) (ho:o.op=.call { callee:=.builtin .append,args:=#[s,x],argTypes:=#[t,t] })
  (base:Nat) (e:TypeId) (i:TypeInfo) (z:Value) (size bytes:Nat) (ht:Tryz.prog.underlying t=some (.slice e)) (hi:Tryz.prog.info? e=some i) (hz:i.zero=some z) (hsize:i.size=size) (hby:i.bytes=bytes) (hzs:z.cells.size=size) (hsz:0<size)
  (v:Value) (n:Nat) (xs:List Value) (hs:a.eval s=v) (hown:W.ownsRow base e size v n xs)
  (xa:Option Addr) (m c:Nat) (news:List Value) (hx:a.eval x=.slice xa m c) (hl:news.length=m*size) (hnews:SrcC W xa news) (h1:∀u∈news,u.oneCell'=true)
  (h63:n+m≤maxLen) (hbytes:(n+m)*bytes≤140737488355328) (hbase:base≤W.heap.size)
  (h:∀b cap w',w'.ownsRow base e size (.slice b (n+m) cap) (n+m) (xs++news)→Below base W w'→(∀k,k<W.heap.size→v.ownBlock≠some k→w'.heap[k]?=W.heap[k]?)→wpList Tryz.prog ops Q rest (a.put o.dst (.slice b (n+m) cap)) w'):wpList Tryz.prog ops Q (o :: rest) a W :=
 wpList_plain hgd fun _ hK=>zdI s x t ho base e i z size bytes ht hi hz hsize hby hzs hsz v n xs hs hown xa m c news hx hl hnews h1 h63 hbytes hbase fun b cap w' h2 h3 h4=>hK _ _ (h b cap w' h2 h3 h4)
theorem zaW {ops:Array Oper} {o:Oper} {a:Act} {W:World} {K:Act→World→Prop} {Q:Exit→Act→World→Prop} {E:Prop} (hgd:o.guard=none) (s x:Operand) (t:TypeId) (ho:o.op=.call { callee:=.builtin .append,args:=#[s,x],argTypes:=#[t,t] })
  (base:Nat) (e:TypeId) (i:TypeInfo) (z:Value) (size bytes:Nat) (ht:Tryz.prog.underlying t=some (.slice e)) (hi:Tryz.prog.info? e=some i) (hz:i.zero=some z) (hsize:i.size=size) (hby:i.bytes=bytes) (hzs:z.cells.size=size) (hsz:0<size)
  (v:Value) (n:Nat) (xs:List Value) (hs:a.eval s=v) (hown:W.ownsRow base e size v n xs)
  (xa:Option Addr) (m c:Nat) (news:List Value) (hx:a.eval x=.slice xa m c) (hl:news.length=m*size) (hnews:SrcC W xa news) (h1:∀u∈news,u.oneCell'=true)
  (h63:n+m≤maxLen) (hbytes:(n+m)*bytes≤140737488355328) (hbase:base≤W.heap.size)
  (h:∀b cap w',w'.ownsRow base e size (.slice b (n+m) cap) (n+m) (xs++news)→Below base W w'→(∀k,k<W.heap.size→v.ownBlock≠some k→w'.heap[k]?=W.heap[k]?)→K (a.put o.dst (.slice b (n+m) cap)) w') :
  if Region.wanted o (yielded ops a.tmps)=true then Oper.wp Tryz.prog o a W K Q else E:=by
 have hw:Region.wanted o (yielded ops a.tmps)=true:=by simp[Region.wanted,hgd]
 rw[if_pos hw]
 exact zdI s x t ho base e i z size bytes ht hi hz hsize hby hzs hsz v n xs hs hown xa m c news hx hl hnews h1 h63 hbytes hbase h
theorem own_none (W:World) (B:Nat) (hB:B≤W.heap.size) (t:TypeId) (size:Nat):(W.alloc (.cells #[] t)).ownsRow B t size (.slice (some ⟨W.heap.size,0,none⟩) 0 0) 0 [] :=
 ⟨by rw[Nat.zero_mul];rfl,.inr ⟨_,0,#[],rfl,hB,heap_alloc_new W _,Nat.le_refl _,by decide,by rw[Nat.zero_mul];rfl,by rw[Nat.zero_mul];rfl⟩⟩
theorem scs_len (l:List Sp):(scs l).length=l.length*3:=by
 induction l with
 | nil=>rfl
 | cons p r ih =>
  rw[scs,List.flatMap_cons,List.length_append,List.length_cons]
  rw[scs] at ih
  rw[ih,show(sc p).toList.length=3 from rfl]
  omega
theorem ics_len (l:List (It × Value)):(ics l).length=l.length*2:=by
 induction l with
 | nil=>rfl
 | cons p r ih =>
  rw[ics,List.flatMap_cons,List.length_append,List.length_cons]
  rw[ics] at ih
  rw[ih]
  simp
  omega
theorem Sts.src {W:World} {a:Option Addr} {l:List Sp} (h:Sts W a l):SrcC W a (scs l):=fun j u hu=>by
 have hj:j<l.length*3:=by have:=(List.getElem?_eq_some_iff.1 hu).1;rwa [scs_len] at this
 obtain⟨p,hp⟩:∃p,l[j / 3]?=some p:=⟨_,List.getElem?_eq_getElem (by omega)⟩
 obtain⟨g,o,e,c0,c1,c2⟩:=h _ p hp
 have hr:=scs_at hp (j % 3) (by omega)
 rw[show j / 3*3+j % 3=j by omega,hu] at hr
 refine⟨g,o,e,?_⟩
 rcases(show j % 3=0∨j % 3=1∨j % 3=2 by omega) with q | q | q
 ·rw[q] at hr
  cases hr
  rw[show o+j=o+j / 3*3 by omega];exact c0
 ·rw[q] at hr
  cases hr
  rw[show o+j=o+j / 3*3+1 by omega];exact c1
 ·rw[q] at hr
  cases hr
  rw[show o+j=o+j / 3*3+2 by omega];exact c2
def ItL (W:World) (L:List (It × Value)):Prop:=∀x∈L,∃ea ec,x.2=.slice ea x.1.expr.length ec∧Sts W ea x.1.expr
theorem ItL.call {W W':World} {L:List (It × Value)} (h:ItL W L) (hb:Below W.heap.size W W'):ItL W' L:=fun x hx=>by
 obtain⟨ea,ec,e,hs⟩:=h x hx
 exact⟨ea,ec,e,hs.call hb⟩
theorem ItL.more {W:World} {L M:List (It × Value)} (h:ItL W L) (hM:ItL W M):ItL W (L++M):=fun x hx=>(List.mem_append.1 hx).elim (h x) (hM x)
theorem gatherA {α:Type} {P:Nat→α→Prop}:∀(n:Nat),(∀i,i<n→∃x,P i x)→∃l:List α,l.length=n∧∀i x,l[i]?=some x→P i x
 | 0,_=>⟨[],rfl,fun i x h=>by simp at h⟩
 | n+1,h=>by
  obtain⟨l,hl,hp⟩:=gatherA n (fun i hi=>h i (by omega))
  obtain⟨x,hx⟩:=h n (by omega)
  refine⟨l++[x],by simp[hl],fun i y hy=>?_⟩
  by_cases hi:i<n
  ·rw[List.getElem?_append_left (by omega)] at hy
   exact hp i y hy
  ·rw[List.getElem?_append_right (by omega),hl] at hy
   have:i - n=0:=by
    have:=(List.getElem?_eq_some_iff.1 hy).1
    simpa using this
   rw[this] at hy
   simp only[List.getElem?_cons_zero,Option.some.injEq] at hy
   rw[←hy,show i=n by omega]
   exact hx
theorem Itm.list {W:World} {a:Option Addr} {l:List It} (h:Itm W a l):∃L:List (It × Value),L.map (·.1)=l∧ItL W L∧SrcC W a (ics L):=by
 obtain⟨L,hL,hP⟩:=gatherA (P:=fun j (x:It × Value)=>l[j]?=some x.1∧∃g o ea ec,a=some ⟨g,o,none⟩∧W.cell? ⟨g,o+j*2,none⟩=some (.string (Lx.bs x.1.name))∧W.cell? ⟨g,o+j*2+1,none⟩=some x.2∧x.2=.slice ea x.1.expr.length ec∧Sts W ea x.1.expr) l.length (fun j hj=>by
  obtain⟨g,o,ea,ec,e,c0,c1,hs⟩:=h j _ (List.getElem?_eq_getElem hj)
  exact⟨(l[j],.slice ea l[j].expr.length ec),List.getElem?_eq_getElem hj,g,o,ea,ec,e,c0,c1,rfl,hs⟩)
 refine⟨L,?_,fun x hx=>?_,fun j u hu=>?_⟩
 ·apply List.ext_getElem?
  intro j
  rw[List.getElem?_map]
  cases e:L[j]? with
  | none =>
   have:l.length≤j:=by rw[←hL];exact List.getElem?_eq_none_iff.1 e
   rw[List.getElem?_eq_none this];rfl
  | some x=>rw[(hP j x e).1];rfl
 ·obtain⟨j,hj⟩:=List.getElem?_of_mem hx
  obtain⟨_,g,o,ea,ec,_,_,_,e,hs⟩:=hP j x hj
  exact⟨ea,ec,e,hs⟩
 ·have hj:j<L.length*2:=by have:=(List.getElem?_eq_some_iff.1 hu).1;rwa [ics_len] at this
  obtain⟨x,hx⟩:∃x,L[j / 2]?=some x:=⟨_,List.getElem?_eq_getElem (by omega)⟩
  obtain⟨_,g,o,ea,ec,e,c0,c1,_⟩:=hP _ x hx
  have hr:=ics_at hx (j % 2) (by omega)
  rw[show j / 2*2+j % 2=j by omega,hu] at hr
  refine⟨g,o,e,?_⟩
  rcases(show j % 2=0∨j % 2=1 by omega) with q | q
  ·rw[q] at hr
   cases hr
   rw[show o+j=o+j / 2*2 by omega];exact c0
  ·rw[q] at hr
   cases hr
   rw[show o+j=o+j / 2*2+1 by omega];exact c1
end Ps
end Go.Proofs.YtfhkaffakniioaaGreatDoor
namespace Go.Proofs.YtfhkaffakniioaaGreatDoor
open Go.RowKit
namespace Ps
theorem own_cut {W:World} {B g n c:Nat} {l:List Bs} (h:OwnT W B (.slice (some ⟨g,0,none⟩) n c) l) (f:Nat) (hf:f≤n):OwnT W B (.slice (some ⟨g,0,none⟩) f c) (l.take f)∧SR W (some ⟨g,f,none⟩) (l.drop f)∧n≤c:=by
 have hsr:=h.sr
 obtain⟨h1,h2,h3,h4⟩:=hsr
 rcases h.2 with ⟨e,_⟩ | ⟨g',cap,cur,e,q1,q2,q3,q4,q5,q6⟩
 ·cases e
 ·injection e with e1 e2 e3
  injection e1 with e1
  injection e1 with e1
  subst e1 e3
  refine⟨⟨by rw[List.length_map,Nat.mul_one],.inr ⟨g,c,cur,by rw[List.length_take,Nat.min_eq_left (by omega)],q1,q2,by rw[List.length_take];omega,q4,q5,?_⟩⟩,fun j x hx=>?_,h2⟩
  ·rw[List.length_take,Nat.min_eq_left (by omega),Nat.mul_one,List.map_take,←q6,List.take_take,Nat.min_eq_left (by omega)]
  ·rw[List.getElem?_drop] at hx
   obtain⟨g2,o2,e4,hc⟩:=h3 (f+j) x hx
   cases e4
   exact⟨g,f,rfl,by rw[Nat.zero_add] at hc;exact hc⟩
theorem wsubN {a b:Nat} (h:b≤a) (ha:a≤100000):IntKind.i64.wrap ((a:Int) - (b:Int))=((a - b:Nat):Int)∧wrap64 ((a:Int) - (b:Int))=((a - b:Nat):Int):=wrp (by omega) (by omega)
theorem tot_take (l:List Bs) (f:Nat):tot (l.take f)+tot (l.drop f)=tot l:=by rw[←tot_app,List.take_append_drop]
structure SH (l:List Sp) (w:World) (j:Nat) (st:List Bs) (v:Value) (wr:World):Prop where
 stack:stackL l []=stackL (l.drop j) st
 right:rightL (l.drop j) st.length=true
 tot:Ps.tot st≤j*4500
 below:Below w.heap.size w wr
 own:OwnT wr w.heap.size v st
 few:st.length≤j
theorem shown_c (l:List Sp) (a:Option Addr) (n c:Nat) (w:World) (hr:rightE l=true) (hn:n=l.length) (hs:Sts w a l) (hf:∀p∈l,fitS p) (hL:HasL w) (hO:HasO w):Calls Tryz.prog 27 #[.slice a n c] w fun e w'=>e=.returned (.string (Lx.bs (shownE l)))∧Below w.heap.size w w':=by
 obtain⟨i0,hi,hz0,hz1,hz2⟩:=zaJ zbE
 have hrr:l.length≤128∧rightL l 0=true:=by
  rw[rightE,Bool.and_eq_true,decide_eq_true_iff] at hr
  exact hr
 have HS:Hid (Sts w a l∧n=l.length∧n≤128∧(∀p∈l,fitS p)∧HasL w∧HasO w∧rightL l 0=true):=⟨hs,hn,by omega,hf,hL,hO,hrr.2⟩
 clear hr hn hs hf hL hO hrr
 go_enter Tryz.func27,Tryz.ntmps27
 go_wp2
 go_loopw [3,9] (fun v i wr=>∃(j:Nat) (st:List Bs),j≤n∧i=.int .i64 j∧Hid (SH l w j st v wr)) (fun _ i _=>n - (intOf i).toNat)
 case atStart=>exact⟨0,[],Nat.zero_le _,rfl,rfl,HS.out.2.2.2.2.2.2,Nat.zero_le _,Below.refl _ _,⟨rfl,.inl ⟨rfl,rfl⟩⟩,Nat.le_refl _⟩
 case round =>
  obtain⟨j,st,hj,rfl,HI⟩:=hrel
  obtain⟨m,hm⟩:∃m,m=st.length:=⟨_,rfl⟩
  have HM:Hid (m=st.length∧m≤128):=⟨hm,by have:=HI.out.few;have:=HS.out;omega⟩
  by_cases hlt:j<n
  ·have q0:(j:Int)<(n:Int):=by omega
   have q1:(0:Int)≤(j:Int):=by omega
   obtain⟨p,hp⟩:∃p,l[j]?=some p:=⟨_,List.getElem?_eq_getElem (by have:=HS.out;omega)⟩
   obtain⟨g0,o0,rfl,c0,c1,c2⟩:=(HS.out.1.call HI.out.below) j p hp
   have hrl:=HI.out.right
   rw[zcK hp,Bool.and_eq_true,Bool.and_eq_true,decide_eq_true_iff] at hrl
   obtain⟨tk,htk⟩:∃tk,tk=zaI p:=⟨_,rfl⟩
   obtain⟨f,hfm⟩:∃f,f=m - tk:=⟨_,rfl⟩
   have HP:Hid (zaE p=true∧tk=zaI p∧tk≤m∧f=m - tk∧f+tk=m∧rightL (l.drop (j+1)) (m+1 - tk)=true∧fitS p∧j<n∧stackL (l.drop j) st=stackL (l.drop (j+1)) (st.take f++[stepTx p (st.drop f)])):=by
    refine⟨hrl.1.1,htk,by rw[htk,hm];exact hrl.1.2,hfm,by have:=hrl.1.2;omega,by rw[hm,htk];exact hrl.2,HS.out.2.2.2.1 p (List.mem_of_getElem? hp),hlt,?_⟩
    rw[stack_step hp,hfm,hm,htk]
   obtain⟨w1,hw1⟩:∃w1,w1=wr.alloc (.cells #[.int .u8 (p.kind:Int),.string (Lx.bs p.text),.int .i64 p.n] 29):=⟨_,rfl⟩
   obtain⟨T,hT⟩:∃T,T=wr.heap.size:=⟨_,rfl⟩
   have X1:Hid (w1.heap[T]?=some (.cells #[.int .u8 (p.kind:Int),.string (Lx.bs p.text),.int .i64 p.n] 29 (0,0))∧Below w.heap.size w w1∧Below wr.heap.size wr w1):=⟨by rw[hw1,hT];exact heap_alloc_new wr _,by rw[hw1];exact HI.out.below.alloc HI.out.below.size _,by rw[hw1];exact bnew _ _⟩
   have y0:w1.cell? ⟨T,0,none⟩=some (.int .u8 (p.kind:Int)):=by rw[cell_of_row _ _ _ _ _ _ X1.out.1];rfl
   have y1:w1.cell? ⟨T,1,none⟩=some (.string (Lx.bs p.text)):=by rw[cell_of_row _ _ _ _ _ _ X1.out.1];rfl
   have y2:w1.cell? ⟨T,2,none⟩=some (.int .i64 p.n):=by rw[cell_of_row _ _ _ _ _ _ X1.out.1];rfl
   have CT:Hid (Calls Tryz.prog 30 #[.agg #[.int .u8 (p.kind:Int),.string (Lx.bs p.text),.int .i64 p.n]] w1 fun e w'=>e=.returned (.int .i64 (tk:Int))∧Below w1.heap.size w1 w'):=by
    rw[htk]
    exact takes_c p (right_nonneg HP.out.1) w1
   obtain⟨x,hx⟩:∃x,x=stepTx p (st.drop f):=⟨_,rfl⟩
   have HX:Hid (x=stepTx p (st.drop f)∧x.length≤tot (st.drop f)+4500∧∀y∈st.drop f,y.length≤1000000):=by
    have ht64:=zbX HP.out.1
    have hl2:(st.drop f).length=tk:=by rw[List.length_drop];have:=HP.out;have:=HM.out.1;omega
    refine⟨hx,by rw[hx];exact step_cost HP.out.1 (by rw[hl2,htk];exact ht64) HP.out.2.2.2.2.2.2.1.2,fun y hy=>?_⟩
    have e1:=tot_mem (List.mem_of_mem_drop hy)
    have e2:=HI.out.tot
    have e3:j*4500≤128*4500:=Nat.mul_le_mul_right _ (by have:=HS.out;omega)
    omega
   have CS:Hid (∀W pa pc,Below w.heap.size w W→tk≤pc→pc≤9223372036854775807→SR W pa (st.drop f)→Calls Tryz.prog 52 #[.agg #[.int .u8 (p.kind:Int),.string (Lx.bs p.text),.int .i64 p.n],.slice pa tk pc] W fun e w'=>e=.returned (.string (Lx.bs x))∧Below W.heap.size W w'):=fun W pa pc hW h1 h2 h3=>by
    rw[hx]
    exact stepText_c p (st.drop f) pa tk pc W HP.out.1 HP.out.2.2.2.2.2.2.1.2 HP.out.2.2.2.2.2.2.1.1 (by rw[List.length_drop];have:=HP.out;have:=HM.out.1;omega) HP.out.2.1 ⟨h1,h2⟩ HX.out.2.2 h3 (HS.out.2.2.2.2.1.stays hW) (HS.out.2.2.2.2.2.1.stays hW)
   obtain⟨j1,hj1⟩:∃j1,j1=j+1:=⟨_,rfl⟩
   have HJ1:Hid (j1=j+1):=hj1
   have HV:Hid (IntKind.i64.wrap ((j:Int)+1)=(j1:Int)∧wrap64 ((j:Int)+1)=(j1:Int)):=wrp (by omega) (by have:=HS.out;omega)
   have HVF:Hid (IntKind.i64.wrap ((m:Int) - (tk:Int))=(f:Int)∧wrap64 ((m:Int) - (tk:Int))=(f:Int)):=by rw[hfm];exact wsubN HP.out.2.2.1 (by have:=HM.out;omega)
   have FIN:Hid (∀(W5:World) (v':Value) (W4:World) (sv:Value),OwnT W4 w.heap.size sv (st.take f)→Below w.heap.size w W4→(W4.alloc (.cells #[.string (Lx.bs x)] 9)).grownBy W5 sv.ownBlock→W5.ownsRow w.heap.size 9 1 v' (f+1) (((st.take f).map fun x=>Value.string (Lx.bs x))++[.string (Lx.bs x)])→SH l w j1 (st.take f++[x]) v' W5):=fun W5 v' W4 sv ho hb hg hn=>by
    have hfl:(st.take f).length=f:=by rw[List.length_take,Nat.min_eq_left (by have:=HP.out;have:=HM.out.1;omega)]
    obtain⟨r1,r2⟩:=ho.push hb (bnew W4 _) hg (by rw[hfl];exact hn)
    refine⟨?_,?_,?_,r1,r2,?_⟩
    ·rw[HI.out.stack,HP.out.2.2.2.2.2.2.2.2,HX.out.1,HJ1.out]
    ·rw[List.length_append,hfl,List.length_singleton,HJ1.out,show f+1=m+1 - tk by have:=HP.out;omega]
     exact HP.out.2.2.2.2.2.1
    ·rw[tot_app]
     have e1:=tot_take st f
     have e2:=HI.out.tot
     have e3:=HX.out.2.1
     have e4:(j+1)*4500=j*4500+4500:=Nat.succ_mul _ _
     rw[HJ1.out,e4]
     show tot (st.take f)+(x.length+0)≤_
     omega
    ·rw[List.length_append,hfl,List.length_singleton]
     have:=HI.out.few
     have:=HP.out
     have:=HM.out.1
     have:=HJ1.out
     omega
   have fit63:Hid (f+1≤maxLen):=by show _≤_;have:=HM.out;have:=HP.out;unfold maxLen;omega
   have fit47:Hid ((f+1)*16≤140737488355328):=by show _≤_;have:=HM.out;have:=HP.out;omega
   clear hrl hp hlt hj hm htk hx hj1 hfm
   rcases HI.out.own.2 with ⟨hnv,hnl⟩ | ⟨gg,cap,cur,hnv,hgB,hgrow,hg1,hg2,hg3,hg4⟩
   ·obtain rfl:=hnv
    have hm0:m=0:=by rw[HM.out.1];exact hnl
    subst hm0
    have hf0:f=0:=by have:=HP.out;omega
    have ht0:tk=0:=by have:=HP.out;omega
    subst hf0 ht0
    have HST:Hid (st.take 0=[]∧st.drop 0=[]):=by
     have:st=[]:=List.length_eq_zero_iff.1 hnl
     rw[this]
     exact⟨rfl,rfl⟩
    obtain⟨vf1,vf2⟩:=HVF.out
    clear hnl
    go_upto_region 5 with fail
    rw[←hw1,←hT]
    clear hw1 hT c0 c1 c2
    go_wp2_with fail
    refine(CT.out).mono ?_
    rintro e w2 ⟨rfl,hb2⟩
    have X2:Hid (w2.heap[T]?=some (.cells #[.int .u8 (p.kind:Int),.string (Lx.bs p.text),.int .i64 p.n] 29 (0,0))∧Below w.heap.size w w2):=⟨(hb2.block T (row_lt X1.out.1)).trans X1.out.1,X1.out.2.1.trans (hb2.mono X1.out.2.1.size)⟩
    clear hb2 CT y0 y1 y2
    have y0:w2.cell? ⟨T,0,none⟩=some (.int .u8 (p.kind:Int)):=by rw[cell_of_row _ _ _ _ _ _ X2.out.1];rfl
    have y1:w2.cell? ⟨T,1,none⟩=some (.string (Lx.bs p.text)):=by rw[cell_of_row _ _ _ _ _ _ X2.out.1];rfl
    have y2:w2.cell? ⟨T,2,none⟩=some (.int .i64 p.n):=by rw[cell_of_row _ _ _ _ _ _ X2.out.1];rfl
    have tl:=row_lt X2.out.1
    have CS2:Hid (∀W,Below w2.heap.size w2 W→Calls Tryz.prog 52 #[.agg #[.int .u8 (p.kind:Int),.string (Lx.bs p.text),.int .i64 p.n],.slice none 0 0] W fun e w'=>e=.returned (.string (Lx.bs x))∧Below W.heap.size W w'):=fun W hW=>CS.out W none 0 (X2.out.2.trans (hW.mono X2.out.2.size)) (Nat.le_refl _) (by decide) (by rw[HST.out.2];exact SR.nil _ _)
    clear vf1 vf2
    go_upto_region 6 with fail
    go_region_law (first
     |(go_simp;go_at_call 52;refine(CS2.out _ ?_).mono ?_;(first | exact Below.refl _ _ | exact(Below.refl _ _).drew);rintro e w3 ⟨rfl,hb3⟩
       have X3:Hid (Below w.heap.size w w3):=(X2.out.2.drew.trans (hb3.mono X2.out.2.drew.size))
       have O3:Hid (w3.ownsRow w.heap.size 9 1 (.slice none 0 0) 0 []):=⟨rfl,.inl ⟨rfl,rfl⟩⟩)
     |(refine step_append_lies _ (by rfl) _ _ _ (by rfl) w.heap.size 9 i0 _ 1 16 Tryz.underlying50 hi hz0 hz1 hz2 rfl (by omega) _ _ _ (by rfl) (O3.out.alloc _) ⟨w3.heap.size,0,none⟩ 1 1 [.string (Lx.bs x)] (by rfl) (by rfl) (World.news_of_block (heap_alloc_new w3 _)) (by simp[Value.oneCell']) (by omega) fit63.out fit47.out (by have:=X3.out.size;simp;omega) (w3.heap.size+1) (by simp) ?_;intro gg cap w5 hown5 hgrow5 hat5 hglt5
       have I5:Hid (SH l w j1 (st.take 0++[x]) (.slice (some ⟨gg,0,none⟩) 1 cap) w5):=(FIN.out w5 _ w3 (.slice none 0 0) (by rw[HST.out.1];exact⟨rfl,.inl ⟨rfl,rfl⟩⟩) X3.out hgrow5 (by rw[HST.out.1];exact hown5))
       clear hown5 hgrow5 hat5 hglt5)
     | fail "no arm")
    all_goals
     obtain⟨v1,v2⟩:=HV.out
     go_wp2
     clear v1 v2
     go_roundw
    all_goals first
     |(simp only[intOf];have:=HJ1.out;have:=HP.out;omega)
     | exact⟨j1,_,by have:=HJ1.out;have:=HP.out;omega,rfl,I5.out⟩
     |((repeat apply Exists.intro);exact⟨⟨j1,_,by have:=HJ1.out;have:=HP.out;omega,rfl,I5.out⟩,rfl⟩)
   ·obtain rfl:=hnv
    rw[←HM.out.1]
    have hm1:m≤cap:=by rw[HM.out.1];exact hg1
    have e9:maxLen=9223372036854775807:=by decide
    have OC:=HI.out.own
    rw[←HM.out.1] at OC
    obtain⟨oc1,oc2,oc3⟩:=own_cut OC f (by have:=HP.out;omega)
    have HOC:Hid (OwnT wr w.heap.size (.slice (some ⟨gg,0,none⟩) f cap) (st.take f)∧SR wr (some ⟨gg,f,none⟩) (st.drop f)∧f≤m∧m≤cap∧cap≤9223372036854775807∧tk=m - f∧(st.take f).length=f):=⟨oc1,oc2,by have:=HP.out;omega,hm1,by omega,by have:=HP.out;omega,by rw[List.length_take,Nat.min_eq_left (by have:=HP.out;have:=HM.out.1;omega)]⟩
    have s0:(0:Int)≤(f:Int):=by omega
    have s1:(f:Int)≤(cap:Int):=by have:=HOC.out;omega
    have s2:(f:Int)≤(m:Int):=by have:=HOC.out;omega
    have s3:(m:Int)≤(cap:Int):=by omega
    have s4:m - f=tk:=by have:=HOC.out;omega
    obtain⟨vf1,vf2⟩:=HVF.out
    clear hgB hgrow hg1 hg2 hg3 hg4 OC oc1 oc2 oc3 hm1 e9
    go_upto_region 5 with fail
    rw[←hw1,←hT]
    clear hw1 hT c0 c1 c2
    go_wp2_with fail
    refine(CT.out).mono ?_
    rintro e w2 ⟨rfl,hb2⟩
    have X2:Hid (w2.heap[T]?=some (.cells #[.int .u8 (p.kind:Int),.string (Lx.bs p.text),.int .i64 p.n] 29 (0,0))∧Below w.heap.size w w2∧Below wr.heap.size wr w2):=⟨(hb2.block T (row_lt X1.out.1)).trans X1.out.1,X1.out.2.1.trans (hb2.mono X1.out.2.1.size),X1.out.2.2.trans (hb2.mono X1.out.2.2.size)⟩
    clear hb2 CT y0 y1 y2
    have y0:w2.cell? ⟨T,0,none⟩=some (.int .u8 (p.kind:Int)):=by rw[cell_of_row _ _ _ _ _ _ X2.out.1];rfl
    have y1:w2.cell? ⟨T,1,none⟩=some (.string (Lx.bs p.text)):=by rw[cell_of_row _ _ _ _ _ _ X2.out.1];rfl
    have y2:w2.cell? ⟨T,2,none⟩=some (.int .i64 p.n):=by rw[cell_of_row _ _ _ _ _ _ X2.out.1];rfl
    have tl:=row_lt X2.out.1
    have CS2:Hid (∀W,Below w2.heap.size w2 W→Calls Tryz.prog 52 #[.agg #[.int .u8 (p.kind:Int),.string (Lx.bs p.text),.int .i64 p.n],.slice (some ⟨gg,f,none⟩) tk (cap - f)] W fun e w'=>e=.returned (.string (Lx.bs x))∧Below W.heap.size W w'):=fun W hW=>CS.out W _ _ (X2.out.2.1.trans (hW.mono X2.out.2.1.size)) (by have:=HOC.out;omega) (by have:=HOC.out;omega) ((HOC.out.2.1.call X2.out.2.2).call hW)
    have CS3:Hid (cap=f→∀W,Below w2.heap.size w2 W→Calls Tryz.prog 52 #[.agg #[.int .u8 (p.kind:Int),.string (Lx.bs p.text),.int .i64 p.n],.slice (some ⟨gg,0,none⟩) tk 0] W fun e w'=>e=.returned (.string (Lx.bs x))∧Below W.heap.size W w'):=fun hcf W hW=>CS.out W _ _ (X2.out.2.1.trans (hW.mono X2.out.2.1.size)) (by have:=HOC.out;omega) (by decide) (by
     have:st.drop f=[]:=List.drop_eq_nil_of_le (by have:=HOC.out;have:=HM.out.1;omega)
     rw[this]
     exact SR.nil _ _)
    by_cases hcf:cap=f
    ·have CS4:=hidp (CS3.out hcf)
     subst hcf
     go_upto_region 6 with fail
     clear vf1 vf2
     go_region_law (first
      |(go_simp;go_at_call 52;refine(CS4.out _ ?_).mono ?_;(first | exact Below.refl _ _ | exact(Below.refl _ _).drew);rintro e w3 ⟨rfl,hb3⟩
        have X3:Hid (Below w.heap.size w w3∧Below wr.heap.size wr w3):=⟨X2.out.2.1.drew.trans (hb3.mono X2.out.2.1.drew.size),X2.out.2.2.drew.trans (hb3.mono X2.out.2.2.drew.size)⟩
        have O3:Hid (OwnT w3 w.heap.size (.slice (some ⟨gg,0,none⟩) cap cap) (st.take cap)∧w3.ownsRow w.heap.size 9 1 (.slice (some ⟨gg,0,none⟩) cap cap) cap ((st.take cap).map fun x=>Value.string (Lx.bs x))):=(by
         have h1:=HOC.out.1.call X3.out.2
         have h2:=h1
         unfold OwnT at h2
         rw[HOC.out.2.2.2.2.2.2] at h2
         exact⟨h1,h2⟩))
      |(refine step_append_lies _ (by rfl) _ _ _ (by rfl) w.heap.size 9 i0 _ 1 16 Tryz.underlying50 hi hz0 hz1 hz2 rfl (by omega) _ _ _ (by rfl) (O3.out.2.alloc _) ⟨w3.heap.size,0,none⟩ 1 1 [.string (Lx.bs x)] (by rfl) (by rfl) (World.news_of_block (heap_alloc_new w3 _)) (by simp[Value.oneCell']) (by omega) fit63.out fit47.out (by have:=X3.out.1.size;simp;omega) (w3.heap.size+1) (by simp) ?_;intro gg' cap' w5 hown5 hgrow5 hat5 hglt5
        have I5:Hid (SH l w j1 (st.take cap++[x]) (.slice (some ⟨gg',0,none⟩) (cap+1) cap') w5):=(FIN.out w5 _ w3 _ O3.out.1 X3.out.1 hgrow5 hown5)
        clear hown5 hgrow5 hat5 hglt5)
      | fail "no arm")
     all_goals
      obtain⟨v1,v2⟩:=HV.out
      go_wp2
      clear v1 v2
      go_roundw
     all_goals first
      |(simp only[intOf];have:=HJ1.out;have:=HP.out;omega)
      | exact⟨j1,_,by have:=HJ1.out;have:=HP.out;omega,rfl,I5.out⟩
      |((repeat apply Exists.intro);exact⟨⟨j1,_,by have:=HJ1.out;have:=HP.out;omega,rfl,I5.out⟩,rfl⟩)
    ·have z0:¬cap=f:=hcf
     go_upto_region 6 with fail
     clear vf1 vf2
     go_region_law (first
      |(go_simp;go_at_call 52;refine(CS2.out _ ?_).mono ?_;(first | exact Below.refl _ _ | exact(Below.refl _ _).drew);rintro e w3 ⟨rfl,hb3⟩
        have X3:Hid (Below w.heap.size w w3∧Below wr.heap.size wr w3):=⟨X2.out.2.1.drew.trans (hb3.mono X2.out.2.1.drew.size),X2.out.2.2.drew.trans (hb3.mono X2.out.2.2.drew.size)⟩
        have O3:Hid (OwnT w3 w.heap.size (.slice (some ⟨gg,0,none⟩) f cap) (st.take f)∧w3.ownsRow w.heap.size 9 1 (.slice (some ⟨gg,0,none⟩) f cap) f ((st.take f).map fun x=>Value.string (Lx.bs x))):=(by
         have h1:=HOC.out.1.call X3.out.2
         have h2:=h1
         unfold OwnT at h2
         rw[HOC.out.2.2.2.2.2.2] at h2
         exact⟨h1,h2⟩))
      |(refine step_append_lies _ (by rfl) _ _ _ (by rfl) w.heap.size 9 i0 _ 1 16 Tryz.underlying50 hi hz0 hz1 hz2 rfl (by omega) _ _ _ (by rfl) (O3.out.2.alloc _) ⟨w3.heap.size,0,none⟩ 1 1 [.string (Lx.bs x)] (by rfl) (by rfl) (World.news_of_block (heap_alloc_new w3 _)) (by simp[Value.oneCell']) (by omega) fit63.out fit47.out (by have:=X3.out.1.size;simp;omega) (w3.heap.size+1) (by simp) ?_;intro gg' cap' w5 hown5 hgrow5 hat5 hglt5
        have I5:Hid (SH l w j1 (st.take f++[x]) (.slice (some ⟨gg',0,none⟩) (f+1) cap') w5):=(FIN.out w5 _ w3 _ O3.out.1 X3.out.1 hgrow5 hown5)
        clear hown5 hgrow5 hat5 hglt5)
      | fail "no arm")
     all_goals
      obtain⟨v1,v2⟩:=HV.out
      go_wp2
      clear v1 v2
      go_roundw
     all_goals first
      |(simp only[intOf];have:=HJ1.out;have:=HP.out;omega)
      | exact⟨j1,_,by have:=HJ1.out;have:=HP.out;omega,rfl,I5.out⟩
      |((repeat apply Exists.intro);exact⟨⟨j1,_,by have:=HJ1.out;have:=HP.out;omega,rfl,I5.out⟩,rfl⟩)
  ·have q0:¬(j:Int)<(n:Int):=by omega
   have HE:Hid (∃x,st=[x]∧shownE l=x):=by
    have h1:=HI.out.right
    have h2:=HI.out.stack
    rw[List.drop_eq_nil_of_le (by have:=HS.out;omega)] at h1 h2
    rw[rightL,decide_eq_true_iff] at h1
    match st,h1,h2 with
    | [x],_,h2=>exact⟨x,rfl,by rw[shownE,h2,stackL];rfl⟩
   obtain⟨x,hst,hsh⟩:=HE.out
   obtain⟨ga,gc,hv⟩:=HI.out.own.form
   have ho:=HI.out.own
   rw[hv] at ho
   obtain⟨o1,o2,o3,o4⟩:=ho.sr
   subst hst
   obtain⟨g1,o1',e1,cx⟩:=o3 0 x rfl
   rw[Nat.add_zero] at cx
   subst hv e1
   have HF:Hid (shownE l=x∧Below w.heap.size w wr):=⟨hsh,HI.out.below⟩
   clear hsh ho o1 o2 o3 o4 hlt hj hm HM HI HE
   go_wp2
   go_ret
   exact⟨by rw[HF.out.1];rfl,HF.out.2⟩
theorem stack_len:∀(l:List Sp) (st:List Bs),rightL l st.length=true→(∀p∈l,fitS p)→tot (stackL l st)≤tot st+l.length*4500
 | [],st,_,_=>Nat.le_add_right _ _
 | p :: r,st,h,hf=>by
  rw[rightL,Bool.and_eq_true,Bool.and_eq_true,decide_eq_true_iff] at h
  have h64:=zbX h.1.1
  have hl:(st.drop (st.length - zaI p)).length=zaI p:=by rw[List.length_drop];omega
  have hc:=step_cost (ps:=st.drop (st.length - zaI p)) h.1.1 (by rw[hl];exact h64) (hf p (List.mem_cons_self ..)).2
  have ht:=tot_take st (st.length - zaI p)
  have ih:=stack_len r (st.take (st.length - zaI p)++[stepTx p (st.drop (st.length - zaI p))]) (by
   rw[List.length_append,List.length_take,List.length_singleton,Nat.min_eq_left (by omega),show st.length - zaI p+1=st.length+1 - zaI p by omega]
   exact h.2) (fun q hq=>hf q (List.mem_cons_of_mem _ hq))
  rw[tot_app] at ih
  have e1:tot [stepTx p (st.drop (st.length - zaI p))]=(stepTx p (st.drop (st.length - zaI p))).length:=rfl
  have e2:(p :: r).length*4500=r.length*4500+4500:=Nat.succ_mul _ _
  rw[e1] at ih
  rw[stackL,e2]
  omega
theorem zbC {l:List Sp} (h:rightE l=true) (hf:∀p∈l,fitS p):(shownE l).length≤576000:=by
 rw[rightE,Bool.and_eq_true,decide_eq_true_iff] at h
 have h1:=stack_len l [] h.2 hf
 have h2:=tot_getD (stackL l []) 0
 have h3:l.length*4500≤128*4500:=Nat.mul_le_mul_right _ h.1
 have e:tot ([]:List Bs)=0:=rfl
 rw[e] at h1
 show((stackL l []).getD 0 []).length≤_
 omega
structure ItOK (l:List It):Prop where
 few:l.length≤64
 right:∀i∈l,rightE i.expr=true
 fit:∀i∈l,∀p∈i.expr,fitS p
 nm:∀i∈l,i.name.length≤64
theorem zdP {l:List It} (h:ItOK l) (b:Bool):∀x∈zaF b l,x.length≤600000:=fun x hx=>by
 rw[zaF] at hx
 obtain⟨i,hi,rfl⟩:=List.mem_map.1 hx
 have h1:=zbC (h.right i hi) (h.fit i hi)
 have h2:=h.nm i hi
 cases b
 ·show(shownE i.expr++[32,65,83,32]++i.name).length≤_
  rw[List.length_append,List.length_append,show[(32:UInt8),65,83,32].length=4 from rfl]
  omega
 ·show(i.name++[32,61,32]++shownE i.expr).length≤_
  rw[List.length_append,List.length_append,show[(32:UInt8),61,32].length=3 from rfl]
  omega
theorem items_step {l:List It} {j:Nat} {i:It} (b:Bool) (h:l[j]?=some i):zaF b (l.take (j+1))=zaF b (l.take j)++zaF b [i]:=by
 rw[List.take_add_one,h,zaF,zaF,zaF,List.map_append]
 rfl
theorem sets_c (l:List It) (a:Option Addr) (n c:Nat) (w:World) (hn:n=l.length) (hk:ItOK l) (hs:Itm w a l) (hL:HasL w) (hO:HasO w):Calls Tryz.prog 46 #[.slice a n c] w fun e w'=>e=.returned (.string (Lx.bs (join [44,32] (zaF true l))))∧Below w.heap.size w w':=by
 obtain⟨i0,hi,hz0,hz1,hz2⟩:=zaJ zbE
 have HS:Hid (Itm w a l∧n=l.length∧ItOK l∧HasL w∧HasO w∧n≤64):=⟨hs,hn,hk,hL,hO,by have:=hk.few;omega⟩
 obtain⟨J,hJ⟩:∃J,J=join [44,32] (zaF true l):=⟨_,rfl⟩
 have CJ:Hid (∀W x cc,Below w.heap.size w W→OwnT W w.heap.size (.slice x n cc) (zaF true l)→Calls Tryz.prog 23 #[.slice x n cc,.string ⟨#[44,32]⟩] W fun e w'=>e=.returned (.string (Lx.bs J))∧Below W.heap.size W w'):=fun W x cc hW ho=>by
  rw[hJ]
  obtain⟨o1,o2,o3,o4⟩:=ho.sr
  have e9:maxLen=9223372036854775807:=by decide
  exact join_g 600000 [44,32] _ x n cc W o1 (by have:=HS.out;omega) o2 (by omega) o3 (by decide) (zdP hk _) (Nat.le_trans (Nat.mul_le_mul_right _ (show n+1≤65 by have:=HS.out;omega)) (by decide))
 rw[←hJ]
 skip
 clear hn hk hs hL hO hJ
 go_enter Tryz.func46,Tryz.ntmps46
 go_wp2
 go_loopw [3,8] (fun v i wr=>∃j:Nat,j≤n∧i=.int .i64 j∧Hid (Below w.heap.size w wr∧OwnT wr w.heap.size v (zaF true (l.take j)))) (fun _ i _=>n - (intOf i).toNat)
 case atStart=>exact⟨0,Nat.zero_le _,rfl,Below.refl _ _,rfl,.inl ⟨rfl,rfl⟩⟩
 case round =>
  obtain⟨j,hj,rfl,HI⟩:=hrel
  obtain⟨nl,hnl⟩:∃nl,nl=zaF true (l.take j):=⟨_,rfl⟩
  rw[←hnl] at HI
  obtain⟨na,nc,hnv⟩:=HI.out.2.form
  obtain⟨k,hk⟩:∃k,k=nl.length:=⟨_,rfl⟩
  rw[←hk] at hnv
  have HK:Hid (k=nl.length∧k=j∧nl=zaF true (l.take j)):=⟨hk,by rw[hk,hnl,zaF,List.length_map,List.length_take];have:=HS.out;omega,hnl⟩
  subst hnv
  clear hk hnl
  by_cases hlt:j<n
  ·have q0:(j:Int)<(n:Int):=by omega
   have q1:(0:Int)≤(j:Int):=by omega
   obtain⟨i,hi2⟩:∃i,l[j]?=some i:=⟨_,List.getElem?_eq_getElem (by have:=HS.out;omega)⟩
   obtain⟨g,o,ea,ec,rfl,c0,c1,hsts⟩:=(HS.out.1.call HI.out.1) j i hi2
   have him:=List.mem_of_getElem? hi2
   obtain⟨tx,htx⟩:∃tx,tx=shownE i.expr:=⟨_,rfl⟩
   have hnl:=HS.out.2.2.1.nm i him
   have htl:tx.length≤576000:=by rw[htx];exact zbC (HS.out.2.2.1.right i him) (HS.out.2.2.1.fit i him)
   have a1:=add_s (a:=Lx.bs i.name) (b:=⟨#[32,61,32]⟩) (x:=i.name) (y:=[32,61,32]) rfl rfl (by show i.name.length+3≤_;omega)
   have a2:=add_s (a:=Lx.bs (i.name++[32,61,32])) (b:=Lx.bs tx) (x:=i.name++[32,61,32]) (y:=tx) rfl rfl (by rw[List.length_append];show i.name.length+3+tx.length≤_;omega)
   obtain⟨z1,hz1'⟩:∃z,z=Lx.bs (i.name++[32,61,32]):=⟨_,rfl⟩
   obtain⟨y,hy⟩:∃y,y=i.name++[32,61,32]++tx:=⟨_,rfl⟩
   rw[←hz1',←hy] at a2
   rw[←hz1'] at a1
   have HP:Hid (zaF true (l.take (j+1))=nl++[y]∧j<n∧Sts wr ea i.expr):=⟨by rw[items_step true hi2,HK.out.2.2,hy,htx];rfl,hlt,hsts⟩
   obtain⟨w1,hw1⟩:∃w1,w1=wr.alloc (.cells #[.string (Lx.bs i.name),.slice ea i.expr.length ec] 43):=⟨_,rfl⟩
   obtain⟨T,hT⟩:∃T,T=wr.heap.size:=⟨_,rfl⟩
   have X1:Hid (w1.heap[T]?=some (.cells #[.string (Lx.bs i.name),.slice ea i.expr.length ec] 43 (0,0))∧Below w.heap.size w w1∧Below wr.heap.size wr w1):=⟨by rw[hw1,hT];exact heap_alloc_new wr _,by rw[hw1];exact HI.out.1.alloc HI.out.1.size _,by rw[hw1];exact bnew _ _⟩
   have y0:w1.cell? ⟨T,0,none⟩=some (.string (Lx.bs i.name)):=by rw[cell_of_row _ _ _ _ _ _ X1.out.1];rfl
   have y1:w1.cell? ⟨T,1,none⟩=some (.slice ea i.expr.length ec):=by rw[cell_of_row _ _ _ _ _ _ X1.out.1];rfl
   have tl:=row_lt X1.out.1
   have CS:Hid (∀W,Below w1.heap.size w1 W→Calls Tryz.prog 27 #[.slice ea i.expr.length ec] W fun e w'=>e=.returned (.string (Lx.bs tx))∧Below W.heap.size W w'):=fun W hW=>by
    rw[htx]
    have hB:=X1.out.2.1.trans (hW.mono X1.out.2.1.size)
    exact shown_c i.expr ea _ ec W (HS.out.2.2.1.right i him) rfl ((HP.out.2.2.call X1.out.2.2).call hW) (HS.out.2.2.1.fit i him) (HS.out.2.2.2.1.stays hB) (HS.out.2.2.2.2.1.stays hB)
   have O1:Hid (w1.ownsRow w.heap.size 9 1 (.slice na k nc) k (nl.map fun x=>Value.string (Lx.bs x))):=by
    have:=HI.out.2.call X1.out.2.2
    unfold OwnT at this
    rw[←HK.out.1] at this
    exact this
   have fit63:Hid (k+1≤maxLen):=by show _≤_;have:=HK.out;have:=HS.out;unfold maxLen;omega
   have fit47:Hid ((k+1)*16≤140737488355328):=by show _≤_;have:=HK.out;have:=HS.out;omega
   have FIN:Hid (∀(W5:World) (v':Value) (W4:World),OwnT W4 w.heap.size (.slice na k nc) nl→Below w.heap.size w W4→(W4.alloc (.cells #[.string (Lx.bs y)] 9)).grownBy W5 (Value.slice na k nc).ownBlock→W5.ownsRow w.heap.size 9 1 v' (k+1) ((nl.map fun x=>Value.string (Lx.bs x))++[.string (Lx.bs y)])→Below w.heap.size w W5∧OwnT W5 w.heap.size v' (zaF true (l.take (j+1)))):=fun W5 v' W4 ho hb hg hn=>by
    rw[HP.out.1]
    exact ho.push hb (bnew W4 _) hg (by rw[←HK.out.1];exact hn)
   obtain⟨j1,hj1⟩:∃j1,j1=j+1:=⟨_,rfl⟩
   have HJ1:Hid (j1=j+1):=hj1
   have HV:Hid (IntKind.i64.wrap ((j:Int)+1)=(j1:Int)∧wrap64 ((j:Int)+1)=(j1:Int)):=wrp (by omega) (by have:=HS.out;omega)
   rw[←hj1] at FIN
   clear hi2 hlt hj hsts him htx hnl htl hz1' hy hj1
   go_upto_region 5 with fail
   rw[←hw1,←hT]
   clear hw1 hT c0 c1
   go_region_law (first
    |(go_simp;go_at_call 27;refine(CS.out _ ?_).mono ?_;(first | exact Below.refl _ _ | exact(Below.refl _ _).drew);rintro e w3 ⟨rfl,hb3⟩
      have X3:Hid (Below w.heap.size w w3∧Below w1.heap.size w1 w3):=⟨X1.out.2.1.drew.trans (hb3.mono X1.out.2.1.drew.size),((Below.refl w1.heap.size w1).drew).trans hb3⟩
      have y0:w3.cell? ⟨T,0,none⟩=some (.string (Lx.bs i.name)):=(by rw[cell_of_row _ _ _ _ _ _ ((X3.out.2.block T (row_lt X1.out.1)).trans X1.out.1)];rfl)
      have O3:Hid (OwnT w3 w.heap.size (.slice na k nc) nl∧w3.ownsRow w.heap.size 9 1 (.slice na k nc) k (nl.map fun x=>Value.string (Lx.bs x))):=(by
       have h2:=zaT O1.out X3.out.2
       refine⟨?_,h2⟩
       unfold OwnT
       rw[←HK.out.1]
       exact h2))
    |(refine step_append_lies _ (by rfl) _ _ _ (by rfl) w.heap.size 9 i0 _ 1 16 Tryz.underlying50 hi hz0 hz1 hz2 rfl (by omega) _ _ _ (by rfl) (O3.out.2.alloc _) ⟨w3.heap.size,0,none⟩ 1 1 [.string (Lx.bs y)] (by rfl) (by rfl) (World.news_of_block (heap_alloc_new w3 _)) (by simp[Value.oneCell']) (by omega) fit63.out fit47.out (by have:=X3.out.1.size;simp;omega) (w3.heap.size+1) (by simp) ?_;intro gg' cap' w5 hown5 hgrow5 hat5 hglt5
      have I5:Hid (Below w.heap.size w w5∧OwnT w5 w.heap.size (.slice (some ⟨gg',0,none⟩) (k+1) cap') (zaF true (l.take j1))):=(FIN.out w5 _ w3 O3.out.1 X3.out.1 hgrow5 hown5)
      clear hown5 hgrow5 hat5 hglt5)
    | fail "no arm")
   all_goals
    obtain⟨v1,v2⟩:=HV.out
    go_wp2
    clear v1 v2
    go_roundw
   all_goals first
    |(simp only[intOf];have:=HJ1.out;have:=HP.out;omega)
    | exact⟨j1,by have:=HJ1.out;have:=HP.out;omega,rfl,I5.out⟩
    |((repeat apply Exists.intro);exact⟨⟨j1,by have:=HJ1.out;have:=HP.out;omega,rfl,I5.out⟩,rfl⟩)
  ·have q0:¬(j:Int)<(n:Int):=by omega
   have HE:Hid (k=n∧nl=zaF true l):=by
    refine⟨by have:=HK.out;omega,?_⟩
    rw[HK.out.2.2,List.take_of_length_le (by have:=HS.out;omega)]
   have CJ1:=hidp (CJ.out wr na nc HI.out.1 (by have h:=HI.out.2;rw[HE.out.1,HE.out.2] at h;exact h))
   rw[←HE.out.1] at CJ1
   clear hlt hj
   go_wp2_with fail
   refine(CJ1.out).mono ?_
   rintro e w3 ⟨rfl,hb3⟩
   have B3:Hid (Below w.heap.size w w3):=HI.out.1.trans (hb3.mono HI.out.1.size)
   clear hb3 CJ1
   go_wp2
   go_ret
   exact⟨rfl,B3.out⟩
theorem whatI_c (l:List It) (a:Option Addr) (n c:Nat) (w:World) (hn:n=l.length) (h0:n≠0) (hk:ItOK l) (hs:Itm w a l) (hL:HasL w) (hO:HasO w):Calls Tryz.prog 48 #[.slice a n c] w fun e w'=>e=.returned (.string (Lx.bs (join [44,32] (zaF false l))))∧Below w.heap.size w w':=by
 obtain⟨i0,hi,hz0,hz1,hz2⟩:=zaJ zbE
 have HS:Hid (Itm w a l∧n=l.length∧ItOK l∧HasL w∧HasO w∧n≤64):=⟨hs,hn,hk,hL,hO,by have:=hk.few;omega⟩
 obtain⟨J,hJ⟩:∃J,J=join [44,32] (zaF false l):=⟨_,rfl⟩
 have CJ:Hid (∀W x cc,Below w.heap.size w W→OwnT W w.heap.size (.slice x n cc) (zaF false l)→Calls Tryz.prog 23 #[.slice x n cc,.string ⟨#[44,32]⟩] W fun e w'=>e=.returned (.string (Lx.bs J))∧Below W.heap.size W w'):=fun W x cc hW ho=>by
  rw[hJ]
  obtain⟨o1,o2,o3,o4⟩:=ho.sr
  have e9:maxLen=9223372036854775807:=by decide
  exact join_g 600000 [44,32] _ x n cc W o1 (by have:=HS.out;omega) o2 (by omega) o3 (by decide) (zdP hk _) (Nat.le_trans (Nat.mul_le_mul_right _ (show n+1≤65 by have:=HS.out;omega)) (by decide))
 rw[←hJ]
 have q00:((n:Int)==0)=false:=by simp;omega
 clear h0
 clear hn hk hs hL hO hJ
 go_enter Tryz.func48,Tryz.ntmps48
 go_wp2
 go_loopw [3,11] (fun v i wr=>∃j:Nat,j≤n∧i=.int .i64 j∧Hid (Below w.heap.size w wr∧OwnT wr w.heap.size v (zaF false (l.take j)))) (fun _ i _=>n - (intOf i).toNat)
 case atStart=>exact⟨0,Nat.zero_le _,rfl,Below.refl _ _,rfl,.inl ⟨rfl,rfl⟩⟩
 case round =>
  obtain⟨j,hj,rfl,HI⟩:=hrel
  obtain⟨nl,hnl⟩:∃nl,nl=zaF false (l.take j):=⟨_,rfl⟩
  rw[←hnl] at HI
  obtain⟨na,nc,hnv⟩:=HI.out.2.form
  obtain⟨k,hk⟩:∃k,k=nl.length:=⟨_,rfl⟩
  rw[←hk] at hnv
  have HK:Hid (k=nl.length∧k=j∧nl=zaF false (l.take j)):=⟨hk,by rw[hk,hnl,zaF,List.length_map,List.length_take];have:=HS.out;omega,hnl⟩
  subst hnv
  clear hk hnl
  by_cases hlt:j<n
  ·have q0:(j:Int)<(n:Int):=by omega
   have q1:(0:Int)≤(j:Int):=by omega
   obtain⟨i,hi2⟩:∃i,l[j]?=some i:=⟨_,List.getElem?_eq_getElem (by have:=HS.out;omega)⟩
   obtain⟨g,o,ea,ec,rfl,c0,c1,hsts⟩:=(HS.out.1.call HI.out.1) j i hi2
   have him:=List.mem_of_getElem? hi2
   obtain⟨tx,htx⟩:∃tx,tx=shownE i.expr:=⟨_,rfl⟩
   have hnl:=HS.out.2.2.1.nm i him
   have htl:tx.length≤576000:=by rw[htx];exact zbC (HS.out.2.2.1.right i him) (HS.out.2.2.1.fit i him)
   have a1:=add_s (a:=Lx.bs tx) (b:=⟨#[32,65,83,32]⟩) (x:=tx) (y:=[32,65,83,32]) rfl rfl (by show tx.length+4≤_;omega)
   have a2:=add_s (a:=Lx.bs (tx++[32,65,83,32])) (b:=Lx.bs i.name) (x:=tx++[32,65,83,32]) (y:=i.name) rfl rfl (by rw[List.length_append];show tx.length+4+i.name.length≤_;omega)
   obtain⟨z1,hz1'⟩:∃z,z=Lx.bs (tx++[32,65,83,32]):=⟨_,rfl⟩
   obtain⟨y,hy⟩:∃y,y=tx++[32,65,83,32]++i.name:=⟨_,rfl⟩
   rw[←hz1',←hy] at a2
   rw[←hz1'] at a1
   have HP:Hid (zaF false (l.take (j+1))=nl++[y]∧j<n∧Sts wr ea i.expr):=⟨by rw[items_step false hi2,HK.out.2.2,hy,htx];rfl,hlt,hsts⟩
   obtain⟨w1,hw1⟩:∃w1,w1=wr.alloc (.cells #[.string (Lx.bs i.name),.slice ea i.expr.length ec] 43):=⟨_,rfl⟩
   obtain⟨T,hT⟩:∃T,T=wr.heap.size:=⟨_,rfl⟩
   have X1:Hid (w1.heap[T]?=some (.cells #[.string (Lx.bs i.name),.slice ea i.expr.length ec] 43 (0,0))∧Below w.heap.size w w1∧Below wr.heap.size wr w1):=⟨by rw[hw1,hT];exact heap_alloc_new wr _,by rw[hw1];exact HI.out.1.alloc HI.out.1.size _,by rw[hw1];exact bnew _ _⟩
   have y0:w1.cell? ⟨T,0,none⟩=some (.string (Lx.bs i.name)):=by rw[cell_of_row _ _ _ _ _ _ X1.out.1];rfl
   have y1:w1.cell? ⟨T,1,none⟩=some (.slice ea i.expr.length ec):=by rw[cell_of_row _ _ _ _ _ _ X1.out.1];rfl
   have tl:=row_lt X1.out.1
   have CS:Hid (∀W,Below w1.heap.size w1 W→Calls Tryz.prog 27 #[.slice ea i.expr.length ec] W fun e w'=>e=.returned (.string (Lx.bs tx))∧Below W.heap.size W w'):=fun W hW=>by
    rw[htx]
    have hB:=X1.out.2.1.trans (hW.mono X1.out.2.1.size)
    exact shown_c i.expr ea _ ec W (HS.out.2.2.1.right i him) rfl ((HP.out.2.2.call X1.out.2.2).call hW) (HS.out.2.2.1.fit i him) (HS.out.2.2.2.1.stays hB) (HS.out.2.2.2.2.1.stays hB)
   have O1:Hid (w1.ownsRow w.heap.size 9 1 (.slice na k nc) k (nl.map fun x=>Value.string (Lx.bs x))):=by
    have:=HI.out.2.call X1.out.2.2
    unfold OwnT at this
    rw[←HK.out.1] at this
    exact this
   have fit63:Hid (k+1≤maxLen):=by show _≤_;have:=HK.out;have:=HS.out;unfold maxLen;omega
   have fit47:Hid ((k+1)*16≤140737488355328):=by show _≤_;have:=HK.out;have:=HS.out;omega
   have FIN:Hid (∀(W5:World) (v':Value) (W4:World),OwnT W4 w.heap.size (.slice na k nc) nl→Below w.heap.size w W4→(W4.alloc (.cells #[.string (Lx.bs y)] 9)).grownBy W5 (Value.slice na k nc).ownBlock→W5.ownsRow w.heap.size 9 1 v' (k+1) ((nl.map fun x=>Value.string (Lx.bs x))++[.string (Lx.bs y)])→Below w.heap.size w W5∧OwnT W5 w.heap.size v' (zaF false (l.take (j+1)))):=fun W5 v' W4 ho hb hg hn=>by
    rw[HP.out.1]
    exact ho.push hb (bnew W4 _) hg (by rw[←HK.out.1];exact hn)
   obtain⟨j1,hj1⟩:∃j1,j1=j+1:=⟨_,rfl⟩
   have HJ1:Hid (j1=j+1):=hj1
   have HV:Hid (IntKind.i64.wrap ((j:Int)+1)=(j1:Int)∧wrap64 ((j:Int)+1)=(j1:Int)):=wrp (by omega) (by have:=HS.out;omega)
   rw[←hj1] at FIN
   clear hi2 hlt hj hsts him htx hnl htl hz1' hy hj1
   go_upto_region 7 with fail
   rw[←hw1,←hT]
   clear hw1 hT c0 c1
   go_region_law (first
    |(go_simp;go_at_call 27;refine(CS.out _ ?_).mono ?_;(first | exact Below.refl _ _ | exact(Below.refl _ _).drew);rintro e w3 ⟨rfl,hb3⟩
      have X3:Hid (Below w.heap.size w w3∧Below w1.heap.size w1 w3):=⟨X1.out.2.1.drew.trans (hb3.mono X1.out.2.1.drew.size),((Below.refl w1.heap.size w1).drew).trans hb3⟩
      have y0:w3.cell? ⟨T,0,none⟩=some (.string (Lx.bs i.name)):=(by rw[cell_of_row _ _ _ _ _ _ ((X3.out.2.block T (row_lt X1.out.1)).trans X1.out.1)];rfl)
      have O3:Hid (OwnT w3 w.heap.size (.slice na k nc) nl∧w3.ownsRow w.heap.size 9 1 (.slice na k nc) k (nl.map fun x=>Value.string (Lx.bs x))):=(by
       have h2:=zaT O1.out X3.out.2
       refine⟨?_,h2⟩
       unfold OwnT
       rw[←HK.out.1]
       exact h2))
    |(refine step_append_lies _ (by rfl) _ _ _ (by rfl) w.heap.size 9 i0 _ 1 16 Tryz.underlying50 hi hz0 hz1 hz2 rfl (by omega) _ _ _ (by rfl) (O3.out.2.alloc _) ⟨w3.heap.size,0,none⟩ 1 1 [.string (Lx.bs y)] (by rfl) (by rfl) (World.news_of_block (heap_alloc_new w3 _)) (by simp[Value.oneCell']) (by omega) fit63.out fit47.out (by have:=X3.out.1.size;simp;omega) (w3.heap.size+1) (by simp) ?_;intro gg' cap' w5 hown5 hgrow5 hat5 hglt5
      have I5:Hid (Below w.heap.size w w5∧OwnT w5 w.heap.size (.slice (some ⟨gg',0,none⟩) (k+1) cap') (zaF false (l.take j1))):=(FIN.out w5 _ w3 O3.out.1 X3.out.1 hgrow5 hown5)
      clear hown5 hgrow5 hat5 hglt5)
    | fail "no arm")
   all_goals
    obtain⟨v1,v2⟩:=HV.out
    go_wp2
    clear v1 v2
    go_roundw
   all_goals first
    |(simp only[intOf];have:=HJ1.out;have:=HP.out;omega)
    | exact⟨j1,by have:=HJ1.out;have:=HP.out;omega,rfl,I5.out⟩
    |((repeat apply Exists.intro);exact⟨⟨j1,by have:=HJ1.out;have:=HP.out;omega,rfl,I5.out⟩,rfl⟩)
  ·have q0:¬(j:Int)<(n:Int):=by omega
   have HE:Hid (k=n∧nl=zaF false l):=by
    refine⟨by have:=HK.out;omega,?_⟩
    rw[HK.out.2.2,List.take_of_length_le (by have:=HS.out;omega)]
   have CJ1:=hidp (CJ.out wr na nc HI.out.1 (by have h:=HI.out.2;rw[HE.out.1,HE.out.2] at h;exact h))
   rw[←HE.out.1] at CJ1
   clear hlt hj
   go_wp2_with fail
   refine(CJ1.out).mono ?_
   rintro e w3 ⟨rfl,hb3⟩
   have B3:Hid (Below w.heap.size w w3):=HI.out.1.trans (hb3.mono HI.out.1.size)
   clear hb3 CJ1
   go_wp2
   go_ret
   exact⟨rfl,B3.out⟩
theorem what_c (l:List It) (a:Option Addr) (n c:Nat) (w:World) (hn:n=l.length) (hk:ItOK l) (hs:Itm w a l) (hL:HasL w) (hO:HasO w):Calls Tryz.prog 48 #[.slice a n c] w fun e w'=>e=.returned (.string (Lx.bs (whatTx l)))∧Below w.heap.size w w':=by
 by_cases h0:n=0
 ·have e:l=[]:=List.length_eq_zero_iff.1 (by omega)
  have HQ:Hid (whatTx l=[42]):=by show _=_;rw[whatTx,if_pos e]
  have q0:((n:Int)==0)=true:=by rw[h0];rfl
  clear hn hk hs hL hO h0 e
  go_enter Tryz.func48,Tryz.ntmps48
  go_wp2
  go_ret
  exact⟨by rw[HQ.out];rfl,Below.refl _ _⟩
 ·have e:¬l=[]:=fun q=>h0 (by rw[hn,q];rfl)
  rw[whatTx,if_neg e]
  exact whatI_c l a n c w hn h0 hk hs hL hO
theorem from_c (x:St) (ia ea:Option Addr) (ic ec:Nat) (w:World) (ht:x.table.length≤4611686018427387904):Calls Tryz.prog 49 #[.agg #[.int .u8 (x.kind:Int),.string (Lx.bs x.table),.string (Lx.bs x.field),.slice ia x.items.length ic,.slice ea x.expr.length ec,.bool x.history,.bool x.desc]] w fun e w'=>e=.returned (.string (Lx.bs (fromTx x)))∧Below w.heap.size w w':=by
 obtain⟨w1,hw1⟩:∃w1,w1=w.alloc (.cells #[.int .u8 (x.kind:Int),.string (Lx.bs x.table),.string (Lx.bs x.field),.slice ia x.items.length ic,.slice ea x.expr.length ec,.bool x.history,.bool x.desc] 26):=⟨_,rfl⟩
 obtain⟨T,hT⟩:∃T,T=w.heap.size:=⟨_,rfl⟩
 have X1:Hid (w1.heap[T]?=some (.cells #[.int .u8 (x.kind:Int),.string (Lx.bs x.table),.string (Lx.bs x.field),.slice ia x.items.length ic,.slice ea x.expr.length ec,.bool x.history,.bool x.desc] 26 (0,0))∧Below w.heap.size w w1):=⟨by rw[hw1,hT];exact heap_alloc_new w _,by rw[hw1];exact bnew _ _⟩
 have YC:Hid (∀r v,(#[.int .u8 (x.kind:Int),.string (Lx.bs x.table),.string (Lx.bs x.field),.slice ia x.items.length ic,.slice ea x.expr.length ec,.bool x.history,.bool x.desc]:Array Value)[r]?=some v→w1.cell? ⟨T,r,none⟩=some v):=fun r v hv=>by rw[cell_of_row _ _ _ _ _ _ X1.out.1];exact hv
 have y0:=YC.out 0 _ rfl
 have y1:=YC.out 1 _ rfl
 have y2:=YC.out 2 _ rfl
 have y3:=YC.out 3 _ rfl
 have y4:=YC.out 4 _ rfl
 have y5:=YC.out 5 _ rfl
 have y6:=YC.out 6 _ rfl
 have a1:=add_s (a:=⟨#[72,73,83,84,79,82,89,40]⟩) (b:=Lx.bs x.table) (x:=[72,73,83,84,79,82,89,40]) (y:=x.table) rfl rfl (by show 8+x.table.length≤_;omega)
 have a2:=add_s (a:=Lx.bs ([72,73,83,84,79,82,89,40]++x.table)) (b:=⟨#[41]⟩) (x:=[72,73,83,84,79,82,89,40]++x.table) (y:=[41]) rfl rfl (by rw[List.length_append];show 8+x.table.length+1≤_;omega)
 obtain⟨z1,hz1⟩:∃z,z=Lx.bs ([72,73,83,84,79,82,89,40]++x.table):=⟨_,rfl⟩
 obtain⟨z2,hz2⟩:∃z,z=Lx.bs ([72,73,83,84,79,82,89,40]++x.table++[41]):=⟨_,rfl⟩
 rw[←hz1] at a1 a2
 rw[←hz2] at a2
 obtain⟨b,hb⟩:∃b,b=x.history:=⟨_,rfl⟩
 have HQ:Hid (Lx.bs (fromTx x)=if b=true then z2 else Lx.bs x.table):=by
  show _=_
  rw[fromTx,←hb,hz2]
  cases b<;>rfl
 rw[←hb] at y5
 clear hz1 hz2 ht hb
 go_enter Tryz.func49,Tryz.ntmps49
 go_upto_region 1 with fail
 rw[←hw1,←hT]
 clear hw1 hT
 cases b
 ·go_wp2
  go_ret
  exact⟨by rw[HQ.out];rfl,X1.out.2⟩
 ·go_wp2
  go_ret
  exact⟨by rw[HQ.out];rfl,X1.out.2⟩
def TxR (w w':World) (v:Value) (l:List Bs):Prop:=Below w.heap.size w w'∧∃a c,v=.slice a l.length c∧l.length≤c∧c≤9223372036854775807∧SR w' a l
theorem zcN (l:List Sp) (a:Option Addr) (n c:Nat) (w:World) (hr:l≠[]→rightE l=true) (hn:n=l.length) (hs:Sts w a l) (hf:∀p∈l,fitS p) (hL:HasL w) (hO:HasO w):Calls Tryz.prog 47 #[.slice a n c] w fun e w'=>∃x cc,e=.returned (.slice x (condTx l).length cc)∧Hid (TxR w w' (.slice x (condTx l).length cc) (condTx l)):=by
 by_cases h0:l=[]
 ·have q0:((n:Int)==0)=true:=by rw[hn,h0];rfl
  have HQ:Hid (condTx l=[]):=by show _=_;rw[condTx,if_pos h0]
  clear hr hn hs hf hL hO h0
  go_enter Tryz.func47,Tryz.ntmps47
  go_wp2
  go_ret
  exact⟨none,0,by rw[HQ.out];rfl,by rw[HQ.out];exact⟨Below.refl _ _,none,0,rfl,Nat.le_refl _,by decide,SR.nil _ _⟩⟩
 ·have q0:((n:Int)==0)=false:=by
   have:l.length≠0:=fun e=>h0 (List.length_eq_zero_iff.1 e)
   simp;omega
  have HQ:Hid (condTx l=[[87,72,69,82,69],shownE l]):=by show _=_;rw[condTx,if_neg h0]
  have CS:=hidp (shown_c l a n c w (hr h0) hn hs hf hL hO)
  obtain⟨t,ht⟩:∃t,t=shownE l:=⟨_,rfl⟩
  rw[←ht] at HQ CS
  clear hr hn hs hf hL hO h0 ht
  go_enter Tryz.func47,Tryz.ntmps47
  go_wp2_with fail
  refine(CS.out).mono ?_
  rintro e w1 ⟨rfl,hb1⟩
  obtain⟨w2,hw2⟩:∃w2,w2=w1.alloc (.cells #[.string ⟨#[87,72,69,82,69]⟩,.string (Lx.bs t)] 9):=⟨_,rfl⟩
  obtain⟨g,hg⟩:∃g,g=w1.heap.size:=⟨_,rfl⟩
  have X2:Hid (TxR w w2 (.slice (some ⟨g,0,none⟩) 2 2) [[87,72,69,82,69],t]):=by
   have h:=heap_alloc_new w1 (.cells #[.string ⟨#[87,72,69,82,69]⟩,.string (Lx.bs t)] 9)
   rw[←hw2,←hg] at h
   refine⟨hb1.trans (by rw[hw2];exact(bnew w1 _).mono hb1.size),_,2,rfl,Nat.le_refl _,by decide,SR.made h fun j x hx=>?_⟩
   match j,hx with
   | 0,hx=>cases hx;rfl
   | 1,hx=>cases hx;rfl
  clear hb1 CS
  go_wp2
  rw[←hw2,←hg]
  clear hw2 hg
  go_ret
  exact⟨_,2,by rw[HQ.out];rfl,by rw[HQ.out];exact X2.out⟩
theorem order_c (x:St) (ia ea:Option Addr) (ic ec:Nat) (w:World):Calls Tryz.prog 50 #[.agg #[.int .u8 (x.kind:Int),.string (Lx.bs x.table),.string (Lx.bs x.field),.slice ia x.items.length ic,.slice ea x.expr.length ec,.bool x.history,.bool x.desc]] w fun e w'=>∃a c,e=.returned (.slice a (zbD x).length c)∧Hid (TxR w w' (.slice a (zbD x).length c) (zbD x)):=by
 obtain⟨w1,hw1⟩:∃w1,w1=w.alloc (.cells #[.int .u8 (x.kind:Int),.string (Lx.bs x.table),.string (Lx.bs x.field),.slice ia x.items.length ic,.slice ea x.expr.length ec,.bool x.history,.bool x.desc] 26):=⟨_,rfl⟩
 obtain⟨T,hT⟩:∃T,T=w.heap.size:=⟨_,rfl⟩
 have X1:Hid (w1.heap[T]?=some (.cells #[.int .u8 (x.kind:Int),.string (Lx.bs x.table),.string (Lx.bs x.field),.slice ia x.items.length ic,.slice ea x.expr.length ec,.bool x.history,.bool x.desc] 26 (0,0))∧Below w.heap.size w w1):=⟨by rw[hw1,hT];exact heap_alloc_new w _,by rw[hw1];exact bnew _ _⟩
 have YC:Hid (∀r v,(#[.int .u8 (x.kind:Int),.string (Lx.bs x.table),.string (Lx.bs x.field),.slice ia x.items.length ic,.slice ea x.expr.length ec,.bool x.history,.bool x.desc]:Array Value)[r]?=some v→w1.cell? ⟨T,r,none⟩=some v):=fun r v hv=>by rw[cell_of_row _ _ _ _ _ _ X1.out.1];exact hv
 have y0:=YC.out 0 _ rfl
 have y1:=YC.out 1 _ rfl
 have y2:=YC.out 2 _ rfl
 have y3:=YC.out 3 _ rfl
 have y4:=YC.out 4 _ rfl
 have y5:=YC.out 5 _ rfl
 have y6:=YC.out 6 _ rfl
 obtain⟨f,hf⟩:∃f,f=decide (x.field=[]):=⟨_,rfl⟩
 obtain⟨s,hs⟩:∃s,s=Lx.bs x.field:=⟨_,rfl⟩
 obtain⟨b,hb⟩:∃b,b=x.desc:=⟨_,rfl⟩
 have HF:Hid ((s.toList==[])=f):=by
  show _=_
  rw[hf,hs,Lx.bs_toList]
  cases x.field<;>rfl
 have HQ:Hid (zbD x=if f=true then [] else if b=true then [[79,82,68,69,82,32,66,89],x.field,[68,69,83,67]] else [[79,82,68,69,82,32,66,89],x.field]):=by
  show _=_
  rw[zbD,hf,←hb]
  by_cases h:x.field=[]
  ·rw[if_pos h,decide_eq_true h];rfl
  ·rw[if_neg h,decide_eq_false h];rfl
 have HS:Hid (s=Lx.bs x.field):=hs
 show Calls Tryz.prog 50 _ w _
 rw[←hs] at y2
 rw[←hb] at y6
 clear hf hs hb
 have fq:=HF.out
 go_enter Tryz.func50,Tryz.ntmps50
 go_upto_region 1 with fail
 rw[←hw1,←hT]
 clear hw1 hT
 cases f
 ·cases b
  ·obtain⟨w2,hw2⟩:∃w2,w2=w1.alloc (.cells #[.string ⟨#[79,82,68,69,82,32,66,89]⟩,.string s] 9):=⟨_,rfl⟩
   obtain⟨g,hg⟩:∃g,g=w1.heap.size:=⟨_,rfl⟩
   have X2:Hid (TxR w w2 (.slice (some ⟨g,0,none⟩) 2 2) [[79,82,68,69,82,32,66,89],x.field]):=by
    have h:=heap_alloc_new w1 (.cells #[.string ⟨#[79,82,68,69,82,32,66,89]⟩,.string s] 9)
    rw[←hw2,←hg] at h
    refine⟨X1.out.2.trans (by rw[hw2];exact(bnew w1 _).mono X1.out.2.size),_,2,rfl,Nat.le_refl _,by decide,SR.made h fun j x hx=>?_⟩
    match j,hx with
    | 0,hx=>cases hx;rfl
    | 1,hx=>cases hx;rw[HS.out];rfl
   go_wp2
   rw[←hw2,←hg]
   clear hw2 hg
   go_ret
   exact⟨_,2,by rw[HQ.out];rfl,by rw[HQ.out];exact X2.out⟩
  ·obtain⟨w2,hw2⟩:∃w2,w2=w1.alloc (.cells #[.string ⟨#[79,82,68,69,82,32,66,89]⟩,.string s,.string ⟨#[68,69,83,67]⟩] 9):=⟨_,rfl⟩
   obtain⟨g,hg⟩:∃g,g=w1.heap.size:=⟨_,rfl⟩
   have X2:Hid (TxR w w2 (.slice (some ⟨g,0,none⟩) 3 3) [[79,82,68,69,82,32,66,89],x.field,[68,69,83,67]]):=by
    have h:=heap_alloc_new w1 (.cells #[.string ⟨#[79,82,68,69,82,32,66,89]⟩,.string s,.string ⟨#[68,69,83,67]⟩] 9)
    rw[←hw2,←hg] at h
    refine⟨X1.out.2.trans (by rw[hw2];exact(bnew w1 _).mono X1.out.2.size),_,3,rfl,Nat.le_refl _,by decide,SR.made h fun j x hx=>?_⟩
    match j,hx with
    | 0,hx=>cases hx;rfl
    | 1,hx=>cases hx;rw[HS.out];rfl
    | 2,hx=>cases hx;rfl
   go_wp2
   rw[←hw2,←hg]
   clear hw2 hg
   go_ret
   exact⟨_,3,by rw[HQ.out];rfl,by rw[HQ.out];exact X2.out⟩
 ·go_wp2
  go_ret
  exact⟨none,0,by rw[HQ.out];rfl,by rw[HQ.out];exact⟨X1.out.2,none,0,rfl,Nat.le_refl _,by decide,SR.nil _ _⟩⟩
end Ps
end Go.Proofs.YtfhkaffakniioaaGreatDoor
namespace Go.Proofs.YtfhkaffakniioaaGreatDoor
open Go.RowKit
namespace Ps
theorem nm_table {x:St} (h:rightX x=true):x.table.length≤64:=by
 rw[rightX,Bool.and_eq_true,Bool.and_eq_true] at h
 exact nm_len h.1.1
theorem its_ok {l:List It} (h:zaK l=true) (hf:∀i∈l,fitE i.expr):ItOK l:=by
 rw[zaK,Bool.and_eq_true,Bool.and_eq_true,decide_eq_true_iff,List.all_eq_true] at h
 refine⟨h.1.1,h.1.2,fun i hi=>(hf i hi).2,fun i hi=>nm_len (zdB _ _ h.2 i.name (List.mem_map_of_mem hi))⟩
theorem zcO {x:St} (h:rightX x=true) (h6:x.kind=6):zaK x.items=true∧rightC x.expr=true:=by
 rw[rightX,Bool.and_eq_true] at h
 have h2:=h.2
 rw[if_neg (by omega),if_neg (by omega),if_neg (by omega),if_neg (by omega),if_neg (by omega),if_pos h6,Bool.and_eq_true,Bool.and_eq_true] at h2
 exact⟨h2.1.2,h2.2⟩
theorem zbR {l:List Sp} (h:rightC l=true) (h0:l≠[]):rightE l=true:=by
 rw[rightC,decide_eq_false h0] at h
 exact h
theorem what_len {l:List It} (h:ItOK l):(whatTx l).length≤39000000:=by
 rw[whatTx]
 split
 ·exact(by decide:1≤39000000)
 ·have h1:=zbK [44,32] (zaF false l)
  have h2:=zbL (zaF false l) 600000 (zdP h false)
  have e:(zaF false l).length=l.length:=by rw[zaF,List.length_map]
  have e2:[(44:UInt8),32].length=2:=rfl
  have h3:l.length*600000≤64*600000:=Nat.mul_le_mul_right _ h.few
  have h4:=h.few
  rw[e] at h1 h2
  rw[e2] at h1
  omega
theorem append_nil_s (W:World) (ty:TypeId) (b:Option Addr) (n c:Nat) (h:n≤c):(Builtin.append_ #[50,50] ty #[.slice b n c,.slice none 0 0]).run Tryz.prog W=.ok (.slice b n c) W:=by
 obtain⟨i0,hi,_,_,_⟩:=zaJ zbE
 exact run_append_nothing W 50 50 ty 9 i0 Tryz.underlying50 hi b n c h _ (Src.ofNil W Tryz.underlying50 0)
theorem zcX (W:World) (B:Nat) (hB:B≤W.heap.size) (a b c d:Value):(W.alloc (.cells #[a,b,c,d] 9)).ownsRow B 9 1 (.slice (some ⟨W.heap.size,0,none⟩) 4 4) 4 [a,b,c,d] :=
 ⟨rfl,.inr ⟨_,4,#[a,b,c,d],rfl,hB,heap_alloc_new W _,Nat.le_refl _,by decide,rfl,rfl⟩⟩
theorem cell_new {W:World} {p:Addr} {v:Value} (o:Obj) (h:W.cell? p=some v):(W.alloc o).cell? p=some v:=by
 exact(World.cell?_alloc_some W p o (by rw[h];rfl)).trans h
theorem two_cells {W:World} {g o:Nat} {x y:Value} (h0:W.cell? ⟨g,o,none⟩=some x) (h1:W.cell? ⟨g,o+1,none⟩=some y):∀j u,[x,y][j]?=some u→W.cell? ((⟨g,o,none⟩:Addr).add j)=some u:=fun j u hu =>
 match j,hu with
 | 0,hu=>by cases hu;exact h0
 | 1,hu=>by cases hu;exact h1
theorem order_nil_c (x:St) (hx:x.field=[]) (ia ea:Option Addr) (ic ec:Nat) (w:World):Calls Tryz.prog 50 #[.agg #[.int .u8 (x.kind:Int),.string (Lx.bs x.table),.string (Lx.bs x.field),.slice ia x.items.length ic,.slice ea x.expr.length ec,.bool x.history,.bool x.desc]] w fun e w'=>e=.returned (.slice none 0 0)∧Below w.heap.size w w':=by
 obtain⟨w1,hw1⟩:∃w1,w1=w.alloc (.cells #[.int .u8 (x.kind:Int),.string (Lx.bs x.table),.string (Lx.bs x.field),.slice ia x.items.length ic,.slice ea x.expr.length ec,.bool x.history,.bool x.desc] 26):=⟨_,rfl⟩
 obtain⟨T,hT⟩:∃T,T=w.heap.size:=⟨_,rfl⟩
 have X1:Hid (w1.heap[T]?=some (.cells #[.int .u8 (x.kind:Int),.string (Lx.bs x.table),.string (Lx.bs x.field),.slice ia x.items.length ic,.slice ea x.expr.length ec,.bool x.history,.bool x.desc] 26 (0,0))∧Below w.heap.size w w1):=⟨by rw[hw1,hT];exact heap_alloc_new w _,by rw[hw1];exact bnew _ _⟩
 have YC:Hid (∀r v,(#[.int .u8 (x.kind:Int),.string (Lx.bs x.table),.string (Lx.bs x.field),.slice ia x.items.length ic,.slice ea x.expr.length ec,.bool x.history,.bool x.desc]:Array Value)[r]?=some v→w1.cell? ⟨T,r,none⟩=some v):=fun r v hv=>by rw[cell_of_row _ _ _ _ _ _ X1.out.1];exact hv
 have y2:=YC.out 2 _ rfl
 obtain⟨s,hs⟩:∃s,s=Lx.bs x.field:=⟨_,rfl⟩
 have fq:(s.toList==[])=true:=by rw[hs,Lx.bs_toList,hx];rfl
 show Calls Tryz.prog 50 _ w _
 rw[←hs] at y2
 clear hs hx
 go_enter Tryz.func50,Tryz.ntmps50
 go_upto_region 1 with fail
 rw[←hw1,←hT]
 clear hw1 hT
 go_wp2
 go_ret
 exact⟨rfl,X1.out.2⟩
theorem words6_c (x:St) (ia ea:Option Addr) (ic ec:Nat) (w:World) (hx:FitX x) (hr:rightX x=true) (h6:x.kind=6) (he:x.expr≠[]) (hfd:x.field=[]) (hm:StM w ia ea x) (hL:HasL w) (hO:HasO w):Calls Tryz.prog 24 #[.agg #[.int .u8 (x.kind:Int),.string (Lx.bs x.table),.string (Lx.bs x.field),.slice ia x.items.length ic,.slice ea x.expr.length ec,.bool x.history,.bool x.desc]] w fun e w'=>∃a c,e=.returned (.slice a 6 c)∧Hid (Below w.heap.size w w'∧SR w' a (zaB x)∧6≤c∧c≤9223372036854775807):=by
 obtain⟨w1,hw1⟩:∃w1,w1=w.alloc (.cells #[.int .u8 (x.kind:Int),.string (Lx.bs x.table),.string (Lx.bs x.field),.slice ia x.items.length ic,.slice ea x.expr.length ec,.bool x.history,.bool x.desc] 26):=⟨_,rfl⟩
 obtain⟨T,hT⟩:∃T,T=w.heap.size:=⟨_,rfl⟩
 have X1:Hid (w1.heap[T]?=some (.cells #[.int .u8 (x.kind:Int),.string (Lx.bs x.table),.string (Lx.bs x.field),.slice ia x.items.length ic,.slice ea x.expr.length ec,.bool x.history,.bool x.desc] 26 (0,0))∧Below w.heap.size w w1):=⟨by rw[hw1,hT];exact heap_alloc_new w _,by rw[hw1];exact bnew _ _⟩
 have tl:=row_lt X1.out.1
 obtain⟨sr1,sr2⟩:=zcO hr h6
 have hok:=its_ok sr1 hx.items.2
 obtain⟨wt,hwt⟩:∃wt,wt=whatTx x.items:=⟨_,rfl⟩
 obtain⟨ft,hft⟩:∃ft,ft=fromTx x:=⟨_,rfl⟩
 obtain⟨st,hst⟩:∃st,st=shownE x.expr:=⟨_,rfl⟩
 have CW:Hid (∀W,Below w1.heap.size w1 W→Calls Tryz.prog 48 #[.slice ia x.items.length ic] W fun e w'=>e=.returned (.string (Lx.bs wt))∧Below W.heap.size W w'):=fun W hW=>by
  have hB:=X1.out.2.trans (hW.mono X1.out.2.size)
  rw[hwt]
  exact what_c x.items ia _ ic W rfl hok (hm.its.call hB) (hL.stays hB) (hO.stays hB)
 have CF:Hid (∀W,Calls Tryz.prog 49 #[.agg #[.int .u8 (x.kind:Int),.string (Lx.bs x.table),.string (Lx.bs x.field),.slice ia x.items.length ic,.slice ea x.expr.length ec,.bool x.history,.bool x.desc]] W fun e w'=>e=.returned (.string (Lx.bs ft))∧Below W.heap.size W w'):=fun W=>by
  rw[hft]
  exact from_c x ia ea ic ec W (by have:=nm_table hr;omega)
 have CC:Hid (∀W,Below w1.heap.size w1 W→Calls Tryz.prog 47 #[.slice ea x.expr.length ec] W fun e w'=>∃g o cc,e=.returned (.slice (some ⟨g,o,none⟩) 2 cc)∧Hid (Below W.heap.size W w'∧w'.cell? ⟨g,o,none⟩=some (.string ⟨#[87,72,69,82,69]⟩)∧w'.cell? ⟨g,o+1,none⟩=some (.string (Lx.bs st)))):=fun W hW=>by
  have hB:=X1.out.2.trans (hW.mono X1.out.2.size)
  have h:=zcN x.expr ea _ ec W (fun h0=>zbR sr2 h0) rfl (hm.exp.call hB) hx.expr.2 (hL.stays hB) (hO.stays hB)
  have e:condTx x.expr=[[87,72,69,82,69],st]:=by rw[condTx,if_neg he,hst]
  rw[e] at h
  refine h.mono ?_
  rintro e w' ⟨a,c,rfl,G⟩
  obtain⟨hb,a',c',hv,_,_,sr⟩:=G.out
  obtain⟨g,o,e0,q0⟩:=sr 0 _ rfl
  obtain⟨g1,o1,e1,q1⟩:=sr 1 _ rfl
  rw[e0] at e1
  cases e1
  cases hv
  rw[e0]
  exact⟨g,o,_,rfl,hb,q0,q1⟩
 have CO:Hid (∀W,Calls Tryz.prog 50 #[.agg #[.int .u8 (x.kind:Int),.string (Lx.bs x.table),.string (Lx.bs x.field),.slice ia x.items.length ic,.slice ea x.expr.length ec,.bool x.history,.bool x.desc]] W fun e w'=>e=.returned (.slice none 0 0)∧Below W.heap.size W w'):=fun W=>order_nil_c x hfd ia ea ic ec W
 have HW:Hid (zaB x=[[83,69,76,69,67,84],wt,[70,82,79,77],ft]++[[87,72,69,82,69],st]):=by
  show _=_
  rw[zaB,if_neg (by omega),if_neg (by omega),if_neg (by omega),if_neg (by omega),if_neg (by omega),zbD,if_pos hfd,condTx,if_neg he,hwt,hft,hst]
  rfl
 have FIN:Hid (∀(W4 W5:World) (gr gg cap:Nat),Below w1.heap.size w1 W4→w1.heap.size≤gr→W4.grownBy W5 (some gr)→W5.ownsRow w1.heap.size 9 1 (.slice (some ⟨gg,0,none⟩) (4+2) cap) (4+2) ([.string ⟨#[83,69,76,69,67,84]⟩,.string (Lx.bs wt),.string ⟨#[70,82,79,77]⟩,.string (Lx.bs ft)]++[.string ⟨#[87,72,69,82,69]⟩,.string (Lx.bs st)])→Below w1.heap.size w1 W5∧SR W5 (some ⟨gg,0,none⟩) (zaB x)∧6≤cap∧cap≤9223372036854775807):=fun W4 W5 gr gg cap hb hgr hg hn=>by
  have hT:OwnT W5 w1.heap.size (.slice (some ⟨gg,0,none⟩) 6 cap) (zaB x):=by rw[HW.out];exact hn
  obtain⟨_,c1,c2,c3⟩:=hT.sr
  exact⟨hb.grown hg hb.size (fun q hq=>by cases hq;exact hgr),c2,c1,Nat.le_trans c3 (by decide)⟩
 have k1:((x.kind:Int)==1)=false:=by rw[h6];rfl
 have k2:((x.kind:Int)==2)=false:=by rw[h6];rfl
 have k3:((x.kind:Int)==3)=false:=by rw[h6];rfl
 have k4:((x.kind:Int)==4)=false:=by rw[h6];rfl
 have k5:((x.kind:Int)==5)=false:=by rw[h6];rfl
 have YC:Hid (∀W,Below w1.heap.size w1 W→∀r v,(#[.int .u8 (x.kind:Int),.string (Lx.bs x.table),.string (Lx.bs x.field),.slice ia x.items.length ic,.slice ea x.expr.length ec,.bool x.history,.bool x.desc]:Array Value)[r]?=some v→W.cell? ⟨T,r,none⟩=some v):=fun W hW r v hv=>by rw[cell_of_row _ _ _ _ _ _ ((hW.block T (row_lt X1.out.1)).trans X1.out.1)];exact hv
 have YA:Hid (∀W,Below w1.heap.size w1 W→W.cell? ⟨T,0,none⟩=some (.int .u8 (x.kind:Int))∧W.cell? ⟨T,1,none⟩=some (.string (Lx.bs x.table))∧W.cell? ⟨T,2,none⟩=some (.string (Lx.bs x.field))∧W.cell? ⟨T,3,none⟩=some (.slice ia x.items.length ic)∧W.cell? ⟨T,4,none⟩=some (.slice ea x.expr.length ec)∧W.cell? ⟨T,5,none⟩=some (.bool x.history)∧W.cell? ⟨T,6,none⟩=some (.bool x.desc)):=fun W hW=>⟨YC.out W hW 0 _ rfl,YC.out W hW 1 _ rfl,YC.out W hW 2 _ rfl,YC.out W hW 3 _ rfl,YC.out W hW 4 _ rfl,YC.out W hW 5 _ rfl,YC.out W hW 6 _ rfl⟩
 have y0:=YC.out w1 (Below.refl _ _) 0 _ rfl
 clear hx hr h6 he hfd hm hL hO sr1 sr2 hok hwt hft hst
 go_enter Tryz.func24,Tryz.ntmps24
 go_upto_region 1 with fail
 rw[←hw1,←hT]
 clear hw1 hT
 go_upto_region 12 with fail
 clear k1 k2 k3 k4 k5
 have y1:=YC.out w1 (Below.refl _ _) 1 _ rfl
 have y2:=YC.out w1 (Below.refl _ _) 2 _ rfl
 have y3:=YC.out w1 (Below.refl _ _) 3 _ rfl
 have y4:=YC.out w1 (Below.refl _ _) 4 _ rfl
 have y5:=YC.out w1 (Below.refl _ _) 5 _ rfl
 have y6:=YC.out w1 (Below.refl _ _) 6 _ rfl
 obtain⟨i0,hi,hz0,hz1,hz2⟩:=zaJ zbE
 go_region_held3 (fun W'=>W'.cell? ⟨T,0,none⟩=some (.int .u8 (x.kind:Int))∧W'.cell? ⟨T,1,none⟩=some (.string (Lx.bs x.table))∧W'.cell? ⟨T,2,none⟩=some (.string (Lx.bs x.field))∧W'.cell? ⟨T,3,none⟩=some (.slice ia x.items.length ic)∧W'.cell? ⟨T,4,none⟩=some (.slice ea x.expr.length ec)∧W'.cell? ⟨T,5,none⟩=some (.bool x.history)∧W'.cell? ⟨T,6,none⟩=some (.bool x.desc)) (go_keep) (first
  |(go_at_call 48;refine(CW.out _ ?_).mono ?_;(first | exact Below.refl _ _ | exact(Below.refl _ _).drew);rintro e w2 ⟨rfl,hb2⟩
    have X2:Hid (Below w1.heap.size w1 w2):=((Below.refl w1.heap.size w1).drew.trans hb2)
    obtain⟨y0,y1,y2,y3,y4,y5,y6⟩:=YA.out w2 X2.out)
  |(go_at_call 49;refine(CF.out _).mono ?_;rintro e w3 ⟨rfl,hb3⟩
    have X3:Hid (Below w1.heap.size w1 w3):=(X2.out.trans (hb3.mono X2.out.size))
    obtain⟨y0,y1,y2,y3,y4,y5,y6⟩:=YA.out w3 X3.out)
  |(go_at_call 47;refine(CC.out _ ?_).mono ?_;(first | exact X3.out | exact X3.out.trans ((bnew w3 _).mono X3.out.size));rintro e w4 ⟨g,o,cc,rfl,G4⟩
    have X4:Hid (Below w1.heap.size w1 w4):=(by first | exact X3.out.trans (G4.out.1.mono X3.out.size) | exact(X3.out.trans ((bnew w3 _).mono X3.out.size)).trans (G4.out.1.mono (Nat.le_trans X3.out.size (bnew w3 _).size)))
    obtain⟨y0,y1,y2,y3,y4,y5,y6⟩:=YA.out w4 X4.out)
  |(refine step_append_lies _ (by rfl) _ _ _ (by rfl) w1.heap.size 9 i0 _ 1 16 Tryz.underlying50 hi hz0 hz1 hz2 rfl (by omega) _ _ _ (by rfl) (zaT (zcX w3 _ X3.out.size _ _ _ _) G4.out.1) ⟨g,o,none⟩ 2 cc [.string ⟨#[87,72,69,82,69]⟩,.string (Lx.bs st)] (by rfl) (by rfl) (two_cells G4.out.2.1 G4.out.2.2) (by simp[Value.oneCell']) (by omega) (by decide) (by decide) (X4.out.size) (w4.heap.size) (by simp) ?_;intro gg cap w5 hown5 hgrow5 hat5 hglt5
    have X5:Hid (Below w1.heap.size w1 w5∧SR w5 (some ⟨gg,0,none⟩) (zaB x)∧6≤cap∧cap≤9223372036854775807):=(FIN.out w4 w5 w3.heap.size gg cap (X4.out) (X3.out.size) hgrow5 hown5)
    obtain⟨y0,y1,y2,y3,y4,y5,y6⟩:=YA.out w5 X5.out.1
    clear hown5 hgrow5 hat5 hglt5)
  |(refine step_append_lies _ (by rfl) _ _ _ (by rfl) w1.heap.size 9 i0 _ 1 16 Tryz.underlying50 hi hz0 hz1 hz2 rfl (by omega) _ _ _ (by rfl) (zcX w4 _ X4.out.size _ _ _ _) ⟨g,o,none⟩ 2 cc [.string ⟨#[87,72,69,82,69]⟩,.string (Lx.bs st)] (by rfl) (by rfl) (two_cells (cell_new _ G4.out.2.1) (cell_new _ G4.out.2.2)) (by simp[Value.oneCell']) (by omega) (by decide) (by decide) (Nat.le_trans X4.out.size (bnew w4 _).size) ((w4.heap.size+1)) (by simp) ?_;intro gg cap w5 hown5 hgrow5 hat5 hglt5
    have X5:Hid (Below w1.heap.size w1 w5∧SR w5 (some ⟨gg,0,none⟩) (zaB x)∧6≤cap∧cap≤9223372036854775807):=(FIN.out (w4.alloc (.cells #[.string ⟨#[83,69,76,69,67,84]⟩,.string (Lx.bs wt),.string ⟨#[70,82,79,77]⟩,.string (Lx.bs ft)] 9)) w5 w4.heap.size gg cap (X4.out.trans ((bnew w4 _).mono X4.out.size)) (X4.out.size) hgrow5 hown5)
    obtain⟨y0,y1,y2,y3,y4,y5,y6⟩:=YA.out w5 X5.out.1
    clear hown5 hgrow5 hat5 hglt5)
  )
 all_goals
  go_wp2_with fail
  refine(CO.out _).mono ?_
  rintro e w6 ⟨rfl,hb6⟩
  have X6:Hid (Below w.heap.size w w6∧SR w6 (some ⟨gg,0,none⟩) (zaB x)):=⟨X1.out.2.trans ((X5.out.1.trans (hb6.mono X5.out.1.size)).mono X1.out.2.size),X5.out.2.1.call hb6⟩
  go_wp2_with (at_builtin;refine Lib.wpList_append_run _ rfl _ _ _ _ rfl _ _ rfl rfl _ _ (append_nil_s _ _ _ _ _ X5.out.2.2.1) ?_)
  go_ret
  exact⟨_,_,rfl,X6.out.1,X6.out.2,X5.out.2.2⟩
end Ps
end Go.Proofs.YtfhkaffakniioaaGreatDoor
namespace Go.Proofs.YtfhkaffakniioaaGreatDoor
open Go.RowKit
namespace Ps
theorem words6_few {x:St} (hx:FitX x) (hr:rightX x=true) (h6:x.kind=6) (he:x.expr≠[]) (hfd:x.field=[]):(zaB x).length=6∧∀t∈zaB x,t.length≤39000000:=by
 obtain⟨sr1,sr2⟩:=zcO hr h6
 have hok:=its_ok sr1 hx.items.2
 have h1:=what_len hok
 have h2:=nm_table hr
 have h3:=zbC (zbR sr2 he) hx.expr.2
 have e:zaB x=[[83,69,76,69,67,84],whatTx x.items,[70,82,79,77],fromTx x,[87,72,69,82,69],shownE x.expr]:=by
  rw[zaB,if_neg (by omega),if_neg (by omega),if_neg (by omega),if_neg (by omega),if_neg (by omega),zbD,if_pos hfd,condTx,if_neg he]
  rfl
 have h4:(fromTx x).length≤39000000:=by
  rw[fromTx]
  split
  ·rw[List.length_append,List.length_append]
   show 8+x.table.length+1≤_
   omega
  ·omega
 rw[e]
 refine⟨rfl,fun t ht=>?_⟩
 rcases List.mem_cons.1 ht with rfl | ht
 ·exact(by decide:6≤39000000)
 rcases List.mem_cons.1 ht with rfl | ht
 ·exact h1
 rcases List.mem_cons.1 ht with rfl | ht
 ·exact(by decide:4≤39000000)
 rcases List.mem_cons.1 ht with rfl | ht
 ·exact h4
 rcases List.mem_cons.1 ht with rfl | ht
 ·exact(by decide:5≤39000000)
 rcases List.mem_cons.1 ht with rfl | ht
 ·omega
 ·cases ht
theorem print6_c (x:St) (ia ea:Option Addr) (ic ec:Nat) (w:World) (hx:FitX x) (hr:rightX x=true) (h6:x.kind=6) (he:x.expr≠[]) (hfd:x.field=[]) (hm:StM w ia ea x) (hL:HasL w) (hO:HasO w):Calls Tryz.prog 7 #[.agg #[.int .u8 (x.kind:Int),.string (Lx.bs x.table),.string (Lx.bs x.field),.slice ia x.items.length ic,.slice ea x.expr.length ec,.bool x.history,.bool x.desc]] w fun e w'=>e=.returned (.tuple #[.string (Lx.bs (printX x)),.int .i64 0])∧Below w.heap.size w w':=by
 obtain⟨w1,hw1⟩:∃w1,w1=w.alloc (.cells #[.int .u8 (x.kind:Int),.string (Lx.bs x.table),.string (Lx.bs x.field),.slice ia x.items.length ic,.slice ea x.expr.length ec,.bool x.history,.bool x.desc] 26):=⟨_,rfl⟩
 obtain⟨T,hT⟩:∃T,T=w.heap.size:=⟨_,rfl⟩
 have X1:Hid (w1.heap[T]?=some (.cells #[.int .u8 (x.kind:Int),.string (Lx.bs x.table),.string (Lx.bs x.field),.slice ia x.items.length ic,.slice ea x.expr.length ec,.bool x.history,.bool x.desc] 26 (0,0))∧Below w.heap.size w w1):=⟨by rw[hw1,hT];exact heap_alloc_new w _,by rw[hw1];exact bnew _ _⟩
 have CK:Hid (Calls Tryz.prog 14 #[.agg #[.int .u8 (x.kind:Int),.string (Lx.bs x.table),.string (Lx.bs x.field),.slice ia x.items.length ic,.slice ea x.expr.length ec,.bool x.history,.bool x.desc]] w1 fun e w'=>e=.returned (.int .i64 0)∧Below w1.heap.size w1 w'):=by
  have h:=zdS x ia ea ic ec w1 hx (hm.call X1.out.2) (hL.stays X1.out.2)
  rw[if_pos hr] at h
  exact h
 have CW:Hid (∀W,Below w1.heap.size w1 W→Calls Tryz.prog 24 #[.agg #[.int .u8 (x.kind:Int),.string (Lx.bs x.table),.string (Lx.bs x.field),.slice ia x.items.length ic,.slice ea x.expr.length ec,.bool x.history,.bool x.desc]] W fun e w'=>∃a c,e=.returned (.slice a 6 c)∧Hid (Below W.heap.size W w'∧SR w' a (zaB x)∧6≤c∧c≤9223372036854775807)):=fun W hW=>by
  have hB:=X1.out.2.trans (hW.mono X1.out.2.size)
  exact words6_c x ia ea ic ec W hx hr h6 he hfd (hm.call hB) (hL.stays hB) (hO.stays hB)
 have HF:=hidp (words6_few hx hr h6 he hfd)
 obtain⟨t,ht⟩:∃t,t=printX x:=⟨_,rfl⟩
 have CJ:Hid (∀W a c,SR W a (zaB x)→6≤c→c≤9223372036854775807→Calls Tryz.prog 23 #[.slice a 6 c,.string ⟨#[32]⟩] W fun e w'=>e=.returned (.string (Lx.bs t))∧Below W.heap.size W w'):=fun W a c hs h1 h2=>by
  have h:=join_g 39000000 [32] (zaB x) a 6 c W HF.out.1.symm (by decide) h1 h2 hs (by decide) HF.out.2 (by decide)
  rw[ht,printX,if_pos hr]
  exact h
 have YC:Hid (∀W,Below w1.heap.size w1 W→∀r v,(#[.int .u8 (x.kind:Int),.string (Lx.bs x.table),.string (Lx.bs x.field),.slice ia x.items.length ic,.slice ea x.expr.length ec,.bool x.history,.bool x.desc]:Array Value)[r]?=some v→W.cell? ⟨T,r,none⟩=some v):=fun W hW r v hv=>by rw[cell_of_row _ _ _ _ _ _ ((hW.block T (row_lt X1.out.1)).trans X1.out.1)];exact hv
 have YA:Hid (∀W,Below w1.heap.size w1 W→W.cell? ⟨T,0,none⟩=some (.int .u8 (x.kind:Int))∧W.cell? ⟨T,1,none⟩=some (.string (Lx.bs x.table))∧W.cell? ⟨T,2,none⟩=some (.string (Lx.bs x.field))∧W.cell? ⟨T,3,none⟩=some (.slice ia x.items.length ic)∧W.cell? ⟨T,4,none⟩=some (.slice ea x.expr.length ec)∧W.cell? ⟨T,5,none⟩=some (.bool x.history)∧W.cell? ⟨T,6,none⟩=some (.bool x.desc)):=fun W hW=>⟨YC.out W hW 0 _ rfl,YC.out W hW 1 _ rfl,YC.out W hW 2 _ rfl,YC.out W hW 3 _ rfl,YC.out W hW 4 _ rfl,YC.out W hW 5 _ rfl,YC.out W hW 6 _ rfl⟩
 obtain⟨y0,y1,y2,y3,y4,y5,y6⟩:=YA.out w1 (Below.refl _ _)
 rw[←ht]
 clear ht hx hr h6 he hfd hm hL hO HF
 go_enter Tryz.func7,Tryz.ntmps7
 go_upto_region 1 with fail
 rw[←hw1,←hT]
 clear hw1 hT
 go_wp2_with fail
 refine(CK.out).mono ?_
 rintro e w2 ⟨rfl,hb2⟩
 have X2:=hidp hb2
 obtain⟨y0,y1,y2,y3,y4,y5,y6⟩:=YA.out w2 X2.out
 clear hb2 CK
 go_wp2_with fail
 refine(CW.out _ X2.out).mono ?_
 rintro e w3 ⟨a,c,rfl,G3⟩
 clear CW y0 y1 y2 y3 y4 y5 y6
 go_wp2_with fail
 refine(CJ.out _ _ _ G3.out.2.1 G3.out.2.2.1 G3.out.2.2.2).mono ?_
 rintro e w4 ⟨rfl,hb4⟩
 have X4:Hid (Below w.heap.size w w4):=X1.out.2.trans ((X2.out.trans ((G3.out.1.trans (hb4.mono G3.out.1.size)).mono X2.out.size)).mono X1.out.2.size)
 clear hb4 CJ
 go_wp2
 go_ret2
 exact⟨rfl,X4.out⟩
def in1:Bs:=[115,101,108,101,99,116,32,97,32,43,32,49,32,97,115,32,120,32,102,114,111,109,32,116,32,119,104,101,114,101,32,110,111,116,32,98,32,61,32,50,32,97,110,100,32,99,32,105,115,32,110,117,108,108]
def in2:Bs:=[67,82,69,65,84,69,32,84,65,66,76,69,32,55]
def out1:Bs:=[83,69,76,69,67,84,32,40,97,32,43,32,49,41,32,65,83,32,120,32,70,82,79,77,32,116,32,87,72,69,82,69,32,40,40,78,79,84,32,40,98,32,61,32,50,41,41,32,65,78,68,32,40,99,32,73,83,32,78,85,76,76,41,41]
theorem in2_f:(parseX in2).2=(13,13):=by decide +kernel
theorem in1_f:(parseX in1).2=(0,0)∧(parseX in1).1.kind=6∧(parseX in1).1.field=[]∧(parseX in1).1.expr.length=7∧((parseX in1).1.expr[3]?).map (·.kind)=some 10∧rightX (parseX in1).1=true∧printX (parseX in1).1=out1:=by decide +kernel
theorem lives_c (w:World) (hO:HasO w) (hL:HasL w):Calls Tryz.prog 13 #[] w fun e w'=>e=.returned (.bool true)∧Below w.heap.size w w':=by
 obtain⟨x,hx⟩:∃x,x=(parseX in1).1:=⟨_,rfl⟩
 obtain⟨z,hz⟩:∃z,z=(parseX in2).1:=⟨_,rfl⟩
 have F1:=hidp in1_f
 rw[←hx] at F1
 obtain⟨f0,f1,f2,f3,f4,f5,f6⟩:=F1.out
 have CP1:Hid (Calls Tryz.prog 20 #[.string ⟨#[115,101,108,101,99,116,32,97,32,43,32,49,32,97,115,32,120,32,102,114,111,109,32,116,32,119,104,101,114,101,32,110,111,116,32,98,32,61,32,50,32,97,110,100,32,99,32,105,115,32,110,117,108,108]⟩] w fun e w'=>∃ia ic ea ec,e=.returned (.tuple #[.agg #[.int .u8 6,.string (Lx.bs x.table),.string (Lx.bs x.field),.slice ia x.items.length ic,.slice ea 7 ec,.bool x.history,.bool x.desc],.int .i64 0,.int .i64 0])∧Hid (Below w.heap.size w w'∧StM w' ia ea x∧FitX x)):=by
  refine(parse_c in1 (by decide) w hO hL).mono ?_
  rintro e w' ⟨ia,ic,ea,ec,rfl,G⟩
  rw[←hx] at G ⊢
  refine⟨ia,ic,ea,ec,?_,G.out.1,G.out.2.1,G.out.2.2.1⟩
  rw[stv,f1,f3,f0]
  rfl
 have CP2:Hid (∀W,Below w.heap.size w W→Calls Tryz.prog 20 #[.string ⟨#[67,82,69,65,84,69,32,84,65,66,76,69,32,55]⟩] W fun e w'=>∃ja jc fa fc,e=.returned (.tuple #[.agg #[.int .u8 (z.kind:Int),.string (Lx.bs z.table),.string (Lx.bs z.field),.slice ja z.items.length jc,.slice fa z.expr.length fc,.bool z.history,.bool z.desc],.int .i64 13,.int .i64 13])∧Below W.heap.size W w'):=fun W hW=>by
  refine(parse_c in2 (by decide) W (hO.stays hW) (hL.stays hW)).mono ?_
  rintro e w' ⟨ia,ic,ea,ec,rfl,G⟩
  refine⟨ia,ic,ea,ec,?_,G.out.1⟩
  rw[←hz,stv,in2_f]
  rfl
 have CQ:Hid (∀W ia ic ea ec,Below w.heap.size w W→FitX x→StM W ia ea x→Calls Tryz.prog 7 #[.agg #[.int .u8 6,.string (Lx.bs x.table),.string (Lx.bs x.field),.slice ia x.items.length ic,.slice ea 7 ec,.bool x.history,.bool x.desc]] W fun e w'=>e=.returned (.tuple #[.string ⟨#[83,69,76,69,67,84,32,40,97,32,43,32,49,41,32,65,83,32,120,32,70,82,79,77,32,116,32,87,72,69,82,69,32,40,40,78,79,84,32,40,98,32,61,32,50,41,41,32,65,78,68,32,40,99,32,73,83,32,78,85,76,76,41,41]⟩,.int .i64 0])∧Below W.heap.size W w'):=fun W ia ic ea ec hW hf hm=>by
  have h:=print6_c x ia ea ic ec W hf f5 f1 (fun e=>by rw[e] at f3;cases f3) f2 hm (hL.stays hW) (hO.stays hW)
  rw[f1,f3,f6] at h
  exact h
 clear f0 f1 f2 f3 f4 f5 f6
 clear hx hz hO hL
 go_enter Tryz.func13,Tryz.ntmps13
 go_wp2_with fail
 refine(CP1.out).mono ?_
 rintro e w1 ⟨ia,ic,ea,ec,rfl,G1⟩
 obtain⟨w2,hw2⟩:∃w2,w2=w1.alloc (.cells #[.int .u8 6,.string (Lx.bs x.table),.string (Lx.bs x.field),.slice ia x.items.length ic,.slice ea 7 ec,.bool x.history,.bool x.desc] 26):=⟨_,rfl⟩
 obtain⟨T,hT⟩:∃T,T=w1.heap.size:=⟨_,rfl⟩
 have X2:Hid (w2.heap[T]?=some (.cells #[.int .u8 6,.string (Lx.bs x.table),.string (Lx.bs x.field),.slice ia x.items.length ic,.slice ea 7 ec,.bool x.history,.bool x.desc] 26 (0,0))∧Below w.heap.size w w2∧StM w2 ia ea x∧FitX x):=by
  have hb:Below w1.heap.size w1 w2:=by rw[hw2];exact bnew _ _
  exact⟨by rw[hw2,hT];exact heap_alloc_new w1 _,G1.out.1.trans (hb.mono G1.out.1.size),G1.out.2.1.call hb,G1.out.2.2⟩
 have YC:Hid (∀W,Below w2.heap.size w2 W→∀r v,(#[.int .u8 6,.string (Lx.bs x.table),.string (Lx.bs x.field),.slice ia x.items.length ic,.slice ea 7 ec,.bool x.history,.bool x.desc]:Array Value)[r]?=some v→W.cell? ⟨T,r,none⟩=some v):=fun W hW r v hv=>by rw[cell_of_row _ _ _ _ _ _ ((hW.block T (row_lt X2.out.1)).trans X2.out.1)];exact hv
 have y0:=YC.out w2 (Below.refl _ _) 0 _ rfl
 have y1:=YC.out w2 (Below.refl _ _) 1 _ rfl
 have y2:=YC.out w2 (Below.refl _ _) 2 _ rfl
 have y3:=YC.out w2 (Below.refl _ _) 3 _ rfl
 have y4:=YC.out w2 (Below.refl _ _) 4 _ rfl
 have y5:=YC.out w2 (Below.refl _ _) 5 _ rfl
 have y6:=YC.out w2 (Below.refl _ _) 6 _ rfl
 clear CP1 G1
 go_upto_region 2 with fail
 rw[←hw2,←hT]
 clear hw2 hT
 go_wp2_with fail
 refine(CQ.out _ _ _ _ _ X2.out.2.1 X2.out.2.2.2 X2.out.2.2.1).mono ?_
 rintro e w3 ⟨rfl,hb3⟩
 have X3:Hid (Below w2.heap.size w2 w3∧Below w.heap.size w w3):=⟨hb3,X2.out.2.1.trans (hb3.mono X2.out.2.1.size)⟩
 clear hb3 CQ y0 y1 y2 y3 y4 y5 y6
 go_wp2_with fail
 refine(CP2.out _ X3.out.2).mono ?_
 rintro e w4 ⟨ja,jc,fa,fc,rfl,hb4⟩
 obtain⟨w5,hw5⟩:∃w5,w5=w4.alloc (.cells #[.int .u8 (z.kind:Int),.string (Lx.bs z.table),.string (Lx.bs z.field),.slice ja z.items.length jc,.slice fa z.expr.length fc,.bool z.history,.bool z.desc] 26):=⟨_,rfl⟩
 have X5:Hid (Below w2.heap.size w2 w5∧Below w.heap.size w w5):=by
  have hb:Below w4.heap.size w4 w5:=by rw[hw5];exact bnew _ _
  have hb2:=hb4.trans (hb.mono hb4.size)
  exact⟨X3.out.1.trans (hb2.mono X3.out.1.size),X3.out.2.trans (hb2.mono X3.out.2.size)⟩
 have HE:Hid (∃g o,ea=some ⟨g,o,none⟩∧w5.cell? ⟨g,o+9,none⟩=some (.int .u8 10)):=by
  obtain⟨p,hp,hk⟩:∃p,x.expr[3]?=some p∧p.kind=10:=by
   have h:=F1.out.2.2.2.2.1
   cases e:x.expr[3]? with
   | none=>rw[e] at h;cases h
   | some p=>rw[e] at h;exact⟨p,rfl,Option.some.inj h⟩
  obtain⟨g,o,e,c0,_⟩:=(X2.out.2.2.1.call X5.out.1).exp 3 p hp
  exact⟨g,o,e,by rw[hk] at c0;exact c0⟩
 obtain⟨g,o,rfl,c9⟩:=HE.out
 have y4:=YC.out w5 X5.out.1 4 _ rfl
 clear hb4 CP2 F1 X2 X3 HE
 go_upto_region 4 with fail
 rw[←hw5]
 clear hw5
 go_wp2
 go_ret
 exact⟨rfl,X5.out.2⟩
end Ps
end Go.Proofs.YtfhkaffakniioaaGreatDoor
namespace Go.Proofs.YtfhkaffakniioaaGreatDoor
open Go.RowKit
namespace Ps
theorem words1_c (x:St) (ia ea:Option Addr) (ic ec:Nat) (w:World) (h1:x.kind=1):Calls Tryz.prog 24 #[.agg #[.int .u8 (x.kind:Int),.string (Lx.bs x.table),.string (Lx.bs x.field),.slice ia x.items.length ic,.slice ea x.expr.length ec,.bool x.history,.bool x.desc]] w fun e w'=>∃a,e=.returned (.slice a 2 2)∧Hid (Below w.heap.size w w'∧SR w' a (zaB x)):=by
 obtain⟨w1,hw1⟩:∃w1,w1=w.alloc (.cells #[.int .u8 (x.kind:Int),.string (Lx.bs x.table),.string (Lx.bs x.field),.slice ia x.items.length ic,.slice ea x.expr.length ec,.bool x.history,.bool x.desc] 26):=⟨_,rfl⟩
 obtain⟨T,hT⟩:∃T,T=w.heap.size:=⟨_,rfl⟩
 have X1:Hid (w1.heap[T]?=some (.cells #[.int .u8 (x.kind:Int),.string (Lx.bs x.table),.string (Lx.bs x.field),.slice ia x.items.length ic,.slice ea x.expr.length ec,.bool x.history,.bool x.desc] 26 (0,0))∧Below w.heap.size w w1):=⟨by rw[hw1,hT];exact heap_alloc_new w _,by rw[hw1];exact bnew _ _⟩
 have YC:Hid (∀r v,(#[.int .u8 (x.kind:Int),.string (Lx.bs x.table),.string (Lx.bs x.field),.slice ia x.items.length ic,.slice ea x.expr.length ec,.bool x.history,.bool x.desc]:Array Value)[r]?=some v→w1.cell? ⟨T,r,none⟩=some v):=fun r v hv=>by rw[cell_of_row _ _ _ _ _ _ X1.out.1];exact hv
 have y0:=YC.out 0 _ rfl
 have y1:=YC.out 1 _ rfl
 have y2:=YC.out 2 _ rfl
 have k1:((x.kind:Int)==1)=true:=by rw[h1];rfl
 have HW:Hid (zaB x=[[67,82,69,65,84,69,32,84,65,66,76,69],x.table]):=by
  show _=_
  rw[zaB,if_pos h1]
 obtain⟨w2,hw2⟩:∃w2,w2=w1.alloc (.cells #[.string ⟨#[67,82,69,65,84,69,32,84,65,66,76,69]⟩,.string (Lx.bs x.table)] 9):=⟨_,rfl⟩
 obtain⟨g,hg⟩:∃g,g=w1.heap.size:=⟨_,rfl⟩
 have X2:Hid (Below w.heap.size w w2∧SR w2 (some ⟨g,0,none⟩) (zaB x)):=by
  have h:=heap_alloc_new w1 (.cells #[.string ⟨#[67,82,69,65,84,69,32,84,65,66,76,69]⟩,.string (Lx.bs x.table)] 9)
  rw[←hw2,←hg] at h
  refine⟨X1.out.2.trans (by rw[hw2];exact(bnew w1 _).mono X1.out.2.size),?_⟩
  rw[HW.out]
  refine SR.made h fun j t ht=>?_
  match j,ht with
  | 0,ht=>cases ht;rfl
  | 1,ht=>cases ht;rfl
 clear h1
 go_enter Tryz.func24,Tryz.ntmps24
 go_upto_region 1 with fail
 rw[←hw1,←hT]
 clear hw1 hT
 go_wp2
 rw[←hw2,←hg]
 clear hw2 hg
 go_ret
 exact⟨_,rfl,X2.out⟩
theorem words2_c (x:St) (ia ea:Option Addr) (ic ec:Nat) (w:World) (h2:x.kind=2) (hf:x.field.length≤4611686018427387904):Calls Tryz.prog 24 #[.agg #[.int .u8 (x.kind:Int),.string (Lx.bs x.table),.string (Lx.bs x.field),.slice ia x.items.length ic,.slice ea x.expr.length ec,.bool x.history,.bool x.desc]] w fun e w'=>∃a,e=.returned (.slice a 3 3)∧Hid (Below w.heap.size w w'∧SR w' a (zaB x)):=by
 obtain⟨w1,hw1⟩:∃w1,w1=w.alloc (.cells #[.int .u8 (x.kind:Int),.string (Lx.bs x.table),.string (Lx.bs x.field),.slice ia x.items.length ic,.slice ea x.expr.length ec,.bool x.history,.bool x.desc] 26):=⟨_,rfl⟩
 obtain⟨T,hT⟩:∃T,T=w.heap.size:=⟨_,rfl⟩
 have X1:Hid (w1.heap[T]?=some (.cells #[.int .u8 (x.kind:Int),.string (Lx.bs x.table),.string (Lx.bs x.field),.slice ia x.items.length ic,.slice ea x.expr.length ec,.bool x.history,.bool x.desc] 26 (0,0))∧Below w.heap.size w w1):=⟨by rw[hw1,hT];exact heap_alloc_new w _,by rw[hw1];exact bnew _ _⟩
 have YC:Hid (∀r v,(#[.int .u8 (x.kind:Int),.string (Lx.bs x.table),.string (Lx.bs x.field),.slice ia x.items.length ic,.slice ea x.expr.length ec,.bool x.history,.bool x.desc]:Array Value)[r]?=some v→w1.cell? ⟨T,r,none⟩=some v):=fun r v hv=>by rw[cell_of_row _ _ _ _ _ _ X1.out.1];exact hv
 have y0:=YC.out 0 _ rfl
 have y1:=YC.out 1 _ rfl
 have y2:=YC.out 2 _ rfl
 have k1:((x.kind:Int)==1)=false:=by rw[h2];rfl
 have k2:((x.kind:Int)==2)=true:=by rw[h2];rfl
 have a1:=add_s (a:=⟨#[40]⟩) (b:=Lx.bs x.field) (x:=[40]) (y:=x.field) rfl rfl (by show 1+x.field.length≤_;omega)
 have a2:=add_s (a:=Lx.bs ([40]++x.field)) (b:=⟨#[41]⟩) (x:=[40]++x.field) (y:=[41]) rfl rfl (by rw[List.length_append];show 1+x.field.length+1≤_;omega)
 obtain⟨z1,hz1⟩:∃z,z=Lx.bs ([40]++x.field):=⟨_,rfl⟩
 obtain⟨z2,hz2⟩:∃z,z=Lx.bs ([40]++x.field++[41]):=⟨_,rfl⟩
 rw[←hz1] at a1 a2
 rw[←hz2] at a2
 have HW:Hid (zaB x=[[67,82,69,65,84,69,32,73,78,68,69,88,32,79,78],x.table,[40]++x.field++[41]]):=by
  show _=_
  rw[zaB,if_neg (by omega),if_pos h2]
 obtain⟨w2,hw2⟩:∃w2,w2=w1.alloc (.cells #[.string ⟨#[67,82,69,65,84,69,32,73,78,68,69,88,32,79,78]⟩,.string (Lx.bs x.table),.string z2] 9):=⟨_,rfl⟩
 obtain⟨g,hg⟩:∃g,g=w1.heap.size:=⟨_,rfl⟩
 have X2:Hid (Below w.heap.size w w2∧SR w2 (some ⟨g,0,none⟩) (zaB x)):=by
  have h:=heap_alloc_new w1 (.cells #[.string ⟨#[67,82,69,65,84,69,32,73,78,68,69,88,32,79,78]⟩,.string (Lx.bs x.table),.string z2] 9)
  rw[←hw2,←hg] at h
  refine⟨X1.out.2.trans (by rw[hw2];exact(bnew w1 _).mono X1.out.2.size),?_⟩
  rw[HW.out]
  refine SR.made h fun j t ht=>?_
  match j,ht with
  | 0,ht=>cases ht;rfl
  | 1,ht=>cases ht;rfl
  | 2,ht=>cases ht;rw[hz2];rfl
 clear h2 hf hz1 hz2
 go_enter Tryz.func24,Tryz.ntmps24
 go_upto_region 1 with fail
 rw[←hw1,←hT]
 clear hw1 hT
 go_wp2
 rw[←hw2,←hg]
 clear hw2 hg
 go_ret
 exact⟨_,rfl,X2.out⟩
theorem SR.src {W:World} {a:Option Addr} {l:List Bs} (h:SR W a l):SrcC W a (l.map fun t=>Value.string (Lx.bs t)):=fun j u hu=>by
 rw[List.getElem?_map,Option.map_eq_some_iff] at hu
 obtain⟨t,ht,rfl⟩:=hu
 exact h j t ht
theorem own_made2 (W:World) (B:Nat) (hB:B≤W.heap.size) (a b:Value):(W.alloc (.cells #[a,b] 9)).ownsRow B 9 1 (.slice (some ⟨W.heap.size,0,none⟩) 2 2) 2 [a,b] :=
 ⟨rfl,.inr ⟨_,2,#[a,b],rfl,hB,heap_alloc_new W _,Nat.le_refl _,by decide,rfl,rfl⟩⟩
theorem SrcC.new {W:World} {a:Option Addr} {l:List Value} (h:SrcC W a l) (o:Obj):SrcC (W.alloc o) a l:=h.call (bnew W o)
theorem words5_c (x:St) (ia ea:Option Addr) (ic ec:Nat) (w:World) (h5:x.kind=5) (hr:rightC x.expr=true) (hx:FitX x) (hm:StM w ia ea x) (hL:HasL w) (hO:HasO w):Calls Tryz.prog 24 #[.agg #[.int .u8 (x.kind:Int),.string (Lx.bs x.table),.string (Lx.bs x.field),.slice ia x.items.length ic,.slice ea x.expr.length ec,.bool x.history,.bool x.desc]] w fun e w'=>∃a c,e=.returned (.slice a (zaB x).length c)∧Hid (Below w.heap.size w w'∧SR w' a (zaB x)∧(zaB x).length≤c∧c≤9223372036854775807):=by
 obtain⟨w1,hw1⟩:∃w1,w1=w.alloc (.cells #[.int .u8 (x.kind:Int),.string (Lx.bs x.table),.string (Lx.bs x.field),.slice ia x.items.length ic,.slice ea x.expr.length ec,.bool x.history,.bool x.desc] 26):=⟨_,rfl⟩
 obtain⟨T,hT⟩:∃T,T=w.heap.size:=⟨_,rfl⟩
 have X1:Hid (w1.heap[T]?=some (.cells #[.int .u8 (x.kind:Int),.string (Lx.bs x.table),.string (Lx.bs x.field),.slice ia x.items.length ic,.slice ea x.expr.length ec,.bool x.history,.bool x.desc] 26 (0,0))∧Below w.heap.size w w1):=⟨by rw[hw1,hT];exact heap_alloc_new w _,by rw[hw1];exact bnew _ _⟩
 obtain⟨m,hm0⟩:∃m,m=(condTx x.expr).length:=⟨_,rfl⟩
 obtain⟨L,hL0⟩:∃L,L=(condTx x.expr).map fun t=>Value.string (Lx.bs t):=⟨_,rfl⟩
 have hm2:m≤2:=by
  rw[hm0,condTx]
  split
  ·exact Nat.zero_le 2
  ·exact Nat.le_refl 2
 have HLm:Hid (L.length=m*1):=by show _=_;rw[hL0,List.length_map,hm0,Nat.mul_one]
 have ones:Hid (∀u∈L,u.oneCell'=true):=fun u hu=>by
  rw[hL0] at hu
  obtain⟨t,_,rfl⟩:=List.mem_map.1 hu
  rfl
 have fit:Hid (2+m≤maxLen∧(2+m)*16≤140737488355328):=⟨Nat.le_trans (show 2+m≤4 by omega) (by decide),by omega⟩
 have CC:Hid (∀W,Below w1.heap.size w1 W→Calls Tryz.prog 47 #[.slice ea x.expr.length ec] W fun e w'=>∃y cc,e=.returned (.slice y m cc)∧Hid (Below W.heap.size W w'∧SrcC w' y L)):=fun W hW=>by
  have hB:=X1.out.2.trans (hW.mono X1.out.2.size)
  refine(zcN x.expr ea _ ec W (fun h0=>zbR hr h0) rfl (hm.exp.call hB) hx.expr.2 (hL.stays hB) (hO.stays hB)).mono ?_
  rintro e w' ⟨a,c,rfl,G⟩
  obtain⟨hb,a',c',hv,_,_,sr⟩:=G.out
  cases hv
  exact⟨a,c,by rw[hm0],hb,by rw[hL0];exact sr.src⟩
 have HW:Hid (zaB x=[[68,69,76,69,84,69,32,70,82,79,77],x.table]++condTx x.expr):=by
  show _=_
  rw[zaB,if_neg (by omega),if_neg (by omega),if_neg (by omega),if_neg (by omega),if_pos h5]
 have HM:Hid ((zaB x).length=2+m):=by show _=_;rw[HW.out,List.length_append,←hm0];rfl
 have FIN:Hid (∀(W5:World) (b:Option Addr) (cap:Nat),Below w1.heap.size w1 W5→W5.ownsRow w1.heap.size 9 1 (.slice b (2+m) cap) (2+m) ([.string ⟨#[68,69,76,69,84,69,32,70,82,79,77]⟩,.string (Lx.bs x.table)]++L)→Below w1.heap.size w1 W5∧SR W5 b (zaB x)∧2+m≤cap∧cap≤9223372036854775807):=fun W5 b cap hb hn=>by
  have hT:OwnT W5 w1.heap.size (.slice b (2+m) cap) (zaB x):=by
   unfold OwnT
   rw[HM.out,HW.out,List.map_append,←hL0]
   exact hn
  obtain⟨_,c1,c2,c3⟩:=hT.sr
  exact⟨hb,c2,c1,Nat.le_trans c3 (by decide)⟩
 have k1:((x.kind:Int)==1)=false:=by rw[h5];rfl
 have k2:((x.kind:Int)==2)=false:=by rw[h5];rfl
 have k3:((x.kind:Int)==3)=false:=by rw[h5];rfl
 have k4:((x.kind:Int)==4)=false:=by rw[h5];rfl
 have k5:((x.kind:Int)==5)=true:=by rw[h5];rfl
 have YA:Hid (∀W,Below w1.heap.size w1 W→W.cell? ⟨T,0,none⟩=some (.int .u8 (x.kind:Int))∧W.cell? ⟨T,1,none⟩=some (.string (Lx.bs x.table))∧W.cell? ⟨T,4,none⟩=some (.slice ea x.expr.length ec)):=fun W hW=>by
  have r:=(hW.block T (row_lt X1.out.1)).trans X1.out.1
  exact⟨by rw[cell_of_row _ _ _ _ _ _ r];rfl,by rw[cell_of_row _ _ _ _ _ _ r];rfl,by rw[cell_of_row _ _ _ _ _ _ r];rfl⟩
 obtain⟨y0,y1,y4⟩:=YA.out w1 (Below.refl _ _)
 have HD:Hid (Below w1.heap.size w1 w1.drew):=(Below.refl _ _).drew
 obtain⟨i0,hi,hz0,hz1,hz2⟩:=zaJ zbE
 clear h5 hr hx hm hL hO hm0 hL0 hm2
 go_enter Tryz.func24,Tryz.ntmps24
 go_upto_region 1 with fail
 rw[←hw1,←hT]
 clear hw1 hT
 go_upto_region 11 with fail
 clear k1 k2 k3 k4 k5
 go_region_held3 (fun W'=>W'.cell? ⟨T,0,none⟩=some (.int .u8 (x.kind:Int))∧W'.cell? ⟨T,1,none⟩=some (.string (Lx.bs x.table))∧W'.cell? ⟨T,4,none⟩=some (.slice ea x.expr.length ec)) (go_keep) (first
  |(go_at_call 47;refine(CC.out _ HD.out).mono ?_;rintro e w4 ⟨y,cc,rfl,G4⟩
    have X4:Hid (Below w1.heap.size w1 w4):=(HD.out.trans (G4.out.1.mono HD.out.size))
    obtain⟨y0,y1,y4⟩:=YA.out w4 X4.out)
  |(go_at_call 47;refine(CC.out _ (HD.out.alloc HD.out.size _)).mono ?_;rintro e w4 ⟨y,cc,rfl,G4⟩
    have X4:Hid (Below w1.heap.size w1 w4):=((HD.out.alloc HD.out.size _).trans (G4.out.1.mono (HD.out.alloc HD.out.size _).size))
    obtain⟨y0,y1,y4⟩:=YA.out w4 X4.out)
  |(refine zaW (by rfl) _ _ _ (by rfl) w1.heap.size 9 i0 _ 1 16 Tryz.underlying50 hi hz0 hz1 hz2 rfl (by omega) _ _ _ (by rfl) (zaT (own_made2 w1.drew w1.heap.size (Nat.le_refl _) _ _) G4.out.1) y m cc L (by rfl) HLm.out (G4.out.2) ones.out fit.out.1 fit.out.2 (X4.out).size ?_;intro b cap w5 hown5 hb5 hk5
    have X5:Hid (Below w1.heap.size w1 w5∧SR w5 b (zaB x)∧2+m≤cap∧cap≤9223372036854775807):=(FIN.out w5 b cap ((X4.out).trans hb5) hown5)
    obtain⟨y0,y1,y4⟩:=YA.out w5 X5.out.1
    clear hown5 hb5 hk5)
  |(refine zaW (by rfl) _ _ _ (by rfl) w1.heap.size 9 i0 _ 1 16 Tryz.underlying50 hi hz0 hz1 hz2 rfl (by omega) _ _ _ (by rfl) (own_made2 w4 w1.heap.size X4.out.size _ _) y m cc L (by rfl) HLm.out (G4.out.2.new _) ones.out fit.out.1 fit.out.2 (X4.out.alloc X4.out.size _).size ?_;intro b cap w5 hown5 hb5 hk5
    have X5:Hid (Below w1.heap.size w1 w5∧SR w5 b (zaB x)∧2+m≤cap∧cap≤9223372036854775807):=(FIN.out w5 b cap ((X4.out.alloc X4.out.size _).trans hb5) hown5)
    obtain⟨y0,y1,y4⟩:=YA.out w5 X5.out.1
    clear hown5 hb5 hk5)
  )
 all_goals
  have X6:Hid (Below w.heap.size w w5):=X1.out.2.trans (X5.out.1.mono X1.out.2.size)
  clear y0 y1 y4
  go_wp2
  go_ret
  exact⟨b,cap,by rw[HM.out];rfl,X6.out,X5.out.2.1,by rw[HM.out];exact X5.out.2.2.1,X5.out.2.2.2⟩
theorem words3_c (x:St) (ia ea:Option Addr) (ic ec:Nat) (w:World) (h3:x.kind=3) (hr:rightE x.expr=true) (hx:FitX x) (hm:StM w ia ea x) (hL:HasL w) (hO:HasO w):Calls Tryz.prog 24 #[.agg #[.int .u8 (x.kind:Int),.string (Lx.bs x.table),.string (Lx.bs x.field),.slice ia x.items.length ic,.slice ea x.expr.length ec,.bool x.history,.bool x.desc]] w fun e w'=>∃a,e=.returned (.slice a 3 3)∧Hid (Below w.heap.size w w'∧SR w' a (zaB x)):=by
 obtain⟨w1,hw1⟩:∃w1,w1=w.alloc (.cells #[.int .u8 (x.kind:Int),.string (Lx.bs x.table),.string (Lx.bs x.field),.slice ia x.items.length ic,.slice ea x.expr.length ec,.bool x.history,.bool x.desc] 26):=⟨_,rfl⟩
 obtain⟨T,hT⟩:∃T,T=w.heap.size:=⟨_,rfl⟩
 have X1:Hid (w1.heap[T]?=some (.cells #[.int .u8 (x.kind:Int),.string (Lx.bs x.table),.string (Lx.bs x.field),.slice ia x.items.length ic,.slice ea x.expr.length ec,.bool x.history,.bool x.desc] 26 (0,0))∧Below w.heap.size w w1):=⟨by rw[hw1,hT];exact heap_alloc_new w _,by rw[hw1];exact bnew _ _⟩
 have HD:Hid (Below w1.heap.size w1 w1.drew):=(Below.refl _ _).drew
 obtain⟨st,hst⟩:∃st,st=shownE x.expr:=⟨_,rfl⟩
 have CS:Hid (∀W,Below w1.heap.size w1 W→Calls Tryz.prog 27 #[.slice ea x.expr.length ec] W fun e w'=>e=.returned (.string (Lx.bs st))∧Below W.heap.size W w'):=fun W hW=>by
  have hB:=X1.out.2.trans (hW.mono X1.out.2.size)
  rw[hst]
  exact shown_c x.expr ea _ ec W hr rfl (hm.exp.call hB) hx.expr.2 (hL.stays hB) (hO.stays hB)
 have HW:Hid (zaB x=[[73,78,83,69,82,84,32,73,78,84,79],x.table,st]):=by
  show _=_
  rw[zaB,if_neg (by omega),if_neg (by omega),if_pos h3,hst]
 have k1:((x.kind:Int)==1)=false:=by rw[h3];rfl
 have k2:((x.kind:Int)==2)=false:=by rw[h3];rfl
 have k3:((x.kind:Int)==3)=true:=by rw[h3];rfl
 have YA:Hid (∀W,Below w1.heap.size w1 W→W.cell? ⟨T,0,none⟩=some (.int .u8 (x.kind:Int))∧W.cell? ⟨T,1,none⟩=some (.string (Lx.bs x.table))∧W.cell? ⟨T,4,none⟩=some (.slice ea x.expr.length ec)):=fun W hW=>by
  have r:=(hW.block T (row_lt X1.out.1)).trans X1.out.1
  exact⟨by rw[cell_of_row _ _ _ _ _ _ r];rfl,by rw[cell_of_row _ _ _ _ _ _ r];rfl,by rw[cell_of_row _ _ _ _ _ _ r];rfl⟩
 obtain⟨y0,y1,y4⟩:=YA.out w1 (Below.refl _ _)
 clear h3 hr hx hm hL hO hst
 go_enter Tryz.func24,Tryz.ntmps24
 go_upto_region 1 with fail
 rw[←hw1,←hT]
 clear hw1 hT
 go_upto_region 7 with fail
 clear k1 k2 k3
 go_region_held3 (fun W'=>W'.cell? ⟨T,0,none⟩=some (.int .u8 (x.kind:Int))∧W'.cell? ⟨T,1,none⟩=some (.string (Lx.bs x.table))∧W'.cell? ⟨T,4,none⟩=some (.slice ea x.expr.length ec)) (go_keep) (first
  |(go_at_call 27;refine(CS.out _ HD.out).mono ?_;rintro e w4 ⟨rfl,hb4⟩
    have X4:Hid (Below w1.heap.size w1 w4):=(HD.out.trans (hb4.mono HD.out.size))
    obtain⟨y0,y1,y4⟩:=YA.out w4 X4.out)
  )
 all_goals
  obtain⟨w5,hw5⟩:∃w5,w5=w4.alloc (.cells #[.string ⟨#[73,78,83,69,82,84,32,73,78,84,79]⟩,.string (Lx.bs x.table),.string (Lx.bs st)] 9):=⟨_,rfl⟩
  obtain⟨g,hg⟩:∃g,g=w4.heap.size:=⟨_,rfl⟩
  have X5:Hid (Below w.heap.size w w5∧SR w5 (some ⟨g,0,none⟩) (zaB x)):=by
   have h:=heap_alloc_new w4 (.cells #[.string ⟨#[73,78,83,69,82,84,32,73,78,84,79]⟩,.string (Lx.bs x.table),.string (Lx.bs st)] 9)
   rw[←hw5,←hg] at h
   have hb:=X1.out.2.trans (X4.out.mono X1.out.2.size)
   refine⟨hb.trans (by rw[hw5];exact(bnew w4 _).mono hb.size),?_⟩
   rw[HW.out]
   refine SR.made h fun j t ht=>?_
   match j,ht with
   | 0,ht=>cases ht;rfl
   | 1,ht=>cases ht;rfl
   | 2,ht=>cases ht;rfl
  clear y0 y1 y4
  rw[←hw5,←hg]
  clear hw5 hg
  go_wp2
  go_ret
  exact⟨_,rfl,X5.out⟩
theorem words4_c (x:St) (ia ea:Option Addr) (ic ec:Nat) (w:World) (h5:x.kind=4) (hi4:zaK x.items=true) (hr:rightC x.expr=true) (hx:FitX x) (hm:StM w ia ea x) (hL:HasL w) (hO:HasO w):Calls Tryz.prog 24 #[.agg #[.int .u8 (x.kind:Int),.string (Lx.bs x.table),.string (Lx.bs x.field),.slice ia x.items.length ic,.slice ea x.expr.length ec,.bool x.history,.bool x.desc]] w fun e w'=>∃a c,e=.returned (.slice a (zaB x).length c)∧Hid (Below w.heap.size w w'∧SR w' a (zaB x)∧(zaB x).length≤c∧c≤9223372036854775807):=by
 obtain⟨w1,hw1⟩:∃w1,w1=w.alloc (.cells #[.int .u8 (x.kind:Int),.string (Lx.bs x.table),.string (Lx.bs x.field),.slice ia x.items.length ic,.slice ea x.expr.length ec,.bool x.history,.bool x.desc] 26):=⟨_,rfl⟩
 obtain⟨T,hT⟩:∃T,T=w.heap.size:=⟨_,rfl⟩
 have X1:Hid (w1.heap[T]?=some (.cells #[.int .u8 (x.kind:Int),.string (Lx.bs x.table),.string (Lx.bs x.field),.slice ia x.items.length ic,.slice ea x.expr.length ec,.bool x.history,.bool x.desc] 26 (0,0))∧Below w.heap.size w w1):=⟨by rw[hw1,hT];exact heap_alloc_new w _,by rw[hw1];exact bnew _ _⟩
 obtain⟨ss,hss⟩:∃ss,ss=join [44,32] (zaF true x.items):=⟨_,rfl⟩
 have CS:Hid (∀W,Below w1.heap.size w1 W→Calls Tryz.prog 46 #[.slice ia x.items.length ic] W fun e w'=>e=.returned (.string (Lx.bs ss))∧Below W.heap.size W w'):=fun W hW=>by
  have hB:=X1.out.2.trans (hW.mono X1.out.2.size)
  rw[hss]
  exact sets_c x.items ia _ ic W rfl (its_ok hi4 hx.items.2) (hm.its.call hB) (hL.stays hB) (hO.stays hB)
 obtain⟨m,hm0⟩:∃m,m=(condTx x.expr).length:=⟨_,rfl⟩
 obtain⟨L,hL0⟩:∃L,L=(condTx x.expr).map fun t=>Value.string (Lx.bs t):=⟨_,rfl⟩
 have hm2:m≤2:=by
  rw[hm0,condTx]
  split
  ·exact Nat.zero_le 2
  ·exact Nat.le_refl 2
 have HLm:Hid (L.length=m*1):=by show _=_;rw[hL0,List.length_map,hm0,Nat.mul_one]
 have ones:Hid (∀u∈L,u.oneCell'=true):=fun u hu=>by
  rw[hL0] at hu
  obtain⟨t,_,rfl⟩:=List.mem_map.1 hu
  rfl
 have fit:Hid (4+m≤maxLen∧(4+m)*16≤140737488355328):=⟨Nat.le_trans (show 4+m≤6 by omega) (by decide),by omega⟩
 have CC:Hid (∀W,Below w1.heap.size w1 W→Calls Tryz.prog 47 #[.slice ea x.expr.length ec] W fun e w'=>∃y cc,e=.returned (.slice y m cc)∧Hid (Below W.heap.size W w'∧SrcC w' y L)):=fun W hW=>by
  have hB:=X1.out.2.trans (hW.mono X1.out.2.size)
  refine(zcN x.expr ea _ ec W (fun h0=>zbR hr h0) rfl (hm.exp.call hB) hx.expr.2 (hL.stays hB) (hO.stays hB)).mono ?_
  rintro e w' ⟨a,c,rfl,G⟩
  obtain⟨hb,a',c',hv,_,_,sr⟩:=G.out
  cases hv
  exact⟨a,c,by rw[hm0],hb,by rw[hL0];exact sr.src⟩
 have HW:Hid (zaB x=[[85,80,68,65,84,69],x.table,[83,69,84],ss]++condTx x.expr):=by
  show _=_
  rw[zaB,if_neg (by omega),if_neg (by omega),if_neg (by omega),if_pos h5,hss]
 have HM:Hid ((zaB x).length=4+m):=by show _=_;rw[HW.out,List.length_append,←hm0];rfl
 have FIN:Hid (∀(W5:World) (b:Option Addr) (cap:Nat),Below w1.heap.size w1 W5→W5.ownsRow w1.heap.size 9 1 (.slice b (4+m) cap) (4+m) ([.string ⟨#[85,80,68,65,84,69]⟩,.string (Lx.bs x.table),.string ⟨#[83,69,84]⟩,.string (Lx.bs ss)]++L)→Below w1.heap.size w1 W5∧SR W5 b (zaB x)∧4+m≤cap∧cap≤9223372036854775807):=fun W5 b cap hb hn=>by
  have hT:OwnT W5 w1.heap.size (.slice b (4+m) cap) (zaB x):=by
   unfold OwnT
   rw[HM.out,HW.out,List.map_append,←hL0]
   exact hn
  obtain⟨_,c1,c2,c3⟩:=hT.sr
  exact⟨hb,c2,c1,Nat.le_trans c3 (by decide)⟩
 have k1:((x.kind:Int)==1)=false:=by rw[h5];rfl
 have k2:((x.kind:Int)==2)=false:=by rw[h5];rfl
 have k3:((x.kind:Int)==3)=false:=by rw[h5];rfl
 have k4:((x.kind:Int)==4)=true:=by rw[h5];rfl
 have YA:Hid (∀W,Below w1.heap.size w1 W→W.cell? ⟨T,0,none⟩=some (.int .u8 (x.kind:Int))∧W.cell? ⟨T,1,none⟩=some (.string (Lx.bs x.table))∧W.cell? ⟨T,3,none⟩=some (.slice ia x.items.length ic)∧W.cell? ⟨T,4,none⟩=some (.slice ea x.expr.length ec)):=fun W hW=>by
  have r:=(hW.block T (row_lt X1.out.1)).trans X1.out.1
  exact⟨by rw[cell_of_row _ _ _ _ _ _ r];rfl,by rw[cell_of_row _ _ _ _ _ _ r];rfl,by rw[cell_of_row _ _ _ _ _ _ r];rfl,by rw[cell_of_row _ _ _ _ _ _ r];rfl⟩
 obtain⟨y0,y1,y3,y4⟩:=YA.out w1 (Below.refl _ _)
 have HD:Hid (Below w1.heap.size w1 w1.drew):=(Below.refl _ _).drew
 obtain⟨i0,hi,hz0,hz1,hz2⟩:=zaJ zbE
 clear h5 hi4 hr hx hm hL hO hm0 hL0 hm2 hss
 go_enter Tryz.func24,Tryz.ntmps24
 go_upto_region 1 with fail
 rw[←hw1,←hT]
 clear hw1 hT
 go_upto_region 9 with fail
 clear k1 k2 k3 k4
 go_region_held3 (fun W'=>W'.cell? ⟨T,0,none⟩=some (.int .u8 (x.kind:Int))∧W'.cell? ⟨T,1,none⟩=some (.string (Lx.bs x.table))∧W'.cell? ⟨T,3,none⟩=some (.slice ia x.items.length ic)∧W'.cell? ⟨T,4,none⟩=some (.slice ea x.expr.length ec)) (go_keep) (first
  |(go_at_call 46;refine(CS.out _ HD.out).mono ?_;rintro e w3 ⟨rfl,hb3⟩
    have X3:Hid (Below w1.heap.size w1 w3):=(HD.out.trans (hb3.mono HD.out.size))
    obtain⟨y0,y1,y3,y4⟩:=YA.out w3 X3.out)
  |(go_at_call 47;refine(CC.out _ X3.out).mono ?_;rintro e w4 ⟨y,cc,rfl,G4⟩
    have X4:Hid (Below w1.heap.size w1 w4):=(X3.out.trans (G4.out.1.mono X3.out.size))
    obtain⟨y0,y1,y3,y4⟩:=YA.out w4 X4.out)
  |(go_at_call 47;refine(CC.out _ (X3.out.alloc X3.out.size _)).mono ?_;rintro e w4 ⟨y,cc,rfl,G4⟩
    have X4:Hid (Below w1.heap.size w1 w4):=((X3.out.alloc X3.out.size _).trans (G4.out.1.mono (X3.out.alloc X3.out.size _).size))
    obtain⟨y0,y1,y3,y4⟩:=YA.out w4 X4.out)
  |(refine zaW (by rfl) _ _ _ (by rfl) w1.heap.size 9 i0 _ 1 16 Tryz.underlying50 hi hz0 hz1 hz2 rfl (by omega) _ _ _ (by rfl) (zaT (zcX w3 w1.heap.size X3.out.size _ _ _ _) G4.out.1) y m cc L (by rfl) HLm.out (G4.out.2) ones.out fit.out.1 fit.out.2 (X4.out).size ?_;intro b cap w5 hown5 hb5 hk5
    have X5:Hid (Below w1.heap.size w1 w5∧SR w5 b (zaB x)∧4+m≤cap∧cap≤9223372036854775807):=(FIN.out w5 b cap ((X4.out).trans hb5) hown5)
    obtain⟨y0,y1,y3,y4⟩:=YA.out w5 X5.out.1
    clear hown5 hb5 hk5)
  |(refine zaW (by rfl) _ _ _ (by rfl) w1.heap.size 9 i0 _ 1 16 Tryz.underlying50 hi hz0 hz1 hz2 rfl (by omega) _ _ _ (by rfl) (zcX w4 w1.heap.size X4.out.size _ _ _ _) y m cc L (by rfl) HLm.out (G4.out.2.new _) ones.out fit.out.1 fit.out.2 (X4.out.alloc X4.out.size _).size ?_;intro b cap w5 hown5 hb5 hk5
    have X5:Hid (Below w1.heap.size w1 w5∧SR w5 b (zaB x)∧4+m≤cap∧cap≤9223372036854775807):=(FIN.out w5 b cap ((X4.out.alloc X4.out.size _).trans hb5) hown5)
    obtain⟨y0,y1,y3,y4⟩:=YA.out w5 X5.out.1
    clear hown5 hb5 hk5)
  )
 all_goals
  have X6:Hid (Below w.heap.size w w5):=X1.out.2.trans (X5.out.1.mono X1.out.2.size)
  clear y0 y1 y3 y4
  go_wp2
  go_ret
  exact⟨b,cap,by rw[HM.out];rfl,X6.out,X5.out.2.1,by rw[HM.out];exact X5.out.2.2.1,X5.out.2.2.2⟩
theorem words6g_c (x:St) (ia ea:Option Addr) (ic ec:Nat) (w:World) (hx:FitX x) (hr:rightX x=true) (h6:x.kind=6) (hm:StM w ia ea x) (hL:HasL w) (hO:HasO w):Calls Tryz.prog 24 #[.agg #[.int .u8 (x.kind:Int),.string (Lx.bs x.table),.string (Lx.bs x.field),.slice ia x.items.length ic,.slice ea x.expr.length ec,.bool x.history,.bool x.desc]] w fun e w'=>∃a c,e=.returned (.slice a (zaB x).length c)∧Hid (Below w.heap.size w w'∧SR w' a (zaB x)∧(zaB x).length≤c∧c≤9223372036854775807):=by
 obtain⟨w1,hw1⟩:∃w1,w1=w.alloc (.cells #[.int .u8 (x.kind:Int),.string (Lx.bs x.table),.string (Lx.bs x.field),.slice ia x.items.length ic,.slice ea x.expr.length ec,.bool x.history,.bool x.desc] 26):=⟨_,rfl⟩
 obtain⟨T,hT⟩:∃T,T=w.heap.size:=⟨_,rfl⟩
 have X1:Hid (w1.heap[T]?=some (.cells #[.int .u8 (x.kind:Int),.string (Lx.bs x.table),.string (Lx.bs x.field),.slice ia x.items.length ic,.slice ea x.expr.length ec,.bool x.history,.bool x.desc] 26 (0,0))∧Below w.heap.size w w1):=⟨by rw[hw1,hT];exact heap_alloc_new w _,by rw[hw1];exact bnew _ _⟩
 have tl:=row_lt X1.out.1
 obtain⟨sr1,sr2⟩:=zcO hr h6
 have hok:=its_ok sr1 hx.items.2
 obtain⟨wt,hwt⟩:∃wt,wt=whatTx x.items:=⟨_,rfl⟩
 obtain⟨ft,hft⟩:∃ft,ft=fromTx x:=⟨_,rfl⟩
 obtain⟨m,hm0⟩:∃m,m=(condTx x.expr).length:=⟨_,rfl⟩
 obtain⟨L,hL0⟩:∃L,L=(condTx x.expr).map fun t=>Value.string (Lx.bs t):=⟨_,rfl⟩
 obtain⟨k,hk0⟩:∃k,k=(zbD x).length:=⟨_,rfl⟩
 obtain⟨M,hM0⟩:∃M,M=(zbD x).map fun t=>Value.string (Lx.bs t):=⟨_,rfl⟩
 have hm2:m≤2:=by
  rw[hm0,condTx]
  split
  ·exact Nat.zero_le 2
  ·exact Nat.le_refl 2
 have hk3:k≤3:=by
  rw[hk0,zbD]
  split
  ·exact Nat.zero_le 3
  ·split
   ·exact Nat.le_refl 3
   ·exact(by decide:2≤3)
 have HLm:Hid (L.length=m*1∧M.length=k*1):=⟨by rw[hL0,List.length_map,hm0,Nat.mul_one],by rw[hM0,List.length_map,hk0,Nat.mul_one]⟩
 have ones:Hid ((∀u∈L,u.oneCell'=true)∧(∀u∈M,u.oneCell'=true)):=⟨fun u hu=>by
  rw[hL0] at hu
  obtain⟨t,_,rfl⟩:=List.mem_map.1 hu
  rfl,fun u hu=>by
  rw[hM0] at hu
  obtain⟨t,_,rfl⟩:=List.mem_map.1 hu
  rfl⟩
 have fit:Hid ((4+m≤maxLen∧(4+m)*16≤140737488355328)∧(4+m+k≤maxLen∧(4+m+k)*16≤140737488355328)):=⟨⟨Nat.le_trans (show 4+m≤6 by omega) (by decide),by omega⟩,Nat.le_trans (show 4+m+k≤9 by omega) (by decide),by omega⟩
 have CW:Hid (∀W,Below w1.heap.size w1 W→Calls Tryz.prog 48 #[.slice ia x.items.length ic] W fun e w'=>e=.returned (.string (Lx.bs wt))∧Below W.heap.size W w'):=fun W hW=>by
  have hB:=X1.out.2.trans (hW.mono X1.out.2.size)
  rw[hwt]
  exact what_c x.items ia _ ic W rfl hok (hm.its.call hB) (hL.stays hB) (hO.stays hB)
 have CF:Hid (∀W,Calls Tryz.prog 49 #[.agg #[.int .u8 (x.kind:Int),.string (Lx.bs x.table),.string (Lx.bs x.field),.slice ia x.items.length ic,.slice ea x.expr.length ec,.bool x.history,.bool x.desc]] W fun e w'=>e=.returned (.string (Lx.bs ft))∧Below W.heap.size W w'):=fun W=>by
  rw[hft]
  exact from_c x ia ea ic ec W (by have:=nm_table hr;omega)
 have CC:Hid (∀W,Below w1.heap.size w1 W→Calls Tryz.prog 47 #[.slice ea x.expr.length ec] W fun e w'=>∃y cc,e=.returned (.slice y m cc)∧Hid (Below W.heap.size W w'∧SrcC w' y L)):=fun W hW=>by
  have hB:=X1.out.2.trans (hW.mono X1.out.2.size)
  refine(zcN x.expr ea _ ec W (fun h0=>zbR sr2 h0) rfl (hm.exp.call hB) hx.expr.2 (hL.stays hB) (hO.stays hB)).mono ?_
  rintro e w' ⟨a,c,rfl,G⟩
  obtain⟨hb,a',c',hv,_,_,sr⟩:=G.out
  cases hv
  exact⟨a,c,by rw[hm0],hb,by rw[hL0];exact sr.src⟩
 have CO:Hid (∀W,Calls Tryz.prog 50 #[.agg #[.int .u8 (x.kind:Int),.string (Lx.bs x.table),.string (Lx.bs x.field),.slice ia x.items.length ic,.slice ea x.expr.length ec,.bool x.history,.bool x.desc]] W fun e w'=>∃y cc,e=.returned (.slice y k cc)∧Hid (Below W.heap.size W w'∧SrcC w' y M)):=fun W=>by
  refine(order_c x ia ea ic ec W).mono ?_
  rintro e w' ⟨a,c,rfl,G⟩
  obtain⟨hb,a',c',hv,_,_,sr⟩:=G.out
  cases hv
  exact⟨a,c,by rw[hk0],hb,by rw[hM0];exact sr.src⟩
 have HW:Hid (zaB x=[[83,69,76,69,67,84],wt,[70,82,79,77],ft]++condTx x.expr++zbD x):=by
  show _=_
  rw[zaB,if_neg (by omega),if_neg (by omega),if_neg (by omega),if_neg (by omega),if_neg (by omega),hwt,hft]
 have HM:Hid ((zaB x).length=4+m+k):=by show _=_;rw[HW.out,List.length_append,List.length_append,←hm0,←hk0];rfl
 have FIN:Hid (∀(W5:World) (b:Option Addr) (cap:Nat),W5.ownsRow w1.heap.size 9 1 (.slice b (4+m+k) cap) (4+m+k) ([.string ⟨#[83,69,76,69,67,84]⟩,.string (Lx.bs wt),.string ⟨#[70,82,79,77]⟩,.string (Lx.bs ft)]++L++M)→SR W5 b (zaB x)∧4+m+k≤cap∧cap≤9223372036854775807):=fun W5 b cap hn=>by
  have hT:OwnT W5 w1.heap.size (.slice b (4+m+k) cap) (zaB x):=by
   unfold OwnT
   rw[HM.out,HW.out,List.map_append,List.map_append,←hL0,←hM0]
   exact hn
  obtain⟨_,c1,c2,c3⟩:=hT.sr
  exact⟨c2,c1,Nat.le_trans c3 (by decide)⟩
 have k1:((x.kind:Int)==1)=false:=by rw[h6];rfl
 have k2:((x.kind:Int)==2)=false:=by rw[h6];rfl
 have k3:((x.kind:Int)==3)=false:=by rw[h6];rfl
 have k4:((x.kind:Int)==4)=false:=by rw[h6];rfl
 have k5:((x.kind:Int)==5)=false:=by rw[h6];rfl
 have YC:Hid (∀W,Below w1.heap.size w1 W→∀r v,(#[.int .u8 (x.kind:Int),.string (Lx.bs x.table),.string (Lx.bs x.field),.slice ia x.items.length ic,.slice ea x.expr.length ec,.bool x.history,.bool x.desc]:Array Value)[r]?=some v→W.cell? ⟨T,r,none⟩=some v):=fun W hW r v hv=>by rw[cell_of_row _ _ _ _ _ _ ((hW.block T (row_lt X1.out.1)).trans X1.out.1)];exact hv
 have YA:Hid (∀W,Below w1.heap.size w1 W→W.cell? ⟨T,0,none⟩=some (.int .u8 (x.kind:Int))∧W.cell? ⟨T,1,none⟩=some (.string (Lx.bs x.table))∧W.cell? ⟨T,2,none⟩=some (.string (Lx.bs x.field))∧W.cell? ⟨T,3,none⟩=some (.slice ia x.items.length ic)∧W.cell? ⟨T,4,none⟩=some (.slice ea x.expr.length ec)∧W.cell? ⟨T,5,none⟩=some (.bool x.history)∧W.cell? ⟨T,6,none⟩=some (.bool x.desc)):=fun W hW=>⟨YC.out W hW 0 _ rfl,YC.out W hW 1 _ rfl,YC.out W hW 2 _ rfl,YC.out W hW 3 _ rfl,YC.out W hW 4 _ rfl,YC.out W hW 5 _ rfl,YC.out W hW 6 _ rfl⟩
 have y0:=YC.out w1 (Below.refl _ _) 0 _ rfl
 clear hx hr h6 hm hL hO sr1 sr2 hok hwt hft hm0 hL0 hk0 hM0 hm2 hk3
 go_enter Tryz.func24,Tryz.ntmps24
 go_upto_region 1 with fail
 rw[←hw1,←hT]
 clear hw1 hT
 go_upto_region 12 with fail
 clear k1 k2 k3 k4 k5
 have y1:=YC.out w1 (Below.refl _ _) 1 _ rfl
 have y2:=YC.out w1 (Below.refl _ _) 2 _ rfl
 have y3:=YC.out w1 (Below.refl _ _) 3 _ rfl
 have y4:=YC.out w1 (Below.refl _ _) 4 _ rfl
 have y5:=YC.out w1 (Below.refl _ _) 5 _ rfl
 have y6:=YC.out w1 (Below.refl _ _) 6 _ rfl
 obtain⟨i0,hi,hz0,hz1,hz2⟩:=zaJ zbE
 go_region_held3 (fun W'=>W'.cell? ⟨T,0,none⟩=some (.int .u8 (x.kind:Int))∧W'.cell? ⟨T,1,none⟩=some (.string (Lx.bs x.table))∧W'.cell? ⟨T,2,none⟩=some (.string (Lx.bs x.field))∧W'.cell? ⟨T,3,none⟩=some (.slice ia x.items.length ic)∧W'.cell? ⟨T,4,none⟩=some (.slice ea x.expr.length ec)∧W'.cell? ⟨T,5,none⟩=some (.bool x.history)∧W'.cell? ⟨T,6,none⟩=some (.bool x.desc)) (go_keep) (first
  |(go_at_call 48;refine(CW.out _ ?_).mono ?_;(first | exact Below.refl _ _ | exact(Below.refl _ _).drew);rintro e w2 ⟨rfl,hb2⟩
    have X2:Hid (Below w1.heap.size w1 w2):=((Below.refl w1.heap.size w1).drew.trans hb2)
    obtain⟨y0,y1,y2,y3,y4,y5,y6⟩:=YA.out w2 X2.out)
  |(go_at_call 49;refine(CF.out _).mono ?_;rintro e w3 ⟨rfl,hb3⟩
    have X3:Hid (Below w1.heap.size w1 w3):=(X2.out.trans (hb3.mono X2.out.size))
    obtain⟨y0,y1,y2,y3,y4,y5,y6⟩:=YA.out w3 X3.out)
  |(go_at_call 47;refine(CC.out _ ?_).mono ?_;(first | exact X3.out | exact X3.out.trans ((bnew w3 _).mono X3.out.size));rintro e w4 ⟨y,cc,rfl,G4⟩
    have X4:Hid (Below w1.heap.size w1 w4):=(by first | exact X3.out.trans (G4.out.1.mono X3.out.size) | exact(X3.out.trans ((bnew w3 _).mono X3.out.size)).trans (G4.out.1.mono (Nat.le_trans X3.out.size (bnew w3 _).size)))
    obtain⟨y0,y1,y2,y3,y4,y5,y6⟩:=YA.out w4 X4.out)
  |(refine zaW (by rfl) _ _ _ (by rfl) w1.heap.size 9 i0 _ 1 16 Tryz.underlying50 hi hz0 hz1 hz2 rfl (by omega) _ _ _ (by rfl) (zaT (zcX w3 w1.heap.size X3.out.size _ _ _ _) G4.out.1) y m cc L (by rfl) HLm.out.1 (G4.out.2) ones.out.1 fit.out.1.1 fit.out.1.2 (X4.out).size ?_;intro b cap w5 hown5 hb5 hk5
    have X5:Hid (Below w1.heap.size w1 w5∧w5.ownsRow w1.heap.size 9 1 (.slice b (4+m) cap) (4+m) ([.string ⟨#[83,69,76,69,67,84]⟩,.string (Lx.bs wt),.string ⟨#[70,82,79,77]⟩,.string (Lx.bs ft)]++L)):=⟨(X4.out).trans hb5,hown5⟩
    obtain⟨y0,y1,y2,y3,y4,y5,y6⟩:=YA.out w5 X5.out.1
    clear hown5 hb5 hk5)
  |(refine zaW (by rfl) _ _ _ (by rfl) w1.heap.size 9 i0 _ 1 16 Tryz.underlying50 hi hz0 hz1 hz2 rfl (by omega) _ _ _ (by rfl) (zcX w4 w1.heap.size X4.out.size _ _ _ _) y m cc L (by rfl) HLm.out.1 (G4.out.2.new _) ones.out.1 fit.out.1.1 fit.out.1.2 (X4.out.alloc X4.out.size _).size ?_;intro b cap w5 hown5 hb5 hk5
    have X5:Hid (Below w1.heap.size w1 w5∧w5.ownsRow w1.heap.size 9 1 (.slice b (4+m) cap) (4+m) ([.string ⟨#[83,69,76,69,67,84]⟩,.string (Lx.bs wt),.string ⟨#[70,82,79,77]⟩,.string (Lx.bs ft)]++L)):=⟨(X4.out.alloc X4.out.size _).trans hb5,hown5⟩
    obtain⟨y0,y1,y2,y3,y4,y5,y6⟩:=YA.out w5 X5.out.1
    clear hown5 hb5 hk5)
  )
 all_goals
  go_wp2_with fail
  refine(CO.out _).mono ?_
  rintro e w6 ⟨y2,c2,rfl,G6⟩
  have X6:Hid (Below w1.heap.size w1 w6∧w6.ownsRow w1.heap.size 9 1 (.slice b (4+m) cap) (4+m) ([.string ⟨#[83,69,76,69,67,84]⟩,.string (Lx.bs wt),.string ⟨#[70,82,79,77]⟩,.string (Lx.bs ft)]++L)):=⟨X5.out.1.trans (G6.out.1.mono X5.out.1.size),zaT X5.out.2 G6.out.1⟩
  clear y0 y1 y3 y4 y5 y6
  go_wp2_with (at_builtin;refine zbF rfl _ _ 50 rfl w1.heap.size 9 i0 _ 1 16 Tryz.underlying50 hi hz0 hz1 hz2 rfl (by decide) _ _ _ rfl X6.out.2 _ _ _ M rfl HLm.out.2 G6.out.2 ones.out.2 fit.out.2.1 fit.out.2.2 X6.out.1.size ?_)
  intro b7 c7 w7 hown7 hb7 _
  have X7:=hidp (FIN.out w7 b7 c7 hown7)
  have X7w:Hid (Below w.heap.size w w7):=X1.out.2.trans ((X6.out.1.trans hb7).mono X1.out.2.size)
  clear hown7 hb7
  go_wp2
  go_ret
  exact⟨b7,c7,by rw[HM.out];rfl,X7w.out,X7.out.1,by rw[HM.out];exact X7.out.2.1,X7.out.2.2⟩
theorem sets_len {l:List It} (h:ItOK l):(join [44,32] (zaF true l)).length≤39000000:=by
 have h1:=zbK [44,32] (zaF true l)
 have h2:=zbL (zaF true l) 600000 (zdP h true)
 have e:(zaF true l).length=l.length:=by rw[zaF,List.length_map]
 have e2:[(44:UInt8),32].length=2:=rfl
 have h3:l.length*600000≤64*600000:=Nat.mul_le_mul_right _ h.few
 have h4:=h.few
 rw[e] at h1 h2
 rw[e2] at h1
 omega
theorem cond_len {l:List Sp} (h:rightC l=true) (hf:fitE l):(condTx l).length≤2∧∀t∈condTx l,t.length≤39000000:=by
 by_cases h0:l=[]
 ·rw[condTx,if_pos h0]
  exact⟨Nat.zero_le _,fun t ht=>(by cases ht)⟩
 ·have h3:=zbC (zbR h h0) hf.2
  rw[condTx,if_neg h0]
  refine⟨Nat.le_refl 2,fun t ht=>?_⟩
  rcases List.mem_cons.1 ht with rfl | ht
  ·exact(by decide:5≤39000000)
  rcases List.mem_cons.1 ht with rfl | ht
  ·omega
  ·cases ht
theorem zaX {a b:List Bs} {n m:Nat} (h1:a.length≤n∧∀t∈a,t.length≤39000000) (h2:b.length≤m∧∀t∈b,t.length≤39000000):(a++b).length≤n+m∧∀t∈a++b,t.length≤39000000 :=
 ⟨by rw[List.length_append];omega,fun t ht=>(List.mem_append.1 ht).elim (h1.2 t) (h2.2 t)⟩
theorem zcQ {t:Bs} (h:t.length≤39000000):[t].length≤1∧∀u∈[t],u.length≤39000000:=⟨Nat.le_refl 1,fun u hu=>by
 rcases List.mem_cons.1 hu with rfl | hu
 ·exact h
 ·cases hu⟩
theorem zdF {x:St} (h:rightX x=true):x.table.length≤64∧(x.kind=1∨(x.kind=2∧x.field.length≤64)∨(x.kind=3∧rightE x.expr=true)∨(x.kind=4∧zaK x.items=true∧rightC x.expr=true)∨(x.kind=5∧rightC x.expr=true)∨(x.kind=6∧x.field.length≤64∧zaK x.items=true∧rightC x.expr=true)):=by
 refine⟨nm_table h,?_⟩
 rw[rightX,Bool.and_eq_true] at h
 have h2:=h.2
 by_cases k1:x.kind=1
 ·exact .inl k1
 rw[if_neg k1] at h2
 by_cases k2:x.kind=2
 ·rw[if_pos k2,Bool.and_eq_true,Bool.and_eq_true] at h2
  exact .inr (.inl ⟨k2,nm_len h2.1.1⟩)
 rw[if_neg k2] at h2
 by_cases k3:x.kind=3
 ·rw[if_pos k3,Bool.and_eq_true,Bool.and_eq_true] at h2
  exact .inr (.inr (.inl ⟨k3,h2.1.2⟩))
 rw[if_neg k3] at h2
 by_cases k4:x.kind=4
 ·rw[if_pos k4,Bool.and_eq_true,Bool.and_eq_true] at h2
  exact .inr (.inr (.inr (.inl ⟨k4,h2.1.2,h2.2⟩)))
 rw[if_neg k4] at h2
 by_cases k5:x.kind=5
 ·rw[if_pos k5,Bool.and_eq_true] at h2
  exact .inr (.inr (.inr (.inr (.inl ⟨k5,h2.2⟩))))
 rw[if_neg k5] at h2
 by_cases k6:x.kind=6
 ·rw[if_pos k6,Bool.and_eq_true,Bool.and_eq_true,Bool.or_eq_true,Bool.and_eq_true,decide_eq_true_iff] at h2
  refine .inr (.inr (.inr (.inr (.inr ⟨k6,?_,h2.1.2,h2.2⟩))))
  rcases h2.1.1 with q | ⟨q,_⟩
  ·exact nm_len q
  ·rw[q];exact Nat.zero_le _
 ·rw[if_neg k6] at h2;cases h2
theorem words_few {x:St} (hx:FitX x) (h:rightX x=true):(zaB x).length≤9∧∀t∈zaB x,t.length≤39000000:=by
 obtain⟨ht,hk⟩:=zdF h
 have hT:=zcQ (t:=x.table) (by omega)
 have le:∀{a:List Bs} {n:Nat},n≤9→(a.length≤n∧∀t∈a,t.length≤39000000)→a.length≤9∧∀t∈a,t.length≤39000000:=fun hn q=>⟨Nat.le_trans q.1 hn,q.2⟩
 have lit:∀l:Bs,l.length≤20→[l].length≤1∧∀u∈[l],u.length≤39000000:=fun l hl=>zcQ (by omega)
 rcases hk with k | ⟨k,q⟩ | ⟨k,q⟩ | ⟨k,q1,q2⟩ | ⟨k,q⟩ | ⟨k,q,q1,q2⟩
 ·rw[zaB,if_pos k]
  exact le (by decide) (zaX (lit [67,82,69,65,84,69,32,84,65,66,76,69] (by decide)) hT)
 ·rw[zaB,if_neg (by omega),if_pos k]
  exact le (by decide) (zaX (lit [67,82,69,65,84,69,32,73,78,68,69,88,32,79,78] (by decide)) (zaX hT (zcQ (t:=[40]++x.field++[41]) (by rw[List.length_append,List.length_append];show 1+x.field.length+1≤_;omega))))
 ·rw[zaB,if_neg (by omega),if_neg (by omega),if_pos k]
  have h3:=zbC q hx.expr.2
  exact le (by decide) (zaX (lit [73,78,83,69,82,84,32,73,78,84,79] (by decide)) (zaX hT (zcQ (t:=shownE x.expr) (by omega))))
 ·rw[zaB,if_neg (by omega),if_neg (by omega),if_neg (by omega),if_pos k]
  have h3:=sets_len (its_ok q1 hx.items.2)
  exact le (by decide) (zaX (zaX (lit [85,80,68,65,84,69] (by decide)) (zaX hT (zaX (lit [83,69,84] (by decide)) (zcQ h3)))) (cond_len q2 hx.expr))
 ·rw[zaB,if_neg (by omega),if_neg (by omega),if_neg (by omega),if_neg (by omega),if_pos k]
  exact le (by decide) (zaX (zaX (lit [68,69,76,69,84,69,32,70,82,79,77] (by decide)) hT) (cond_len q hx.expr))
 ·rw[zaB,if_neg (by omega),if_neg (by omega),if_neg (by omega),if_neg (by omega),if_neg (by omega)]
  have h1:=what_len (its_ok q1 hx.items.2)
  have h4:(fromTx x).length≤39000000:=by
   rw[fromTx]
   split
   ·rw[List.length_append,List.length_append]
    show 8+x.table.length+1≤_
    omega
   ·omega
  have h5:(zbD x).length≤3∧∀t∈zbD x,t.length≤39000000:=by
   have f1:=zcQ (t:=x.field) (by omega)
   have f0:=lit [79,82,68,69,82,32,66,89] (by decide)
   rw[zbD]
   split
   ·exact⟨Nat.zero_le _,fun t ht=>(by cases ht)⟩
   ·split
    ·exact zaX f0 (zaX f1 (lit [68,69,83,67] (by decide)))
    ·have:=zaX f0 f1
     exact⟨Nat.le_trans this.1 (by decide),this.2⟩
  exact le (by decide) (zaX (zaX (zaX (lit [83,69,76,69,67,84] (by decide)) (zaX (zcQ h1) (zaX (lit [70,82,79,77] (by decide)) (zcQ h4)))) (cond_len q2 hx.expr)) h5)
theorem words_c (x:St) (ia ea:Option Addr) (ic ec:Nat) (w:World) (hx:FitX x) (hr:rightX x=true) (hm:StM w ia ea x) (hL:HasL w) (hO:HasO w):Calls Tryz.prog 24 #[.agg #[.int .u8 (x.kind:Int),.string (Lx.bs x.table),.string (Lx.bs x.field),.slice ia x.items.length ic,.slice ea x.expr.length ec,.bool x.history,.bool x.desc]] w fun e w'=>∃a c,e=.returned (.slice a (zaB x).length c)∧Hid (Below w.heap.size w w'∧SR w' a (zaB x)∧(zaB x).length≤c∧c≤9223372036854775807):=by
 obtain⟨_,hk⟩:=zdF hr
 rcases hk with k | ⟨k,q⟩ | ⟨k,q⟩ | ⟨k,q1,q2⟩ | ⟨k,q⟩ | ⟨k,q,q1,q2⟩
 ·refine(words1_c x ia ea ic ec w k).mono ?_
  rintro e w' ⟨a,rfl,G⟩
  have hn:(zaB x).length=2:=by rw[zaB,if_pos k];rfl
  rw[hn]
  exact⟨a,2,rfl,G.out.1,G.out.2,Nat.le_refl _,by decide⟩
 ·refine(words2_c x ia ea ic ec w k (by omega)).mono ?_
  rintro e w' ⟨a,rfl,G⟩
  have hn:(zaB x).length=3:=by rw[zaB,if_neg (by omega),if_pos k];rfl
  rw[hn]
  exact⟨a,3,rfl,G.out.1,G.out.2,Nat.le_refl _,by decide⟩
 ·refine(words3_c x ia ea ic ec w k q hx hm hL hO).mono ?_
  rintro e w' ⟨a,rfl,G⟩
  have hn:(zaB x).length=3:=by rw[zaB,if_neg (by omega),if_neg (by omega),if_pos k];rfl
  rw[hn]
  exact⟨a,3,rfl,G.out.1,G.out.2,Nat.le_refl _,by decide⟩
 ·exact words4_c x ia ea ic ec w k q1 q2 hx hm hL hO
 ·exact words5_c x ia ea ic ec w k q hx hm hL hO
 ·exact words6g_c x ia ea ic ec w hx hr k hm hL hO
theorem printt_c (x:St) (ia ea:Option Addr) (ic ec:Nat) (w:World) (hx:FitX x) (hr:rightX x=true) (hm:StM w ia ea x) (hL:HasL w) (hO:HasO w):Calls Tryz.prog 7 #[.agg #[.int .u8 (x.kind:Int),.string (Lx.bs x.table),.string (Lx.bs x.field),.slice ia x.items.length ic,.slice ea x.expr.length ec,.bool x.history,.bool x.desc]] w fun e w'=>e=.returned (.tuple #[.string (Lx.bs (printX x)),.int .i64 0])∧Below w.heap.size w w':=by
 obtain⟨w1,hw1⟩:∃w1,w1=w.alloc (.cells #[.int .u8 (x.kind:Int),.string (Lx.bs x.table),.string (Lx.bs x.field),.slice ia x.items.length ic,.slice ea x.expr.length ec,.bool x.history,.bool x.desc] 26):=⟨_,rfl⟩
 obtain⟨T,hT⟩:∃T,T=w.heap.size:=⟨_,rfl⟩
 have X1:Hid (w1.heap[T]?=some (.cells #[.int .u8 (x.kind:Int),.string (Lx.bs x.table),.string (Lx.bs x.field),.slice ia x.items.length ic,.slice ea x.expr.length ec,.bool x.history,.bool x.desc] 26 (0,0))∧Below w.heap.size w w1):=⟨by rw[hw1,hT];exact heap_alloc_new w _,by rw[hw1];exact bnew _ _⟩
 have CK:Hid (Calls Tryz.prog 14 #[.agg #[.int .u8 (x.kind:Int),.string (Lx.bs x.table),.string (Lx.bs x.field),.slice ia x.items.length ic,.slice ea x.expr.length ec,.bool x.history,.bool x.desc]] w1 fun e w'=>e=.returned (.int .i64 0)∧Below w1.heap.size w1 w'):=by
  have h:=zdS x ia ea ic ec w1 hx (hm.call X1.out.2) (hL.stays X1.out.2)
  rw[if_pos hr] at h
  exact h
 have CW:Hid (∀W,Below w1.heap.size w1 W→Calls Tryz.prog 24 #[.agg #[.int .u8 (x.kind:Int),.string (Lx.bs x.table),.string (Lx.bs x.field),.slice ia x.items.length ic,.slice ea x.expr.length ec,.bool x.history,.bool x.desc]] W fun e w'=>∃a c,e=.returned (.slice a (zaB x).length c)∧Hid (Below W.heap.size W w'∧SR w' a (zaB x)∧(zaB x).length≤c∧c≤9223372036854775807)):=fun W hW=>by
  have hB:=X1.out.2.trans (hW.mono X1.out.2.size)
  exact words_c x ia ea ic ec W hx hr (hm.call hB) (hL.stays hB) (hO.stays hB)
 have HF:=hidp (words_few hx hr)
 obtain⟨t,ht⟩:∃t,t=printX x:=⟨_,rfl⟩
 have CJ:Hid (∀W a c,SR W a (zaB x)→(zaB x).length≤c→c≤9223372036854775807→Calls Tryz.prog 23 #[.slice a (zaB x).length c,.string ⟨#[32]⟩] W fun e w'=>e=.returned (.string (Lx.bs t))∧Below W.heap.size W w'):=fun W a c hs h1 h2=>by
  have h9:=HF.out.1
  have h:=join_g 39000000 [32] (zaB x) a _ c W rfl (by omega) h1 h2 hs (by decide) HF.out.2 (Nat.le_trans (Nat.mul_le_mul_right _ (show(zaB x).length+1≤10 by omega)) (by decide))
  rw[ht,printX,if_pos hr]
  exact h
 have YC:Hid (∀W,Below w1.heap.size w1 W→∀r v,(#[.int .u8 (x.kind:Int),.string (Lx.bs x.table),.string (Lx.bs x.field),.slice ia x.items.length ic,.slice ea x.expr.length ec,.bool x.history,.bool x.desc]:Array Value)[r]?=some v→W.cell? ⟨T,r,none⟩=some v):=fun W hW r v hv=>by rw[cell_of_row _ _ _ _ _ _ ((hW.block T (row_lt X1.out.1)).trans X1.out.1)];exact hv
 have YA:Hid (∀W,Below w1.heap.size w1 W→W.cell? ⟨T,0,none⟩=some (.int .u8 (x.kind:Int))∧W.cell? ⟨T,1,none⟩=some (.string (Lx.bs x.table))∧W.cell? ⟨T,2,none⟩=some (.string (Lx.bs x.field))∧W.cell? ⟨T,3,none⟩=some (.slice ia x.items.length ic)∧W.cell? ⟨T,4,none⟩=some (.slice ea x.expr.length ec)∧W.cell? ⟨T,5,none⟩=some (.bool x.history)∧W.cell? ⟨T,6,none⟩=some (.bool x.desc)):=fun W hW=>⟨YC.out W hW 0 _ rfl,YC.out W hW 1 _ rfl,YC.out W hW 2 _ rfl,YC.out W hW 3 _ rfl,YC.out W hW 4 _ rfl,YC.out W hW 5 _ rfl,YC.out W hW 6 _ rfl⟩
 obtain⟨y0,y1,y2,y3,y4,y5,y6⟩:=YA.out w1 (Below.refl _ _)
 rw[←ht]
 clear ht hx hr hm hL hO HF
 go_enter Tryz.func7,Tryz.ntmps7
 go_upto_region 1 with fail
 rw[←hw1,←hT]
 clear hw1 hT
 go_wp2_with fail
 refine(CK.out).mono ?_
 rintro e w2 ⟨rfl,hb2⟩
 have X2:=hidp hb2
 obtain⟨y0,y1,y2,y3,y4,y5,y6⟩:=YA.out w2 X2.out
 clear hb2 CK
 go_wp2_with fail
 refine(CW.out _ X2.out).mono ?_
 rintro e w3 ⟨a,c,rfl,G3⟩
 clear CW y0 y1 y2 y3 y4 y5 y6
 go_wp2_with fail
 refine(CJ.out _ _ _ G3.out.2.1 G3.out.2.2.1 G3.out.2.2.2).mono ?_
 rintro e w4 ⟨rfl,hb4⟩
 have X4:Hid (Below w.heap.size w w4):=X1.out.2.trans ((X2.out.trans ((G3.out.1.trans (hb4.mono G3.out.1.size)).mono X2.out.size)).mono X1.out.2.size)
 clear hb4 CJ
 go_wp2
 go_ret2
 exact⟨rfl,X4.out⟩
theorem printf_c (x:St) (ia ea:Option Addr) (ic ec:Nat) (w:World) (hx:FitX x) (hr:rightX x=false) (hm:StM w ia ea x) (hL:HasL w):Calls Tryz.prog 7 #[.agg #[.int .u8 (x.kind:Int),.string (Lx.bs x.table),.string (Lx.bs x.field),.slice ia x.items.length ic,.slice ea x.expr.length ec,.bool x.history,.bool x.desc]] w fun e w'=>e=.returned (.tuple #[.string ⟨#[]⟩,.int .i64 13])∧Below w.heap.size w w':=by
 obtain⟨w1,hw1⟩:∃w1,w1=w.alloc (.cells #[.int .u8 (x.kind:Int),.string (Lx.bs x.table),.string (Lx.bs x.field),.slice ia x.items.length ic,.slice ea x.expr.length ec,.bool x.history,.bool x.desc] 26):=⟨_,rfl⟩
 obtain⟨T,hT⟩:∃T,T=w.heap.size:=⟨_,rfl⟩
 have X1:Hid (w1.heap[T]?=some (.cells #[.int .u8 (x.kind:Int),.string (Lx.bs x.table),.string (Lx.bs x.field),.slice ia x.items.length ic,.slice ea x.expr.length ec,.bool x.history,.bool x.desc] 26 (0,0))∧Below w.heap.size w w1):=⟨by rw[hw1,hT];exact heap_alloc_new w _,by rw[hw1];exact bnew _ _⟩
 have CK:Hid (Calls Tryz.prog 14 #[.agg #[.int .u8 (x.kind:Int),.string (Lx.bs x.table),.string (Lx.bs x.field),.slice ia x.items.length ic,.slice ea x.expr.length ec,.bool x.history,.bool x.desc]] w1 fun e w'=>e=.returned (.int .i64 13)∧Below w1.heap.size w1 w'):=by
  have h:=zdS x ia ea ic ec w1 hx (hm.call X1.out.2) (hL.stays X1.out.2)
  rw[if_neg (by rw[hr];decide)] at h
  exact h
 have YC:Hid (∀W,Below w1.heap.size w1 W→∀r v,(#[.int .u8 (x.kind:Int),.string (Lx.bs x.table),.string (Lx.bs x.field),.slice ia x.items.length ic,.slice ea x.expr.length ec,.bool x.history,.bool x.desc]:Array Value)[r]?=some v→W.cell? ⟨T,r,none⟩=some v):=fun W hW r v hv=>by rw[cell_of_row _ _ _ _ _ _ ((hW.block T (row_lt X1.out.1)).trans X1.out.1)];exact hv
 have YA:Hid (∀W,Below w1.heap.size w1 W→W.cell? ⟨T,0,none⟩=some (.int .u8 (x.kind:Int))∧W.cell? ⟨T,1,none⟩=some (.string (Lx.bs x.table))∧W.cell? ⟨T,2,none⟩=some (.string (Lx.bs x.field))∧W.cell? ⟨T,3,none⟩=some (.slice ia x.items.length ic)∧W.cell? ⟨T,4,none⟩=some (.slice ea x.expr.length ec)∧W.cell? ⟨T,5,none⟩=some (.bool x.history)∧W.cell? ⟨T,6,none⟩=some (.bool x.desc)):=fun W hW=>⟨YC.out W hW 0 _ rfl,YC.out W hW 1 _ rfl,YC.out W hW 2 _ rfl,YC.out W hW 3 _ rfl,YC.out W hW 4 _ rfl,YC.out W hW 5 _ rfl,YC.out W hW 6 _ rfl⟩
 obtain⟨y0,y1,y2,y3,y4,y5,y6⟩:=YA.out w1 (Below.refl _ _)
 clear hx hr hm hL
 go_enter Tryz.func7,Tryz.ntmps7
 go_upto_region 1 with fail
 rw[←hw1,←hT]
 clear hw1 hT
 go_wp2_with fail
 refine(CK.out).mono ?_
 rintro e w2 ⟨rfl,hb2⟩
 have X2:=hidp hb2
 obtain⟨y0,y1,y2,y3,y4,y5,y6⟩:=YA.out w2 X2.out
 clear hb2 CK
 go_wp2
 go_ret2
 exact⟨rfl,X1.out.2.trans (X2.out.mono X1.out.2.size)⟩
theorem print_c (x:St) (ia ea:Option Addr) (ic ec:Nat) (w:World) (hx:FitX x) (hm:StM w ia ea x) (hL:HasL w) (hO:HasO w):Calls Tryz.prog 7 #[.agg #[.int .u8 (x.kind:Int),.string (Lx.bs x.table),.string (Lx.bs x.field),.slice ia x.items.length ic,.slice ea x.expr.length ec,.bool x.history,.bool x.desc]] w fun e w'=>e=.returned (.tuple #[.string (Lx.bs (printX x)),.int .i64 (if rightX x=true then 0 else 13)])∧Below w.heap.size w w':=by
 by_cases hr:rightX x=true
 ·rw[if_pos hr]
  exact printt_c x ia ea ic ec w hx hr hm hL hO
 ·have e:printX x=[]:=by rw[printX,if_neg hr]
  rw[if_neg hr,e]
  exact printf_c x ia ea ic ec w hx (eq_false_of_ne_true hr) hm hL
end Ps
end Go.Proofs.YtfhkaffakniioaaGreatDoor
