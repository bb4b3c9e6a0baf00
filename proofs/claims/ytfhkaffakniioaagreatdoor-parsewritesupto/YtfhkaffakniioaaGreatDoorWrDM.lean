/- Several texts, joined. -/
import Derived.Test.YtfhkaffakniioaaGreatDoorQ73M
import Derived.Test.YtfhkaffakniioaaGreatDoorLxRuM
set_option maxHeartbeats 4000000
set_option maxRecDepth 100000
namespace Go.Proofs.YtfhkaffakniioaaGreatDoor
open Go.RowKit
namespace Ps
theorem rpath_c (t:Bs) (ht:t.length≤1048576) (w:World):Calls Tryz.prog 32 #[.string (Lx.bs t)] w fun e w'=>e=.returned (.bool (isPt t))∧Below w.heap.size w w':=by
 have CC:Hid (Calls Tryz.prog 55 #[.string (Lx.bs t),.int .u8 46] w fun e w'=>∃v,e=.returned v∧Hid (Below w.heap.size w w'∧OwnT w' w.heap.size v (cut 46 t))):=rcut_c t 46 ht w
 have CN:Hid (∀x∈cut 46 t,∀W,Calls Tryz.prog 35 #[.string (Lx.bs x)] W fun e w'=>e=.returned (.bool (isNm x))∧Below W.heap.size W w'):=fun x hx W=>rname_c x (Nat.le_trans (zcV 46 t x hx) ht) W
 have HF:=hidp (cut_few 46 t)
 have HT:=hidp ht
 obtain⟨l,hl⟩:∃l,l=cut 46 t:=⟨_,rfl⟩
 have HP:Hid (isPt t=(decide (t.length≤1024) && okL 0 l)):=by show _=_;rw[isPt,hl]
 rw[←hl] at CC CN HF
 obtain⟨s,hs⟩:∃s,s=Lx.bs t:=⟨_,rfl⟩
 have hsz:(s.size:Int)=(t.length:Int):=by rw[hs,Lx.bs_size]
 rw[←hs] at CC ⊢
 clear hl hs ht
 go_enter Tryz.func32,Tryz.ntmps32
 go_wp2_with fail
 refine(CC.out).mono ?_
 rintro e w1 ⟨v,rfl,G1⟩
 obtain⟨a,c,hv⟩:=G1.out.2.form
 obtain⟨n,hn⟩:∃n,n=l.length:=⟨_,rfl⟩
 rw[←hn] at hv
 subst hv
 obtain⟨e1,e2,e3,e4⟩:=G1.out.2.sr
 have HS:Hid (n=l.length∧n≤1048577∧n≤c∧SR w1 a l):=⟨hn,by rw[hn];have:=HF.out;have:=HT.out;omega,e2,e3⟩
 have B1:=hidp G1.out.1
 clear G1 CC e1 e2 e3 e4 hn
 go_wp2
 go_loopw [8] (fun v wr=>∃j:Nat,j≤n∧v=.int .i64 j∧Hid (okL 0 l=okL j (l.drop j)∧Below w1.heap.size w1 wr)) (fun v _=>n - (intOf v).toNat)
 case atStart=>exact⟨0,Nat.zero_le _,rfl,rfl,Below.refl _ _⟩
 case round =>
  obtain⟨j,hj,rfl,HI⟩:=hrel
  by_cases hlt:j<n
  ·have r0:(j:Int)<(n:Int):=by omega
   have r1:(0:Int)≤(j:Int):=by omega
   obtain⟨x,hx⟩:∃x,l[j]?=some x:=⟨_,List.getElem?_eq_getElem (by have:=HS.out.1;omega)⟩
   obtain⟨g,o,rfl,c0⟩:=(HS.out.2.2.2.call HI.out.2) j x hx
   have HX:Hid (okL 0 l=((isNm x || (decide (j≠0) && isNb x)) && okL (j+1) (l.drop (j+1)))∧j<n):=⟨by rw[HI.out.1];exact okL_step hx,hlt⟩
   have CX:=hidp (CN.out x (List.mem_of_getElem? hx) wr)
   have CM:Hid (∀W,Calls Tryz.prog 60 #[.string (Lx.bs x)] W fun e w'=>e=.returned (.bool (isNb x))∧Below W.heap.size W w'):=fun W=>rnum_c x W
   obtain⟨b,hb⟩:∃b,b=isNm x:=⟨_,rfl⟩
   obtain⟨d,hd⟩:∃d,d=isNb x:=⟨_,rfl⟩
   rw[←hb,←hd] at HX
   rw[←hb] at CX
   rw[←hd] at CM
   obtain⟨sx,hsx⟩:∃sx,sx=Lx.bs x:=⟨_,rfl⟩
   rw[←hsx] at c0 CX CM
   obtain⟨j1,hj1⟩:∃j1,j1=j+1:=⟨_,rfl⟩
   have HJ1:=hidp hj1
   have HV:Hid (IntKind.i64.wrap ((j:Int)+1)=(j1:Int)∧wrap64 ((j:Int)+1)=(j1:Int)):=wrp (by omega) (by have:=HS.out.2.1;omega)
   clear hx hj hb hd hsx hj1
   go_wp2_with fail
   refine(CX.out).mono ?_
   rintro e w2 ⟨rfl,hb2⟩
   have B2:Hid (Below w1.heap.size w1 w2):=HI.out.2.trans (hb2.mono HI.out.2.size)
   clear hb2 c0 CX
   cases b with
   | true =>
    have HX2:Hid (okL 0 l=okL j1 (l.drop j1)):=by show _=_;rw[HX.out.1,HJ1.out];simp
    obtain⟨v1,v2⟩:=HV.out
    clear hlt
    go_wp2
    clear v1 v2
    go_roundw
    all_goals first
     |(simp only[intOf];have:=HJ1.out;have:=HX.out.2;omega)
     | exact⟨j1,by have:=HJ1.out;have:=HX.out.2;omega,rfl,HX2.out,B2.out⟩
     |((repeat apply Exists.intro);exact⟨⟨j1,by have:=HJ1.out;have:=HX.out.2;omega,rfl,HX2.out,B2.out⟩,rfl⟩)
   | false =>
    by_cases h0:j=0
    ·have hz:((j:Int)==0)=true:=by rw[h0];rfl
     have HE:Hid (isPt t=false):=by show _=_;rw[HP.out,HX.out.1,h0];simp
     clear h0 hlt
     go_wp2
     go_ret
     exact⟨by rw[HE.out];rfl,B1.out.trans (B2.out.mono B1.out.size)⟩
    ·have hz:((j:Int)==0)=false:=by rw[beq_eq_false_iff_ne];omega
     have HD:Hid (okL 0 l=(d && okL j1 (l.drop j1))):=by show _=_;rw[HX.out.1,HJ1.out,decide_eq_true h0];simp
     clear h0 hlt
     go_wp2_with fail
     refine(CM.out w2).mono ?_
     rintro e w3 ⟨rfl,hb3⟩
     have B3:Hid (Below w1.heap.size w1 w3):=B2.out.trans (hb3.mono B2.out.size)
     clear hb3 CM
     cases d with
     | true =>
      have HX2:Hid (okL 0 l=okL j1 (l.drop j1)):=by show _=_;rw[HD.out,Bool.true_and]
      obtain⟨v1,v2⟩:=HV.out
      go_wp2
      clear v1 v2
      go_roundw
      all_goals first
       |(simp only[intOf];have:=HJ1.out;have:=HX.out.2;omega)
       | exact⟨j1,by have:=HJ1.out;have:=HX.out.2;omega,rfl,HX2.out,B3.out⟩
       |((repeat apply Exists.intro);exact⟨⟨j1,by have:=HJ1.out;have:=HX.out.2;omega,rfl,HX2.out,B3.out⟩,rfl⟩)
     | false =>
      have HE:Hid (isPt t=false):=by show _=_;rw[HP.out,HD.out,Bool.false_and,Bool.and_false]
      go_wp2
      go_ret
      exact⟨by rw[HE.out];rfl,B1.out.trans (B3.out.mono B1.out.size)⟩
  ·have r0:¬(j:Int)<(n:Int):=by omega
   have HE:Hid (isPt t=decide (t.length≤1024)):=by
    show _=_
    rw[HP.out,HI.out.1,List.drop_eq_nil_of_le (by have:=HS.out.1;omega),okL,Bool.and_true]
   clear hlt hj
   by_cases h1:t.length≤1024
   ·have h2:(t.length:Int)≤1024:=by omega
    rw[decide_eq_true h1] at HE
    go_wp2
    go_ret
    exact⟨by rw[HE.out];rfl,B1.out.trans (HI.out.2.mono B1.out.size)⟩
   ·have h2:¬(t.length:Int)≤1024:=by omega
    rw[decide_eq_false h1] at HE
    go_wp2
    go_ret
    exact⟨by rw[HE.out];rfl,B1.out.trans (HI.out.2.mono B1.out.size)⟩
theorem tk_low (s:ByteArray) (pn:Int)  (w:World):Calls Tryz.prog 12 #[.agg #[.int .u8 0,.string s,.int .i64 pn]] w fun e w'=>e=.returned (.tuple #[.int .i64 0,.bool false])∧Below w.heap.size w w':=by
 obtain⟨w1,hw1⟩:∃w1,w1=w.alloc (.cells #[.int .u8 0,.string s,.int .i64 pn] 29):=⟨_,rfl⟩
 obtain⟨T,hT⟩:∃T,T=w.heap.size:=⟨_,rfl⟩
 have X1:Hid (w1.heap[T]?=some (.cells #[.int .u8 0,.string s,.int .i64 pn] 29 (0,0))∧Below w.heap.size w w1):=⟨by rw[hw1,hT];exact heap_alloc_new w _,by rw[hw1];exact bnew _ _⟩
 have y0:w1.cell? ⟨T,0,none⟩=some (.int .u8 0):=by rw[cell_of_row _ _ _ _ _ _ X1.out.1];rfl
 have y1:w1.cell? ⟨T,1,none⟩=some (.string s):=by rw[cell_of_row _ _ _ _ _ _ X1.out.1];rfl
 have y2:w1.cell? ⟨T,2,none⟩=some (.int .i64 pn):=by rw[cell_of_row _ _ _ _ _ _ X1.out.1];rfl
 go_enter Tryz.func12,Tryz.ntmps12
 go_upto_region 1 with fail
 rw[←hw1,←hT]
 clear hw1 hT
 go_wp2
 go_ret2
 exact⟨rfl,X1.out.2⟩
theorem tk_high (s:ByteArray) (pn:Int) (k:Int) (hk:23≤k)  (w:World):Calls Tryz.prog 12 #[.agg #[.int .u8 k,.string s,.int .i64 pn]] w fun e w'=>e=.returned (.tuple #[.int .i64 0,.bool false])∧Below w.heap.size w w':=by
 have k1:¬k<1:=by omega
 obtain⟨w1,hw1⟩:∃w1,w1=w.alloc (.cells #[.int .u8 k,.string s,.int .i64 pn] 29):=⟨_,rfl⟩
 obtain⟨T,hT⟩:∃T,T=w.heap.size:=⟨_,rfl⟩
 have X1:Hid (w1.heap[T]?=some (.cells #[.int .u8 k,.string s,.int .i64 pn] 29 (0,0))∧Below w.heap.size w w1):=⟨by rw[hw1,hT];exact heap_alloc_new w _,by rw[hw1];exact bnew _ _⟩
 have y0:w1.cell? ⟨T,0,none⟩=some (.int .u8 k):=by rw[cell_of_row _ _ _ _ _ _ X1.out.1];rfl
 have y1:w1.cell? ⟨T,1,none⟩=some (.string s):=by rw[cell_of_row _ _ _ _ _ _ X1.out.1];rfl
 have y2:w1.cell? ⟨T,2,none⟩=some (.int .i64 pn):=by rw[cell_of_row _ _ _ _ _ _ X1.out.1];rfl
 go_enter Tryz.func12,Tryz.ntmps12
 go_upto_region 1 with fail
 rw[←hw1,←hT]
 clear hw1 hT
 go_wp2
 go_ret2
 exact⟨rfl,X1.out.2⟩
theorem tk4_a (s:ByteArray) (pn:Int) (he:s.toList.isEmpty=false)  (w:World):Calls Tryz.prog 12 #[.agg #[.int .u8 4,.string s,.int .i64 pn]] w fun e w'=>e=.returned (.tuple #[.int .i64 0,.bool false])∧Below w.heap.size w w':=by
 have he2:(s.toList==[])=false:=by cases h:s.toList<;>simp_all
 have he3:(s.toList != [])=true:=by rw[bne,he2];rfl
 obtain⟨w1,hw1⟩:∃w1,w1=w.alloc (.cells #[.int .u8 4,.string s,.int .i64 pn] 29):=⟨_,rfl⟩
 obtain⟨T,hT⟩:∃T,T=w.heap.size:=⟨_,rfl⟩
 have X1:Hid (w1.heap[T]?=some (.cells #[.int .u8 4,.string s,.int .i64 pn] 29 (0,0))∧Below w.heap.size w w1):=⟨by rw[hw1,hT];exact heap_alloc_new w _,by rw[hw1];exact bnew _ _⟩
 have y0:w1.cell? ⟨T,0,none⟩=some (.int .u8 4):=by rw[cell_of_row _ _ _ _ _ _ X1.out.1];rfl
 have y1:w1.cell? ⟨T,1,none⟩=some (.string s):=by rw[cell_of_row _ _ _ _ _ _ X1.out.1];rfl
 have y2:w1.cell? ⟨T,2,none⟩=some (.int .i64 pn):=by rw[cell_of_row _ _ _ _ _ _ X1.out.1];rfl
 go_enter Tryz.func12,Tryz.ntmps12
 go_upto_region 1 with fail
 rw[←hw1,←hT]
 clear hw1 hT
 go_wp2
 go_ret2
 exact⟨rfl,X1.out.2⟩
theorem tk4_b (s:ByteArray) (pn:Int) (he:s.toList.isEmpty=true) (hn:0≤pn)  (w:World):Calls Tryz.prog 12 #[.agg #[.int .u8 4,.string s,.int .i64 pn]] w fun e w'=>e=.returned (.tuple #[.int .i64 0,.bool true])∧Below w.heap.size w w':=by
 have he2:(s.toList==[])=true:=by cases h:s.toList<;>simp_all
 have he3:(s.toList != [])=false:=by rw[bne,he2];rfl
 obtain⟨w1,hw1⟩:∃w1,w1=w.alloc (.cells #[.int .u8 4,.string s,.int .i64 pn] 29):=⟨_,rfl⟩
 obtain⟨T,hT⟩:∃T,T=w.heap.size:=⟨_,rfl⟩
 have X1:Hid (w1.heap[T]?=some (.cells #[.int .u8 4,.string s,.int .i64 pn] 29 (0,0))∧Below w.heap.size w w1):=⟨by rw[hw1,hT];exact heap_alloc_new w _,by rw[hw1];exact bnew _ _⟩
 have y0:w1.cell? ⟨T,0,none⟩=some (.int .u8 4):=by rw[cell_of_row _ _ _ _ _ _ X1.out.1];rfl
 have y1:w1.cell? ⟨T,1,none⟩=some (.string s):=by rw[cell_of_row _ _ _ _ _ _ X1.out.1];rfl
 have y2:w1.cell? ⟨T,2,none⟩=some (.int .i64 pn):=by rw[cell_of_row _ _ _ _ _ _ X1.out.1];rfl
 go_enter Tryz.func12,Tryz.ntmps12
 go_upto_region 1 with fail
 rw[←hw1,←hT]
 clear hw1 hT
 go_upto_region 7 with fail
 go_region_held3 (fun W'=>W'.cell? ⟨T,2,none⟩=some (.int .i64 pn)) (go_keep) (fail)
 go_wp2
 go_ret2
 exact⟨rfl,X1.out.2.drew⟩
theorem tk4_c (s:ByteArray) (pn:Int) (he:s.toList.isEmpty=true) (hn:¬0≤pn)  (w:World):Calls Tryz.prog 12 #[.agg #[.int .u8 4,.string s,.int .i64 pn]] w fun e w'=>e=.returned (.tuple #[.int .i64 0,.bool false])∧Below w.heap.size w w':=by
 have he2:(s.toList==[])=true:=by cases h:s.toList<;>simp_all
 have he3:(s.toList != [])=false:=by rw[bne,he2];rfl
 obtain⟨w1,hw1⟩:∃w1,w1=w.alloc (.cells #[.int .u8 4,.string s,.int .i64 pn] 29):=⟨_,rfl⟩
 obtain⟨T,hT⟩:∃T,T=w.heap.size:=⟨_,rfl⟩
 have X1:Hid (w1.heap[T]?=some (.cells #[.int .u8 4,.string s,.int .i64 pn] 29 (0,0))∧Below w.heap.size w w1):=⟨by rw[hw1,hT];exact heap_alloc_new w _,by rw[hw1];exact bnew _ _⟩
 have y0:w1.cell? ⟨T,0,none⟩=some (.int .u8 4):=by rw[cell_of_row _ _ _ _ _ _ X1.out.1];rfl
 have y1:w1.cell? ⟨T,1,none⟩=some (.string s):=by rw[cell_of_row _ _ _ _ _ _ X1.out.1];rfl
 have y2:w1.cell? ⟨T,2,none⟩=some (.int .i64 pn):=by rw[cell_of_row _ _ _ _ _ _ X1.out.1];rfl
 go_enter Tryz.func12,Tryz.ntmps12
 go_upto_region 1 with fail
 rw[←hw1,←hT]
 clear hw1 hT
 go_upto_region 7 with fail
 go_region_held3 (fun W'=>W'.cell? ⟨T,2,none⟩=some (.int .i64 pn)) (go_keep) (fail)
 go_wp2
 go_ret2
 exact⟨rfl,X1.out.2.drew⟩
theorem tk5_a (s:ByteArray) (pn:Int) (hn:(pn==0)=false)  (w:World):Calls Tryz.prog 12 #[.agg #[.int .u8 5,.string s,.int .i64 pn]] w fun e w'=>e=.returned (.tuple #[.int .i64 0,.bool false])∧Below w.heap.size w w':=by
 have hn2:(pn != 0)=true:=by rw[bne,hn];rfl
 obtain⟨w1,hw1⟩:∃w1,w1=w.alloc (.cells #[.int .u8 5,.string s,.int .i64 pn] 29):=⟨_,rfl⟩
 obtain⟨T,hT⟩:∃T,T=w.heap.size:=⟨_,rfl⟩
 have X1:Hid (w1.heap[T]?=some (.cells #[.int .u8 5,.string s,.int .i64 pn] 29 (0,0))∧Below w.heap.size w w1):=⟨by rw[hw1,hT];exact heap_alloc_new w _,by rw[hw1];exact bnew _ _⟩
 have y0:w1.cell? ⟨T,0,none⟩=some (.int .u8 5):=by rw[cell_of_row _ _ _ _ _ _ X1.out.1];rfl
 have y1:w1.cell? ⟨T,1,none⟩=some (.string s):=by rw[cell_of_row _ _ _ _ _ _ X1.out.1];rfl
 have y2:w1.cell? ⟨T,2,none⟩=some (.int .i64 pn):=by rw[cell_of_row _ _ _ _ _ _ X1.out.1];rfl
 go_enter Tryz.func12,Tryz.ntmps12
 go_upto_region 1 with fail
 rw[←hw1,←hT]
 clear hw1 hT
 go_wp2
 go_ret2
 exact⟨rfl,X1.out.2⟩
theorem tk5_b (s:ByteArray) (pn:Int) (hn:(pn==0)=true) (hl:¬(s.size:Int)≤1024)  (w:World):Calls Tryz.prog 12 #[.agg #[.int .u8 5,.string s,.int .i64 pn]] w fun e w'=>e=.returned (.tuple #[.int .i64 0,.bool false])∧Below w.heap.size w w':=by
 have hn2:(pn != 0)=false:=by rw[bne,hn];rfl
 obtain⟨w1,hw1⟩:∃w1,w1=w.alloc (.cells #[.int .u8 5,.string s,.int .i64 pn] 29):=⟨_,rfl⟩
 obtain⟨T,hT⟩:∃T,T=w.heap.size:=⟨_,rfl⟩
 have X1:Hid (w1.heap[T]?=some (.cells #[.int .u8 5,.string s,.int .i64 pn] 29 (0,0))∧Below w.heap.size w w1):=⟨by rw[hw1,hT];exact heap_alloc_new w _,by rw[hw1];exact bnew _ _⟩
 have y0:w1.cell? ⟨T,0,none⟩=some (.int .u8 5):=by rw[cell_of_row _ _ _ _ _ _ X1.out.1];rfl
 have y1:w1.cell? ⟨T,1,none⟩=some (.string s):=by rw[cell_of_row _ _ _ _ _ _ X1.out.1];rfl
 have y2:w1.cell? ⟨T,2,none⟩=some (.int .i64 pn):=by rw[cell_of_row _ _ _ _ _ _ X1.out.1];rfl
 go_enter Tryz.func12,Tryz.ntmps12
 go_upto_region 1 with fail
 rw[←hw1,←hT]
 clear hw1 hT
 go_wp2
 go_ret2
 exact⟨rfl,X1.out.2⟩
theorem tk5_c (s:ByteArray) (pn:Int) (u:Bool) (hn:(pn==0)=true) (hl:(s.size:Int)≤1024) (w:World) (hc:∀W,Calls Tryz.prog 31 #[.string s] W fun e w'=>e=.returned (.bool u)∧Below W.heap.size W w'):Calls Tryz.prog 12 #[.agg #[.int .u8 5,.string s,.int .i64 pn]] w fun e w'=>e=.returned (.tuple #[.int .i64 0,.bool u])∧Below w.heap.size w w':=by
 have HC:=hidp hc
 clear hc
 have hn2:(pn != 0)=false:=by rw[bne,hn];rfl
 obtain⟨w1,hw1⟩:∃w1,w1=w.alloc (.cells #[.int .u8 5,.string s,.int .i64 pn] 29):=⟨_,rfl⟩
 obtain⟨T,hT⟩:∃T,T=w.heap.size:=⟨_,rfl⟩
 have X1:Hid (w1.heap[T]?=some (.cells #[.int .u8 5,.string s,.int .i64 pn] 29 (0,0))∧Below w.heap.size w w1):=⟨by rw[hw1,hT];exact heap_alloc_new w _,by rw[hw1];exact bnew _ _⟩
 have y0:w1.cell? ⟨T,0,none⟩=some (.int .u8 5):=by rw[cell_of_row _ _ _ _ _ _ X1.out.1];rfl
 have y1:w1.cell? ⟨T,1,none⟩=some (.string s):=by rw[cell_of_row _ _ _ _ _ _ X1.out.1];rfl
 have y2:w1.cell? ⟨T,2,none⟩=some (.int .i64 pn):=by rw[cell_of_row _ _ _ _ _ _ X1.out.1];rfl
 go_enter Tryz.func12,Tryz.ntmps12
 go_upto_region 1 with fail
 rw[←hw1,←hT]
 clear hw1 hT
 go_wp2_with fail
 refine(HC.out w1).mono ?_
 rintro e w2 ⟨rfl,hb2⟩
 have X2:Hid (Below w.heap.size w w2):=X1.out.2.trans (hb2.mono X1.out.2.size)
 have z2:w2.cell? ⟨T,2,none⟩=some (.int .i64 pn):=(hb2.cell (p:=⟨T,2,none⟩) (block_lt_of_cell y2)).trans y2
 clear hb2 HC y0 y1 y2
 go_wp2
 go_ret2
 exact⟨rfl,X2.out⟩
theorem tk6_a (s:ByteArray) (pn:Int) (hn:(pn==0)=false)  (w:World):Calls Tryz.prog 12 #[.agg #[.int .u8 6,.string s,.int .i64 pn]] w fun e w'=>e=.returned (.tuple #[.int .i64 0,.bool false])∧Below w.heap.size w w':=by
 have hn2:(pn != 0)=true:=by rw[bne,hn];rfl
 obtain⟨w1,hw1⟩:∃w1,w1=w.alloc (.cells #[.int .u8 6,.string s,.int .i64 pn] 29):=⟨_,rfl⟩
 obtain⟨T,hT⟩:∃T,T=w.heap.size:=⟨_,rfl⟩
 have X1:Hid (w1.heap[T]?=some (.cells #[.int .u8 6,.string s,.int .i64 pn] 29 (0,0))∧Below w.heap.size w w1):=⟨by rw[hw1,hT];exact heap_alloc_new w _,by rw[hw1];exact bnew _ _⟩
 have y0:w1.cell? ⟨T,0,none⟩=some (.int .u8 6):=by rw[cell_of_row _ _ _ _ _ _ X1.out.1];rfl
 have y1:w1.cell? ⟨T,1,none⟩=some (.string s):=by rw[cell_of_row _ _ _ _ _ _ X1.out.1];rfl
 have y2:w1.cell? ⟨T,2,none⟩=some (.int .i64 pn):=by rw[cell_of_row _ _ _ _ _ _ X1.out.1];rfl
 go_enter Tryz.func12,Tryz.ntmps12
 go_upto_region 1 with fail
 rw[←hw1,←hT]
 clear hw1 hT
 go_wp2
 go_ret2
 exact⟨rfl,X1.out.2⟩
theorem tk6_b (s:ByteArray) (pn:Int) (u:Bool) (hn:(pn==0)=true) (w:World) (hc:∀W,Calls Tryz.prog 32 #[.string s] W fun e w'=>e=.returned (.bool u)∧Below W.heap.size W w'):Calls Tryz.prog 12 #[.agg #[.int .u8 6,.string s,.int .i64 pn]] w fun e w'=>e=.returned (.tuple #[.int .i64 0,.bool u])∧Below w.heap.size w w':=by
 have HC:=hidp hc
 clear hc
 have hn2:(pn != 0)=false:=by rw[bne,hn];rfl
 obtain⟨w1,hw1⟩:∃w1,w1=w.alloc (.cells #[.int .u8 6,.string s,.int .i64 pn] 29):=⟨_,rfl⟩
 obtain⟨T,hT⟩:∃T,T=w.heap.size:=⟨_,rfl⟩
 have X1:Hid (w1.heap[T]?=some (.cells #[.int .u8 6,.string s,.int .i64 pn] 29 (0,0))∧Below w.heap.size w w1):=⟨by rw[hw1,hT];exact heap_alloc_new w _,by rw[hw1];exact bnew _ _⟩
 have y0:w1.cell? ⟨T,0,none⟩=some (.int .u8 6):=by rw[cell_of_row _ _ _ _ _ _ X1.out.1];rfl
 have y1:w1.cell? ⟨T,1,none⟩=some (.string s):=by rw[cell_of_row _ _ _ _ _ _ X1.out.1];rfl
 have y2:w1.cell? ⟨T,2,none⟩=some (.int .i64 pn):=by rw[cell_of_row _ _ _ _ _ _ X1.out.1];rfl
 go_enter Tryz.func12,Tryz.ntmps12
 go_upto_region 1 with fail
 rw[←hw1,←hT]
 clear hw1 hT
 go_wp2_with fail
 refine(HC.out w1).mono ?_
 rintro e w2 ⟨rfl,hb2⟩
 have X2:Hid (Below w.heap.size w w2):=X1.out.2.trans (hb2.mono X1.out.2.size)
 have z2:w2.cell? ⟨T,2,none⟩=some (.int .i64 pn):=(hb2.cell (p:=⟨T,2,none⟩) (block_lt_of_cell y2)).trans y2
 clear hb2 HC y0 y1 y2
 go_wp2
 go_ret2
 exact⟨rfl,X2.out⟩
theorem tk7_a (s:ByteArray) (pn:Int) (he:s.toList.isEmpty=false)  (w:World):Calls Tryz.prog 12 #[.agg #[.int .u8 7,.string s,.int .i64 pn]] w fun e w'=>e=.returned (.tuple #[.int .i64 0,.bool false])∧Below w.heap.size w w':=by
 have he2:(s.toList==[])=false:=by cases h:s.toList<;>simp_all
 have he3:(s.toList != [])=true:=by rw[bne,he2];rfl
 obtain⟨w1,hw1⟩:∃w1,w1=w.alloc (.cells #[.int .u8 7,.string s,.int .i64 pn] 29):=⟨_,rfl⟩
 obtain⟨T,hT⟩:∃T,T=w.heap.size:=⟨_,rfl⟩
 have X1:Hid (w1.heap[T]?=some (.cells #[.int .u8 7,.string s,.int .i64 pn] 29 (0,0))∧Below w.heap.size w w1):=⟨by rw[hw1,hT];exact heap_alloc_new w _,by rw[hw1];exact bnew _ _⟩
 have y0:w1.cell? ⟨T,0,none⟩=some (.int .u8 7):=by rw[cell_of_row _ _ _ _ _ _ X1.out.1];rfl
 have y1:w1.cell? ⟨T,1,none⟩=some (.string s):=by rw[cell_of_row _ _ _ _ _ _ X1.out.1];rfl
 have y2:w1.cell? ⟨T,2,none⟩=some (.int .i64 pn):=by rw[cell_of_row _ _ _ _ _ _ X1.out.1];rfl
 go_enter Tryz.func12,Tryz.ntmps12
 go_upto_region 1 with fail
 rw[←hw1,←hT]
 clear hw1 hT
 go_wp2
 go_ret2
 exact⟨rfl,X1.out.2⟩
theorem tk7_b (s:ByteArray) (pn:Int) (he:s.toList.isEmpty=true) (hn:pn<0)  (w:World):Calls Tryz.prog 12 #[.agg #[.int .u8 7,.string s,.int .i64 pn]] w fun e w'=>e=.returned (.tuple #[.int .i64 0,.bool false])∧Below w.heap.size w w':=by
 have he2:(s.toList==[])=true:=by cases h:s.toList<;>simp_all
 have he3:(s.toList != [])=false:=by rw[bne,he2];rfl
 obtain⟨w1,hw1⟩:∃w1,w1=w.alloc (.cells #[.int .u8 7,.string s,.int .i64 pn] 29):=⟨_,rfl⟩
 obtain⟨T,hT⟩:∃T,T=w.heap.size:=⟨_,rfl⟩
 have X1:Hid (w1.heap[T]?=some (.cells #[.int .u8 7,.string s,.int .i64 pn] 29 (0,0))∧Below w.heap.size w w1):=⟨by rw[hw1,hT];exact heap_alloc_new w _,by rw[hw1];exact bnew _ _⟩
 have y0:w1.cell? ⟨T,0,none⟩=some (.int .u8 7):=by rw[cell_of_row _ _ _ _ _ _ X1.out.1];rfl
 have y1:w1.cell? ⟨T,1,none⟩=some (.string s):=by rw[cell_of_row _ _ _ _ _ _ X1.out.1];rfl
 have y2:w1.cell? ⟨T,2,none⟩=some (.int .i64 pn):=by rw[cell_of_row _ _ _ _ _ _ X1.out.1];rfl
 go_enter Tryz.func12,Tryz.ntmps12
 go_upto_region 1 with fail
 rw[←hw1,←hT]
 clear hw1 hT
 go_wp2
 go_ret2
 exact⟨rfl,X1.out.2⟩
theorem tk7_c (s:ByteArray) (pn:Int) (he:s.toList.isEmpty=true) (hn:¬pn<0) (hm:64<pn)  (w:World):Calls Tryz.prog 12 #[.agg #[.int .u8 7,.string s,.int .i64 pn]] w fun e w'=>e=.returned (.tuple #[.int .i64 0,.bool false])∧Below w.heap.size w w':=by
 have he2:(s.toList==[])=true:=by cases h:s.toList<;>simp_all
 have he3:(s.toList != [])=false:=by rw[bne,he2];rfl
 obtain⟨w1,hw1⟩:∃w1,w1=w.alloc (.cells #[.int .u8 7,.string s,.int .i64 pn] 29):=⟨_,rfl⟩
 obtain⟨T,hT⟩:∃T,T=w.heap.size:=⟨_,rfl⟩
 have X1:Hid (w1.heap[T]?=some (.cells #[.int .u8 7,.string s,.int .i64 pn] 29 (0,0))∧Below w.heap.size w w1):=⟨by rw[hw1,hT];exact heap_alloc_new w _,by rw[hw1];exact bnew _ _⟩
 have y0:w1.cell? ⟨T,0,none⟩=some (.int .u8 7):=by rw[cell_of_row _ _ _ _ _ _ X1.out.1];rfl
 have y1:w1.cell? ⟨T,1,none⟩=some (.string s):=by rw[cell_of_row _ _ _ _ _ _ X1.out.1];rfl
 have y2:w1.cell? ⟨T,2,none⟩=some (.int .i64 pn):=by rw[cell_of_row _ _ _ _ _ _ X1.out.1];rfl
 go_enter Tryz.func12,Tryz.ntmps12
 go_upto_region 1 with fail
 rw[←hw1,←hT]
 clear hw1 hT
 go_wp2
 go_ret2
 exact⟨rfl,X1.out.2⟩
theorem tk7_d (s:ByteArray) (pn:Int) (he:s.toList.isEmpty=true) (hn:¬pn<0) (hm:¬64<pn)  (w:World):Calls Tryz.prog 12 #[.agg #[.int .u8 7,.string s,.int .i64 pn]] w fun e w'=>e=.returned (.tuple #[.int .i64 pn,.bool true])∧Below w.heap.size w w':=by
 have he2:(s.toList==[])=true:=by cases h:s.toList<;>simp_all
 have he3:(s.toList != [])=false:=by rw[bne,he2];rfl
 obtain⟨w1,hw1⟩:∃w1,w1=w.alloc (.cells #[.int .u8 7,.string s,.int .i64 pn] 29):=⟨_,rfl⟩
 obtain⟨T,hT⟩:∃T,T=w.heap.size:=⟨_,rfl⟩
 have X1:Hid (w1.heap[T]?=some (.cells #[.int .u8 7,.string s,.int .i64 pn] 29 (0,0))∧Below w.heap.size w w1):=⟨by rw[hw1,hT];exact heap_alloc_new w _,by rw[hw1];exact bnew _ _⟩
 have y0:w1.cell? ⟨T,0,none⟩=some (.int .u8 7):=by rw[cell_of_row _ _ _ _ _ _ X1.out.1];rfl
 have y1:w1.cell? ⟨T,1,none⟩=some (.string s):=by rw[cell_of_row _ _ _ _ _ _ X1.out.1];rfl
 have y2:w1.cell? ⟨T,2,none⟩=some (.int .i64 pn):=by rw[cell_of_row _ _ _ _ _ _ X1.out.1];rfl
 go_enter Tryz.func12,Tryz.ntmps12
 go_upto_region 1 with fail
 rw[←hw1,←hT]
 clear hw1 hT
 go_wp2
 go_ret2
 exact⟨rfl,X1.out.2⟩
theorem tk8_a (s:ByteArray) (pn:Int) (hn:pn<0)  (w:World):Calls Tryz.prog 12 #[.agg #[.int .u8 8,.string s,.int .i64 pn]] w fun e w'=>e=.returned (.tuple #[.int .i64 0,.bool false])∧Below w.heap.size w w':=by
 obtain⟨w1,hw1⟩:∃w1,w1=w.alloc (.cells #[.int .u8 8,.string s,.int .i64 pn] 29):=⟨_,rfl⟩
 obtain⟨T,hT⟩:∃T,T=w.heap.size:=⟨_,rfl⟩
 have X1:Hid (w1.heap[T]?=some (.cells #[.int .u8 8,.string s,.int .i64 pn] 29 (0,0))∧Below w.heap.size w w1):=⟨by rw[hw1,hT];exact heap_alloc_new w _,by rw[hw1];exact bnew _ _⟩
 have y0:w1.cell? ⟨T,0,none⟩=some (.int .u8 8):=by rw[cell_of_row _ _ _ _ _ _ X1.out.1];rfl
 have y1:w1.cell? ⟨T,1,none⟩=some (.string s):=by rw[cell_of_row _ _ _ _ _ _ X1.out.1];rfl
 have y2:w1.cell? ⟨T,2,none⟩=some (.int .i64 pn):=by rw[cell_of_row _ _ _ _ _ _ X1.out.1];rfl
 go_enter Tryz.func12,Tryz.ntmps12
 go_upto_region 1 with fail
 rw[←hw1,←hT]
 clear hw1 hT
 go_wp2
 go_ret2
 exact⟨rfl,X1.out.2⟩
theorem tk8_b (s:ByteArray) (pn:Int) (hn:¬pn<0) (hm:64<pn)  (w:World):Calls Tryz.prog 12 #[.agg #[.int .u8 8,.string s,.int .i64 pn]] w fun e w'=>e=.returned (.tuple #[.int .i64 0,.bool false])∧Below w.heap.size w w':=by
 obtain⟨w1,hw1⟩:∃w1,w1=w.alloc (.cells #[.int .u8 8,.string s,.int .i64 pn] 29):=⟨_,rfl⟩
 obtain⟨T,hT⟩:∃T,T=w.heap.size:=⟨_,rfl⟩
 have X1:Hid (w1.heap[T]?=some (.cells #[.int .u8 8,.string s,.int .i64 pn] 29 (0,0))∧Below w.heap.size w w1):=⟨by rw[hw1,hT];exact heap_alloc_new w _,by rw[hw1];exact bnew _ _⟩
 have y0:w1.cell? ⟨T,0,none⟩=some (.int .u8 8):=by rw[cell_of_row _ _ _ _ _ _ X1.out.1];rfl
 have y1:w1.cell? ⟨T,1,none⟩=some (.string s):=by rw[cell_of_row _ _ _ _ _ _ X1.out.1];rfl
 have y2:w1.cell? ⟨T,2,none⟩=some (.int .i64 pn):=by rw[cell_of_row _ _ _ _ _ _ X1.out.1];rfl
 go_enter Tryz.func12,Tryz.ntmps12
 go_upto_region 1 with fail
 rw[←hw1,←hT]
 clear hw1 hT
 go_wp2
 go_ret2
 exact⟨rfl,X1.out.2⟩
theorem tk8_c (s:ByteArray) (pn:Int) (u:Bool) (hn:¬pn<0) (hm:¬64<pn) (w:World) (hc:∀W,Calls Tryz.prog 33 #[.string s,.int .i64 pn] W fun e w'=>e=.returned (.bool u)∧Below W.heap.size W w'):Calls Tryz.prog 12 #[.agg #[.int .u8 8,.string s,.int .i64 pn]] w fun e w'=>e=.returned (.tuple #[.int .i64 (if u=true then pn else 0),.bool u])∧Below w.heap.size w w':=by
 have HC:=hidp hc
 clear hc
 obtain⟨w1,hw1⟩:∃w1,w1=w.alloc (.cells #[.int .u8 8,.string s,.int .i64 pn] 29):=⟨_,rfl⟩
 obtain⟨T,hT⟩:∃T,T=w.heap.size:=⟨_,rfl⟩
 have X1:Hid (w1.heap[T]?=some (.cells #[.int .u8 8,.string s,.int .i64 pn] 29 (0,0))∧Below w.heap.size w w1):=⟨by rw[hw1,hT];exact heap_alloc_new w _,by rw[hw1];exact bnew _ _⟩
 have y0:w1.cell? ⟨T,0,none⟩=some (.int .u8 8):=by rw[cell_of_row _ _ _ _ _ _ X1.out.1];rfl
 have y1:w1.cell? ⟨T,1,none⟩=some (.string s):=by rw[cell_of_row _ _ _ _ _ _ X1.out.1];rfl
 have y2:w1.cell? ⟨T,2,none⟩=some (.int .i64 pn):=by rw[cell_of_row _ _ _ _ _ _ X1.out.1];rfl
 go_enter Tryz.func12,Tryz.ntmps12
 go_upto_region 1 with fail
 rw[←hw1,←hT]
 clear hw1 hT
 go_wp2_with fail
 refine(HC.out w1).mono ?_
 rintro e w2 ⟨rfl,hb2⟩
 have X2:Hid (Below w.heap.size w w2):=X1.out.2.trans (hb2.mono X1.out.2.size)
 have z2:w2.cell? ⟨T,2,none⟩=some (.int .i64 pn):=(hb2.cell (p:=⟨T,2,none⟩) (block_lt_of_cell y2)).trans y2
 clear hb2 HC y0 y1 y2
 cases u with
 | false =>
  go_wp2
  go_ret2
  exact⟨rfl,X2.out⟩
 | true =>
  go_wp2
  go_ret2
  exact⟨rfl,X2.out⟩
theorem tko_a (s:ByteArray) (pn:Int) (k:Int) (k1:¬k<1) (k2:¬23≤k) (k4:(k==4)=false) (k5:(k==5)=false) (k6:(k==6)=false) (k7:(k==7)=false) (k8:(k==8)=false) (he:s.toList.isEmpty=false)  (w:World):Calls Tryz.prog 12 #[.agg #[.int .u8 k,.string s,.int .i64 pn]] w fun e w'=>e=.returned (.tuple #[.int .i64 0,.bool false])∧Below w.heap.size w w':=by
 have m4:(k != 4)=true:=by rw[bne,k4];rfl
 have m5:(k != 5)=true:=by rw[bne,k5];rfl
 have m6:(k != 6)=true:=by rw[bne,k6];rfl
 have m7:(k != 7)=true:=by rw[bne,k7];rfl
 have m8:(k != 8)=true:=by rw[bne,k8];rfl
 have he2:(s.toList==[])=false:=by cases h:s.toList<;>simp_all
 have he3:(s.toList != [])=true:=by rw[bne,he2];rfl
 obtain⟨w1,hw1⟩:∃w1,w1=w.alloc (.cells #[.int .u8 k,.string s,.int .i64 pn] 29):=⟨_,rfl⟩
 obtain⟨T,hT⟩:∃T,T=w.heap.size:=⟨_,rfl⟩
 have X1:Hid (w1.heap[T]?=some (.cells #[.int .u8 k,.string s,.int .i64 pn] 29 (0,0))∧Below w.heap.size w w1):=⟨by rw[hw1,hT];exact heap_alloc_new w _,by rw[hw1];exact bnew _ _⟩
 have y0:w1.cell? ⟨T,0,none⟩=some (.int .u8 k):=by rw[cell_of_row _ _ _ _ _ _ X1.out.1];rfl
 have y1:w1.cell? ⟨T,1,none⟩=some (.string s):=by rw[cell_of_row _ _ _ _ _ _ X1.out.1];rfl
 have y2:w1.cell? ⟨T,2,none⟩=some (.int .i64 pn):=by rw[cell_of_row _ _ _ _ _ _ X1.out.1];rfl
 go_enter Tryz.func12,Tryz.ntmps12
 go_upto_region 1 with fail
 rw[←hw1,←hT]
 clear hw1 hT
 go_wp2
 go_ret2
 exact⟨rfl,X1.out.2⟩
theorem tko_b (s:ByteArray) (pn:Int) (k:Int) (k1:¬k<1) (k2:¬23≤k) (k4:(k==4)=false) (k5:(k==5)=false) (k6:(k==6)=false) (k7:(k==7)=false) (k8:(k==8)=false) (he:s.toList.isEmpty=true) (hn:(pn==0)=false)  (w:World):Calls Tryz.prog 12 #[.agg #[.int .u8 k,.string s,.int .i64 pn]] w fun e w'=>e=.returned (.tuple #[.int .i64 0,.bool false])∧Below w.heap.size w w':=by
 have m4:(k != 4)=true:=by rw[bne,k4];rfl
 have m5:(k != 5)=true:=by rw[bne,k5];rfl
 have m6:(k != 6)=true:=by rw[bne,k6];rfl
 have m7:(k != 7)=true:=by rw[bne,k7];rfl
 have m8:(k != 8)=true:=by rw[bne,k8];rfl
 have he2:(s.toList==[])=true:=by cases h:s.toList<;>simp_all
 have he3:(s.toList != [])=false:=by rw[bne,he2];rfl
 have hn2:(pn != 0)=true:=by rw[bne,hn];rfl
 obtain⟨w1,hw1⟩:∃w1,w1=w.alloc (.cells #[.int .u8 k,.string s,.int .i64 pn] 29):=⟨_,rfl⟩
 obtain⟨T,hT⟩:∃T,T=w.heap.size:=⟨_,rfl⟩
 have X1:Hid (w1.heap[T]?=some (.cells #[.int .u8 k,.string s,.int .i64 pn] 29 (0,0))∧Below w.heap.size w w1):=⟨by rw[hw1,hT];exact heap_alloc_new w _,by rw[hw1];exact bnew _ _⟩
 have y0:w1.cell? ⟨T,0,none⟩=some (.int .u8 k):=by rw[cell_of_row _ _ _ _ _ _ X1.out.1];rfl
 have y1:w1.cell? ⟨T,1,none⟩=some (.string s):=by rw[cell_of_row _ _ _ _ _ _ X1.out.1];rfl
 have y2:w1.cell? ⟨T,2,none⟩=some (.int .i64 pn):=by rw[cell_of_row _ _ _ _ _ _ X1.out.1];rfl
 go_enter Tryz.func12,Tryz.ntmps12
 go_upto_region 1 with fail
 rw[←hw1,←hT]
 clear hw1 hT
 go_wp2
 go_ret2
 exact⟨rfl,X1.out.2⟩
theorem tko_c (s:ByteArray) (pn:Int) (k:Int) (k1:¬k<1) (k2:¬23≤k) (k4:(k==4)=false) (k5:(k==5)=false) (k6:(k==6)=false) (k7:(k==7)=false) (k8:(k==8)=false) (he:s.toList.isEmpty=true) (hn:(pn==0)=true) (hk:k<7)  (w:World):Calls Tryz.prog 12 #[.agg #[.int .u8 k,.string s,.int .i64 pn]] w fun e w'=>e=.returned (.tuple #[.int .i64 0,.bool true])∧Below w.heap.size w w':=by
 have m4:(k != 4)=true:=by rw[bne,k4];rfl
 have m5:(k != 5)=true:=by rw[bne,k5];rfl
 have m6:(k != 6)=true:=by rw[bne,k6];rfl
 have m7:(k != 7)=true:=by rw[bne,k7];rfl
 have m8:(k != 8)=true:=by rw[bne,k8];rfl
 have he2:(s.toList==[])=true:=by cases h:s.toList<;>simp_all
 have he3:(s.toList != [])=false:=by rw[bne,he2];rfl
 have hn2:(pn != 0)=false:=by rw[bne,hn];rfl
 obtain⟨w1,hw1⟩:∃w1,w1=w.alloc (.cells #[.int .u8 k,.string s,.int .i64 pn] 29):=⟨_,rfl⟩
 obtain⟨T,hT⟩:∃T,T=w.heap.size:=⟨_,rfl⟩
 have X1:Hid (w1.heap[T]?=some (.cells #[.int .u8 k,.string s,.int .i64 pn] 29 (0,0))∧Below w.heap.size w w1):=⟨by rw[hw1,hT];exact heap_alloc_new w _,by rw[hw1];exact bnew _ _⟩
 have y0:w1.cell? ⟨T,0,none⟩=some (.int .u8 k):=by rw[cell_of_row _ _ _ _ _ _ X1.out.1];rfl
 have y1:w1.cell? ⟨T,1,none⟩=some (.string s):=by rw[cell_of_row _ _ _ _ _ _ X1.out.1];rfl
 have y2:w1.cell? ⟨T,2,none⟩=some (.int .i64 pn):=by rw[cell_of_row _ _ _ _ _ _ X1.out.1];rfl
 go_enter Tryz.func12,Tryz.ntmps12
 go_upto_region 1 with fail
 rw[←hw1,←hT]
 clear hw1 hT
 go_wp2
 go_ret2
 exact⟨rfl,X1.out.2⟩
theorem tko_d (s:ByteArray) (pn:Int) (k:Int) (k1:¬k<1) (k2:¬23≤k) (k4:(k==4)=false) (k5:(k==5)=false) (k6:(k==6)=false) (k7:(k==7)=false) (k8:(k==8)=false) (he:s.toList.isEmpty=true) (hn:(pn==0)=true) (hk:¬k<7) (hl:k≤11)  (w:World):Calls Tryz.prog 12 #[.agg #[.int .u8 k,.string s,.int .i64 pn]] w fun e w'=>e=.returned (.tuple #[.int .i64 1,.bool true])∧Below w.heap.size w w':=by
 have m4:(k != 4)=true:=by rw[bne,k4];rfl
 have m5:(k != 5)=true:=by rw[bne,k5];rfl
 have m6:(k != 6)=true:=by rw[bne,k6];rfl
 have m7:(k != 7)=true:=by rw[bne,k7];rfl
 have m8:(k != 8)=true:=by rw[bne,k8];rfl
 have he2:(s.toList==[])=true:=by cases h:s.toList<;>simp_all
 have he3:(s.toList != [])=false:=by rw[bne,he2];rfl
 have hn2:(pn != 0)=false:=by rw[bne,hn];rfl
 obtain⟨w1,hw1⟩:∃w1,w1=w.alloc (.cells #[.int .u8 k,.string s,.int .i64 pn] 29):=⟨_,rfl⟩
 obtain⟨T,hT⟩:∃T,T=w.heap.size:=⟨_,rfl⟩
 have X1:Hid (w1.heap[T]?=some (.cells #[.int .u8 k,.string s,.int .i64 pn] 29 (0,0))∧Below w.heap.size w w1):=⟨by rw[hw1,hT];exact heap_alloc_new w _,by rw[hw1];exact bnew _ _⟩
 have y0:w1.cell? ⟨T,0,none⟩=some (.int .u8 k):=by rw[cell_of_row _ _ _ _ _ _ X1.out.1];rfl
 have y1:w1.cell? ⟨T,1,none⟩=some (.string s):=by rw[cell_of_row _ _ _ _ _ _ X1.out.1];rfl
 have y2:w1.cell? ⟨T,2,none⟩=some (.int .i64 pn):=by rw[cell_of_row _ _ _ _ _ _ X1.out.1];rfl
 go_enter Tryz.func12,Tryz.ntmps12
 go_upto_region 1 with fail
 rw[←hw1,←hT]
 clear hw1 hT
 go_wp2
 go_ret2
 exact⟨rfl,X1.out.2⟩
theorem tko_e (s:ByteArray) (pn:Int) (k:Int) (k1:¬k<1) (k2:¬23≤k) (k4:(k==4)=false) (k5:(k==5)=false) (k6:(k==6)=false) (k7:(k==7)=false) (k8:(k==8)=false) (he:s.toList.isEmpty=true) (hn:(pn==0)=true) (hk:¬k<7) (hl:¬k≤11)  (w:World):Calls Tryz.prog 12 #[.agg #[.int .u8 k,.string s,.int .i64 pn]] w fun e w'=>e=.returned (.tuple #[.int .i64 2,.bool true])∧Below w.heap.size w w':=by
 have m4:(k != 4)=true:=by rw[bne,k4];rfl
 have m5:(k != 5)=true:=by rw[bne,k5];rfl
 have m6:(k != 6)=true:=by rw[bne,k6];rfl
 have m7:(k != 7)=true:=by rw[bne,k7];rfl
 have m8:(k != 8)=true:=by rw[bne,k8];rfl
 have he2:(s.toList==[])=true:=by cases h:s.toList<;>simp_all
 have he3:(s.toList != [])=false:=by rw[bne,he2];rfl
 have hn2:(pn != 0)=false:=by rw[bne,hn];rfl
 obtain⟨w1,hw1⟩:∃w1,w1=w.alloc (.cells #[.int .u8 k,.string s,.int .i64 pn] 29):=⟨_,rfl⟩
 obtain⟨T,hT⟩:∃T,T=w.heap.size:=⟨_,rfl⟩
 have X1:Hid (w1.heap[T]?=some (.cells #[.int .u8 k,.string s,.int .i64 pn] 29 (0,0))∧Below w.heap.size w w1):=⟨by rw[hw1,hT];exact heap_alloc_new w _,by rw[hw1];exact bnew _ _⟩
 have y0:w1.cell? ⟨T,0,none⟩=some (.int .u8 k):=by rw[cell_of_row _ _ _ _ _ _ X1.out.1];rfl
 have y1:w1.cell? ⟨T,1,none⟩=some (.string s):=by rw[cell_of_row _ _ _ _ _ _ X1.out.1];rfl
 have y2:w1.cell? ⟨T,2,none⟩=some (.int .i64 pn):=by rw[cell_of_row _ _ _ _ _ _ X1.out.1];rfl
 go_enter Tryz.func12,Tryz.ntmps12
 go_upto_region 1 with fail
 rw[←hw1,←hT]
 clear hw1 hT
 go_wp2
 go_ret2
 exact⟨rfl,X1.out.2⟩
theorem names_have (t:Bs) {n:Int} (h0:0≤n):(if n=0 then decide (t=[]) else ((cut 44 t).all isNm && (decide (((cut 44 t).length:Int)=n) && !dup [] (cut 44 t))))=haveNs t n.toNat:=by
 obtain⟨m,rfl⟩:=Int.eq_ofNat_of_zero_le h0
 rw[Int.toNat_natCast,haveNs]
 by_cases hm:m=0
 ·rw[if_pos (by omega),if_pos hm]
 ·rw[if_neg (by omega),if_neg hm,areNs_dup,zbQ]
  have e:decide (((t.count 44+1:Nat):Int)=((m:Nat):Int))=decide (t.count 44+1=m):=by
   by_cases h:t.count 44+1=m
   ·rw[decide_eq_true h,decide_eq_true (by omega)]
   ·rw[decide_eq_false h,decide_eq_false (by omega)]
  rw[e]
  cases (cut 44 t).all isNm<;>cases decide (t.count 44+1=m)<;>cases dup [] (cut 44 t)<;>rfl
theorem rtakes_c (p:Sp) (ht:p.text.length≤1048576) (w:World):Calls Tryz.prog 12 #[.agg #[.int .u8 (p.kind:Int),.string (Lx.bs p.text),.int .i64 p.n]] w fun e w'=>e=.returned (.tuple #[.int .i64 ((if zaE p=true then zaI p else 0:Nat):Int),.bool (zaE p)])∧Below w.heap.size w w':=by
 obtain⟨k,t,n⟩:=p
 dsimp only at ht ⊢
 obtain⟨R,hR⟩:∃R,R=zaE ⟨k,t,n⟩:=⟨_,rfl⟩
 obtain⟨K,hK⟩:∃K,K=zaI ⟨k,t,n⟩:=⟨_,rfl⟩
 rw[←hR,←hK]
 rw[zaE] at hR
 rw[zaI] at hK
 dsimp only at hR hK
 have hsz:((Lx.bs t).size:Int)=(t.length:Int):=by rw[Lx.bs_size]
 have emp:(Lx.bs t).toList.isEmpty=decide (t=[]):=by
  rw[Lx.bs_toList]
  cases t with
  | nil=>rfl
  | cons x r=>rw[decide_eq_false (by simp)];rfl
 have nz:∀{m:Int},m≠0→(m==0)=false:=fun h=>beq_eq_false_iff_ne.2 h
 by_cases h4:k=4
 ·subst h4
  rw[if_pos rfl] at hR
  rw[if_neg (by decide),if_neg (by decide),if_neg (by decide)] at hK
  by_cases he:t=[]
  ·rw[decide_eq_true he] at emp hR
   by_cases hn:0≤n
   ·rw[decide_eq_true hn] at hR
    subst hR hK
    exact tk4_b _ n emp hn w
   ·rw[decide_eq_false hn] at hR
    subst hR
    exact tk4_c _ n emp hn w
  ·rw[decide_eq_false he] at emp hR
   rw[Bool.and_false] at hR
   subst hR
   exact tk4_a _ n emp w
 rw[if_neg h4] at hR
 by_cases h5:k=5
 ·subst h5
  rw[if_pos rfl] at hR
  rw[if_neg (by decide),if_neg (by decide),if_neg (by decide)] at hK
  by_cases hn:n=0
  ·subst hn
   rw[decide_eq_true rfl,Bool.true_and] at hR
   by_cases hl:t.length≤1024
   ·rw[decide_eq_true hl,Bool.true_and] at hR
    have h:=tk5_c (Lx.bs t) 0 (Lib.validD t) rfl (by omega) w (fun W=>by
     have:=rutf_c (Lx.bs t) W (by rw[Lx.bs_size];exact hl)
     rw[Lx.bs_data] at this
     exact this)
    rw[←hR] at h
    subst hK
    have e:((if R=true then 0 else 0:Nat):Int)=0:=by cases R<;>rfl
    rw[e]
    exact h
   ·rw[decide_eq_false hl,Bool.false_and] at hR
    subst hR
    exact tk5_b _ 0 rfl (by omega) w
  ·rw[decide_eq_false hn,Bool.false_and,Bool.false_and] at hR
   subst hR
   exact tk5_a _ n (nz hn) w
 rw[if_neg h5] at hR
 by_cases h6:k=6
 ·subst h6
  rw[if_pos rfl] at hR
  rw[if_neg (by decide),if_neg (by decide),if_neg (by decide)] at hK
  by_cases hn:n=0
  ·subst hn
   rw[decide_eq_true rfl,Bool.true_and] at hR
   have h:=tk6_b (Lx.bs t) 0 (isPt t) rfl w (fun W=>rpath_c t ht W)
   rw[←hR] at h
   subst hK
   have e:((if R=true then 0 else 0:Nat):Int)=0:=by cases R<;>rfl
   rw[e]
   exact h
  ·rw[decide_eq_false hn,Bool.false_and] at hR
   subst hR
   exact tk6_a _ n (nz hn) w
 rw[if_neg h6] at hR
 by_cases h7:k=7
 ·subst h7
  rw[if_pos rfl] at hR
  rw[if_pos (.inl rfl)] at hK
  by_cases he:t=[]
  ·rw[decide_eq_true he] at emp hR
   by_cases hn:n<0
   ·rw[decide_eq_false (by omega:¬0≤n)] at hR
    subst hR
    exact tk7_b _ n emp hn w
   ·rw[decide_eq_true (by omega:0≤n)] at hR
    by_cases hm:64<n
    ·rw[decide_eq_false (by omega:¬n≤64)] at hR
     subst hR
     exact tk7_c _ n emp hn hm w
    ·rw[decide_eq_true (by omega:n≤64)] at hR
     subst hR hK
     have e:((if true=true then n.toNat else 0:Nat):Int)=n:=by rw[if_pos rfl];omega
     have h:=tk7_d (Lx.bs t) n emp hn hm w
     show Calls _ _ _ _ fun e w'=>e=.returned (.tuple #[.int .i64 ((if true=true then n.toNat else 0:Nat):Int),.bool true])∧_
     rw[e]
     exact h
  ·rw[decide_eq_false he] at emp hR
   rw[Bool.and_false] at hR
   subst hR
   exact tk7_a _ n emp w
 rw[if_neg h7] at hR
 by_cases h8:k=8
 ·subst h8
  rw[if_pos rfl] at hR
  rw[if_pos (.inr rfl)] at hK
  by_cases hn:n<0
  ·rw[decide_eq_false (by omega:¬0≤n)] at hR
   subst hR
   exact tk8_a _ n hn w
  ·rw[decide_eq_true (by omega:0≤n)] at hR
   by_cases hm:64<n
   ·rw[decide_eq_false (by omega:¬n≤64)] at hR
    subst hR
    exact tk8_b _ n hn hm w
   ·rw[decide_eq_true (by omega:n≤64),Bool.true_and,Bool.true_and] at hR
    have h:=tk8_c (Lx.bs t) n (haveNs t n.toNat) hn hm w (fun W=>by
     have:=rnames_c t n ht W
     rw[names_have t (by omega)] at this
     exact this)
    rw[←hR] at h
    subst hK
    have e:((if R=true then n.toNat else 0:Nat):Int)=if R=true then n else 0:=by cases R<;>simp;omega
    rw[e]
    exact h
 rw[if_neg h8] at hR
 rw[if_neg (by omega)] at hK
 by_cases h0:k<1
 ·have hk:k=0:=by omega
  subst hk
  rw[decide_eq_false (by decide:¬0<0),Bool.false_and,Bool.false_and,Bool.false_and] at hR
  subst hR
  exact tk_low _ n w
 rw[decide_eq_true (by omega:0<k),Bool.true_and] at hR
 by_cases h23:23≤k
 ·rw[decide_eq_false (by omega:¬k<23),Bool.false_and,Bool.false_and] at hR
  subst hR
  exact tk_high _ n (k:Int) (by omega) w
 rw[decide_eq_true (by omega:k<23),Bool.true_and] at hR
 have z:∀c:Nat,k≠c→(((k:Nat):Int)==((c:Nat):Int))=false:=fun c h=>by rw[beq_eq_false_iff_ne];omega
 have z4:=z 4 h4
 have z5:=z 5 h5
 have z6:=z 6 h6
 have z7:=z 7 h7
 have z8:=z 8 h8
 by_cases he:t=[]
 ·rw[decide_eq_true he] at emp hR
  by_cases hn:n=0
  ·rw[decide_eq_true hn] at hR
   subst hR hn
   by_cases hk7:k<7
   ·rw[if_neg (by omega),if_neg (by omega)] at hK
    subst hK
    exact tko_c _ 0 (k:Int) (by omega) (by omega) z4 z5 z6 z7 z8 emp rfl (by omega) w
   ·by_cases hk11:k≤11
    ·rw[if_neg (by omega),if_pos (by omega)] at hK
     subst hK
     exact tko_d _ 0 (k:Int) (by omega) (by omega) z4 z5 z6 z7 z8 emp rfl (by omega) (by omega) w
    ·rw[if_pos (by omega)] at hK
     subst hK
     exact tko_e _ 0 (k:Int) (by omega) (by omega) z4 z5 z6 z7 z8 emp rfl (by omega) (by omega) w
  ·rw[decide_eq_false hn,Bool.false_and] at hR
   subst hR
   exact tko_b _ n (k:Int) (by omega) (by omega) z4 z5 z6 z7 z8 emp (nz hn) w
 ·rw[decide_eq_false he] at emp hR
  rw[Bool.and_false] at hR
  subst hR
  exact tko_a _ n (k:Int) (by omega) (by omega) z4 z5 z6 z7 z8 emp w
end Ps
end Go.Proofs.YtfhkaffakniioaaGreatDoor
