/- Several texts, joined. -/
import Derived.Test.YtfhkaffakniioaaGreatDoorQ24M
import Derived.Test.YtfhkaffakniioaaGreatDoorQ09M
import Derived.Test.YtfhkaffakniioaaGreatDoorQ10M
import Derived.Lib.Split
import Derived.Lib.SplitLaws
import Derived.Deep.OwnRows
set_option maxHeartbeats 8000000
set_option maxRecDepth 100000
namespace Go.Proofs.YtfhkaffakniioaaGreatDoor
open Go.RowKit
namespace Ps
theorem isName_c (t:Bs) (w:World) (hL:HasL w):Calls Tryz.prog 62 #[.string (Lx.bs t)] w fun e w'=>e=.returned (.bool (isNm t))∧Below w.heap.size w w':=by
 have CS:Hid (∃(x:ByteArray) (r:Int),(r==0)=isNm t∧Calls Tryz.prog 81 #[.agg #[.int .u8 1,.string (Lx.bs t),.int .i64 0,.int .i64 0]] w fun e w'=>e=.returned (.tuple #[.string x,.int .i64 r])∧Below w.heap.size w w'):=by
  have h:=show_c 1 t 0 0 (by decide) w hL
  have e:isNm t=(Lx.shw 1 t 0).isSome:=rfl
  cases hs:Lx.shw 1 t 0 with
  | none =>
   rw[hs] at h
   exact⟨_,13,by rw[e,hs];rfl,h⟩
  | some y =>
   rw[hs] at h
   exact⟨_,0,by rw[e,hs];rfl,h⟩
 obtain⟨x,r,hr,CC⟩:=CS.out
 have CD:=hidp CC
 obtain⟨b,hb⟩:∃b,b=isNm t:=⟨_,rfl⟩
 rw[←hb] at hr ⊢
 clear CS CC hL hb
 go_enter Tryz.func62,Tryz.ntmps62
 go_wp2_with fail
 refine(CD.out).mono ?_
 rintro e w1 ⟨rfl,hb1⟩
 have B1:=hidp hb1
 clear hb1
 go_wp2
 go_ret
 exact⟨by first | rfl | rw[hr],B1.out⟩
theorem cut_ne (c:UInt8):∀t:Bs,cut c t≠[]
 | []=>by simp[cut]
 | b :: r=>by
  rw[cut]
  split
  ·simp
  ·split<;>simp
theorem zbQ (c:UInt8):∀t:Bs,(cut c t).length=t.count c+1
 | []=>rfl
 | b :: r=>by
  by_cases h:b=c
  ·subst h
   rw[cut,if_pos rfl,List.length_cons,zbQ b r,List.count_cons_self]
  ·have ih:=zbQ c r
   rw[List.count_cons_of_ne (by simpa using h),cut,if_neg h,←ih]
   cases hc:cut c r with
   | nil=>exact absurd hc (cut_ne c r)
   | cons p q=>rfl
theorem zcV (c:UInt8):∀(t:Bs) (x:Bs),x∈cut c t→x.length≤t.length
 | [],x,h=>by
  rw[cut,List.mem_singleton] at h
  rw[h];exact Nat.le_refl _
 | b :: r,x,h=>by
  by_cases e:b=c
  ·rw[cut,if_pos e] at h
   rcases List.mem_cons.1 h with q | q
   ·rw[q];exact Nat.zero_le _
   ·exact Nat.le_succ_of_le (zcV c r x q)
  ·have ih:=zcV c r
   rw[cut,if_neg e] at h
   cases hc:cut c r with
   | nil=>exact absurd hc (cut_ne c r)
   | cons p q =>
    rw[hc] at h ih
    rcases List.mem_cons.1 h with z | z
    ·rw[z]
     have:=ih p (List.mem_cons_self ..)
     simp;omega
    ·exact Nat.le_succ_of_le (ih x (List.mem_cons_of_mem _ z))
theorem index_hit (c:UInt8):∀l:Bs,0<l.count c→∃i:Nat,Lib.indexByte l c=(i:Int)∧i<l.length∧cut c l=l.take i :: cut c (l.drop (i+1))∧(l.drop (i+1)).count c+1=l.count c
 | [],h=>by simp at h
 | b :: r,h=>by
  by_cases e:b=c
  ·subst e
   exact⟨0,by rw[Lib.indexByte,if_pos (by simp)];rfl,by simp,by rw[cut,if_pos rfl,List.take_zero];rfl,by simp⟩
  ·rw[List.count_cons_of_ne (by simpa using e)] at h ⊢
   obtain⟨i,h1,h2,h3,h4⟩:=index_hit c r h
   refine⟨i+1,?_,by simpa using h2,?_,h4⟩
   ·rw[Lib.indexByte,if_neg (by simpa using e),h1,if_neg (by simp<;>omega)]
    rfl
   ·rw[cut,if_neg e,h3]
    rfl
theorem cut_none (c:UInt8):∀l:Bs,l.count c=0→cut c l=[l]
 | [],_=>rfl
 | b :: r,h=>by
  have e:b≠c:=by
   intro e
   subst e
   simp at h
  rw[List.count_cons_of_ne (by simpa using e)] at h
  rw[cut,if_neg e,cut_none c r h]
theorem gsplit_row {W:World} {g N:Nat} {l:List Bs} (h:W.heap[g]?=some (.cells (Lib.cellsOf (l.map Lx.bs) N) 9 (0,0))) (hN:N=l.length):SR W (some ⟨g,0,none⟩) l:=fun j x hx=>by
 refine⟨g,0,rfl,?_⟩
 rw[Nat.zero_add,cell_of_row _ _ _ _ _ _ h,hN,show l.length=(l.map Lx.bs).length by simp,Lib.cellsOf_full,List.getElem?_toArray,List.getElem?_map,List.getElem?_map,hx]
 rfl
theorem gsplit_c (c:UInt8) (t:Bs) (ht:t.length≤4611686018427387904) (hk:t.count c≤100000) (w:World):Calls Tryz.prog 116 #[.string (Lx.bs t),.string ⟨#[c]⟩,.int .i64 0,.int .i64 (-1)] w fun e w'=>∃g,e=.returned (.slice (some ⟨g,0,none⟩) (cut c t).length (cut c t).length)∧Below w.heap.size w w'∧SR w' (some ⟨g,0,none⟩) (cut c t):=by
 obtain⟨k,hkk⟩:∃k,k=t.count c:=⟨_,rfl⟩
 have hkl:k≤t.length:=by rw[hkk];exact List.count_le_length
 obtain⟨n,hn⟩:∃n,n=k+1:=⟨_,rfl⟩
 obtain⟨m,hm⟩:∃m,m=t.length+1:=⟨_,rfl⟩
 obtain⟨s,hs⟩:∃s,s=Lx.bs t:=⟨_,rfl⟩
 have hsz:(s.size:Int)=(t.length:Int):=by rw[hs,Lx.bs_size]
 have CN:Hid (Calls Tryz.prog 87 #[.string s,.string ⟨#[c]⟩] w fun e w'=>e=.returned (.int .i64 (k:Int))∧w'=w):=by
  have h:=Tryz.strings_Count_one s c w
  rw[hs,Lx.bs_data] at h
  rw[hkk,hs]
  exact h
 have CI:Hid (∀(x:Bs) W,Calls Tryz.prog 121 #[.string (Lx.bs x),.string ⟨#[c]⟩] W fun e w'=>e=.returned (.int .i64 (Lib.indexByte x c))∧w'=W):=fun x W=>by
  have h:=Tryz.strings_Index_one (Lx.bs x) c W
  rw[Lx.bs_data] at h
  exact h
 have hmk:=run_make_row' (P:=Tryz.prog) 50 9 (.string ByteArray.empty) 16 Tryz.underlying50 (by kernel_rfl) rfl .i64 .i64 n (by omega) (by omega)
 have HV1:Hid (IntKind.i64.wrap ((k:Int)+1)=(n:Int)∧wrap64 ((k:Int)+1)=(n:Int)):=wrp (by omega) (by omega)
 have HV2:Hid (IntKind.i64.wrap ((t.length:Int)+1)=(m:Int)∧wrap64 ((t.length:Int)+1)=(m:Int)):=wrp (by omega) (by omega)
 have HV3:Hid (IntKind.i64.wrap ((n:Int) - 1)=(k:Int)∧wrap64 ((n:Int) - 1)=(k:Int)):=wrp (by omega) (by omega)
 have HM:Hid (min (n:Int) (m:Int)=(n:Int)):=Int.min_eq_left (by omega)
 have HK:Hid (k=t.count c∧k≤100000∧n=k+1∧t.length≤4611686018427387904∧s=Lx.bs t):=⟨hkk,by omega,hn,ht,hs⟩
 have hemp:(⟨#[c]⟩:ByteArray).toList.isEmpty=false:=by rw[Go.ByteArray.toList_eq];rfl
 obtain⟨w1,hw1⟩:∃w1,w1=w.alloc (.cells (madeCells #[.string ByteArray.empty] n) 9):=⟨_,rfl⟩
 obtain⟨g,hg⟩:∃g,g=w.heap.size:=⟨_,rfl⟩
 have X1:Hid (w1.heap[g]?=some (.cells (Lib.cellsOf [] n) 9 (0,0))∧Below w.heap.size w w1∧w.heap.size≤g):=⟨by rw[hw1,hg,Lib.cellsOf_nil];exact heap_alloc_new w _,by rw[hw1];exact bnew _ _,by omega⟩
 rw[←hs]
 clear hkk hkl hn hm hs ht hk
 obtain⟨v1,v1'⟩:=HV1.out
 obtain⟨v2,v2'⟩:=HV2.out
 obtain⟨v3,v3'⟩:=HV3.out
 have hmin:=HM.out
 go_enter Tryz.func116,Tryz.ntmps116
 go_wp2_with fail
 refine(CN.out).mono ?_
 rintro e w' ⟨rfl,rfl⟩
 go_upto_region 9 with fail
 rw[←hw1,←hg]
 clear hmk hw1 hg
 go_wp2
 clear v1 v1' v2 v2' v3 v3' hmin
 go_loopw [0,10] (fun s0 s10 wr=>∃(done:List Bs) (rest:Bs),s0=.string (Lx.bs rest)∧s10=.int .i64 done.length∧done.length≤k∧Hid (done.length+rest.count c=k∧done++cut c rest=cut c t∧rest.length≤t.length∧wr.heap[g]?=some (.cells (Lib.cellsOf (done.map Lx.bs) n) 9 (0,0))∧Below w'.heap.size w' wr)) (fun _ s10 _=>k - (intOf s10).toNat)
 case atStart=>exact⟨[],t,by rw[←HK.out.2.2.2.2],rfl,Nat.zero_le _,by rw[←HK.out.1];exact Nat.zero_add _,rfl,Nat.le_refl _,X1.out.1,X1.out.2.1⟩
 case round =>
  obtain⟨done,rest,rfl,rfl,hd,HI⟩:=hrel
  obtain⟨j,hj⟩:∃j,j=done.length:=⟨_,rfl⟩
  rw[←hj] at hd ⊢
  have HJ:=hidp hj
  have rc:wr.cell? ⟨g,j,none⟩=some (.string ByteArray.empty):=by
   rw[cell_of_row _ _ _ _ _ _ HI.out.2.2.2.1,hj,show done.length=(done.map Lx.bs).length by simp]
   exact Lib.cellsOf_next (by have:=HK.out;simp;omega)
  have rf:wr.frozen? ⟨g,j,none⟩=false:=by simp[World.frozen?,HI.out.2.2.2.1]
  obtain⟨rs,hrs⟩:∃rs,rs=Lx.bs rest:=⟨_,rfl⟩
  have HR:=hidp hrs
  have q6:(0:Int)≤(j:Int):=by omega
  obtain⟨j1,hj1⟩:∃j1,j1=j+1:=⟨_,rfl⟩
  have HJ1:=hidp hj1
  have HVJ:Hid (IntKind.i64.wrap ((j:Int)+1)=(j1:Int)∧wrap64 ((j:Int)+1)=(j1:Int)):=wrp (by omega) (by have:=HK.out;omega)
  have HST:Hid (∀x:Bs,(wr.setCell ⟨g,j,none⟩ (.string (Lx.bs x))).heap[g]?=some (.cells (Lib.cellsOf ((done++[x]).map Lx.bs) n) 9 (0,0))∧Below w'.heap.size w' (wr.setCell ⟨g,j,none⟩ (.string (Lx.bs x)))):=fun x=>by
   refine⟨?_,HI.out.2.2.2.2.setCell X1.out.2.2 _⟩
   have:=heap_setCell_same wr g j _ 9 (.string (Lx.bs x)) HI.out.2.2.2.1
   have e:=Lib.cellsOf_set (done:=done.map Lx.bs) (N:=n) (by have:=HK.out;have:=HJ.out;simp;omega) (Lx.bs x)
   rw[List.length_map,←hj] at e
   rw[this,e,List.map_append]
   rfl
  by_cases hlt:j<k
  ·have q0:(j:Int)<(k:Int):=by omega
   obtain⟨i,h1,h2,h3,h4⟩:=index_hit c rest (by have:=HI.out.1;omega)
   have CIX:Hid (Calls Tryz.prog 121 #[.string rs,.string ⟨#[c]⟩] wr fun e w'=>e=.returned (.int .i64 (i:Int))∧w'=wr):=by
    have h:=CI.out rest wr
    rw[h1,←hrs] at h
    exact h
   have hrl:=HI.out.2.2.1
   have hkt:=HK.out.2.2.2.1
   have q1:¬(i:Int)<0:=by omega
   have q2:(0:Int)≤(i:Int):=by omega
   have hrz:rs.size=rest.length:=by rw[hrs,Lx.bs_size]
   obtain⟨i1,hi1⟩:∃i1,i1=i+1:=⟨_,rfl⟩
   have HVI:Hid (IntKind.i64.wrap ((i:Int)+1)=(i1:Int)∧wrap64 ((i:Int)+1)=(i1:Int)):=wrp (by omega) (by omega)
   have q3:(i:Int)≤(rs.size:Int):=by omega
   have q4:(i1:Int)≤(rs.size:Int):=by omega
   have q5:(0:Int)≤(i1:Int):=by omega
   have q9:(j:Int)<(n:Int):=by have:=HK.out;omega
   have HVK:Hid (IntKind.i64.wrap (i:Int)=(i:Int)∧wrap64 (i:Int)=(i:Int)):=wrp rfl (by omega)
   have HX:Hid (rs.extract 0 i=Lx.bs (rest.take i)∧rs.extract i1 rs.size=Lx.bs (rest.drop i1)):=⟨by rw[hrs,Lx.extract_to],by rw[hrz,hrs];exact Lx.extract_from _ _ _ rfl⟩
   have HN:Hid ((done++[rest.take i]).length+(rest.drop i1).count c=k∧(done++[rest.take i])++cut c (rest.drop i1)=cut c t∧(rest.drop i1).length≤t.length):=⟨by have:=HI.out.1;rw[hi1];simp;omega,by rw[←HI.out.2.1,h3,hi1];simp,by rw[List.length_drop];omega⟩
   have HS:=hidp (HST.out (rest.take i))
   have HLJ:Hid (j<k):=hlt
   rw[←hrs]
   clear h1 h2 h3 h4 hi1 hrz hrl hkt hlt hj1 hj hrs
   obtain⟨z1,z1'⟩:=HVI.out
   obtain⟨z3,z3'⟩:=HVK.out
   obtain⟨z2,z2'⟩:=HVJ.out
   obtain⟨x1,x2⟩:=HX.out
   go_wp2_with fail
   refine(CIX.out).mono ?_
   rintro e w2 ⟨rfl,rfl⟩
   clear CIX
   go_wp2
   clear z1 z1' z2 z2' z3 z3'
   go_roundw
   case rel=>first | exact⟨done++[rest.take i],rest.drop i1,by first | rfl | rw[x2],by rw[List.length_append,←HJ.out,HJ1.out];rfl,by rw[List.length_append,←HJ.out];have:=HLJ.out;simp;omega,HN.out.1,HN.out.2.1,HN.out.2.2,HS.out.1,HS.out.2⟩ | ((repeat apply Exists.intro);exact⟨⟨done++[rest.take i],rest.drop i1,by first | rfl | rw[x2],by rw[List.length_append,←HJ.out,HJ1.out];rfl,by rw[List.length_append,←HJ.out];have:=HLJ.out;simp;omega,HN.out.1,HN.out.2.1,HN.out.2.2,HS.out.1,HS.out.2⟩,rfl⟩)
   case measure =>
    simp only[intOf]
    have:=HJ1.out
    have:=HLJ.out
    omega
  ·have q0:¬(j:Int)<(k:Int):=by omega
   have hc0:rest.count c=0:=by have:=HI.out.1;omega
   have HE:Hid (done++[rest]=cut c t∧(cut c t).length=n):=by
    have e:=HI.out.2.1
    rw[cut_none c rest hc0] at e
    exact⟨e,by rw[←e];have:=HK.out;have:=HI.out.1;simp;omega⟩
   have HS:=hidp (HST.out rest)
   have HJN:Hid (j1=n):=by show _=_;have:=HI.out.1;have:=HK.out;omega
   have HF:Hid (SR (wr.setCell ⟨g,j,none⟩ (.string rs)) (some ⟨g,0,none⟩) (cut c t)):=by
    have h:=HS.out.1
    rw[HE.out.1,←hrs] at h
    exact gsplit_row h HE.out.2.symm
   have HB2:Hid (Below w'.heap.size w' (wr.setCell ⟨g,j,none⟩ (.string rs))):=by
    have h:=HS.out.2
    rw[←hrs] at h
    exact h
   have q7:(j1:Int)≤(n:Int):=by have:=HJN.out;omega
   have q8:(0:Int)≤(j1:Int):=by omega
   have q9:(j:Int)<(n:Int):=by have:=HJN.out;omega
   rw[←hrs]
   clear hlt hj1 hj hrs hc0
   obtain⟨z2,z2'⟩:=HVJ.out
   go_wp2
   clear z2 z2'
   go_ret
   exact⟨g,by rw[HE.out.2];first | rfl | (rw[←HJN.out];rfl),HB2.out,HF.out⟩
theorem split_c (c:UInt8) (t:Bs) (ht:t.length≤4611686018427387904) (hk:t.count c≤100000) (w:World):Calls Tryz.prog 85 #[.string (Lx.bs t),.string ⟨#[c]⟩] w fun e w'=>∃g,e=.returned (.slice (some ⟨g,0,none⟩) (cut c t).length (cut c t).length)∧Below w.heap.size w w'∧SR w' (some ⟨g,0,none⟩) (cut c t):=by
 have C:=hidp (gsplit_c c t ht hk w)
 obtain⟨s,hs⟩:∃s,s=Lx.bs t:=⟨_,rfl⟩
 obtain⟨l,hl⟩:∃l,l=cut c t:=⟨_,rfl⟩
 rw[←hs,←hl] at C ⊢
 clear hs hl ht hk
 go_enter Tryz.func85,Tryz.ntmps85
 go_wp2_with fail
 refine(C.out).mono ?_
 rintro e w1 ⟨g,rfl,hb1,hr1⟩
 have X1:Hid (Below w.heap.size w w1∧SR w1 (some ⟨g,0,none⟩) l):=⟨hb1,hr1⟩
 clear hb1 hr1 C
 obtain⟨n,hn⟩:∃n,n=l.length:=⟨_,rfl⟩
 rw[←hn]
 have HN:=hidp hn
 clear hn
 go_wp2
 go_ret
 exact⟨g,by rw[←HN.out];rfl,X1.out.1,X1.out.2⟩
end Ps
end Go.Proofs.YtfhkaffakniioaaGreatDoor
