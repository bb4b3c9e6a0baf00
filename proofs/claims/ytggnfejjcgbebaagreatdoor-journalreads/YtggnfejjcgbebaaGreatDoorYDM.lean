/- Several texts, joined: BinRT, BinRW -/
import Derived.Test.YtggnfejjcgbebaaGreatDoorBinBxM
import Derived.Test.YtggnfejjcgbebaaGreatDoorYCM
import Derived.Test.YtggnfejjcgbebaaGreatDoorYAM
/- The document's text of a value, walked. -/
namespace Go.Proofs.YtggnfejjcgbebaaGreatDoor
open Go.RowKit
open Vl (V)
namespace Bn
theorem cat_list (a c:ByteArray):(a++c).data.toList=a.data.toList++c.data.toList:=by rw [ByteArray.data_append,Array.toList_append]
theorem bytesL_take {l:List V} {j:Nat} {x:V} (h:l[j]?=some x):bytesL (l.take (j+1))=bytesL (l.take j)++bytes x:=by
  rw [List.take_add_one,h];exact bytesL_snoc _ _
theorem bytesF_take {l:List (ByteArray × V)} {j:Nat} {m:ByteArray} {x:V} (h:l[j]?=some (m,x)):bytesF (l.take (j+1))=bytesF (l.take j)++(text m++bytes x):=by
  rw [List.take_add_one,h];exact bytesF_snoc _ _ _
theorem bytesL_append:∀(l r:List V),bytesL (l++r)=bytesL l++bytesL r
  | [],r=>by rw [List.nil_append,bytesL,List.nil_append]
  | x :: l,r=>by rw [List.cons_append,bytesL,bytesL,bytesL_append l r,List.append_assoc]
theorem bytesF_append:∀(l r:List (ByteArray × V)),bytesF (l++r)=bytesF l++bytesF r
  | [],r=>by rw [List.nil_append,bytesF,List.nil_append]
  | (m,x) :: l,r=>by rw [List.cons_append,bytesF,bytesF,bytesF_append l r,List.append_assoc,List.append_assoc]
theorem bytesL_take_le (l:List V) (j:Nat):(bytesL (l.take j)).length≤(bytesL l).length:=by
  have h:bytesL l=bytesL (l.take j)++bytesL (l.drop j):=by
    rw [←bytesL_append,List.take_append_drop]
  rw [h,List.length_append];omega
theorem bytesF_take_le (l:List (ByteArray × V)) (j:Nat):(bytesF (l.take j)).length≤(bytesF l).length:=by
  have h:bytesF l=bytesF (l.take j)++bytesF (l.drop j):=by
    rw [←bytesF_append,List.take_append_drop]
  rw [h,List.length_append];omega
end Bn
set_option maxHeartbeats 8000000 in
set_option maxRecDepth 10000 in
theorem text45_one (k:Nat) (b:Bool) (n:Int) (s:ByteArray) (l:List V) (f:List (ByteArray × V)) (hfit:Bn.fit ⟨k,b,n,s,l,f⟩) (hlen:(Bn.bytes ⟨k,b,n,s,l,f⟩).length≤4611686018427387904) (w:World) (ao:Option Addr) (lc:Nat) (fo:Option Addr) (fc:Nat)
    (hr:Rep w w.heap.size ⟨k,b,n,s,l,f⟩ (.agg #[.int .u8 (k:Int),.bool b,.int .i64 n,.string s,.slice ao l.length lc,.slice fo f.length fc]))
    (EL:∀x∈l,∀(W:World) (va:Value),Rep W W.heap.size x va→Calls Tryz.prog 79 #[va] W fun e w'=>e=.returned (.string ⟨(Bn.bytes x).toArray⟩)∧Below W.heap.size W w')
    (EF:∀x∈f,∀(W:World) (va:Value),Rep W W.heap.size x.2 va→Calls Tryz.prog 79 #[va] W fun e w'=>e=.returned (.string ⟨(Bn.bytes x.2).toArray⟩)∧Below W.heap.size W w') :
    Calls Tryz.prog 79 #[.agg #[.int .u8 (k:Int),.bool b,.int .i64 n,.string s,.slice ao l.length lc,.slice fo f.length fc]] w fun e w'=>e=.returned (.string ⟨(Bn.bytes ⟨k,b,n,s,l,f⟩).toArray⟩)∧Below w.heap.size w w':=by
  have hrr:=hr
  rw [Rep] at hrr
  obtain ⟨ao',lc',fo',fc',hv,_,_,_,_,_,h7,h8⟩:=hrr
  simp only [Value.agg.injEq,Array.mk.injEq,List.cons.injEq,and_true,Value.slice.injEq] at hv
  obtain ⟨_,_,_,_,⟨rfl,_,rfl⟩,⟨rfl,_,rfl⟩⟩:=hv
  have hfit0:=hfit
  rw [Bn.fit] at hfit
  obtain ⟨g0,g1,g2,g3,g4,g5,⟨g6,g6'⟩,g7,g8,g9,g10,g11⟩:=hfit
  obtain ⟨A,hA⟩:∃A,A=w.heap.size:=⟨_,rfl⟩
  obtain ⟨t,ht⟩:∃t:V,t=⟨k,b,n,s,l,f⟩:=⟨_,rfl⟩
  obtain ⟨nl,hnl⟩:∃nl,nl=l.length:=⟨_,rfl⟩
  obtain ⟨nf,hnf⟩:∃nf,nf=f.length:=⟨_,rfl⟩
  rw [←hnl,←hnf] at hr ⊢
  rw [←ht] at hr hlen hfit0 ⊢
  obtain ⟨w1,hw1⟩:∃w1,w1=w.alloc (.cells #[.int .u8 (k:Int),.bool b,.int .i64 n,.string s,.slice ao nl lc,.slice fo nf fc] 32):=⟨_,rfl⟩
  have O1:Hid (OB w w1 A t (.int .u8 (k:Int)) (.bool b) (.int .i64 n) (.string s) (.slice ao nl lc) (.slice fo nf fc)):=by
    show OB _ _ _ _ _ _ _ _ _ _
    rw [hw1,hA];exact OB.start w t _ _ _ _ _ _ hr
  obtain ⟨R,hR⟩:∃R:ByteArray,R=⟨(Bn.bytes t).toArray⟩:=⟨_,rfl⟩
  have HR:Hid (R.data.toList=Bn.hd t :: Bn.tl t):=by show _=_;rw [hR,Bn.bytes_hd t hfit0]
  rw [←hR]
  have C76:Hid (∀W,Calls Tryz.prog 105 #[.int .i64 n] W fun e w'=>e=.returned (.int .u64 (Bn.fold n:Int))∧w'=W):=fun W=>zig76 n g6 g6' W
  obtain ⟨m2,hm2⟩:∃m:ByteArray,m=⟨(Bn.num (Bn.fold n)).toArray⟩:=⟨_,rfl⟩
  have C26:Hid (∀W,Calls Tryz.prog 104 #[.int .u64 (Bn.fold n:Int)] W fun e w'=>e=.returned (.string m2)∧Below W.heap.size W w'):=fun W=>by rw [hm2];exact rnumber26 _ (Bn.fold_lt n g6 g6') W
  obtain ⟨mt,hmt⟩:∃m:ByteArray,m=⟨(Bn.text s).toArray⟩:=⟨_,rfl⟩
  have C77:Hid (∀W,Calls Tryz.prog 106 #[.string s] W fun e w'=>e=.returned (.string mt)∧Below W.heap.size W w'):=fun W=>by rw [hmt];exact bytes77 s (by omega) W
  have hz2:m2.size≤10:=by rw [Lib.size_eq,hm2];exact Bn.num_len10 (Bn.fold_lt n g6 g6')
  have hzt:mt.size≤65546:=by
    have:=Bn.num_len10 (m:=s.size) (by omega)
    rw [Lib.size_eq,hmt]
    show (Bn.text s).length≤_
    rw [Bn.text,List.length_append,←Lib.size_eq];omega
  have E0:Hid (k=0→R=⟨#[0]⟩):=fun e=>Bn.data_ext (by rw [HR.out,ht,e];rfl)
  have E1:Hid (k=1→R=(if b then ⟨#[2]⟩ else ⟨#[1]⟩)):=fun e=>Bn.data_ext (by rw [HR.out,ht,e];cases b<;>rfl)
  have E2:Hid (k=2→⟨#[3]⟩++m2=R):=fun e=>Bn.data_ext (by rw [Bn.cat_list,HR.out,ht,e,hm2];rfl)
  have E3:Hid (k=3→⟨#[4]⟩++mt=R):=fun e=>Bn.data_ext (by rw [Bn.cat_list,HR.out,ht,e,hmt];rfl)
  have E4:Hid (k=4→⟨#[5]⟩++mt=R):=fun e=>Bn.data_ext (by rw [Bn.cat_list,HR.out,ht,e,hmt];rfl)
  have c3:¬9223372036854775807<(⟨#[3]⟩:ByteArray).size+m2.size:=by rw [show (⟨#[3]⟩:ByteArray).size=1 from rfl];omega
  have c4:¬9223372036854775807<(⟨#[4]⟩:ByteArray).size+mt.size:=by rw [show (⟨#[4]⟩:ByteArray).size=1 from rfl];omega
  have c5:¬9223372036854775807<(⟨#[5]⟩:ByteArray).size+mt.size:=by rw [show (⟨#[5]⟩:ByteArray).size=1 from rfl];omega
  have hk6:k≤6:=g0
  have H7:Hid (0<l.length→∃g o,ao=some ⟨g,o,none⟩∧g<w.heap.size∧RepL w w.heap.size g o l):=h7
  have H8:Hid (0<f.length→∃g o,fo=some ⟨g,o,none⟩∧g<w.heap.size∧RepF w w.heap.size g o f):=h8
  have HEL:Hid (∀x∈l,∀(W:World) (va:Value),Rep W W.heap.size x va→Calls Tryz.prog 79 #[va] W fun e w'=>e=.returned (.string ⟨(Bn.bytes x).toArray⟩)∧Below W.heap.size W w'):=EL
  have HEF:Hid (∀x∈f,∀(W:World) (va:Value),Rep W W.heap.size x.2 va→Calls Tryz.prog 79 #[va] W fun e w'=>e=.returned (.string ⟨(Bn.bytes x.2).toArray⟩)∧Below W.heap.size W w'):=EF
  have HNL:Hid (nl=l.length∧nl≤64):=⟨hnl,by omega⟩
  have HNF:Hid (nf=f.length∧nf≤64):=⟨hnf,by omega⟩
  have HL5:Hid (k=5→(Bn.bytesL l).length≤4611686018427387904∧R.data.toList=6 :: (Bn.num nl++Bn.bytesL l)):=fun e=>by
    rw [Bn.bytes_hd t hfit0] at hlen
    have e2:Bn.hd t :: Bn.tl t=6 :: (Bn.num nl++Bn.bytesL l):=by rw [ht,e,hnl];rfl
    rw [e2] at hlen
    refine ⟨?_,HR.out.trans e2⟩
    simp only [List.length_cons,List.length_append] at hlen
    omega
  have HL6:Hid (k=6→(Bn.bytesF f).length≤4611686018427387904∧R.data.toList=7 :: (Bn.num nf++Bn.bytesF f)):=fun e=>by
    rw [Bn.bytes_hd t hfit0] at hlen
    have e2:Bn.hd t :: Bn.tl t=7 :: (Bn.num nf++Bn.bytesF f):=by rw [ht,e,hnf];rfl
    rw [e2] at hlen
    refine ⟨?_,HR.out.trans e2⟩
    simp only [List.length_cons,List.length_append] at hlen
    omega
  clear hr hlen hfit0 h7 h8 EL EF g0 g1 g2 g3 g4 g5 g6 g6' g7 g8 g9 g10 hm2 hmt hz2 hzt HR hR ht hnl hnf
  have G11:Hid (Bn.fitF f):=g11
  clear g11
  go_enter Tryz.func79,Tryz.ntmps79
  go_upto_region 2 with fail
  rw [←hA,←hw1]
  clear hA hw1
  obtain ⟨p0,p1,p2,p3,p4,p5⟩:=O1.out.row.cells
  rcases Bn.seven hk6 with rfl | rfl | rfl | rfl | rfl | rfl | rfl
  · clear c3 c4 c5
    go_wp2
    go_ret
    exact ⟨by rw [E0.out (by first | rfl | trivial)];rfl,O1.out.below⟩
  · clear c3 c4 c5
    cases b with
    | true =>
      go_wp2
      go_ret
      exact ⟨by rw [E1.out (by first | rfl | trivial)];rfl,O1.out.below⟩
    | false =>
      go_wp2
      go_ret
      exact ⟨by rw [E1.out (by first | rfl | trivial)];rfl,O1.out.below⟩
  · clear c4 c5
    go_wp2_with (first
      | (go_at_call 105;refine (C76.out _).mono ?_;rintro e w2 ⟨rfl,rfl⟩)
      | (go_at_call 104;refine (C26.out _).mono ?_;rintro e w3 ⟨rfl,hb3⟩
         have B3:Hid (Below w.heap.size w w3):=O1.out.below.trans (hb3.mono O1.out.below.size)
         clear hb3))
    go_ret
    exact ⟨by rw [←E2.out (by first | rfl | trivial)];rfl,B3.out⟩
  · clear c3 c5
    go_wp2_with (first
      | (go_at_call 106;refine (C77.out _).mono ?_;rintro e w3 ⟨rfl,hb3⟩
         have B3:Hid (Below w.heap.size w w3):=O1.out.below.trans (hb3.mono O1.out.below.size)
         clear hb3))
    go_ret
    exact ⟨by rw [←E3.out (by first | rfl | trivial)];rfl,B3.out⟩
  · clear c3 c4
    go_wp2_with (first
      | (go_at_call 106;refine (C77.out _).mono ?_;rintro e w3 ⟨rfl,hb3⟩
         have B3:Hid (Below w.heap.size w w3):=O1.out.below.trans (hb3.mono O1.out.below.size)
         clear hb3))
    go_ret
    exact ⟨by rw [←E4.out (by first | rfl | trivial)];rfl,B3.out⟩
  · clear c3 c4 c5 E0 E1 E2 E3 E4 C76 C26 C77
    obtain ⟨hb62,hR5⟩:=HL5.out (by first | rfl | trivial)
    have HB62:Hid ((Bn.bytesL l).length≤4611686018427387904):=hb62
    have HR5:Hid (R.data.toList=6 :: (Bn.num nl++Bn.bytesL l)):=hR5
    have hnl64:nl≤64:=HNL.out.2
    obtain ⟨m5,hm5⟩:∃m:ByteArray,m=⟨(Bn.num nl).toArray⟩:=⟨_,rfl⟩
    have C26:Hid (∀W,Calls Tryz.prog 104 #[.int .u64 (nl:Int)] W fun e w'=>e=.returned (.string m5)∧Below W.heap.size W w'):=fun W=>by rw [hm5];exact rnumber26 nl (by omega) W
    have HM5:Hid (m5.data.toList=Bn.num nl∧m5.size≤10):=⟨by rw [hm5],by rw [Lib.size_eq,hm5];exact Bn.num_len10 (by omega)⟩
    clear hb62 hR5 HL5 HL6 hm5
    go_wp2
    go_loopw [3,38] (fun sv i wr=>∃(j:Nat) (S:ByteArray),j≤nl∧i=.int .i64 j∧sv=.string S∧S.data.toList=Bn.bytesL (l.take j)∧OB w wr A t (.int .u8 5) (.bool b) (.int .i64 n) (.string s) (.slice ao nl lc) (.slice fo nf fc)) (fun _ i _=>nl - (intOf i).toNat)
    case atStart=>exact ⟨0,⟨#[]⟩,Nat.zero_le _,rfl,rfl,by rw [List.take_zero,Bn.bytesL],O1.out⟩
    case round =>
      obtain ⟨j,S,hj,rfl,rfl,hS,hO⟩:=hrel
      have O:Hid (OB w wr A t (.int .u8 5) (.bool b) (.int .i64 n) (.string s) (.slice ao nl lc) (.slice fo nf fc)):=hO
      have HS:Hid (S.data.toList=Bn.bytesL (l.take j)):=hS
      clear hS hO O1 p0 p1 p2 p3 p4 p5
      by_cases hlt:j<nl
      · have ha:j<l.length:=by rw [←HNL.out.1];exact hlt
        obtain ⟨g,o,rfl,hg,hrl⟩:=H7.out (by omega)
        obtain ⟨x,hx⟩:∃x,l[j]?=some x:=⟨_,List.getElem?_eq_getElem ha⟩
        obtain ⟨c0,c1,c2,c3,c4,c5,⟨d0,d1,d2,d3,d4,d5⟩,hrx⟩:=repL_at l o (repL_stays O.out.below (Nat.le_refl _) hg l o hrl) j x hx
        obtain ⟨xk,xb,xn,xs,xa,xl,xc,ya,yl,yc,rfl,rfl,rfl,rfl,rfl,rfl⟩:=rep_form hrx
        have HRX:Hid (Rep wr w.heap.size x (.agg #[.int .u8 (xk:Int),.bool xb,.int .i64 xn,.string xs,.slice xa xl xc,.slice ya yl yc])):=hrx
        have HX:Hid (l[j]?=some x):=hx
        clear hrl hx hrx ha
        go_upto_region 17 with fail
        obtain ⟨D,hD⟩:∃D,D=wr.heap.size:=⟨_,rfl⟩
        obtain ⟨w2,hw2⟩:∃w2,w2=wr.alloc (.cells #[.int .u8 (xk:Int),.bool xb,.int .i64 xn,.string xs,.slice xa xl xc,.slice ya yl yc] 32):=⟨_,rfl⟩
        have hb2:Below wr.heap.size wr w2:=by rw [hw2];exact below_new _ _
        have O2:Hid (OB w w2 A t (.int .u8 5) (.bool b) (.int .i64 n) (.string s) (.slice (some ⟨g,o,none⟩) nl lc) (.slice fo nf fc)):=O.out.call hb2
        have R2:Hid (Row6 w2 D (.int .u8 (xk:Int)) (.bool xb) (.int .i64 xn) (.string xs) (.slice xa xl xc) (.slice ya yl yc)):=by
          show Row6 _ _ _ _ _ _ _ _
          rw [hw2,hD];exact ⟨by simp,heap_alloc_new wr _⟩
        obtain ⟨Y,hY⟩:∃Y:ByteArray,Y=⟨(Bn.bytes x).toArray⟩:=⟨_,rfl⟩
        have C45:Hid (Calls Tryz.prog 79 #[.agg #[.int .u8 (xk:Int),.bool xb,.int .i64 xn,.string xs,.slice xa xl xc,.slice ya yl yc]] w2 fun e w'=>e=.returned (.string Y)∧Below w2.heap.size w2 w'):=by
          rw [hY]
          exact HEL.out x (List.mem_of_getElem? HX.out) w2 _ (rep_stays (hb2.mono O.out.below.size) O2.out.below.size x _ HRX.out)
        have HN:Hid ((S++Y).data.toList=Bn.bytesL (l.take (j+1))):=by show _=_;rw [Bn.cat_list,HS.out,hY,Bn.bytesL_take HX.out]
        have hcat:¬9223372036854775807<S.size+Y.size:=by
          have h1:=congrArg List.length HN.out
          rw [Bn.cat_list,List.length_append,←Lib.size_eq,←Lib.size_eq] at h1
          have h2:=Bn.bytesL_take_le l (j+1)
          have h3:=HB62.out
          omega
        rw [←hD,←hw2]
        clear hD hw2 hb2 O d0 d1 d2 d3 d4 d5 hY HRX
        obtain ⟨p0,p1,p2,p3,p4,p5⟩:=R2.out.cells
        go_wp2_with (first
          | (go_at_call 79;refine C45.out.mono ?_;rintro e w3 ⟨rfl,hb3⟩
             have O3:Hid (OB w w3 A t (.int .u8 5) (.bool b) (.int .i64 n) (.string s) (.slice (some ⟨g,o,none⟩) nl lc) (.slice fo nf fc)):=O2.out.call hb3
             clear hb3))
        go_roundw
        case rel=>((repeat apply Exists.intro);exact ⟨⟨j+1,S++Y,by omega,by go_num,rfl,HN.out,O3.out⟩,rfl⟩)
        case measure=>simp [intOf];omega
      · have hjn:j=nl:=by omega
        subst hjn
        have HSL:Hid (S.data.toList=Bn.bytesL l):=by show _=_;rw [HS.out,HNL.out.1,List.take_length]
        have HE:Hid ((⟨#[6]⟩++m5)++S=R):=Bn.data_ext (by rw [Bn.cat_list,Bn.cat_list,HR5.out,HSL.out,HM5.out.1];rfl)
        have hm10:=HM5.out.2
        have s6:(⟨#[6]⟩:ByteArray).size=1:=rfl
        have hSs:S.size≤4611686018427387904:=by rw [Lib.size_eq,HSL.out];exact HB62.out
        have ct1:¬9223372036854775807<(⟨#[6]⟩:ByteArray).size+m5.size:=by rw [s6];omega
        have ct2:¬9223372036854775807<((⟨#[6]⟩:ByteArray)++m5).size+S.size:=by rw [ByteArray.size_append,s6];omega
        obtain ⟨p0,p1,p2,p3,p4,p5⟩:=O.out.row.cells
        have q1:(j:Int)<18446744073709551616:=by omega
        clear HS hm10 s6 hSs
        go_wp2_with (first
          | (go_at_call 104;refine (C26.out _).mono ?_;rintro e w3 ⟨rfl,hb3⟩
             have B3:Hid (Below w.heap.size w w3):=O.out.below.trans (hb3.mono O.out.below.size)
             clear hb3))
        go_ret
        exact ⟨by rw [←HE.out];rfl,B3.out⟩
  · clear c3 c4 c5 E0 E1 E2 E3 E4 C76 C26 C77
    obtain ⟨hb62,hR6⟩:=HL6.out (by first | rfl | trivial)
    have HB62:Hid ((Bn.bytesF f).length≤4611686018427387904):=hb62
    have HR6:Hid (R.data.toList=7 :: (Bn.num nf++Bn.bytesF f)):=hR6
    have hnf64:nf≤64:=HNF.out.2
    obtain ⟨m6,hm6⟩:∃m:ByteArray,m=⟨(Bn.num nf).toArray⟩:=⟨_,rfl⟩
    have C26:Hid (∀W,Calls Tryz.prog 104 #[.int .u64 (nf:Int)] W fun e w'=>e=.returned (.string m6)∧Below W.heap.size W w'):=fun W=>by rw [hm6];exact rnumber26 nf (by omega) W
    have HM6:Hid (m6.data.toList=Bn.num nf∧m6.size≤10):=⟨by rw [hm6],by rw [Lib.size_eq,hm6];exact Bn.num_len10 (by omega)⟩
    clear hb62 hR6 HL5 HL6 hm6
    go_wp2
    go_loopw [3,60] (fun sv i wr=>∃(j:Nat) (S:ByteArray),j≤nf∧i=.int .i64 j∧sv=.string S∧S.data.toList=Bn.bytesF (f.take j)∧OB w wr A t (.int .u8 6) (.bool b) (.int .i64 n) (.string s) (.slice ao nl lc) (.slice fo nf fc)) (fun _ i _=>nf - (intOf i).toNat)
    case atStart=>exact ⟨0,⟨#[]⟩,Nat.zero_le _,rfl,rfl,by rw [List.take_zero,Bn.bytesF],O1.out⟩
    case round =>
      obtain ⟨j,S,hj,rfl,rfl,hS,hO⟩:=hrel
      have O:Hid (OB w wr A t (.int .u8 6) (.bool b) (.int .i64 n) (.string s) (.slice ao nl lc) (.slice fo nf fc)):=hO
      have HS:Hid (S.data.toList=Bn.bytesF (f.take j)):=hS
      clear hS hO O1 p0 p1 p2 p3 p4 p5
      by_cases hlt:j<nf
      · have ha:j<f.length:=by rw [←HNF.out.1];exact hlt
        obtain ⟨g,o,rfl,hg,hrl⟩:=H8.out (by omega)
        obtain ⟨⟨m,x⟩,hx⟩:∃x,f[j]?=some x:=⟨_,List.getElem?_eq_getElem ha⟩
        obtain ⟨dm,hms,c0,c1,c2,c3,c4,c5,⟨d0,d1,d2,d3,d4,d5⟩,hrx⟩:=repF_at f o (repF_stays O.out.below (Nat.le_refl _) hg f o hrl) j m x hx
        rw [show o+j*7+1+1=o+j*7+2 by omega] at d1
        rw [show o+j*7+1+2=o+j*7+3 by omega] at d2
        rw [show o+j*7+1+3=o+j*7+4 by omega] at d3
        rw [show o+j*7+1+4=o+j*7+5 by omega] at d4
        rw [show o+j*7+1+5=o+j*7+6 by omega] at d5
        obtain ⟨xk,xb,xn,xs,xa,xl,xc,ya,yl,yc,rfl,rfl,rfl,rfl,rfl,rfl⟩:=rep_form hrx
        have HRX:Hid (Rep wr w.heap.size x (.agg #[.int .u8 (xk:Int),.bool xb,.int .i64 xn,.string xs,.slice xa xl xc,.slice ya yl yc])):=hrx
        have HX:Hid (f[j]?=some (m,x)):=hx
        clear hrl hx hrx ha hms
        go_upto_region 24 with fail
        obtain ⟨D,hD⟩:∃D,D=wr.heap.size:=⟨_,rfl⟩
        obtain ⟨w2,hw2⟩:∃w2,w2=wr.alloc (.cells #[.string m,.int .u8 (xk:Int),.bool xb,.int .i64 xn,.string xs,.slice xa xl xc,.slice ya yl yc] 147):=⟨_,rfl⟩
        have hb2:Below wr.heap.size wr w2:=by rw [hw2];exact below_new _ _
        have O2:Hid (OB w w2 A t (.int .u8 6) (.bool b) (.int .i64 n) (.string s) (.slice ao nl lc) (.slice (some ⟨g,o,none⟩) nf fc)):=O.out.call hb2
        have R2:Hid (D<w2.heap.size∧w2.heap[D]?=some (.cells #[.string m,.int .u8 (xk:Int),.bool xb,.int .i64 xn,.string xs,.slice xa xl xc,.slice ya yl yc] 147 (0,0))):=by
          show _∧_
          rw [hw2,hD];exact ⟨by simp,heap_alloc_new wr _⟩
        obtain ⟨Y,hY⟩:∃Y:ByteArray,Y=⟨(Bn.bytes x).toArray⟩:=⟨_,rfl⟩
        obtain ⟨M,hM⟩:∃M:ByteArray,M=⟨(Bn.text m).toArray⟩:=⟨_,rfl⟩
        have hmf:=Bn.fitF_mem f m x G11.out (List.mem_of_getElem? HX.out)
        have C77:Hid (∀W,Calls Tryz.prog 106 #[.string m] W fun e w'=>e=.returned (.string M)∧Below W.heap.size W w'):=fun W=>by rw [hM];exact bytes77 m (by have:=hmf.1;omega) W
        have C45:Hid (∀W,Below w2.heap.size w2 W→Calls Tryz.prog 79 #[.agg #[.int .u8 (xk:Int),.bool xb,.int .i64 xn,.string xs,.slice xa xl xc,.slice ya yl yc]] W fun e w'=>e=.returned (.string Y)∧Below W.heap.size W w'):=fun W hW=>by
          rw [hY]
          exact HEF.out (m,x) (List.mem_of_getElem? HX.out) W _ (rep_stays ((hb2.trans (hW.mono hb2.size)).mono O.out.below.size) (Nat.le_trans O2.out.below.size hW.size) x _ HRX.out)
        have HN:Hid ((S++(M++Y)).data.toList=Bn.bytesF (f.take (j+1))):=by show _=_;rw [Bn.cat_list,Bn.cat_list,HS.out,hY,hM,Bn.bytesF_take HX.out]
        have hlens:S.size+(M.size+Y.size)≤4611686018427387904:=by
          have h1:=congrArg List.length HN.out
          rw [Bn.cat_list,Bn.cat_list,List.length_append,List.length_append,←Lib.size_eq,←Lib.size_eq,←Lib.size_eq] at h1
          have h2:=Bn.bytesF_take_le f (j+1)
          have h3:=HB62.out
          omega
        have hcat1:¬9223372036854775807<M.size+Y.size:=by omega
        have hcat2:¬9223372036854775807<S.size+(M++Y).size:=by rw [ByteArray.size_append];omega
        have hcat3:¬9223372036854775807<S.size+(M.size+Y.size):=by omega
        rw [←hD,←hw2]
        clear hD hw2 hb2 O dm d0 d1 d2 d3 d4 d5 hY hM HRX hlens hmf
        have p0:=block_cells R2.out.2 0 _ rfl
        have p1:=block_cells R2.out.2 1 _ rfl
        have p2:=block_cells R2.out.2 2 _ rfl
        have p3:=block_cells R2.out.2 3 _ rfl
        have p4:=block_cells R2.out.2 4 _ rfl
        have p5:=block_cells R2.out.2 5 _ rfl
        have p6:=block_cells R2.out.2 6 _ rfl
        go_region_law (first
          | (go_simp;go_at_call 106;refine (C77.out _).mono ?_;rintro e w3 ⟨rfl,hb3⟩
             have B3:Hid (Below w2.heap.size w2 w3):=(by first | exact (Below.refl _ _).drew.trans hb3 | exact hb3)
             have hr3:=(B3.out.block D R2.out.1).trans R2.out.2
             have q0:=block_cells hr3 0 _ rfl
             have q1:=block_cells hr3 1 _ rfl
             have q2:=block_cells hr3 2 _ rfl
             have q3:=block_cells hr3 3 _ rfl
             have q4:=block_cells hr3 4 _ rfl
             have q5:=block_cells hr3 5 _ rfl
             have q6:=block_cells hr3 6 _ rfl
             clear hb3 hr3)
          | (go_simp;go_at_call 79;refine (C45.out _ B3.out).mono ?_;rintro e w4 ⟨rfl,hb4⟩
             have O4:Hid (OB w w4 A t (.int .u8 6) (.bool b) (.int .i64 n) (.string s) (.slice ao nl lc) (.slice (some ⟨g,o,none⟩) nf fc)):=(O2.out.call B3.out).call hb4
             clear hb4))
        all_goals
          go_wp2
          go_roundw
          case rel=>((repeat apply Exists.intro);exact ⟨⟨j+1,S++(M++Y),by omega,by go_num,rfl,HN.out,O4.out⟩,rfl⟩)
          case measure=>simp [intOf];omega
      · have hjn:j=nf:=by omega
        subst hjn
        have HSL:Hid (S.data.toList=Bn.bytesF f):=by show _=_;rw [HS.out,HNF.out.1,List.take_length]
        have HE:Hid ((⟨#[7]⟩++m6)++S=R):=Bn.data_ext (by rw [Bn.cat_list,Bn.cat_list,HR6.out,HSL.out,HM6.out.1];rfl)
        have hm10:=HM6.out.2
        have s6:(⟨#[7]⟩:ByteArray).size=1:=rfl
        have hSs:S.size≤4611686018427387904:=by rw [Lib.size_eq,HSL.out];exact HB62.out
        have ct1:¬9223372036854775807<(⟨#[7]⟩:ByteArray).size+m6.size:=by rw [s6];omega
        have ct2:¬9223372036854775807<((⟨#[7]⟩:ByteArray)++m6).size+S.size:=by rw [ByteArray.size_append,s6];omega
        obtain ⟨p0,p1,p2,p3,p4,p5⟩:=O.out.row.cells
        have q1:(j:Int)<18446744073709551616:=by omega
        clear HS hm10 s6 hSs
        go_wp2_with (first
          | (go_at_call 104;refine (C26.out _).mono ?_;rintro e w3 ⟨rfl,hb3⟩
             have B3:Hid (Below w.heap.size w w3):=O.out.below.trans (hb3.mono O.out.below.size)
             clear hb3))
        go_ret
        exact ⟨by rw [←HE.out];rfl,B3.out⟩
theorem text45:∀(N:Nat) (t:V),Vl.count t≤N→Bn.fit t→(Bn.bytes t).length≤4611686018427387904→∀(w:World) (v:Value),Rep w w.heap.size t v→Calls Tryz.prog 79 #[v] w fun e w'=>e=.returned (.string ⟨(Bn.bytes t).toArray⟩)∧Below w.heap.size w w':=by
  intro N
  induction N with
  | zero=>intro t ht;obtain ⟨k,b,n,s,l,f⟩:=t;rw [Vl.count] at ht;omega
  | succ N ih =>
    rintro ⟨k,b,n,s,l,f⟩ ht hfit hlen w v hr
    have hr':=hr
    rw [Rep] at hr'
    obtain ⟨ao,lc,fo,fc,rfl,_⟩:=hr'
    have hfit':=hfit
    rw [Bn.fit] at hfit'
    obtain ⟨g0,g1,g2,g3,g4,g5,_,_,_,_,g10,g11⟩:=hfit'
    have hb:=Bn.bytes_hd _ hfit
    rw [hb,List.length_cons,Bn.tl] at hlen
    refine text45_one k b n s l f hfit (by rw [hb,List.length_cons,Bn.tl];exact hlen) w ao lc fo fc hr (fun x hx W va hrx=>?_) (fun x hx W va hrx=>?_)
    · obtain ⟨q,hq⟩:=List.getElem?_of_mem hx
      refine ih x (by have:=Vl.count_partL (k:=k) (b:=b) (n:=n) (s:=s) (f:=f) hq;omega) (Bn.fitL_mem l x g10 hx) ?_ W va hrx
      have h1:=Bn.bytesL_take_le l (q+1)
      rw [Bn.bytesL_take hq,List.length_append] at h1
      have k5:k=5:=Decidable.byContradiction fun hn=>by rw [g4 hn] at hx;cases hx
      rw [if_neg (by omega),if_neg (by omega),if_neg (by omega),if_pos k5,List.length_append] at hlen
      omega
    · obtain ⟨q,hq⟩:=List.getElem?_of_mem hx
      obtain ⟨m,x⟩:=x
      refine ih x (by have:=Vl.count_partF (k:=k) (b:=b) (n:=n) (s:=s) (l:=l) hq;omega) (Bn.fitF_mem f m x g11 hx).2 ?_ W va hrx
      have h1:=Bn.bytesF_take_le f (q+1)
      rw [Bn.bytesF_take hq,List.length_append,List.length_append] at h1
      have k6:k=6:=Decidable.byContradiction fun hn=>by rw [g5 hn] at hx;cases hx
      rw [if_neg (by omega),if_neg (by omega),if_neg (by omega),if_neg (by omega),List.length_append] at hlen
      omega
end Go.Proofs.YtggnfejjcgbebaaGreatDoor
/- The document's Write, walked. -/
namespace Go.Proofs.YtggnfejjcgbebaaGreatDoor
open Go.RowKit
open Vl (V)
namespace Bn
theorem pow_pos':∀e:Nat,1≤200 ^ e
  | 0=>by simp
  | e+1=>by rw [Nat.pow_succ];have:=pow_pos' e;omega
mutual
theorem len_right:∀(t:V) (d:Nat),d≤6→Vl.check u8 d t=0→rng t→(bytes t).length≤2000*200 ^ (6 - d)
  | ⟨k,b,n,s,l,f⟩,d,hd,h,hr=>by
    have hf:=fit_of u8 d _ h hr
    have hh:=bytes_hd _ hf
    obtain ⟨a1,a2,a3,a4,a5,a6,a7,a8⟩:=Vl.right_form u8 h
    obtain ⟨b1,b2,b3⟩:=alone_sizes h
    rw [fit] at hf
    rw [rng] at hr
    have hp:=pow_pos' (6 - d)
    rw [hh,List.length_cons,tl]
    have hn1:=num_len10 (m:=fold n) (fold_lt n hr.1.1 hr.1.2)
    have hn2:=num_len10 (m:=s.size) (by omega)
    have hn3:=num_len10 (m:=l.length) (by omega)
    have hn4:=num_len10 (m:=f.length) (by omega)
    have ht:(text s).length=(num s.size).length+s.size:=by rw [text,List.length_append,←Lib.size_eq]
    have hsmall:1100≤2000*200 ^ (6 - d):=by omega
    by_cases h1:k≤1
    · rw [if_pos h1];simp only [List.length_nil];omega
    · rw [if_neg h1]
      by_cases h2:k=2
      · rw [if_pos h2];omega
      · rw [if_neg h2]
        by_cases h3:k=3∨k=4
        · rw [if_pos h3];omega
        · rw [if_neg h3]
          have h0:Vl.alone u8 d ⟨k,b,n,s,l,f⟩=0:=by
            rw [Vl.check] at h
            by_cases e:Vl.alone u8 d ⟨k,b,n,s,l,f⟩=0
            · exact e
            · rw [if_pos e] at h;exact absurd h e
          by_cases h5:k=5
          · rw [if_pos h5,List.length_append]
            by_cases hl:0<l.length
            · have hd6:=Vl.alone_depth u8 h0 (Or.inl hl)
              have ih:=lenL_right l (d+1) (by omega) a7 hr.2.1
              have e1:200 ^ (6 - d)=200 ^ (6 - (d+1))*200:=by rw [←Nat.pow_succ];congr 1;omega
              have hp1:=pow_pos' (6 - (d+1))
              have m1:l.length*(2000*200 ^ (6 - (d+1)))≤64*(2000*200 ^ (6 - (d+1))):=Nat.mul_le_mul_right _ b2
              rw [e1]
              generalize 200 ^ (6 - (d+1))=P at *
              omega
            · obtain rfl:l=[]:=List.eq_nil_of_length_eq_zero (by omega)
              rw [bytesL];simp only [List.length_nil] at *;omega
          · rw [if_neg h5,List.length_append]
            by_cases hl:0<f.length
            · have hd6:=Vl.alone_depth u8 h0 (Or.inr hl)
              have ih:=lenF_right f (d+1) Option.none (by omega) a8 hr.2.2
              have e1:200 ^ (6 - d)=200 ^ (6 - (d+1))*200:=by rw [←Nat.pow_succ];congr 1;omega
              have hp1:=pow_pos' (6 - (d+1))
              have m1:f.length*(1034+2000*200 ^ (6 - (d+1)))≤64*(1034+2000*200 ^ (6 - (d+1))):=Nat.mul_le_mul_right _ b3
              rw [e1]
              generalize 200 ^ (6 - (d+1))=P at *
              omega
            · obtain rfl:f=[]:=List.eq_nil_of_length_eq_zero (by omega)
              rw [bytesF];simp only [List.length_nil] at *;omega
theorem lenL_right:∀(l:List V) (d:Nat),d≤6→Vl.checkL u8 d l=0→rngL l→(bytesL l).length≤l.length*(2000*200 ^ (6 - d))
  | [],_,_,_,_=>by rw [bytesL];simp
  | x :: r,d,hd,h,hr=>by
    rw [Vl.checkL] at h
    rw [rngL] at hr
    by_cases e:Vl.check u8 d x=0
    · rw [if_neg (by simp [e])] at h
      have h1:=len_right x d hd e hr.1
      have h2:=lenL_right r d hd h hr.2
      rw [bytesL,List.length_append,List.length_cons,Nat.add_mul,Nat.one_mul]
      omega
    · rw [if_pos e] at h;exact absurd h e
theorem lenF_right:∀(f:List (ByteArray × V)) (d:Nat) (p:Option ByteArray),d≤6→Vl.checkF u8 d p f=0→rngF f→(bytesF f).length≤f.length*(1034+2000*200 ^ (6 - d))
  | [],_,_,_,_,_=>by rw [bytesF];simp
  | (m,x) :: r,d,p,hd,h,hr=>by
    rw [Vl.checkF] at h
    rw [rngF] at hr
    by_cases e0:Vl.nameErr u8 m=0
    · rw [if_neg (by simp [e0])] at h
      by_cases e1:Vl.notUp m p=true
      · rw [if_pos e1] at h;cases h
      · rw [if_neg e1] at h
        by_cases e:Vl.check u8 d x=0
        · rw [if_neg (by simp [e])] at h
          have h1:=len_right x d hd e hr.1
          have h2:=lenF_right r d (some m) hd h hr.2
          have hm:m.size≤1024:=by
            rw [Vl.nameErr] at e0
            split at e0
            · cases e0
            · omega
          have hn:=num_len10 (m:=m.size) (by omega)
          rw [bytesF,List.length_append,List.length_append,List.length_cons,Nat.add_mul,Nat.one_mul,text,List.length_append,←Lib.size_eq]
          omega
        · rw [if_pos e] at h;exact absurd h e
    · rw [if_pos e0] at h;exact absurd h e0
end
theorem len_small {t:V} (h:Vl.check u8 0 t=0) (hr:rng t):(bytes t).length≤4611686018427387904 :=
  Nat.le_trans (len_right t 0 (by omega) h hr) (by decide)
end Bn
set_option maxHeartbeats 4000000 in
set_option maxRecDepth 10000 in
theorem rwrite19 (t:V) (w:World) (v:Value) (hR:Rep w w.heap.size t v) :
    Calls Tryz.prog 38 #[v] w fun e w'=>e=.returned (.tuple #[.string (Bn.wtext t),.int .i64 ((Bn.werr t:Nat):Int)])∧Below w.heap.size w w':=by
  obtain ⟨xk,xb,xn,xs,xa,xl,xc,va,vl,vc,hv⟩:=rep_shape hR
  subst hv
  obtain ⟨B,hB⟩:∃B,B=w.heap.size:=⟨_,rfl⟩
  obtain ⟨w1,hw1⟩:∃w1,w1=w.alloc (.cells #[.int .u8 (xk:Int),.bool xb,.int .i64 xn,.string xs,.slice xa xl xc,.slice va vl vc] 32):=⟨_,rfl⟩
  have O1:Hid (OB w w1 B t (.int .u8 (xk:Int)) (.bool xb) (.int .i64 xn) (.string xs) (.slice xa xl xc) (.slice va vl vc)):=by
    show OB _ _ _ _ _ _ _ _ _ _
    rw [hw1,hB];exact OB.start w t _ _ _ _ _ _ hR
  obtain ⟨c,hc⟩:∃c,c=Vl.check Bn.u8 0 t:=⟨_,rfl⟩
  obtain ⟨we,hwe⟩:∃we,we=Bn.werr t:=⟨_,rfl⟩
  obtain ⟨wt,hwt⟩:∃wt,wt=Bn.wtext t:=⟨_,rfl⟩
  obtain ⟨R,hRt⟩:∃R:ByteArray,R=⟨(Bn.bytes t).toArray⟩:=⟨_,rfl⟩
  have C44:Hid (∀W,OB w W B t (.int .u8 (xk:Int)) (.bool xb) (.int .i64 xn) (.string xs) (.slice xa xl xc) (.slice va vl vc)→Calls Tryz.prog 78 #[.agg #[.int .u8 (xk:Int),.bool xb,.int .i64 xn,.string xs,.slice xa xl xc,.slice va vl vc]] W fun e w'=>e=.returned (.int .i64 (c:Int))∧Below W.heap.size W w'):=fun W hW=>by
    rw [hc]
    exact rcheck19 t W w.heap.size _ hW.below.size hW.rep
  have C45:Hid (c=0→∀W,OB w W B t (.int .u8 (xk:Int)) (.bool xb) (.int .i64 xn) (.string xs) (.slice xa xl xc) (.slice va vl vc)→Calls Tryz.prog 79 #[.agg #[.int .u8 (xk:Int),.bool xb,.int .i64 xn,.string xs,.slice xa xl xc,.slice va vl vc]] W fun e w'=>e=.returned (.string R)∧Below W.heap.size W w'):=fun h0 W hW=>by
    rw [hRt]
    have hc0:Vl.check Bn.u8 0 t=0:=by rw [←hc];exact h0
    have hrng:=Bn.rep_rng t _ hR
    exact text45 _ t (Nat.le_refl _) (Bn.fit_of Bn.u8 0 t hc0 hrng) (Bn.len_small hc0 hrng) W _ (rep_stays (Below.refl _ _) hW.below.size t _ hW.rep)
  have HWE:Hid (c≠0→we=c∧wt=⟨#[]⟩):=fun h=>by rw [hwe,hwt];rw [hc] at h ⊢;exact Bn.werr_why h
  have hRl:R.size=(Bn.bytes t).length:=by rw [Lib.size_eq,hRt]
  have HWL:Hid (c=0→16384<R.size→we=4∧wt=⟨#[]⟩):=fun h h2=>by
    rw [hwe,hwt]
    exact Bn.werr_long (by rw [←hc];exact h) (by rw [←hRl];exact h2)
  have HWO:Hid (c=0→¬16384<R.size→we=0∧wt=R):=fun h h2=>by
    rw [hwe,hwt,hRt]
    exact Bn.werr_ok (by rw [←hc];exact h) (by rw [←hRl];exact h2)
  rw [←hwe,←hwt]
  clear hR hc hwe hwt hRt hRl
  go_enter Tryz.func38,Tryz.ntmps38
  go_upto_region 1 with fail
  rw [←hB,←hw1]
  clear hB hw1
  obtain ⟨p0,p1,p2,p3,p4,p5⟩:=O1.out.row.cells
  by_cases h0:c=0
  · have D45:Hid (∀W,OB w W B t (.int .u8 (xk:Int)) (.bool xb) (.int .i64 xn) (.string xs) (.slice xa xl xc) (.slice va vl vc)→Calls Tryz.prog 79 #[.agg #[.int .u8 (xk:Int),.bool xb,.int .i64 xn,.string xs,.slice xa xl xc,.slice va vl vc]] W fun e w'=>e=.returned (.string R)∧Below W.heap.size W w'):=C45.out h0
    by_cases hl:16384<R.size
    · obtain ⟨rfl,rfl⟩:=HWL.out h0 hl
      have hl':(16384:Int)<(R.size:Int):=by omega
      subst h0
      clear C45 HWE HWL HWO hl
      go_wp2_with (first
        | (go_at_call 78;refine (C44.out _ O1.out).mono ?_;rintro e w2 ⟨rfl,hb2⟩
           have O2:Hid (OB w w2 B t (.int .u8 (xk:Int)) (.bool xb) (.int .i64 xn) (.string xs) (.slice xa xl xc) (.slice va vl vc)):=O1.out.call hb2
           obtain ⟨p0,p1,p2,p3,p4,p5⟩:=O2.out.row.cells
           clear hb2)
        | (go_at_call 79;refine (D45.out _ O2.out).mono ?_;rintro e w3 ⟨rfl,hb3⟩
           have B3:Hid (Below w.heap.size w w3):=O2.out.below.trans (hb3.mono O2.out.below.size)
           clear hb3))
      go_ret2
      exact ⟨rfl,B3.out⟩
    · obtain ⟨rfl,rfl⟩:=HWO.out h0 hl
      have hl':¬(16384:Int)<(wt.size:Int):=by omega
      subst h0
      clear C45 HWE HWL HWO hl
      go_wp2_with (first
        | (go_at_call 78;refine (C44.out _ O1.out).mono ?_;rintro e w2 ⟨rfl,hb2⟩
           have O2:Hid (OB w w2 B t (.int .u8 (xk:Int)) (.bool xb) (.int .i64 xn) (.string xs) (.slice xa xl xc) (.slice va vl vc)):=O1.out.call hb2
           obtain ⟨p0,p1,p2,p3,p4,p5⟩:=O2.out.row.cells
           clear hb2)
        | (go_at_call 79;refine (D45.out _ O2.out).mono ?_;rintro e w3 ⟨rfl,hb3⟩
           have B3:Hid (Below w.heap.size w w3):=O2.out.below.trans (hb3.mono O2.out.below.size)
           clear hb3))
      go_ret2
      exact ⟨rfl,B3.out⟩
  · obtain ⟨rfl,rfl⟩:=HWE.out h0
    have h0':¬(we:Int)=0:=by omega
    clear C45 HWE HWL HWO h0
    go_wp2_with (first
      | (go_at_call 78;refine (C44.out _ O1.out).mono ?_;rintro e w2 ⟨rfl,hb2⟩
         have B2:Hid (Below w.heap.size w w2):=O1.out.below.trans (hb2.mono O1.out.below.size)
         clear hb2))
    go_ret2
    exact ⟨rfl,B2.out⟩
end Go.Proofs.YtggnfejjcgbebaaGreatDoor
