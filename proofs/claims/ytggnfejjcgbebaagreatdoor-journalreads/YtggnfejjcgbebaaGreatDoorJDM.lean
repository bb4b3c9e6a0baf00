/- Several texts, joined: BinP, BinC -/
import Derived.Test.YtggnfejjcgbebaaGreatDoorJCM
/- The writer's parts, whatever a part writes. -/
namespace Go.Proofs.YtggnfejjcgbebaaGreatDoor
open Go.RowKit
open Vl (V)
theorem Out.call {g:Nat} {l:List UInt8} {v:Value} {w w':World} (h:Out g l v w) (b:Below w.heap.size w w'):Out g l v w' :=
  ⟨Nat.lt_of_lt_of_le h.lt b.size,(b.cell (p:=⟨g,0,none⟩) h.lt).trans h.cell,(b.frozen (p:=⟨g,0,none⟩) h.lt).trans h.free,own_below h.own b⟩
theorem Wrote.after {g:Nat} {v v':Value} {w w1 w':World} (b:Below w.heap.size w w1) (h:Wrote g v v' w1 w'):Wrote g v v' w w':=by
  have hs:=b.size
  refine ⟨h.os.trans b.os,h.tape.trans b.tape,h.output.trans b.output,Nat.le_trans b.size h.size,fun k hk hg hv=>(h.block k (by omega) hg hv).trans (b.block k hk),?_⟩
  rcases h.own with e | ⟨j,e,hj⟩
  · exact Or.inl e
  · exact Or.inr ⟨j,e,by omega⟩
theorem Wrote.keeps {g k:Nat} {v v':Value} {w w':World} (h:Wrote g v v' w w') (hk:k<w.heap.size) (hv:v.ownBlock≠some k):v'.ownBlock≠some k:=by
  rcases h.own with e | ⟨j,e,hj⟩
  · rw [e];exact hv
  · rw [e];intro e2;cases e2;omega
namespace Bn
def runs (step:Nat→List UInt8→List UInt8):Nat→Nat→List UInt8→List UInt8
  | 0,_,o=>o
  | m+1,j,o=>if 16384<o.length then o else runs step m (j+1) (step j o)
theorem runs_over (step:Nat→List UInt8→List UInt8) (m j:Nat) (o:List UInt8) (h:16384<o.length):runs step m j o=o:=by
  cases m with
  | zero=>rfl
  | succ m=>rw [runs,if_pos h]
end Bn
set_option maxHeartbeats 2000000 in
set_option maxRecDepth 10000 in
theorem parts72L (g B:Nat) (o:List UInt8) (ho:o.length≤200000) (many:Nat) (hm:many≤64) (step:Nat→List UInt8→List UInt8) (v:Value) (w:World) (h:Out g o v w)
    (HC:∀(j:Nat) (o1:List UInt8) (v1:Value) (W:World),j<many→o1.length≤16384→Out g o1 v1 W→Wrote g v v1 w W→Calls Tryz.prog 117 #[.int .i64 (j:Int),.pointer (some ⟨B,0,none⟩),.pointer (some ⟨B+1,0,none⟩)] W fun e w'=>e=.returned (.tuple #[])∧∃v2,Out g (step j o1) v2 w'∧Wrote g v1 v2 W w') :
    Calls Tryz.prog 116 #[.pointer (some ⟨g,0,none⟩),.int .i64 (many:Int),.func (.func 117) #[] #[.pointer (some ⟨B,0,none⟩),.pointer (some ⟨B+1,0,none⟩)]] w fun e w'=>e=.returned (.tuple #[])∧∃v',Out g (Bn.runs step many 0 (o++Bn.num many)) v' w'∧Wrote g v v' w w':=by
  have C69:Hid (Calls Tryz.prog 113 #[.pointer (some ⟨g,0,none⟩),.int .u64 (many:Int)] w fun e w'=>e=.returned (.tuple #[])∧∃v',Out g (o++Bn.num many) v' w'∧Wrote g v v' w w'):=number69 g o (by omega) many (by omega) v w h
  have q1:(many:Int)<18446744073709551616:=by omega
  have HCC:Hid (∀(j:Nat) (o1:List UInt8) (v1:Value) (W:World),j<many→o1.length≤16384→Out g o1 v1 W→Wrote g v v1 w W→Calls Tryz.prog 117 #[.int .i64 (j:Int),.pointer (some ⟨B,0,none⟩),.pointer (some ⟨B+1,0,none⟩)] W fun e w'=>e=.returned (.tuple #[])∧∃v2,Out g (step j o1) v2 w'∧Wrote g v1 v2 W w'):=HC
  obtain ⟨o0,ho0⟩:∃o0,o0=o++Bn.num many:=⟨_,rfl⟩
  rw [←ho0] at C69 ⊢
  clear h HC ho ho0
  go_enter Tryz.func116,Tryz.ntmps116
  go_wp2_with (first
    | (go_at_call 113;refine C69.out.mono ?_;rintro e w1 ⟨rfl,v1,h1,h2⟩
       have H1:Hid (Out g o0 v1 w1):=h1
       have H2:Hid (Wrote g v v1 w w1):=h2
       clear h1 h2 C69))
  go_loopw [12] (fun i wr=>∃(j:Nat) (o1:List UInt8) (v1:Value),j≤many∧i=.int .i64 j∧Out g o1 v1 wr∧Wrote g v v1 w wr∧Bn.runs step (many - j) j o1=Bn.runs step many 0 o0) (fun i _=>many - (intOf i).toNat)
  case atStart=>exact ⟨0,o0,v1,Nat.zero_le _,rfl,H1.out,H2.out,rfl⟩
  case round =>
    obtain ⟨j,o1,v1,hj,rfl,h1,h2,h3⟩:=hrel
    have R1:Hid (Out g o1 v1 wr):=h1
    have R2:Hid (Wrote g v v1 w wr):=h2
    have R3:Hid (Bn.runs step (many - j) j o1=Bn.runs step many 0 o0):=h3
    clear h1 h2 h3
    by_cases hlt:j<many
    · by_cases hov:16384<o1.length
      · have C43:Hid (Calls Tryz.prog 88 #[.pointer (some ⟨g,0,none⟩)] wr fun e w'=>e=.returned (.bool true)∧w'=wr):=(over43 g o1 v1 wr R1.out).mono (by rintro e w' ⟨rfl,rfl⟩;simp [hov])
        have HE:Hid (o1=Bn.runs step many 0 o0):=by show _=_;rw [←R3.out,Bn.runs_over _ _ _ _ hov]
        clear hov
        go_wp2_with (first
          | (go_at_call 88;refine C43.out.mono ?_;rintro e w3 ⟨rfl,rfl⟩))
        exact bodyPost_ret (v:=.tuple #[]) (results_none (by rfl) _ _ _) rfl ⟨rfl,v1,by rw [←HE.out];exact R1.out,R2.out⟩
      · have C43:Hid (Calls Tryz.prog 88 #[.pointer (some ⟨g,0,none⟩)] wr fun e w'=>e=.returned (.bool false)∧w'=wr):=(over43 g o1 v1 wr R1.out).mono (by rintro e w' ⟨rfl,rfl⟩;simp [hov])
        have C73:Hid (Calls Tryz.prog 117 #[.int .i64 (j:Int),.pointer (some ⟨B,0,none⟩),.pointer (some ⟨B+1,0,none⟩)] wr fun e w'=>e=.returned (.tuple #[])∧∃v2,Out g (step j o1) v2 w'∧Wrote g v1 v2 wr w'):=HCC.out j o1 v1 wr hlt (by omega) R1.out R2.out
        have HE:Hid (Bn.runs step (many - (j+1)) (j+1) (step j o1)=Bn.runs step many 0 o0):=by
          show _=_
          rw [←R3.out,show many - j=(many - (j+1))+1 by omega,Bn.runs,if_neg hov]
        clear hov
        go_wp2_with (first
          | (go_at_call 88;refine C43.out.mono ?_;rintro e w3 ⟨rfl,rfl⟩)
          | (go_at_call 117;refine C73.out.mono ?_;rintro e w4 ⟨rfl,v2,h4,h5⟩
             have R4:Hid (Out g (step j o1) v2 w4):=h4
             have R5:Hid (Wrote g v v2 w w4):=R2.out.trans h5
             clear h4 h5))
        go_roundw
        case rel=>exact ⟨j+1,_,v2,by omega,by go_num,R4.out,R5.out,HE.out⟩
        case measure=>simp [intOf];omega
    · have hjn:j=many:=by omega
      subst hjn
      have HE:Hid (o1=Bn.runs step j 0 o0):=by
        have:=R3.out
        rw [Nat.sub_self] at this
        exact this
      clear R3
      go_wp2
      go_end0
      exact ⟨rfl,v1,by rw [←HE.out];exact R1.out,R2.out⟩
set_option maxHeartbeats 2000000 in
set_option maxRecDepth 10000 in
theorem parts72F (g B:Nat) (o:List UInt8) (ho:o.length≤200000) (many:Nat) (hm:many≤64) (step:Nat→List UInt8→List UInt8) (v:Value) (w:World) (h:Out g o v w)
    (HC:∀(j:Nat) (o1:List UInt8) (v1:Value) (W:World),j<many→o1.length≤16384→Out g o1 v1 W→Wrote g v v1 w W→Calls Tryz.prog 118 #[.int .i64 (j:Int),.pointer (some ⟨B,0,none⟩),.pointer (some ⟨B+1,0,none⟩)] W fun e w'=>e=.returned (.tuple #[])∧∃v2,Out g (step j o1) v2 w'∧Wrote g v1 v2 W w') :
    Calls Tryz.prog 116 #[.pointer (some ⟨g,0,none⟩),.int .i64 (many:Int),.func (.func 118) #[] #[.pointer (some ⟨B,0,none⟩),.pointer (some ⟨B+1,0,none⟩)]] w fun e w'=>e=.returned (.tuple #[])∧∃v',Out g (Bn.runs step many 0 (o++Bn.num many)) v' w'∧Wrote g v v' w w':=by
  have C69:Hid (Calls Tryz.prog 113 #[.pointer (some ⟨g,0,none⟩),.int .u64 (many:Int)] w fun e w'=>e=.returned (.tuple #[])∧∃v',Out g (o++Bn.num many) v' w'∧Wrote g v v' w w'):=number69 g o (by omega) many (by omega) v w h
  have q1:(many:Int)<18446744073709551616:=by omega
  have HCC:Hid (∀(j:Nat) (o1:List UInt8) (v1:Value) (W:World),j<many→o1.length≤16384→Out g o1 v1 W→Wrote g v v1 w W→Calls Tryz.prog 118 #[.int .i64 (j:Int),.pointer (some ⟨B,0,none⟩),.pointer (some ⟨B+1,0,none⟩)] W fun e w'=>e=.returned (.tuple #[])∧∃v2,Out g (step j o1) v2 w'∧Wrote g v1 v2 W w'):=HC
  obtain ⟨o0,ho0⟩:∃o0,o0=o++Bn.num many:=⟨_,rfl⟩
  rw [←ho0] at C69 ⊢
  clear h HC ho ho0
  go_enter Tryz.func116,Tryz.ntmps116
  go_wp2_with (first
    | (go_at_call 113;refine C69.out.mono ?_;rintro e w1 ⟨rfl,v1,h1,h2⟩
       have H1:Hid (Out g o0 v1 w1):=h1
       have H2:Hid (Wrote g v v1 w w1):=h2
       clear h1 h2 C69))
  go_loopw [12] (fun i wr=>∃(j:Nat) (o1:List UInt8) (v1:Value),j≤many∧i=.int .i64 j∧Out g o1 v1 wr∧Wrote g v v1 w wr∧Bn.runs step (many - j) j o1=Bn.runs step many 0 o0) (fun i _=>many - (intOf i).toNat)
  case atStart=>exact ⟨0,o0,v1,Nat.zero_le _,rfl,H1.out,H2.out,rfl⟩
  case round =>
    obtain ⟨j,o1,v1,hj,rfl,h1,h2,h3⟩:=hrel
    have R1:Hid (Out g o1 v1 wr):=h1
    have R2:Hid (Wrote g v v1 w wr):=h2
    have R3:Hid (Bn.runs step (many - j) j o1=Bn.runs step many 0 o0):=h3
    clear h1 h2 h3
    by_cases hlt:j<many
    · by_cases hov:16384<o1.length
      · have C43:Hid (Calls Tryz.prog 88 #[.pointer (some ⟨g,0,none⟩)] wr fun e w'=>e=.returned (.bool true)∧w'=wr):=(over43 g o1 v1 wr R1.out).mono (by rintro e w' ⟨rfl,rfl⟩;simp [hov])
        have HE:Hid (o1=Bn.runs step many 0 o0):=by show _=_;rw [←R3.out,Bn.runs_over _ _ _ _ hov]
        clear hov
        go_wp2_with (first
          | (go_at_call 88;refine C43.out.mono ?_;rintro e w3 ⟨rfl,rfl⟩))
        exact bodyPost_ret (v:=.tuple #[]) (results_none (by rfl) _ _ _) rfl ⟨rfl,v1,by rw [←HE.out];exact R1.out,R2.out⟩
      · have C43:Hid (Calls Tryz.prog 88 #[.pointer (some ⟨g,0,none⟩)] wr fun e w'=>e=.returned (.bool false)∧w'=wr):=(over43 g o1 v1 wr R1.out).mono (by rintro e w' ⟨rfl,rfl⟩;simp [hov])
        have C74:Hid (Calls Tryz.prog 118 #[.int .i64 (j:Int),.pointer (some ⟨B,0,none⟩),.pointer (some ⟨B+1,0,none⟩)] wr fun e w'=>e=.returned (.tuple #[])∧∃v2,Out g (step j o1) v2 w'∧Wrote g v1 v2 wr w'):=HCC.out j o1 v1 wr hlt (by omega) R1.out R2.out
        have HE:Hid (Bn.runs step (many - (j+1)) (j+1) (step j o1)=Bn.runs step many 0 o0):=by
          show _=_
          rw [←R3.out,show many - j=(many - (j+1))+1 by omega,Bn.runs,if_neg hov]
        clear hov
        go_wp2_with (first
          | (go_at_call 88;refine C43.out.mono ?_;rintro e w3 ⟨rfl,rfl⟩)
          | (go_at_call 118;refine C74.out.mono ?_;rintro e w4 ⟨rfl,v2,h4,h5⟩
             have R4:Hid (Out g (step j o1) v2 w4):=h4
             have R5:Hid (Wrote g v v2 w w4):=R2.out.trans h5
             clear h4 h5))
        go_roundw
        case rel=>exact ⟨j+1,_,v2,by omega,by go_num,R4.out,R5.out,HE.out⟩
        case measure=>simp [intOf];omega
    · have hjn:j=many:=by omega
      subst hjn
      have HE:Hid (o1=Bn.runs step j 0 o0):=by
        have:=R3.out
        rw [Nat.sub_self] at this
        exact this
      clear R3
      go_wp2
      go_end0
      exact ⟨rfl,v1,by rw [←HE.out];exact R1.out,R2.out⟩
end Go.Proofs.YtggnfejjcgbebaaGreatDoor
/- The two closures that write a part, given what writing a value does. -/
namespace Go.Proofs.YtggnfejjcgbebaaGreatDoor
open Go.RowKit
open Vl (V)
theorem block_cells {W:World} {B t:Nat} {C:Array Value} (h:W.heap[B]?=some (.cells C t (0,0))) (j:Nat) (u:Value) (hu:C[j]?=some u):W.cell? ⟨B,j,none⟩=some u:=by
  rw [cell_of_row _ _ _ _ _ _ h];exact hu
set_option maxHeartbeats 2000000 in
set_option maxRecDepth 10000 in
theorem part73 (g B:Nat) (l:List V) (j:Nat) (x:V) (hx:l[j]?=some x) (hl:l.length≤64) (H:Nat) (ga oa lc:Nat) (k:Nat) (b:Bool) (n:Int) (s:ByteArray) (fo:Option Addr) (fl fc:Nat) (o:List UInt8) (v:Value) (W:World)
    (hp:W.heap[B]?=some (.cells #[.pointer (some ⟨g,0,none⟩)] 154 (0,0)))
    (hv:W.heap[B+1]?=some (.cells #[.int .u8 (k:Int),.bool b,.int .i64 n,.string s,.slice (some ⟨ga,oa,none⟩) l.length lc,.slice fo fl fc] 32 (0,0)))
    (hr:RepL W H ga oa l) (C:∀xv W',Rep W H x xv→Below W.heap.size W W'→Calls Tryz.prog 87 #[.pointer (some ⟨g,0,none⟩),xv] W' fun e w'=>e=.returned (.tuple #[])∧∃v2,Out g (Bn.wr x o) v2 w'∧Wrote g v v2 W w') :
    Calls Tryz.prog 117 #[.int .i64 (j:Int),.pointer (some ⟨B,0,none⟩),.pointer (some ⟨B+1,0,none⟩)] W fun e w'=>e=.returned (.tuple #[])∧∃v2,Out g (Bn.wr x o) v2 w'∧Wrote g v v2 W w':=by
  have hjl:j<l.length:=(List.getElem?_eq_some_iff.1 hx).1
  obtain ⟨c0,c1,c2,c3,c4,c5,⟨d0,d1,d2,d3,d4,d5⟩,hrx⟩:=repL_at l oa hr j x hx
  obtain ⟨xk,xb,xn,xs,xa,xl,xc,ya,yl,yc,rfl,rfl,rfl,rfl,rfl,rfl⟩:=rep_form hrx
  have C42:Hid (∀W',Below W.heap.size W W'→Calls Tryz.prog 87 #[.pointer (some ⟨g,0,none⟩),.agg #[.int .u8 (xk:Int),.bool xb,.int .i64 xn,.string xs,.slice xa xl xc,.slice ya yl yc]] W' fun e w'=>e=.returned (.tuple #[])∧∃v2,Out g (Bn.wr x o) v2 w'∧Wrote g v v2 W w'):=fun W' hW=>C _ W' hrx hW
  obtain ⟨m,hm⟩:∃m,m=l.length:=⟨_,rfl⟩
  rw [←hm] at hv hjl
  have hm64:m≤64:=by omega
  have p0:=block_cells hp 0 _ rfl
  have v4:=block_cells hv 4 _ rfl
  clear hp hv hr C hrx hx hl hm
  go_enter Tryz.func117,Tryz.ntmps117
  go_region_law (first
    | (go_simp;go_at_call 87;refine (C42.out _ ?_).mono ?_;(first | exact Below.refl _ _ | exact (Below.refl _ _).drew);rintro e w4 ⟨rfl,v2,h4,h5⟩
       have R4:Hid (Out g (Bn.wr x o) v2 w4):=h4
       have R5:Hid (Wrote g v v2 W w4):=h5
       clear h4 h5))
  all_goals
    go_end0
    exact ⟨rfl,v2,R4.out,R5.out⟩
set_option maxHeartbeats 2000000 in
set_option maxRecDepth 10000 in
theorem part74 (g B:Nat) (f:List (ByteArray × V)) (j:Nat) (m:ByteArray) (x:V) (hx:f[j]?=some (m,x)) (hl:f.length≤64) (H:Nat) (ga oa fc:Nat) (k:Nat) (b:Bool) (n:Int) (s:ByteArray) (lo:Option Addr) (ll lc:Nat) (o:List UInt8) (ho:o.length≤16384) (hms:m.size≤65536) (v:Value) (W:World)
    (hout:Out g o v W) (hg:g<B) (hB:B+1<W.heap.size) (hne:v.ownBlock≠some B∧v.ownBlock≠some (B+1))
    (hp:W.heap[B]?=some (.cells #[.pointer (some ⟨g,0,none⟩)] 154 (0,0)))
    (hv:W.heap[B+1]?=some (.cells #[.int .u8 (k:Int),.bool b,.int .i64 n,.string s,.slice lo ll lc,.slice (some ⟨ga,oa,none⟩) f.length fc] 32 (0,0)))
    (hH:H≤g) (hga:ga<H) (hr:RepF W H ga oa f) (C:∀xv v1 W1 W',Rep W1 H x xv→Out g (o++Bn.text m) v1 W1→Wrote g v v1 W W1→Below W1.heap.size W1 W'→Calls Tryz.prog 87 #[.pointer (some ⟨g,0,none⟩),xv] W' fun e w'=>e=.returned (.tuple #[])∧∃v2,Out g (Bn.wr x (o++Bn.text m)) v2 w'∧Wrote g v v2 W w') :
    Calls Tryz.prog 118 #[.int .i64 (j:Int),.pointer (some ⟨B,0,none⟩),.pointer (some ⟨B+1,0,none⟩)] W fun e w'=>e=.returned (.tuple #[])∧∃v2,Out g (Bn.wr x (o++Bn.text m)) v2 w'∧Wrote g v v2 W w':=by
  have hjl:j<f.length:=(List.getElem?_eq_some_iff.1 hx).1
  have C71:Hid (∀W',Below W.heap.size W W'→Calls Tryz.prog 115 #[.pointer (some ⟨g,0,none⟩),.string m] W' fun e w'=>e=.returned (.tuple #[])∧∃v',Out g (o++Bn.text m) v' w'∧Wrote g v v' W w'):=fun W' hW =>
    (text71 g o (by omega) m (by omega) v W' (hout.call hW)).mono (fun e w' ⟨h1,v',h2,h3⟩=>⟨h1,v',h2,h3.after hW⟩)
  obtain ⟨d00,hm0,c0,c1,c2,c3,c4,c5,⟨d0,d1,d2,d3,d4,d5⟩,hrx⟩:=repF_at f oa hr j m x hx
  obtain ⟨q,hq⟩:∃q,q=f.length:=⟨_,rfl⟩
  have HP:Hid (W.heap[B]?=some (.cells #[.pointer (some ⟨g,0,none⟩)] 154 (0,0))):=hp
  have HV:Hid (W.heap[B+1]?=some (.cells #[.int .u8 (k:Int),.bool b,.int .i64 n,.string s,.slice lo ll lc,.slice (some ⟨ga,oa,none⟩) q fc] 32 (0,0))):=by show _=_;rw [hq];exact hv
  have HST:Hid (∀v1 W1,Wrote g v v1 W W1→W1.heap[B]?=W.heap[B]?∧W1.heap[B+1]?=W.heap[B+1]?∧Below H W W1):=fun v1 W1 h =>
    ⟨h.block B (by omega) (by omega) hne.1,h.block (B+1) (by omega) (by omega) hne.2,(h.below hout).mono hH⟩
  have HR:Hid (RepF W H ga oa f):=hr
  have HX:Hid (f[j]?=some (m,x)):=hx
  have HCC:Hid (∀xv v1 W1 W',Rep W1 H x xv→Out g (o++Bn.text m) v1 W1→Wrote g v v1 W W1→Below W1.heap.size W1 W'→Calls Tryz.prog 87 #[.pointer (some ⟨g,0,none⟩),xv] W' fun e w'=>e=.returned (.tuple #[])∧∃v2,Out g (Bn.wr x (o++Bn.text m)) v2 w'∧Wrote g v v2 W w'):=C
  rw [←hq] at hv hjl
  have hq64:q≤64:=by omega
  have p0:=block_cells hp 0 _ rfl
  have v5:=block_cells hv 5 _ rfl
  clear hp hv hr C hrx hx hl hq d0 d1 d2 d3 d4 d5 hm0 hout hg hB hne hH ho hms
  go_enter Tryz.func118,Tryz.ntmps118
  go_wp2
  go_region_law (first
    | (go_simp;go_at_call 115;refine (C71.out _ ?_).mono ?_;(first | exact Below.refl _ _ | exact (Below.refl _ _).drew);rintro e w4 ⟨rfl,v2,h4,h5⟩
       have R4:Hid (Out g (o++Bn.text m) v2 w4):=h4
       have R5:Hid (Wrote g v v2 W w4):=h5
       clear h4 h5))
  all_goals
    obtain ⟨b1,b2,b3⟩:=HST.out v2 w4 R5.out
    have p0:=block_cells (b1.trans HP.out) 0 _ rfl
    have v5:=block_cells (b2.trans HV.out) 5 _ rfl
    obtain ⟨d00,hm0,c0,c1,c2,c3,c4,c5,⟨d0,d1,d2,d3,d4,d5⟩,hrx⟩:=repF_at f oa (repF_stays b3 (Nat.le_refl _) hga f oa HR.out) j m x HX.out
    rw [show oa+j*7+1+1=oa+j*7+2 by omega] at d1
    rw [show oa+j*7+1+2=oa+j*7+3 by omega] at d2
    rw [show oa+j*7+1+3=oa+j*7+4 by omega] at d3
    rw [show oa+j*7+1+4=oa+j*7+5 by omega] at d4
    rw [show oa+j*7+1+5=oa+j*7+6 by omega] at d5
    obtain ⟨xk,xb,xn,xs,xa,xl,xc,ya,yl,yc,rfl,rfl,rfl,rfl,rfl,rfl⟩:=rep_form hrx
    have C42:Hid (∀W',Below w4.heap.size w4 W'→Calls Tryz.prog 87 #[.pointer (some ⟨g,0,none⟩),.agg #[.int .u8 (xk:Int),.bool xb,.int .i64 xn,.string xs,.slice xa xl xc,.slice ya yl yc]] W' fun e w'=>e=.returned (.tuple #[])∧∃v2,Out g (Bn.wr x (o++Bn.text m)) v2 w'∧Wrote g v v2 W w'):=fun W' hW=>HCC.out _ v2 w4 W' hrx R4.out R5.out hW
    clear hrx b1 b2 b3 hm0 R4 R5
    go_wp2
    go_region_law (first
      | (go_simp;go_at_call 87;refine (C42.out _ ?_).mono ?_;(first | exact Below.refl _ _ | exact (Below.refl _ _).drew);rintro e w6 ⟨rfl,v6,h4,h5⟩
         have R6:Hid (Out g (Bn.wr x (o++Bn.text m)) v6 w6):=h4
         have R7:Hid (Wrote g v v6 W w6):=h5
         clear h4 h5))
    all_goals
      go_end0
      exact ⟨rfl,v6,R6.out,R7.out⟩
end Go.Proofs.YtggnfejjcgbebaaGreatDoor
