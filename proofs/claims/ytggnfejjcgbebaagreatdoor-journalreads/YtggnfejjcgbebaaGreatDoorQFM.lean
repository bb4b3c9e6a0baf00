/- Several texts, joined: JnO, JnP -/
import Derived.Test.YtggnfejjcgbebaaGreatDoorQEM
/- The digest ahead of all; what seals a frame. -/
namespace Go.Proofs.YtggnfejjcgbebaaGreatDoor
open Go.RowKit
open Vl (V)
attribute [local go_sem ↓] Go.wp_at_zero Go.wp_at_succ
namespace Jn
def ahead:ByteArray:=⟨#[0,0,0,0,0,0,0,0,0,0,0,0,0,0,0,0,0,0,0,0,0,0,0,0,0,0,0,0,0,0,0,0]⟩
def sealOf (c t:ByteArray):ByteArray:=bs ((Sh.sum (c.data.toList++t.data.toList)).take 8)
end Jn
set_option maxHeartbeats 2000000 in
theorem seal_c (c t:ByteArray) (hs:c.size+t.size≤1048576) (w:World) (hK:HasK w) :
    Calls Tryz.prog 42 #[.string c,.string t] w fun e w'=>e=.returned (.string (Jn.sealOf c t))∧Below w.heap.size w w':=by
  obtain ⟨d,hd⟩:∃d:ByteArray,d=bs (Sh.sum (c.data.toList++t.data.toList)):=⟨_,rfl⟩
  have hdz:d.size=32:=by rw [hd,bs_size,Mk.sum_length]
  have CS:Hid (Calls Tryz.prog 55 #[.string (c++t)] w fun e w'=>e=.returned (.string d)∧Below w.heap.size w w'):=by
    have h:=sum9 (c++t) (by rw [ByteArray.size_append];omega) w hK
    rw [hd]
    have e:(c++t).data.toList=c.data.toList++t.data.toList:=by simp
    rw [e] at h
    exact h
  have HD:Hid (d.extract 0 8=Jn.sealOf c t):=Bn.data_ext (by rw [Bn.extract_take,hd,data_bs,Jn.sealOf,data_bs])
  have hcut:∀wx:World,(Instr.slice 9 (.string d) none (some (.int .i64 8)) none).run Tryz.prog wx=.ok (.string (d.extract 0 8)) wx:=fun wx=>by
    rw [run_slice_string_to_if (P:=Tryz.prog) wx 9 d .i64 8 Tryz.underlying9,if_pos ⟨by omega,by omega⟩]
    rfl
  clear hK hd hdz
  go_enter Tryz.func42,Tryz.ntmps42
  go_wp2_with fail
  refine CS.out.mono ?_
  rintro e w1 ⟨rfl,hb⟩
  clear CS
  go_wp2
  go_ret
  exact ⟨by rw [←HD.out];rfl,hb⟩
theorem made_bytes (n:Nat):madeCells (Value.int .u8 0).cells (n*1)=(Lib.byteCells (List.replicate n (0:UInt8))).toArray:=by
  apply Array.ext'
  rw [Nat.mul_one]
  apply List.ext_getElem?
  intro i
  by_cases h:i<n
  · simp [madeCells,Value.cells,h,Nat.mod_one,Lib.byteCells]
  · simp [madeCells,Value.cells,h,Lib.byteCells]
set_option maxHeartbeats 2000000 in
theorem ahead_c (w:World):Calls Tryz.prog 28 #[] w fun e w'=>e=.returned (.string Jn.ahead)∧Below w.heap.size w w':=by
  obtain ⟨i0,hi,hz0,hz1,hz2⟩:=info_parts info5
  obtain ⟨M,hM⟩:∃M,M=madeCells (Value.int .u8 0).cells (32*i0.size):=⟨_,rfl⟩
  have hmk:∀u:World,(Instr.makeSlice 61 (.int .i64 32) (.int .i64 32)).run Tryz.prog u=.ok (.slice (some ⟨u.heap.size,0,none⟩) 32 32) (u.alloc (.cells M 5)):=fun u=>by
    have h:=run_make (P:=Tryz.prog) u 61 5 i0 (.int .u8 0) Tryz.underlying61 hi hz0 .i64 .i64 32 32 (by omega) (by omega) (by rw [hz2];omega) (by omega)
    rw [show (32:Int).toNat=32 by omega,←hM] at h
    exact h
  have HO:(w.alloc (.cells M 5)).ownsRow w.heap.size 5 1 (.slice (some ⟨w.heap.size,0,none⟩) 32 32) (List.replicate 32 (0:UInt8)).length (Lib.byteCells (List.replicate 32 (0:UInt8))):=by
    have e:M=(Lib.byteCells (List.replicate 32 (0:UInt8))).toArray:=by rw [hM,hz1];exact made_bytes 32
    rw [e]
    exact ⟨by simp [Lib.byteCells],.inr ⟨w.heap.size,32,_,rfl,Nat.le_refl _,heap_alloc_new w _,by simp,by unfold maxLen;omega,by simp [Lib.byteCells],by simp [Lib.byteCells]⟩⟩
  obtain ⟨g,n,cap,str,hv,hc,hs⟩:=own_string HO (by decide)
  injection hv with h1 h2 h3
  injection h1 with h1
  injection h1 with h1
  subst h1 h2 h3
  clear hM HO
  go_enter Tryz.func28,Tryz.ntmps28
  go_wp2
  go_ret
  exact ⟨by rw [hs.out];rfl,below_new _ _⟩
end Go.Proofs.YtggnfejjcgbebaaGreatDoor
/- What a text says as a revision. -/
namespace Go.Proofs.YtggnfejjcgbebaaGreatDoor
open Go.RowKit
open Vl (V)
attribute [local go_sem ↓] Go.wp_at_zero Go.wp_at_succ
theorem info_rev:(Tryz.prog.info? 34).map (·.size)=some 10:=by kernel_rfl
def RevGave (s:ByteArray) (w:World) (en:Ending) (w':World):Prop:=Below w.heap.size w w'∧∃(r:Jn.R) (xk:Nat) (xb:Bool) (xn:Int) (xs:ByteArray) (xa:Option Addr) (xl xc:Nat) (ya:Option Addr) (yl yc:Nat),Jn.Says s r∧en=.returned (.agg #[.int .u8 (r.kind:Int),.string r.table,.int .u64 (r.doc:Int),.int .u64 (r.ver:Int),.int .u8 (xk:Int),.bool xb,.int .i64 xn,.string xs,.slice xa xl xc,.slice ya yl yc])∧xk=r.val.1∧r.kind<256∧r.table.size≤maxLen∧r.doc<18446744073709551616∧r.ver<18446744073709551616∧RepA w' (fun g=>w.heap.size≤g∧g<w'.heap.size) r.val (.agg #[.int .u8 (xk:Int),.bool xb,.int .i64 xn,.string xs,.slice xa xl xc,.slice ya yl yc])
theorem ten_put {W:World} {g:Nat} {t:TypeId} {z0 z1 z2 z3 z4 z5 z6 z7 z8 z9:Value} (h:W.heap[g]?=some (.cells #[z0,z1,z2,z3,z4,z5,z6,z7,z8,z9] t (0,0))) (a0 a1 a2 a3 a4 a5 a6 a7 a8 a9:Value):(W.setCells g 0 [a0,a1,a2,a3,a4,a5,a6,a7,a8,a9]).heap[g]?=some (.cells #[a0,a1,a2,a3,a4,a5,a6,a7,a8,a9] t (0,0)):=by
  have h1:=heap_setCells_put g t [a0,a1,a2,a3,a4,a5,a6,a7,a8,a9] 0 W _ h
  rw [h1]
  simp [putAll]
theorem sets10 (W:World) (B:Nat) (v0 v1 v2 v3 v4 v5 v6 v7 v8 v9:Value):((((((((((W.setCell ⟨B,0,none⟩ v0).setCell ⟨B,1,none⟩ v1).setCell ⟨B,2,none⟩ v2).setCell ⟨B,3,none⟩ v3).setCell ⟨B,4,none⟩ v4).setCell ⟨B,5,none⟩ v5).setCell ⟨B,6,none⟩ v6).setCell ⟨B,7,none⟩ v7).setCell ⟨B,8,none⟩ v8).setCell ⟨B,9,none⟩ v9)=W.setCells B 0 [v0,v1,v2,v3,v4,v5,v6,v7,v8,v9]:=rfl
theorem repA_zero (W:World) (A:Nat→Prop):RepA W A ⟨0,false,0,⟨#[]⟩,[],[]⟩ (.agg #[.int .u8 0,.bool false,.int .i64 0,.string ⟨#[]⟩,.slice none 0 0,.slice none 0 0]):=by
  rw [RepA]
  exact ⟨none,0,none,0,rfl,by omega,by omega,by decide,by simp,by simp,fun h=>by simp at h,fun h=>by simp at h⟩
theorem drew_heap (W:World):W.drew.heap=W.heap:=rfl
theorem RevGave.drew {s:ByteArray} {w W:World} {en:Ending} (h:RevGave s w en W):RevGave s w en W.drew:=by
  obtain ⟨hb,r,xk,xb,xn,xs,xa,xl,xc,ya,yl,yc,h1,h2,h3,h4,h5,h6,h7,h8⟩:=h
  exact ⟨hb.drew,r,xk,xb,xn,xs,xa,xl,xc,ya,yl,yc,h1,h2,h3,h4,h5,h6,h7,repA_stays (w:=W) (w':=W.drew) (A:=fun g=>w.heap.size≤g∧g<W.heap.size) (B:=fun g=>w.heap.size≤g∧g<W.drew.heap.size) (fun _ _=>rfl) (fun _ k=>k) _ _ h8⟩
theorem repLA_first {W:World} {A:Nat→Prop} {g o:Nat} {x:V} {r:List V} (h:RepLA W A g o (x :: r)):∃(k:Nat) (b:Bool) (n:Int) (s:ByteArray) (l:List V) (f:List (ByteArray × V)) (ao:Option Addr) (lc:Nat) (fo:Option Addr) (fc:Nat),x=⟨k,b,n,s,l,f⟩∧Six W g o (.int .u8 (k:Int)) (.bool b) (.int .i64 n) (.string s) (.slice ao l.length lc) (.slice fo f.length fc)∧RepA W A x (.agg #[.int .u8 (k:Int),.bool b,.int .i64 n,.string s,.slice ao l.length lc,.slice fo f.length fc])∧s.size≤maxLen∧RepLA W A g (o+6) r:=by
  rw [RepLA] at h
  obtain ⟨⟨c0,c1,c2,c3,c4,c5,h6,hr⟩,ht⟩:=h
  obtain ⟨k,b,n,s,l,f⟩:=x
  have hr':=hr
  rw [RepA] at hr'
  obtain ⟨ao,lc,fo,fc,he,_,_,hs,_⟩:=hr'
  simp only [Value.agg.injEq,Array.mk.injEq,List.cons.injEq,and_true] at he
  obtain ⟨rfl,rfl,rfl,rfl,rfl,rfl⟩:=he
  exact ⟨k,b,n,s,l,f,ao,lc,fo,fc,rfl,h6,hr,hs,ht⟩
namespace Jn
theorem u8_eq (n:Int):IntKind.u8.wrap n=((u64 n % 256:Nat):Int):=by
  rw [IntKind.wrap_u8,u64];omega
theorem u64_eq (n:Int):IntKind.u64.wrap n=((u64 n:Nat):Int):=by
  rw [IntKind.wrap_u64,u64];omega
theorem u64_lt (n:Int):u64 n<18446744073709551616:=by unfold u64;omega
theorem ofV_no {k:Nat} {b:Bool} {n:Int} {s:ByteArray} {l:List V} {f:List (ByteArray × V)} (h:l.length≠5):ofV ⟨k,b,n,s,l,f⟩=R0:=by
  unfold ofV
  split
  · rename_i hq
    simp only [V.mk.injEq] at hq
    obtain ⟨_,_,_,_,rfl,_⟩:=hq
    split
    · simp at h
    · rfl
theorem list5 {α:Type} {l:List α} (h:l.length=5):∃a b c d e,l=[a,b,c,d,e]:=by
  match l,h with
  | [a,b,c,d,e],_=>exact ⟨a,b,c,d,e,rfl⟩
end Jn
structure RO (w W:World):Prop where
  below:Below w.heap.size w W
  res:W.heap[w.heap.size]?=some (.cells #[.int .u8 0,.string ⟨#[]⟩,.int .u64 0,.int .u64 0,.int .u8 0,.bool false,.int .i64 0,.string ⟨#[]⟩,.slice none 0 0,.slice none 0 0] 34 (0,0))
theorem RO.call {w W W':World} (h:RO w W) (hb:Below W.heap.size W W'):RO w W' :=
  ⟨h.below.trans (hb.mono h.below.size),(hb.block _ (Array.getElem?_eq_some_iff.1 h.res).1).trans h.res⟩
theorem RO.zero {w W:World} {s:ByteArray} (h:RO w W) (hs:Jn.Says s Jn.R0):(W.setCells w.heap.size 0 [.int .u8 0,.string ⟨#[]⟩,.int .u64 0,.int .u64 0,.int .u8 0,.bool false,.int .i64 0,.string ⟨#[]⟩,.slice none 0 0,.slice none 0 0]).heap[w.heap.size]?=some (.cells #[.int .u8 0,.string ⟨#[]⟩,.int .u64 0,.int .u64 0,.int .u8 0,.bool false,.int .i64 0,.string ⟨#[]⟩,.slice none 0 0,.slice none 0 0] 34 (0,0))∧RevGave s w (.returned (.agg #[.int .u8 0,.string ⟨#[]⟩,.int .u64 0,.int .u64 0,.int .u8 0,.bool false,.int .i64 0,.string ⟨#[]⟩,.slice none 0 0,.slice none 0 0])) (W.setCells w.heap.size 0 [.int .u8 0,.string ⟨#[]⟩,.int .u64 0,.int .u64 0,.int .u8 0,.bool false,.int .i64 0,.string ⟨#[]⟩,.slice none 0 0,.slice none 0 0]) :=
  ⟨ten_put h.res _ _ _ _ _ _ _ _ _ _,below_setCellsV (Nat.le_refl _) _ _ h.below,Jn.R0,0,false,0,⟨#[]⟩,none,0,0,none,0,0,hs,rfl,rfl,by decide,by decide,by decide,by decide,repA_zero _ _⟩
set_option maxHeartbeats 16000000 in
set_option maxRecDepth 100000 in
theorem revOf_c (s:ByteArray) (w:World) (hU:Bn.HasU w):Calls Tryz.prog 95 #[.string s] w (RevGave s w):=by
  obtain ⟨w1,hw1⟩:∃w1,w1=w.alloc (.cells #[.int .u8 0,.string ⟨#[]⟩,.int .u64 0,.int .u64 0,.int .u8 0,.bool false,.int .i64 0,.string ⟨#[]⟩,.slice none 0 0,.slice none 0 0] 34):=⟨_,rfl⟩
  have S1:Hid (RO w w1):=by
    show RO _ _
    rw [hw1];exact ⟨below_new _ _,heap_alloc_new w _⟩
  have CR:Hid (Calls Tryz.prog 58 #[.string s] w1 (ReadGave s w1)):=read20 s w1 (hU.stays S1.out.below)
  clear hU
  go_enter Tryz.func95,Tryz.ntmps95
  go_upto_region 1 with fail
  rw [←hw1]
  clear hw1
  go_wp2_with fail
  refine CR.out.mono ?_
  rintro en w2 ⟨hb2,h2⟩
  have S2:Hid (RO w w2):=S1.out.call hb2
  have hs12:Hid (w.heap.size<w1.heap.size):=(Array.getElem?_eq_some_iff.1 S1.out.res).1
  clear CR hb2 S1
  rcases h2 with ⟨t,zk,zb,zn,zs,za,zl,zc,ta,tl,tc,hIs,rfl,hr⟩ | ⟨hno,rfl⟩
  · obtain ⟨k0,b0,n0,s0,l,f⟩:=t
    rw [RepA] at hr
    obtain ⟨ao,lc,fo,fc,he,hk,hn,hs,hll,hfl,hL,hF⟩:=hr
    simp at he
    obtain ⟨hz,rfl,rfl,rfl,⟨rfl,rfl,rfl⟩,rfl,rfl,rfl⟩:=he
    obtain rfl:zk=k0:=by omega
    obtain ⟨E,hE⟩:∃E,E=w2.heap.size:=⟨_,rfl⟩
    by_cases h5:l.length=5
    · obtain ⟨va,vb,vc,vd,ve,rfl⟩:=Jn.list5 h5
      obtain ⟨g,o,rfl,hg,hR⟩:=hL (by simp)
      obtain ⟨ka,ba,na,sa,la,fa,_,_,_,_,rfl,⟨_,_,qa,_,_,_⟩,_,_,hR⟩:=repLA_first hR
      obtain ⟨kb,bb,nb,sb,lb,fb,_,_,_,_,rfl,⟨_,_,_,qb,_,_⟩,_,hsb,hR⟩:=repLA_first hR
      obtain ⟨kc,bc,nc,sc,lc',fc',_,_,_,_,rfl,⟨_,_,qc,_,_,_⟩,_,_,hR⟩:=repLA_first hR
      obtain ⟨kd,bd,nd,sd,ld,fd,_,_,_,_,rfl,⟨_,_,qd,_,_,_⟩,_,_,hR⟩:=repLA_first hR
      obtain ⟨ke,be,ne,se,le,fe,ae,ce,ge,de,rfl,⟨qe0,qe1,qe2,qe3,qe4,qe5⟩,hre,_,_⟩:=repLA_first hR
      obtain ⟨w3,hw3⟩:∃w3,w3=w2.alloc (.cells #[.int .u8 (zk:Int),.bool zb,.int .i64 zn,.string zs,.slice (some ⟨g,o,none⟩) 5 zc,.slice ta f.length tc] 32):=⟨_,rfl⟩
      have b3:Below w2.heap.size w2 w3:=by rw [hw3];exact below_new _ _
      have S3:Hid (RO w w3):=S2.out.call b3
      have B3:Hid (Row6 w3 E (.int .u8 (zk:Int)) (.bool zb) (.int .i64 zn) (.string zs) (.slice (some ⟨g,o,none⟩) 5 zc) (.slice ta f.length tc)):=by
        show Row6 _ _ _ _ _ _ _ _
        rw [hw3,hE];exact ⟨by simp,heap_alloc_new w2 _⟩
      have gb:w3.heap[g]?=w2.heap[g]?:=b3.block _ hg.2
      have C3:Hid (w3.cell? ⟨E,4,none⟩=some (.slice (some ⟨g,o,none⟩) 5 zc)∧w3.cell? ⟨g,o+2,none⟩=some (.int .i64 na)∧w3.cell? ⟨g,o+6+3,none⟩=some (.string sb)∧w3.cell? ⟨g,o+12+2,none⟩=some (.int .i64 nc)∧w3.cell? ⟨g,o+18+2,none⟩=some (.int .i64 nd)∧w3.cell? ⟨g,o+24,none⟩=some (.int .u8 (ke:Int))∧w3.cell? ⟨g,o+24+1,none⟩=some (.bool be)∧w3.cell? ⟨g,o+24+2,none⟩=some (.int .i64 ne)∧w3.cell? ⟨g,o+24+3,none⟩=some (.string se)∧w3.cell? ⟨g,o+24+4,none⟩=some (.slice ae le.length ce)∧w3.cell? ⟨g,o+24+5,none⟩=some (.slice ge fe.length de)):=by
        refine ⟨B3.out.cells.2.2.2.2.1,(cell_block gb).trans qa,(cell_block gb).trans qb,(cell_block gb).trans qc,(cell_block gb).trans qd,(cell_block gb).trans qe0,(cell_block gb).trans qe1,(cell_block gb).trans qe2,(cell_block gb).trans qe3,(cell_block gb).trans qe4,(cell_block gb).trans qe5⟩
      obtain ⟨kk,hkk⟩:∃kk,kk=Jn.u64 na % 256:=⟨_,rfl⟩
      have hk2:kk<256:=by omega
      have vu8:IntKind.u8.wrap na=(kk:Int):=by rw [hkk];exact Jn.u8_eq na
      have SY:Hid (Jn.Says s ⟨kk,sb,Jn.u64 nc,Jn.u64 nd,⟨ke,be,ne,se,le,fe⟩⟩):=.inl ⟨_,hIs,by rw [hkk];rfl⟩
      have G3:Hid ((w3.setCells w.heap.size 0 [.int .u8 (kk:Int),.string sb,.int .u64 ((Jn.u64 nc:Nat):Int),.int .u64 ((Jn.u64 nd:Nat):Int),.int .u8 (ke:Int),.bool be,.int .i64 ne,.string se,.slice ae le.length ce,.slice ge fe.length de]).drew.heap[w.heap.size]?=some (.cells #[.int .u8 (kk:Int),.string sb,.int .u64 ((Jn.u64 nc:Nat):Int),.int .u64 ((Jn.u64 nd:Nat):Int),.int .u8 (ke:Int),.bool be,.int .i64 ne,.string se,.slice ae le.length ce,.slice ge fe.length de] 34 (0,0))∧RevGave s w (.returned (.agg #[.int .u8 (kk:Int),.string sb,.int .u64 ((Jn.u64 nc:Nat):Int),.int .u64 ((Jn.u64 nd:Nat):Int),.int .u8 (ke:Int),.bool be,.int .i64 ne,.string se,.slice ae le.length ce,.slice ge fe.length de])) (w3.setCells w.heap.size 0 [.int .u8 (kk:Int),.string sb,.int .u64 ((Jn.u64 nc:Nat):Int),.int .u64 ((Jn.u64 nd:Nat):Int),.int .u8 (ke:Int),.bool be,.int .i64 ne,.string se,.slice ae le.length ce,.slice ge fe.length de]).drew):=by
        refine ⟨by rw [drew_heap];exact ten_put S3.out.res _ _ _ _ _ _ _ _ _ _,RevGave.drew ⟨below_setCellsV (Nat.le_refl _) _ _ S3.out.below,_,ke,be,ne,se,ae,le.length,ce,ge,fe.length,de,SY.out,rfl,rfl,hk2,hsb,Jn.u64_lt _,Jn.u64_lt _,?_⟩⟩
        refine repA_stays (A:=fun g=>w1.heap.size≤g∧g<w2.heap.size) (fun q hq=>?_) (fun q hq=>?_) _ _ hre
        · rw [heap_setCells_neV _ _ (by have:=hs12.out;omega)]
          exact b3.block _ hq.2
        · have:=hs12.out
          have:=b3.size
          have:=(below_setCellsV (Nat.le_refl w.heap.size) [.int .u8 (kk:Int),.string sb,.int .u64 ((Jn.u64 nc:Nat):Int),.int .u64 ((Jn.u64 nd:Nat):Int),.int .u8 (ke:Int),.bool be,.int .i64 ne,.string se,.slice ae le.length ce,.slice ge fe.length de] 0 (Below.refl w.heap.size w3)).size
          exact ⟨by omega,by omega⟩
      have nE:w.heap.size≠E:=by have:=(Array.getElem?_eq_some_iff.1 S2.out.res).1;omega
      have nG:w.heap.size≠g:=by have:=hs12.out;have:=hg.1;omega
      clear hkk hk2 hIs hL hF hre qa qb qc qd qe0 qe1 qe2 qe3 qe4 qe5 gb
      have vc:=Jn.u64_eq nc
      have vd:=Jn.u64_eq nd
      go_upto_region 2 with fail
      rw [←hw3,←hE]
      clear hw3 hE S2 b3
      obtain ⟨p4,qa,qb,qc,qd,qe0,qe1,qe2,qe3,qe4,qe5⟩:=C3.out
      go_upto_region 4 with fail
      have hres:=S3.out.res
      have fz:=row_freeV hres
      have y0:=block_cells hres 0 _ rfl
      have y1:=block_cells hres 1 _ rfl
      have y2:=block_cells hres 2 _ rfl
      have y3:=block_cells hres 3 _ rfl
      have y4:=block_cells hres 4 _ rfl
      have y5:=block_cells hres 5 _ rfl
      have y6:=block_cells hres 6 _ rfl
      have y7:=block_cells hres 7 _ rfl
      have y8:=block_cells hres 8 _ rfl
      have y9:=block_cells hres 9 _ rfl
      clear hres
      go_region_held3 (fun W'=>W'.cell? ⟨E,4,none⟩=some (.slice (some ⟨g,o,none⟩) 5 zc)∧W'.cell? ⟨g,o+2,none⟩=some (.int .i64 na)∧W'.cell? ⟨g,o+6+3,none⟩=some (.string sb)∧W'.cell? ⟨g,o+12+2,none⟩=some (.int .i64 nc)∧W'.cell? ⟨g,o+18+2,none⟩=some (.int .i64 nd)∧W'.cell? ⟨g,o+24,none⟩=some (.int .u8 (ke:Int))∧W'.cell? ⟨g,o+24+1,none⟩=some (.bool be)∧W'.cell? ⟨g,o+24+2,none⟩=some (.int .i64 ne)∧W'.cell? ⟨g,o+24+3,none⟩=some (.string se)∧W'.cell? ⟨g,o+24+4,none⟩=some (.slice ae le.length ce)∧W'.cell? ⟨g,o+24+5,none⟩=some (.slice ge fe.length de)) (go_keep) (fail)
      all_goals go_wp2
      rw [sets10]
      exact bodyPost_ret (v:=.agg #[.int .u8 (kk:Int),.string sb,.int .u64 ((Jn.u64 nc:Nat):Int),.int .u64 ((Jn.u64 nd:Nat):Int),.int .u8 (ke:Int),.bool be,.int .i64 ne,.string se,.slice ae le.length ce,.slice ge fe.length de]) (results_cell_row rfl _ _ w.heap.size 34 #[.int .u8 (kk:Int),.string sb,.int .u64 ((Jn.u64 nc:Nat):Int),.int .u64 ((Jn.u64 nd:Nat):Int),.int .u8 (ke:Int),.bool be,.int .i64 ne,.string se,.slice ae le.length ce,.slice ge fe.length de] (0,0) _ rfl G3.out.1 Tryz.underlying34 rfl info_rev) rfl G3.out.2
    · have HS:Hid (Jn.Says s Jn.R0):=.inl ⟨_,hIs,(Jn.ofV_no h5).symm⟩
      have q1:((l.length:Int)==5)=false:=by rw [beq_eq_false_iff_ne];omega
      obtain ⟨w3,hw3⟩:∃w3,w3=w2.alloc (.cells #[.int .u8 (zk:Int),.bool zb,.int .i64 zn,.string zs,.slice za l.length zc,.slice ta f.length tc] 32):=⟨_,rfl⟩
      have S3:Hid (RO w w3):=by rw [hw3];exact S2.out.call (below_new _ _)
      have B3:Hid (Row6 w3 E (.int .u8 (zk:Int)) (.bool zb) (.int .i64 zn) (.string zs) (.slice za l.length zc) (.slice ta f.length tc)):=by
        show Row6 _ _ _ _ _ _ _ _
        rw [hw3,hE];exact ⟨by simp,heap_alloc_new w2 _⟩
      clear hIs hL hF
      go_upto_region 2 with fail
      rw [←hw3,←hE]
      clear hw3 hE S2
      obtain ⟨p0,p1,p2,p3,p4,p5⟩:=B3.out.cells
      have hres:=S3.out.res
      have fz:=row_freeV hres
      have y0:=block_cells hres 0 _ rfl
      have y1:=block_cells hres 1 _ rfl
      have y2:=block_cells hres 2 _ rfl
      have y3:=block_cells hres 3 _ rfl
      have y4:=block_cells hres 4 _ rfl
      have y5:=block_cells hres 5 _ rfl
      have y6:=block_cells hres 6 _ rfl
      have y7:=block_cells hres 7 _ rfl
      have y8:=block_cells hres 8 _ rfl
      have y9:=block_cells hres 9 _ rfl
      have F:=S3.out.zero HS.out
      have HF:Hid (_∧_):=F
      clear F hres
      go_wp2
      all_goals rw [sets10]
      all_goals exact bodyPost_ret (v:=.agg #[.int .u8 0,.string ⟨#[]⟩,.int .u64 0,.int .u64 0,.int .u8 0,.bool false,.int .i64 0,.string ⟨#[]⟩,.slice none 0 0,.slice none 0 0]) (results_cell_row rfl _ _ w.heap.size 34 #[.int .u8 0,.string ⟨#[]⟩,.int .u64 0,.int .u64 0,.int .u8 0,.bool false,.int .i64 0,.string ⟨#[]⟩,.slice none 0 0,.slice none 0 0] (0,0) _ rfl HF.out.1 Tryz.underlying34 rfl info_rev) rfl HF.out.2
  · have HS:Hid (Jn.Says s Jn.R0):=.inr ⟨hno,rfl⟩
    obtain ⟨w3,hw3⟩:∃w3,w3=w2.alloc (.cells #[.int .u8 0,.bool false,.int .i64 0,.string ⟨#[]⟩,.slice none 0 0,.slice none 0 0] 32):=⟨_,rfl⟩
    obtain ⟨E,hE⟩:∃E,E=w2.heap.size:=⟨_,rfl⟩
    have S3:Hid (RO w w3):=by rw [hw3];exact S2.out.call (below_new _ _)
    have B3:Hid (Row6 w3 E (.int .u8 0) (.bool false) (.int .i64 0) (.string ⟨#[]⟩) (.slice none 0 0) (.slice none 0 0)):=by
      show Row6 _ _ _ _ _ _ _ _
      rw [hw3,hE];exact ⟨by simp,heap_alloc_new w2 _⟩
    clear hno
    go_upto_region 2 with fail
    rw [←hw3,←hE]
    clear hw3 hE S2
    obtain ⟨p0,p1,p2,p3,p4,p5⟩:=B3.out.cells
    have hres:=S3.out.res
    have fz:=row_freeV hres
    have y0:=block_cells hres 0 _ rfl
    have y1:=block_cells hres 1 _ rfl
    have y2:=block_cells hres 2 _ rfl
    have y3:=block_cells hres 3 _ rfl
    have y4:=block_cells hres 4 _ rfl
    have y5:=block_cells hres 5 _ rfl
    have y6:=block_cells hres 6 _ rfl
    have y7:=block_cells hres 7 _ rfl
    have y8:=block_cells hres 8 _ rfl
    have y9:=block_cells hres 9 _ rfl
    have F:=S3.out.zero HS.out
    have HF:Hid (_∧_):=F
    clear F hres
    go_wp2
    all_goals rw [sets10]
    all_goals exact bodyPost_ret (v:=.agg #[.int .u8 0,.string ⟨#[]⟩,.int .u64 0,.int .u64 0,.int .u8 0,.bool false,.int .i64 0,.string ⟨#[]⟩,.slice none 0 0,.slice none 0 0]) (results_cell_row rfl _ _ w.heap.size 34 #[.int .u8 0,.string ⟨#[]⟩,.int .u64 0,.int .u64 0,.int .u8 0,.bool false,.int .i64 0,.string ⟨#[]⟩,.slice none 0 0,.slice none 0 0] (0,0) _ rfl HF.out.1 Tryz.underlying34 rfl info_rev) rfl HF.out.2
end Go.Proofs.YtggnfejjcgbebaaGreatDoor
