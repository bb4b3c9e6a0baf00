/- Several texts, joined: JnK, JnL, JnN -/
import Derived.Test.YtggnfejjcgbebaaGreatDoorQDM
/- A head's text and digest. -/
namespace Go.Proofs.YtggnfejjcgbebaaGreatDoor
open Go.RowKit
open Vl (V)
attribute [local go_sem ↓] Go.wp_at_zero Go.wp_at_succ
structure HB (w:World) (B:Nat) (cs:Array Value) (W:World):Prop where
  below:Below w.heap.size w W
  row:W.heap[B]?=some (.cells cs 41 (0,0))
theorem HB.call {w W W':World} {B:Nat} {cs:Array Value} (h:HB w B cs W) (hb:Below W.heap.size W W'):HB w B cs W' :=
  ⟨h.below.trans (hb.mono h.below.size),(hb.block B (Array.getElem?_eq_some_iff.1 h.row).1).trans h.row⟩
theorem HB.cells {w W:World} {B:Nat} {c0 c1 c2 c3 c4:Value} (h:HB w B #[c0,c1,c2,c3,c4] W):W.cell? ⟨B,0,none⟩=some c0∧W.cell? ⟨B,1,none⟩=some c1∧W.cell? ⟨B,2,none⟩=some c2∧W.cell? ⟨B,3,none⟩=some c3∧W.cell? ⟨B,4,none⟩=some c4 :=
  ⟨block_cells h.row 0 _ rfl,block_cells h.row 1 _ rfl,block_cells h.row 2 _ rfl,block_cells h.row 3 _ rfl,block_cells h.row 4 _ rfl⟩
namespace Jn
structure Hd where
  seq:Nat
  prev:ByteArray
  root:ByteArray
  revs:Nat
  sts:ByteArray
def hv (h:Hd):V:=lst [num h.seq,blob h.prev,blob h.root,num h.revs,blob h.sts]
def htext (h:Hd):ByteArray:=Bn.wtext (hv h)
def digest (h:Hd):ByteArray:=bs (Sh.sum (htext h).data.toList)
theorem wtext_size (t:V):(Bn.wtext t).size≤16384:=by
  by_cases h:Bn.werr t=0
  · have hc:¬16384<(Bn.bytes t).length:=fun hn=>by
      rw [Bn.werr] at h
      split at h
      · rename_i h1;exact absurd h h1
      · first
          | omega
          | (rw [if_pos hn] at h;omega)
    rw [Bn.wtext,if_pos h,Lib.size_eq]
    show (Bn.bytes t).length≤16384
    omega
  · rw [wtext_no h];decide
end Jn
set_option maxHeartbeats 16000000 in
set_option maxRecDepth 100000 in
theorem headText_c (sq:Nat) (pv rt:ByteArray) (rn:Nat) (st:ByteArray) (hsq:sq<18446744073709551616) (hpv:pv.size≤maxLen) (hrt:rt.size≤maxLen) (hrn:rn<18446744073709551616) (hst:st.size≤maxLen) (w:World) (hU:Bn.HasU w) :
    Calls Tryz.prog 24 #[.agg #[.int .u64 (sq:Int),.string pv,.string rt,.int .u64 (rn:Int),.string st]] w fun e w'=>e=.returned (.string (Jn.htext ⟨sq,pv,rt,rn,st⟩))∧Below w.heap.size w w':=by
  obtain ⟨B,hB⟩:∃B,B=w.heap.size:=⟨_,rfl⟩
  obtain ⟨w1,hw1⟩:∃w1,w1=w.alloc (.cells #[.int .u64 (sq:Int),.string pv,.string rt,.int .u64 (rn:Int),.string st] 41):=⟨_,rfl⟩
  obtain ⟨cs5,hcs5⟩:∃cs5:Array Value,cs5=#[.int .u64 (sq:Int),.string pv,.string rt,.int .u64 (rn:Int),.string st]:=⟨_,rfl⟩
  have S1:Hid (HB w B cs5 w1):=by
    show HB _ _ _ _
    rw [hw1,hB,hcs5];exact ⟨below_new _ _,heap_alloc_new w _⟩
  have HC5:Hid (∀W,HB w B cs5 W→W.cell? ⟨B,0,none⟩=some (.int .u64 (sq:Int))∧W.cell? ⟨B,1,none⟩=some (.string pv)∧W.cell? ⟨B,2,none⟩=some (.string rt)∧W.cell? ⟨B,3,none⟩=some (.int .u64 (rn:Int))∧W.cell? ⟨B,4,none⟩=some (.string st)):=fun W hW=>by
    rw [hcs5] at hW;exact hW.cells
  obtain ⟨bt,hbt⟩:∃bt,bt=Jn.hv ⟨sq,pv,rt,rn,st⟩:=⟨_,rfl⟩
  obtain ⟨le,hle⟩:∃le,le=Bn.werr bt:=⟨_,rfl⟩
  obtain ⟨lx,hlx⟩:∃lx,lx=Bn.wtext bt:=⟨_,rfl⟩
  have hlt:Jn.htext ⟨sq,pv,rt,rn,st⟩=lx:=by rw [Jn.htext,hlx,hbt]
  rw [hlt]
  obtain ⟨iq,hiq⟩:∃i,i=Jn.i64 sq:=⟨_,rfl⟩
  obtain ⟨ir,hir⟩:∃i,i=Jn.i64 rn:=⟨_,rfl⟩
  have CN:Hid (∀W,Calls Tryz.prog 48 #[.int .u64 (sq:Int)] W fun en w'=>en=.returned (.agg #[.int .u8 2,.bool false,.int .i64 iq,.string ⟨#[]⟩,.slice none 0 0,.slice none 0 0])∧Below W.heap.size W w'):=fun W=>by rw [hiq];exact asNumber_c sq hsq W
  have CM:Hid (∀W,Calls Tryz.prog 48 #[.int .u64 (rn:Int)] W fun en w'=>en=.returned (.agg #[.int .u8 2,.bool false,.int .i64 ir,.string ⟨#[]⟩,.slice none 0 0,.slice none 0 0])∧Below W.heap.size W w'):=fun W=>by rw [hir];exact asNumber_c rn hrn W
  have CP:Hid (∀W,Calls Tryz.prog 65 #[.string pv] W fun en w'=>en=.returned (.agg #[.int .u8 4,.bool false,.int .i64 0,.string pv,.slice none 0 0,.slice none 0 0])∧Below W.heap.size W w'):=fun W=>asBlob_c pv W
  have CR:Hid (∀W,Calls Tryz.prog 65 #[.string rt] W fun en w'=>en=.returned (.agg #[.int .u8 4,.bool false,.int .i64 0,.string rt,.slice none 0 0,.slice none 0 0])∧Below W.heap.size W w'):=fun W=>asBlob_c rt W
  have CS:Hid (∀W,Calls Tryz.prog 65 #[.string st] W fun en w'=>en=.returned (.agg #[.int .u8 4,.bool false,.int .i64 0,.string st,.slice none 0 0,.slice none 0 0])∧Below W.heap.size W w'):=fun W=>asBlob_c st W
  have CL:Hid (∀W,Below w.heap.size w W→Calls Tryz.prog 46 #[.func (.func 47) #[] #[],.slice (some ⟨W.heap.size,0,none⟩) 5 5] (W.alloc (.cells #[.int .u8 2,.bool false,.int .i64 iq,.string ⟨#[]⟩,.slice none 0 0,.slice none 0 0,.int .u8 4,.bool false,.int .i64 0,.string pv,.slice none 0 0,.slice none 0 0,.int .u8 4,.bool false,.int .i64 0,.string rt,.slice none 0 0,.slice none 0 0,.int .u8 2,.bool false,.int .i64 ir,.string ⟨#[]⟩,.slice none 0 0,.slice none 0 0,.int .u8 4,.bool false,.int .i64 0,.string st,.slice none 0 0,.slice none 0 0] 32)) fun en w'=>∃a c',en=.returned (.agg #[.int .u8 5,.bool false,.int .i64 0,.string ⟨#[]⟩,.slice a 5 c',.slice none 0 0])∧Rep w' w'.heap.size bt (.agg #[.int .u8 5,.bool false,.int .i64 0,.string ⟨#[]⟩,.slice a 5 c',.slice none 0 0])∧Below (W.alloc (.cells #[.int .u8 2,.bool false,.int .i64 iq,.string ⟨#[]⟩,.slice none 0 0,.slice none 0 0,.int .u8 4,.bool false,.int .i64 0,.string pv,.slice none 0 0,.slice none 0 0,.int .u8 4,.bool false,.int .i64 0,.string rt,.slice none 0 0,.slice none 0 0,.int .u8 2,.bool false,.int .i64 ir,.string ⟨#[]⟩,.slice none 0 0,.slice none 0 0,.int .u8 4,.bool false,.int .i64 0,.string st,.slice none 0 0,.slice none 0 0] 32)).heap.size (W.alloc (.cells #[.int .u8 2,.bool false,.int .i64 iq,.string ⟨#[]⟩,.slice none 0 0,.slice none 0 0,.int .u8 4,.bool false,.int .i64 0,.string pv,.slice none 0 0,.slice none 0 0,.int .u8 4,.bool false,.int .i64 0,.string rt,.slice none 0 0,.slice none 0 0,.int .u8 2,.bool false,.int .i64 ir,.string ⟨#[]⟩,.slice none 0 0,.slice none 0 0,.int .u8 4,.bool false,.int .i64 0,.string st,.slice none 0 0,.slice none 0 0] 32)) w'):=fun W hW=>by
    rw [hbt]
    refine listV_c W.heap.size 0 5 5 [Jn.num sq,Jn.blob pv,Jn.blob rt,Jn.num rn,Jn.blob st] rfl (by decide) (W.alloc _) (by simp) (rep_five (heap_alloc_new W _) ?_ ?_ ?_ ?_ ?_)
    · rw [hiq];exact rep_flat _ _ 2 _ _ (by omega) (Jn.i64_range sq hsq) (by decide)
    · exact rep_flat _ _ 4 _ _ (by omega) (by omega) hpv
    · exact rep_flat _ _ 4 _ _ (by omega) (by omega) hrt
    · rw [hir];exact rep_flat _ _ 2 _ _ (by omega) (Jn.i64_range rn hrn) (by decide)
    · exact rep_flat _ _ 4 _ _ (by omega) (by omega) hst
  have CW:Hid (∀W v,Below w.heap.size w W→Rep W W.heap.size bt v→Calls Tryz.prog 45 #[v] W fun en w'=>en=.returned (.tuple #[.string lx,.int .i64 (le:Int)])∧Below W.heap.size W w'):=fun W v hW hr=>by
    rw [hlx,hle];exact write18 bt W (hU.stays hW) W.heap.size v (Nat.le_refl _) hr
  clear hU hle hlx hiq hir hcs5 hbt hpv hrt hst hlt
  go_enter Tryz.func24,Tryz.ntmps24
  go_upto_region 1 with fail
  rw [←hw1,←hB]
  clear hw1 hB
  obtain ⟨p0,p1,p2,p3,p4⟩:=HC5.out _ S1.out
  go_region_held3 (fun W'=>W'.cell? ⟨B,0,none⟩=some (.int .u64 (sq:Int))∧W'.cell? ⟨B,1,none⟩=some (.string pv)∧W'.cell? ⟨B,2,none⟩=some (.string rt)∧W'.cell? ⟨B,3,none⟩=some (.int .u64 (rn:Int))∧W'.cell? ⟨B,4,none⟩=some (.string st)) (go_keep) (first
    | (go_at_call 45;refine (CW.out _ _ S6.out.below R6.out).mono ?_;rintro en w7 ⟨rfl,hb7⟩
       have S7:Hid (HB w B cs5 w7):=S6.out.call hb7
       obtain ⟨p0,p1,p2,p3,p4⟩:=HC5.out _ S7.out
       clear hb7)
    | (go_at_call 46;refine (CL.out _ S3.out.below).mono ?_;rintro en w6 ⟨la,lc,rfl,hr6,hb6⟩
       have S6:Hid (HB w B cs5 w6):=(S3.out.call (below_new _ _)).call hb6
       have R6:Hid (Rep w6 w6.heap.size bt (.agg #[.int .u8 5,.bool false,.int .i64 0,.string ⟨#[]⟩,.slice la 5 lc,.slice none 0 0])):=hr6
       obtain ⟨p0,p1,p2,p3,p4⟩:=HC5.out _ S6.out
       clear hb6 hr6)
    | (go_at_call_of 48 (Value.int .u64 (sq:Int));refine (CN.out _).mono ?_;rintro en w3 ⟨rfl,hb3⟩
       have S3:Hid (HB w B cs5 w3):=(by first | exact S1.out.call hb3 | exact (S1.out.call (Below.refl _ _).drew).call hb3)
       obtain ⟨p0,p1,p2,p3,p4⟩:=HC5.out _ S3.out
       clear hb3)
    | (go_at_call_of 65 (Value.string pv);refine (CP.out _).mono ?_;rintro en w3 ⟨rfl,hb3⟩
       have S3:Hid (HB w B cs5 w3):=S3.out.call hb3
       obtain ⟨p0,p1,p2,p3,p4⟩:=HC5.out _ S3.out
       clear hb3)
    | (go_at_call_of 65 (Value.string rt);refine (CR.out _).mono ?_;rintro en w3 ⟨rfl,hb3⟩
       have S3:Hid (HB w B cs5 w3):=S3.out.call hb3
       obtain ⟨p0,p1,p2,p3,p4⟩:=HC5.out _ S3.out
       clear hb3)
    | (go_at_call_of 48 (Value.int .u64 (rn:Int));refine (CM.out _).mono ?_;rintro en w3 ⟨rfl,hb3⟩
       have S3:Hid (HB w B cs5 w3):=S3.out.call hb3
       obtain ⟨p0,p1,p2,p3,p4⟩:=HC5.out _ S3.out
       clear hb3)
    | (go_at_call_of 65 (Value.string st);refine (CS.out _).mono ?_;rintro en w3 ⟨rfl,hb3⟩
       have S3:Hid (HB w B cs5 w3):=S3.out.call hb3
       obtain ⟨p0,p1,p2,p3,p4⟩:=HC5.out _ S3.out
       clear hb3)
    | fail "no arm")
  all_goals
    have HF:=S7.out.below
    go_wp2
    go_ret
    exact ⟨rfl,HF⟩
set_option maxHeartbeats 2000000 in
theorem digest_c (sq:Nat) (pv rt:ByteArray) (rn:Nat) (st:ByteArray) (hsq:sq<18446744073709551616) (hpv:pv.size≤maxLen) (hrt:rt.size≤maxLen) (hrn:rn<18446744073709551616) (hst:st.size≤maxLen) (w:World) (hU:Bn.HasU w) (hK:HasK w) :
    Calls Tryz.prog 26 #[.agg #[.int .u64 (sq:Int),.string pv,.string rt,.int .u64 (rn:Int),.string st]] w fun e w'=>e=.returned (.string (Jn.digest ⟨sq,pv,rt,rn,st⟩))∧Below w.heap.size w w':=by
  obtain ⟨x,hx⟩:∃x,x=Jn.htext ⟨sq,pv,rt,rn,st⟩:=⟨_,rfl⟩
  obtain ⟨d,hd⟩:∃d,d=Jn.digest ⟨sq,pv,rt,rn,st⟩:=⟨_,rfl⟩
  have C1:Hid (∀W,Below w.heap.size w W→Calls Tryz.prog 24 #[.agg #[.int .u64 (sq:Int),.string pv,.string rt,.int .u64 (rn:Int),.string st]] W fun e w'=>e=.returned (.string x)∧Below W.heap.size W w'):=fun W hW=>by
    rw [hx];exact headText_c sq pv rt rn st hsq hpv hrt hrn hst W (hU.stays hW)
  have C2:Hid (∀W,Below w.heap.size w W→Calls Tryz.prog 55 #[.string x] W fun e w'=>e=.returned (.string d)∧Below W.heap.size W w'):=fun W hW=>by
    have h:=sum9 x (by rw [hx,Jn.htext];have:=Jn.wtext_size (Jn.hv ⟨sq,pv,rt,rn,st⟩);omega) W (hK.below hK.1 hW)
    rw [hd,Jn.digest,←hx];exact h
  rw [←hd]
  clear hU hK hx hd
  go_enter Tryz.func26,Tryz.ntmps26
  go_wp2_with fail
  refine (C1.out _ (below_new _ _)).mono ?_
  rintro e w2 ⟨rfl,hb2⟩
  have HF:Hid (Below w.heap.size w w2):=(below_new w (.cells #[.int .u64 (sq:Int),.string pv,.string rt,.int .u64 (rn:Int),.string st] 41)).trans (hb2.mono (by simp))
  clear hb2 C1
  go_wp2_with fail
  refine (C2.out _ HF.out).mono ?_
  rintro e w3 ⟨rfl,hb3⟩
  have HF3:=HF.out.trans (hb3.mono HF.out.size)
  clear hb3 C2
  go_wp2
  go_ret
  exact ⟨rfl,HF3⟩
end Go.Proofs.YtggnfejjcgbebaaGreatDoor
/- A block's head. -/
namespace Go.Proofs.YtggnfejjcgbebaaGreatDoor
open Go.RowKit
open Vl (V)
attribute [local go_sem ↓] Go.wp_at_zero Go.wp_at_succ
theorem info_head:(Tryz.prog.info? 41).map (·.size)=some 5:=by kernel_rfl
structure HH (w:World) (B:Nat) (cs:Array Value) (W:World):Prop where
  below:Below w.heap.size w W
  base:B=w.heap.size
  row:W.heap[B]?=some (.cells cs 26 (0,0))
  res:W.heap[B+1]?=some (.cells #[.int .u64 0,.string ⟨#[]⟩,.string ⟨#[]⟩,.int .u64 0,.string ⟨#[]⟩] 41 (0,0))
theorem HH.call {w W W':World} {B:Nat} {cs:Array Value} (h:HH w B cs W) (hb:Below W.heap.size W W'):HH w B cs W' :=
  ⟨h.below.trans (hb.mono h.below.size),h.base,(hb.block B (Array.getElem?_eq_some_iff.1 h.row).1).trans h.row,(hb.block (B+1) (Array.getElem?_eq_some_iff.1 h.res).1).trans h.res⟩
theorem five_put {W:World} {g:Nat} {t:TypeId} {z0 z1 z2 z3 z4:Value} (h:W.heap[g]?=some (.cells #[z0,z1,z2,z3,z4] t (0,0))) (a b c d e:Value):(W.setCells g 0 [a,b,c,d,e]).heap[g]?=some (.cells #[a,b,c,d,e] t (0,0)):=by
  have h1:=heap_setCells_put g t [a,b,c,d,e] 0 W _ h
  rw [h1]
  simp [putAll]
theorem sets5 (W:World) (B:Nat) (v0 v1 v2 v3 v4:Value):(((((W.setCell ⟨B,0,none⟩ v0).setCell ⟨B,1,none⟩ v1).setCell ⟨B,2,none⟩ v2).setCell ⟨B,3,none⟩ v3).setCell ⟨B,4,none⟩ v4)=W.setCells B 0 [v0,v1,v2,v3,v4]:=rfl
namespace Jn
def stsDigest (ss:List (List UInt8)):ByteArray:=bs (Sh.sum (Bn.wtext (lst (ss.map fun x=>txt (bs x)))).data.toList)
end Jn
set_option maxHeartbeats 16000000 in
set_option maxRecDepth 100000 in
theorem headOf_c (sq:Nat) (pv rt:ByteArray) (sa:Option Addr) (sn sc:Nat) (ra:Option Addr) (rn rc:Nat) (hsn:sn≤1048576) (hrn:rn≤maxLen) (ss:List (List UInt8)) (hss:∀x∈ss,x.length≤maxLen) (w:World) (hU:Bn.HasU w) (hK:HasK w) (hS:Sl w w.heap.size (.slice sa sn sc) ss) (hp2:pv.size≤281474976710656) (hr2:rt.size≤281474976710656) :
    Calls Tryz.prog 37 #[.agg #[.int .u64 (sq:Int),.string pv,.string rt,.slice sa sn sc,.slice ra rn rc]] w fun e w'=>e=.returned (.agg #[.int .u64 (sq:Int),.string pv,.string rt,.int .u64 (rn:Int),.string (Jn.stsDigest ss)])∧Below w.heap.size w w':=by
  obtain ⟨B,hB⟩:∃B,B=w.heap.size:=⟨_,rfl⟩
  obtain ⟨w1,hw1⟩:∃w1,w1=(w.alloc (.cells #[.int .u64 (sq:Int),.string pv,.string rt,.slice sa sn sc,.slice ra rn rc] 26)).alloc (.cells #[.int .u64 0,.string ⟨#[]⟩,.string ⟨#[]⟩,.int .u64 0,.string ⟨#[]⟩] 41):=⟨_,rfl⟩
  obtain ⟨cs5,hcs5⟩:∃cs5:Array Value,cs5=#[.int .u64 (sq:Int),.string pv,.string rt,.slice sa sn sc,.slice ra rn rc]:=⟨_,rfl⟩
  have S1:Hid (HH w B cs5 w1):=by
    show HH _ _ _ _
    rw [hw1,hB,hcs5]
    exact ⟨below_new2 _ _ _,rfl,(heap_alloc_old _ _ (by simp)).trans (heap_alloc_new w _),heap_new2 w _ _⟩
  have HC5:Hid (∀W,HH w B cs5 W→W.cell? ⟨B,0,none⟩=some (.int .u64 (sq:Int))∧W.cell? ⟨B,1,none⟩=some (.string pv)∧W.cell? ⟨B,2,none⟩=some (.string rt)∧W.cell? ⟨B,3,none⟩=some (.slice sa sn sc)∧W.cell? ⟨B,4,none⟩=some (.slice ra rn rc)):=fun W hW=>by
    have h:=hW.row
    rw [hcs5] at h
    exact ⟨block_cells h 0 _ rfl,block_cells h 1 _ rfl,block_cells h 2 _ rfl,block_cells h 3 _ rfl,block_cells h 4 _ rfl⟩
  have HZ5:Hid (∀W,HH w B cs5 W→W.cell? ⟨B+1,0,none⟩=some (.int .u64 0)∧W.cell? ⟨B+1,1,none⟩=some (.string ⟨#[]⟩)∧W.cell? ⟨B+1,2,none⟩=some (.string ⟨#[]⟩)∧W.cell? ⟨B+1,3,none⟩=some (.int .u64 0)∧W.cell? ⟨B+1,4,none⟩=some (.string ⟨#[]⟩)):=fun W hW =>
    ⟨block_cells hW.res 0 _ rfl,block_cells hW.res 1 _ rfl,block_cells hW.res 2 _ rfl,block_cells hW.res 3 _ rfl,block_cells hW.res 4 _ rfl⟩
  obtain ⟨t3,ht3⟩:∃t3,t3=Jn.lst (ss.map fun x=>Jn.txt (bs x)):=⟨_,rfl⟩
  obtain ⟨le,hle⟩:∃le,le=Bn.werr t3:=⟨_,rfl⟩
  obtain ⟨lx,hlx⟩:∃lx,lx=Bn.wtext t3:=⟨_,rfl⟩
  obtain ⟨sd,hsd⟩:∃sd,sd=Jn.stsDigest ss:=⟨_,rfl⟩
  rw [←hsd]
  have C3:Hid (∀W,Below w.heap.size w W→Calls Tryz.prog 71 #[.func (.func 49) #[] #[],.slice sa sn sc] W fun en w'=>∃l1 m1,en=.returned (.agg #[.int .u8 5,.bool false,.int .i64 0,.string ⟨#[]⟩,.slice l1 sn m1,.slice none 0 0])∧Rep w' w'.heap.size t3 (.agg #[.int .u8 5,.bool false,.int .i64 0,.string ⟨#[]⟩,.slice l1 sn m1,.slice none 0 0])∧Below W.heap.size W w'):=fun W hW=>by
    rw [ht3];exact listT_c sa sn sc ss hss hsn W ((hS.stays hW (Nat.le_refl _)).mono hW.size)
  have CW:Hid (∀W v,Below w.heap.size w W→Rep W W.heap.size t3 v→Calls Tryz.prog 45 #[v] W fun en w'=>en=.returned (.tuple #[.string lx,.int .i64 (le:Int)])∧Below W.heap.size W w'):=fun W v hW hr=>by
    rw [hlx,hle];exact write18 t3 W (hU.stays hW) W.heap.size v (Nat.le_refl _) hr
  have CP:Hid (∀W,Calls Tryz.prog 77 #[.string pv] W fun en w'=>en=.returned (.string pv)∧Below W.heap.size W w'):=fun W=>sclone_c pv hp2 W
  have CR:Hid (∀W,Calls Tryz.prog 77 #[.string rt] W fun en w'=>en=.returned (.string rt)∧Below W.heap.size W w'):=fun W=>sclone_c rt hr2 W
  have CD:Hid (∀W,Below w.heap.size w W→Calls Tryz.prog 55 #[.string lx] W fun en w'=>en=.returned (.string sd)∧Below W.heap.size W w'):=fun W hW=>by
    have h:=sum9 lx (by rw [hlx];have:=Jn.wtext_size t3;omega) W (hK.below hK.1 hW)
    rw [hsd,Jn.stsDigest,←ht3,←hlx];exact h
  have qr:IntKind.u64.wrap (rn:Int)=(rn:Int):=by rw [IntKind.wrap_u64];unfold maxLen at hrn;omega
  have qr2:(rn:Int)≤9223372036854775807:=by unfold maxLen at hrn;omega
  clear hU hK hS hle hlx ht3 hsd hcs5 hss hp2 hr2
  go_enter Tryz.func37,Tryz.ntmps37
  go_upto_region 1 with fail
  rw [←hw1,←hB]
  clear hw1 hB
  obtain ⟨p0,p1,p2,p3,p4⟩:=HC5.out _ S1.out
  go_wp2_with fail
  refine (C3.out _ S1.out.below).mono ?_
  rintro e w2 ⟨l1,m1,rfl,hr2,hb2⟩
  have S2:Hid (HH w B cs5 w2):=S1.out.call hb2
  have R2:Hid (Rep w2 w2.heap.size t3 (.agg #[.int .u8 5,.bool false,.int .i64 0,.string ⟨#[]⟩,.slice l1 sn m1,.slice none 0 0])):=hr2
  clear hb2 hr2 S1 C3 p0 p1 p2 p3 p4
  go_wp2_with fail
  refine (CW.out _ _ S2.out.below R2.out).mono ?_
  rintro e w3 ⟨rfl,hb3⟩
  have S3:Hid (HH w B cs5 w3):=S2.out.call hb3
  clear hb3 S2 R2 CW
  go_upto_region 2 with fail
  obtain ⟨p0,p1,p2,p3,p4⟩:=HC5.out _ S3.out
  obtain ⟨z0,z1,z2,z3,z4⟩:=HZ5.out _ S3.out
  go_region_held3 (fun W'=>W'.cell? ⟨B,0,none⟩=some (.int .u64 (sq:Int))∧W'.cell? ⟨B,1,none⟩=some (.string pv)∧W'.cell? ⟨B,2,none⟩=some (.string rt)∧W'.cell? ⟨B,3,none⟩=some (.slice sa sn sc)∧W'.cell? ⟨B,4,none⟩=some (.slice ra rn rc)) (go_keep) (first
    | (go_at_call_of 77 (Value.string pv);refine (CP.out _).mono ?_;rintro en w4 ⟨rfl,hb4⟩
       have S4:Hid (HH w B cs5 w4):=(by first | exact S3.out.call hb4 | exact (S3.out.call (Below.refl _ _).drew).call hb4)
       obtain ⟨p0,p1,p2,p3,p4⟩:=HC5.out _ S4.out
       obtain ⟨z0,z1,z2,z3,z4⟩:=HZ5.out _ S4.out
       clear hb4)
    | (go_at_call_of 77 (Value.string rt);refine (CR.out _).mono ?_;rintro en w5 ⟨rfl,hb5⟩
       have S5:Hid (HH w B cs5 w5):=S4.out.call hb5
       obtain ⟨p0,p1,p2,p3,p4⟩:=HC5.out _ S5.out
       obtain ⟨z0,z1,z2,z3,z4⟩:=HZ5.out _ S5.out
       clear hb5)
    | (go_at_call 55;refine (CD.out _ S5.out.below).mono ?_;rintro en w6 ⟨rfl,hb6⟩
       have S6:Hid (HH w B cs5 w6):=S5.out.call hb6
       obtain ⟨p0,p1,p2,p3,p4⟩:=HC5.out _ S6.out
       obtain ⟨z0,z1,z2,z3,z4⟩:=HZ5.out _ S6.out
       have fz:=row_freeV S6.out.res
       clear hb6)
    | fail "no arm")
  all_goals
    have F1:=five_put S6.out.res (.int .u64 (sq:Int)) (.string pv) (.string rt) (.int .u64 (rn:Int)) (.string sd)
    have F2:Below w.heap.size w (w6.setCells (B+1) 0 [.int .u64 (sq:Int),.string pv,.string rt,.int .u64 (rn:Int),.string sd]):=below_setCellsV (by have:=S6.out.base;omega) _ _ S6.out.below
    have HF:Hid (_∧_):=⟨F1,F2⟩
    clear F1 F2
    go_wp2
    rw [sets5]
    exact bodyPost_ret (v:=.agg #[.int .u64 (sq:Int),.string pv,.string rt,.int .u64 (rn:Int),.string sd]) (results_cell_row rfl _ _ (B+1) 41 #[.int .u64 (sq:Int),.string pv,.string rt,.int .u64 (rn:Int),.string sd] (0,0) _ rfl HF.out.1 Tryz.underlying41 rfl info_head) rfl ⟨rfl,HF.out.2⟩
namespace Jn
def headOf (b:B):Hd:=⟨b.seq,b.prev,b.root,b.revs.length,stsDigest (b.sts.map fun s=>s.data.toList)⟩
end Jn
end Go.Proofs.YtggnfejjcgbebaaGreatDoor
/- A block's head, or why it has none. -/
namespace Go.Proofs.YtggnfejjcgbebaaGreatDoor
open Go.RowKit
open Vl (V)
attribute [local go_sem ↓] Go.wp_at_zero Go.wp_at_succ
def hcells (h:Jn.Hd):Value:=.agg #[.int .u64 (h.seq:Int),.string h.prev,.string h.root,.int .u64 (h.revs:Int),.string h.sts]
end Go.Proofs.YtggnfejjcgbebaaGreatDoor
