/- Several texts, joined: JnW, JnX, JnY -/
import Derived.Test.YtggnfejjcgbebaaGreatDoorQHM
import Derived.Deep.QuietTactic
/- A number's four bytes, there and back; a block's frame. -/
namespace Go.Proofs.YtggnfejjcgbebaaGreatDoor
open Go.RowKit
open Vl (V)
attribute [local go_sem ↓] Go.wp_at_zero Go.wp_at_succ
namespace Jn
def low (n k:Nat):Nat:=n / 256 ^ k % 256
def four (n j:Nat):Array Value:=#[.int .u8 (if 0<j then (low n 0:Int) else 0),.int .u8 (if 1<j then (low n 1:Int) else 0),.int .u8 (if 2<j then (low n 2:Int) else 0),.int .u8 (if 3<j then (low n 3:Int) else 0)]
def cnt (n:Nat):List UInt8:=[UInt8.ofNat (low n 0),UInt8.ofNat (low n 1),UInt8.ofNat (low n 2),UInt8.ofNat (low n 3)]
end Jn
structure C4 (w:World) (n j:Nat) (W:World):Prop where
  below:Below w.heap.size w W
  row:W.heap[w.heap.size]?=some (.cells (Jn.four n j) 5 (0,0))
theorem Jn.four_all (n:Nat):Jn.four n 4=(Lib.byteCells (Jn.cnt n)).toArray:=by
  have h:∀k,(((Jn.low n k % 256:Nat)):Int)=(Jn.low n k:Int):=fun k=>by rw [Nat.mod_eq_of_lt (show Jn.low n k<256 from Nat.mod_lt _ (by decide))]
  simp [Jn.four,Lib.byteCells,Jn.cnt,h]
theorem C4.next0 {w W:World} {n:Nat} (h:C4 w n 0 W):C4 w n 1 (W.setCell ⟨w.heap.size,0,none⟩ (.int .u8 ((n:Int) % 256))):=by
  refine ⟨h.below.setCell (p:=⟨w.heap.size,0,none⟩) (Nat.le_refl _) _,?_⟩
  have e:=heap_setCell_same W w.heap.size 0 _ 5 (.int .u8 ((n:Int) % 256)) h.row
  rw [e]
  simp [Jn.four,Jn.low]
theorem C4.next1 {w W:World} {n:Nat} (h:C4 w n 1 W):C4 w n 2 (W.setCell ⟨w.heap.size,1,none⟩ (.int .u8 ((n:Int) / 256 % 256))):=by
  refine ⟨h.below.setCell (p:=⟨w.heap.size,1,none⟩) (Nat.le_refl _) _,?_⟩
  have e:=heap_setCell_same W w.heap.size 1 _ 5 (.int .u8 ((n:Int) / 256 % 256)) h.row
  rw [e]
  simp [Jn.four,Jn.low]
theorem C4.next2 {w W:World} {n:Nat} (h:C4 w n 2 W):C4 w n 3 (W.setCell ⟨w.heap.size,2,none⟩ (.int .u8 ((n:Int) / 65536 % 256))):=by
  refine ⟨h.below.setCell (p:=⟨w.heap.size,2,none⟩) (Nat.le_refl _) _,?_⟩
  have e:=heap_setCell_same W w.heap.size 2 _ 5 (.int .u8 ((n:Int) / 65536 % 256)) h.row
  rw [e]
  simp [Jn.four,Jn.low]
theorem C4.next3 {w W:World} {n:Nat} (h:C4 w n 3 W):C4 w n 4 (W.setCell ⟨w.heap.size,3,none⟩ (.int .u8 ((n:Int) / 16777216 % 256))):=by
  refine ⟨h.below.setCell (p:=⟨w.heap.size,3,none⟩) (Nat.le_refl _) _,?_⟩
  have e:=heap_setCell_same W w.heap.size 3 _ 5 (.int .u8 ((n:Int) / 16777216 % 256)) h.row
  rw [e]
  simp [Jn.four,Jn.low]
set_option maxHeartbeats 4000000 in
theorem counted_c (n:Nat) (hn:n≤1048576) (w:World):Calls Tryz.prog 41 #[.int .i64 (n:Int)] w fun e w'=>e=.returned (.string (bs (Jn.cnt n)))∧Below w.heap.size w w':=by
  obtain ⟨i0,hi,hz0,hz1,hz2⟩:=info_parts info5
  obtain ⟨M,hM⟩:∃M,M=madeCells (Value.int .u8 0).cells (4*i0.size):=⟨_,rfl⟩
  have hmk:∀u:World,(Instr.makeSlice 61 (.int .i64 4) (.int .i64 4)).run Tryz.prog u=.ok (.slice (some ⟨u.heap.size,0,none⟩) 4 4) (u.alloc (.cells M 5)):=fun u=>by
    have h:=run_make (P:=Tryz.prog) u 61 5 i0 (.int .u8 0) Tryz.underlying61 hi hz0 .i64 .i64 4 4 (by omega) (by omega) (by rw [hz2];omega) (by omega)
    rw [show (4:Int).toNat=4 by omega,←hM] at h
    exact h
  have hM4:M=Jn.four n 0:=by
    rw [hM,hz1,made_bytes 4]
    simp [Jn.four,Lib.byteCells]
  obtain ⟨w1,hw1⟩:∃w1,w1=w.alloc (.cells M 5):=⟨_,rfl⟩
  have S1:Hid (C4 w n 0 w1):=by rw [hw1,hM4];exact ⟨below_new _ _,heap_alloc_new w _⟩
  have HN:Hid (n≤1048576):=hn
  clear hM hM4 hn
  go_enter Tryz.func41,Tryz.ntmps41
  go_upto_region 2 with fail
  rw [←hw1]
  clear hw1 hmk
  go_wp2
  go_loopw [8] (fun i wr=>∃j:Nat,j≤4∧i=.int .i64 (j:Int)∧C4 w n j wr) (fun i _=>4 - (intOf i).toNat)
  case atStart=>exact ⟨0,by omega,rfl,S1.out⟩
  case round =>
    obtain ⟨j,hj,rfl,hS⟩:=hrel
    have S:Hid (C4 w n j wr):=hS
    clear hS S1
    rcases (show j=0∨j=1∨j=2∨j=3∨j=4 by omega) with rfl | rfl | rfl | rfl | rfl
    · have c:=block_cells S.out.row 0 _ rfl
      have fz:=row_freeV S.out.row
      have N:Hid (C4 w n 1 (wr.setCell ⟨w.heap.size,0,none⟩ (.int .u8 ((n:Int) % 256)))):=S.out.next0
      go_wp2
      go_roundw
      case rel=>first | exact ⟨1,by omega,rfl,N.out⟩ | ((repeat apply Exists.intro);exact ⟨⟨1,by omega,rfl,N.out⟩,rfl⟩)
      case measure=>simp [intOf]
    · have c:=block_cells S.out.row 1 _ rfl
      have fz:=row_freeV S.out.row
      have N:Hid (C4 w n 2 (wr.setCell ⟨w.heap.size,1,none⟩ (.int .u8 ((n:Int) / 256 % 256)))):=S.out.next1
      go_wp2
      go_roundw
      case rel=>first | exact ⟨2,by omega,rfl,N.out⟩ | ((repeat apply Exists.intro);exact ⟨⟨2,by omega,rfl,N.out⟩,rfl⟩)
      case measure=>simp [intOf]
    · have c:=block_cells S.out.row 2 _ rfl
      have fz:=row_freeV S.out.row
      have N:Hid (C4 w n 3 (wr.setCell ⟨w.heap.size,2,none⟩ (.int .u8 ((n:Int) / 65536 % 256)))):=S.out.next2
      go_wp2
      go_roundw
      case rel=>first | exact ⟨3,by omega,rfl,N.out⟩ | ((repeat apply Exists.intro);exact ⟨⟨3,by omega,rfl,N.out⟩,rfl⟩)
      case measure=>simp [intOf]
    · have c:=block_cells S.out.row 3 _ rfl
      have fz:=row_freeV S.out.row
      have N:Hid (C4 w n 4 (wr.setCell ⟨w.heap.size,3,none⟩ (.int .u8 ((n:Int) / 16777216 % 256)))):=S.out.next3
      go_wp2
      go_roundw
      case rel=>first | exact ⟨4,by omega,rfl,N.out⟩ | ((repeat apply Exists.intro);exact ⟨⟨4,by omega,rfl,N.out⟩,rfl⟩)
      case measure=>simp [intOf]
    · have HO:wr.ownsRow w.heap.size 5 1 (.slice (some ⟨w.heap.size,0,none⟩) 4 4) (Jn.cnt n).length (Lib.byteCells (Jn.cnt n)):=by
        refine ⟨by simp [Lib.byteCells,Jn.cnt],.inr ⟨w.heap.size,4,_,rfl,Nat.le_refl _,S.out.row,by simp [Jn.cnt],by unfold maxLen;omega,by simp [Jn.four],?_⟩⟩
        rw [Jn.four_all]
        simp [Lib.byteCells,Jn.cnt]
      obtain ⟨g,n',cap,str,hv,hc,hs⟩:=own_string HO (by simp [Jn.cnt])
      injection hv with h1 h2 h3
      injection h1 with h1
      injection h1 with h1
      subst h1 h2 h3
      clear HO
      go_wp2
      go_ret
      exact ⟨by rw [hs.out];rfl,S.out.below⟩
end Go.Proofs.YtggnfejjcgbebaaGreatDoor
/- Four bytes as a number. -/
namespace Go.Proofs.YtggnfejjcgbebaaGreatDoor
open Go.RowKit
open Vl (V)
attribute [local go_sem ↓] Go.wp_at_zero Go.wp_at_succ
namespace Jn
def unc:List UInt8→Nat
  | []=>0
  | b :: l=>b.toNat+256*unc l
end Jn
theorem Jn.or_put (p y k:Nat) (hk:k≤24) (hp:p<2 ^ k) (hy:y<256):bits .or .u64 (p:Int) ((2 ^ k*y:Nat):Int)=((p+2 ^ k*y:Nat):Int):=by
  have h1:2 ^ k≤2 ^ 24:=Nat.pow_le_pow_right (by decide) hk
  have h2:2 ^ k*y≤2 ^ 24*256:=Nat.mul_le_mul h1 (by omega)
  rw [u64_or_nat _ _ (by omega) (by omega)]
  have h3:=Nat.shiftLeft_add_eq_or_of_lt hp y
  rw [Nat.shiftLeft_eq] at h3
  rw [Nat.or_comm,Nat.mul_comm (2 ^ k) y,←h3,Nat.add_comm]
theorem Jn.wrap_put (y m:Nat) (hy:y<256) (hm:m≤16777216):IntKind.u64.wrap (IntKind.u64.wrap (y:Int)*(m:Int))=((m*y:Nat):Int):=by
  have h:m*y≤16777216*256:=Nat.mul_le_mul hm (by omega)
  have h1:IntKind.u64.wrap (y:Int)=(y:Int):=by rw [IntKind.wrap_u64];omega
  rw [h1,←Int.natCast_mul,Nat.mul_comm y m,IntKind.wrap_u64]
  omega
set_option maxHeartbeats 4000000 in
theorem uncounted_c (s:ByteArray) (h4:s.size=4) (w:World):Calls Tryz.prog 136 #[.string s] w fun e w'=>e=.returned (.int .u64 (Jn.unc s.data.toList:Int))∧w'=w:=by
  obtain ⟨x0,x1,x2,x3,hx⟩:∃a b c d,s.data.toList=[a,b,c,d]:=by
    have h:s.data.toList.length=4:=by rw [←Lib.size_eq];exact h4
    match s.data.toList,h with
    | [a,b,c,d],_=>exact ⟨a,b,c,d,rfl⟩
  have i0:=fun wx=>Bn.index_byte s 0 (by omega) (by omega) wx
  have i1:=fun wx=>Bn.index_byte s 1 (by omega) (by omega) wx
  have i2:=fun wx=>Bn.index_byte s 2 (by omega) (by omega) wx
  have i3:=fun wx=>Bn.index_byte s 3 (by omega) (by omega) wx
  rw [hx] at i0 i1 i2 i3
  simp at i0 i1 i2 i3
  obtain ⟨y0,e0⟩:∃y,y=x0.toNat:=⟨_,rfl⟩
  obtain ⟨y1,e1⟩:∃y,y=x1.toNat:=⟨_,rfl⟩
  obtain ⟨y2,e2⟩:∃y,y=x2.toNat:=⟨_,rfl⟩
  obtain ⟨y3,e3⟩:∃y,y=x3.toNat:=⟨_,rfl⟩
  have HE:Hid (Jn.unc s.data.toList=y0+256*y1+65536*y2+16777216*y3):=by
    show _=_
    rw [hx,Jn.unc,Jn.unc,Jn.unc,Jn.unc,Jn.unc,e0,e1,e2,e3];omega
  rw [←e0] at i0
  rw [←e1] at i1
  rw [←e2] at i2
  rw [←e3] at i3
  have HL:Hid (y0<256∧y1<256∧y2<256∧y3<256):=by rw [e0,e1,e2,e3];exact ⟨x0.toNat_lt,x1.toNat_lt,x2.toNat_lt,x3.toNat_lt⟩
  rw [HE.out]
  clear e0 e1 e2 e3 hx
  have hsz:(s.size:Int)=4:=by omega
  clear h4
  go_enter Tryz.func136,Tryz.ntmps136
  go_wp2
  go_loopw [3,7] (fun v i wr=>∃(j p:Nat),j≤4∧i=.int .i64 (j:Int)∧v=.int .u64 (p:Int)∧wr=w∧p=(if 0<j then y0 else 0)+(if 1<j then 256*y1 else 0)+(if 2<j then 65536*y2 else 0)+(if 3<j then 16777216*y3 else 0)) (fun _ i _=>4 - (intOf i).toNat)
  case atStart=>exact ⟨0,0,by omega,rfl,rfl,rfl,by simp⟩
  case round =>
    obtain ⟨j,p,hj,rfl,rfl,rfl,hp⟩:=hrel
    have HP:Hid (p=(if 0<j then y0 else 0)+(if 1<j then 256*y1 else 0)+(if 2<j then 65536*y2 else 0)+(if 3<j then 16777216*y3 else 0)):=hp
    clear hp
    rcases (show j=0∨j=1∨j=2∨j=3∨j=4 by omega) with rfl | rfl | rfl | rfl | rfl
    · have hp:p=0:=by have:=HP.out;simpa using this
      obtain ⟨hy0,hy1,hy2,hy3⟩:=HL.out
      have E:Hid (bits .or .u64 (p:Int) (IntKind.u64.wrap (IntKind.u64.wrap (y0:Int)))=((p+1*y0:Nat):Int)):=by
        have h1:=Jn.or_put p y0 0 (by omega) (by simp;omega) hy0
        have h2:=Jn.wrap_put y0 1 hy0 (by omega)
        simp only [Nat.reducePow] at h1
        show _=_
        rw [←h1,←h2]
        simp
      have EP:Hid (p+1*y0=y0):=by show _=_;omega
      clear hp hy0 hy1 hy2 hy3
      go_wp2
      rw [E.out]
      go_roundw
      case rel=>first | exact ⟨1,p+1*y0,by omega,rfl,rfl,by trivial,by rw [EP.out];simp⟩ | ((repeat apply Exists.intro);exact ⟨⟨1,p+1*y0,by omega,rfl,rfl,by trivial,by rw [EP.out];simp⟩,rfl⟩)
      case measure=>simp [intOf]
    · have hp:p=y0:=by have:=HP.out;simpa using this
      obtain ⟨hy0,hy1,hy2,hy3⟩:=HL.out
      have E:Hid (bits .or .u64 (p:Int) (IntKind.u64.wrap (IntKind.u64.wrap (y1:Int)*256))=((p+256*y1:Nat):Int)):=by
        have h1:=Jn.or_put p y1 8 (by omega) (by simp;omega) hy1
        have h2:=Jn.wrap_put y1 256 hy1 (by omega)
        simp only [Nat.reducePow] at h1
        show _=_
        rw [←h1,←h2]
        rfl
      have EP:Hid (p+256*y1=y0+256*y1):=by show _=_;omega
      clear hp hy0 hy1 hy2 hy3
      go_wp2
      rw [E.out]
      go_roundw
      case rel=>first | exact ⟨2,p+256*y1,by omega,rfl,rfl,by trivial,by rw [EP.out];simp⟩ | ((repeat apply Exists.intro);exact ⟨⟨2,p+256*y1,by omega,rfl,rfl,by trivial,by rw [EP.out];simp⟩,rfl⟩)
      case measure=>simp [intOf]
    · have hp:p=y0+256*y1:=by have:=HP.out;simpa using this
      obtain ⟨hy0,hy1,hy2,hy3⟩:=HL.out
      have E:Hid (bits .or .u64 (p:Int) (IntKind.u64.wrap (IntKind.u64.wrap (y2:Int)*65536))=((p+65536*y2:Nat):Int)):=by
        have h1:=Jn.or_put p y2 16 (by omega) (by simp;omega) hy2
        have h2:=Jn.wrap_put y2 65536 hy2 (by omega)
        simp only [Nat.reducePow] at h1
        show _=_
        rw [←h1,←h2]
        rfl
      have EP:Hid (p+65536*y2=y0+256*y1+65536*y2):=by show _=_;omega
      clear hp hy0 hy1 hy2 hy3
      go_wp2
      rw [E.out]
      go_roundw
      case rel=>first | exact ⟨3,p+65536*y2,by omega,rfl,rfl,by trivial,by rw [EP.out];simp⟩ | ((repeat apply Exists.intro);exact ⟨⟨3,p+65536*y2,by omega,rfl,rfl,by trivial,by rw [EP.out];simp⟩,rfl⟩)
      case measure=>simp [intOf]
    · have hp:p=y0+256*y1+65536*y2:=by have:=HP.out;simpa using this
      obtain ⟨hy0,hy1,hy2,hy3⟩:=HL.out
      have E:Hid (bits .or .u64 (p:Int) (IntKind.u64.wrap (IntKind.u64.wrap (y3:Int)*16777216))=((p+16777216*y3:Nat):Int)):=by
        have h1:=Jn.or_put p y3 24 (by omega) (by simp;omega) hy3
        have h2:=Jn.wrap_put y3 16777216 hy3 (by omega)
        simp only [Nat.reducePow] at h1
        show _=_
        rw [←h1,←h2]
        rfl
      have EP:Hid (p+16777216*y3=y0+256*y1+65536*y2+16777216*y3):=by show _=_;omega
      clear hp hy0 hy1 hy2 hy3
      go_wp2
      rw [E.out]
      go_roundw
      case rel=>first | exact ⟨4,p+16777216*y3,by omega,rfl,rfl,by trivial,by rw [EP.out];simp⟩ | ((repeat apply Exists.intro);exact ⟨⟨4,p+16777216*y3,by omega,rfl,rfl,by trivial,by rw [EP.out];simp⟩,rfl⟩)
      case measure=>simp [intOf]
    · go_wp2
      go_ret
      exact ⟨by have:=HP.out;simp at this;rw [this];rfl,rfl⟩
end Go.Proofs.YtggnfejjcgbebaaGreatDoor
/- A block's frame; the frame with which a text begins. -/
namespace Go.Proofs.YtggnfejjcgbebaaGreatDoor
open Go.RowKit
open Vl (V)
attribute [local go_sem ↓] Go.wp_at_zero Go.wp_at_succ
namespace Jn
def frameOf (t:ByteArray):ByteArray:=(bs (cnt t.size)++sealOf (bs (cnt t.size)) t)++t
theorem btext_size (b:B):(btext b).size≤16384:=by
  rw [btext]
  by_cases h:berr b=0
  · rw [if_pos h]
    have h2:=(is_blk h).1
    rw [(berr_ok h).2.2.2.2.2] at h2
    exact h2
  · rw [if_neg h];decide
def ff (s:ByteArray):Option ByteArray :=
  if s.size<12 then none
  else if (min (s.size - 12) 16384)<unc (s.extract 0 4).data.toList then none
  else if sealOf (s.extract 0 4) ((s.extract 12 s.size).extract 0 (unc (s.extract 0 4).data.toList))=s.extract 4 12 then some ((s.extract 12 s.size).extract 0 (unc (s.extract 0 4).data.toList))
  else none
end Jn
theorem below_drewN2 {B:Nat} {w W:World} (h:Below B w W) (n:Nat):Below B w (W.drewN n):=by
  induction n with
  | zero=>exact h
  | succ n ih=>exact ih.drew
set_option maxHeartbeats 4000000 in
theorem frame_c (b:Jn.B) (sa:Option Addr) (sn sc:Nat) (ra:Option Addr) (rn rc:Nat) (w:World) (hU:Bn.HasU w) (hK:HasK w) (hB:Bk w w.heap.size b sa sn sc ra rn rc) :
    Calls Tryz.prog 11 #[.agg #[.int .u64 (b.seq:Int),.string b.prev,.string b.root,.slice sa sn sc,.slice ra rn rc]] w fun e w'=>e=.returned (.tuple #[.string (if Jn.berr b=0 then Jn.frameOf (Jn.btext b) else ⟨#[]⟩),.int .i64 (Jn.berr b:Int)])∧Below w.heap.size w w':=by
  obtain ⟨be,hbe⟩:∃be,be=Jn.berr b:=⟨_,rfl⟩
  obtain ⟨bx,hbx⟩:∃bx,bx=Jn.btext b:=⟨_,rfl⟩
  have hsz:bx.size≤16384:=by rw [hbx];exact Jn.btext_size b
  have CT:Hid (∀W,Below w.heap.size w W→Calls Tryz.prog 7 #[.agg #[.int .u64 (b.seq:Int),.string b.prev,.string b.root,.slice sa sn sc,.slice ra rn rc]] W fun e w'=>e=.returned (.tuple #[.string bx,.int .i64 (be:Int)])∧Below W.heap.size W w'):=fun W hW=>by
    rw [hbe,hbx];exact text_c b sa sn sc ra rn rc W (hU.stays hW) (hK.below hK.1 hW) (hB.stays hW hW.size)
  obtain ⟨cn,hcn⟩:∃cn,cn=bs (Jn.cnt bx.size):=⟨_,rfl⟩
  obtain ⟨sl,hsl⟩:∃sl,sl=Jn.sealOf cn bx:=⟨_,rfl⟩
  have CC:Hid (∀W,Calls Tryz.prog 41 #[.int .i64 (bx.size:Int)] W fun e w'=>e=.returned (.string cn)∧Below W.heap.size W w'):=fun W=>by rw [hcn];exact counted_c _ (by omega) W
  have CS:Hid (∀W,Below w.heap.size w W→Calls Tryz.prog 42 #[.string cn,.string bx] W fun e w'=>e=.returned (.string sl)∧Below W.heap.size W w'):=fun W hW=>by
    rw [hsl];exact seal_c cn bx (by rw [hcn,bs_size];show 4+_≤_;omega) W (hK.below hK.1 hW)
  have HSZ:Hid (cn.size+sl.size≤1048576∧(cn++sl).size+bx.size≤1048576):=by
    have h1:cn.size=4:=by rw [hcn,bs_size];rfl
    have h2:sl.size=8:=by rw [hsl,Jn.sealOf,bs_size,List.length_take,Mk.sum_length];rfl
    show _∧_
    rw [ByteArray.size_append]
    omega
  obtain ⟨fx,hfx⟩:∃fx,fx=(if Jn.berr b=0 then Jn.frameOf (Jn.btext b) else ⟨#[]⟩):=⟨_,rfl⟩
  have HF:Hid (fx=if be=0 then (cn++sl)++bx else ⟨#[]⟩):=by
    show _=_
    rw [hfx,hsl,hcn,hbe,←hbx];rfl
  rw [←hfx,←hbe]
  clear hfx
  clear hU hK hB hbe hbx hcn hsl hsz
  go_enter Tryz.func11,Tryz.ntmps11
  go_wp2_with fail
  refine (CT.out _ (below_new _ _)).mono ?_
  rintro e w2 ⟨rfl,hb2⟩
  have B2:Hid (Below w.heap.size w w2):=(below_new w (.cells #[.int .u64 (b.seq:Int),.string b.prev,.string b.root,.slice sa sn sc,.slice ra rn rc] 26)).trans (hb2.mono (by simp))
  clear hb2 CT
  by_cases h1:be=0
  · have q1:((be:Int)==0)=true:=by rw [beq_iff_eq];omega
    have H1:Hid (be=0):=h1
    clear h1
    go_wp2_with fail
    refine (CC.out _).mono ?_
    rintro e w3 ⟨rfl,hb3⟩
    have B3:Hid (Below w.heap.size w w3):=B2.out.trans (hb3.mono B2.out.size)
    clear hb3 CC B2
    go_wp2_with fail
    refine (CS.out _ B3.out).mono ?_
    rintro e w4 ⟨rfl,hb4⟩
    have B4:Hid (Below w.heap.size w w4):=B3.out.trans (hb4.mono B3.out.size)
    clear hb4 CS B3
    obtain ⟨k1,k2⟩:=HSZ.out
    go_wp2
    go_ret2
    exact ⟨by rw [HF.out,if_pos H1.out,H1.out];rfl,B4.out⟩
  · have q1:((be:Int)==0)=false:=by rw [beq_eq_false_iff_ne];omega
    go_wp2
    go_ret2
    exact ⟨by rw [HF.out,if_neg h1];rfl,B2.out⟩
set_option maxHeartbeats 8000000 in
set_option maxRecDepth 10000 in
theorem firstFrame_c (s:ByteArray) (w:World) (hK:HasK w) :
    Calls Tryz.prog 98 #[.string s] w fun e w'=>(∃t,Jn.ff s=some t∧e=.returned (.tuple #[.string t,.bool true])∨Jn.ff s=none∧e=.returned (.tuple #[.string ⟨#[]⟩,.bool false]))∧Below w.heap.size w w':=by
  by_cases h12:s.size<12
  · have q:(s.size:Int)<12:=by omega
    have HF:Hid (Jn.ff s=none):=by show _=_;rw [Jn.ff,if_pos h12]
    go_enter Tryz.func98,Tryz.ntmps98
    go_wp2
    go_ret2
    exact ⟨⟨⟨#[]⟩,.inr ⟨HF.out,rfl⟩⟩,Below.refl _ _⟩
  · have q:¬(s.size:Int)<12:=by omega
    obtain ⟨c,hc⟩:∃c,c=s.extract 0 4:=⟨_,rfl⟩
    obtain ⟨m,hm⟩:∃m,m=Jn.unc c.data.toList:=⟨_,rfl⟩
    obtain ⟨r,hr⟩:∃r,r=s.extract 12 s.size:=⟨_,rfl⟩
    obtain ⟨k,hk⟩:∃k,k=s.extract 4 12:=⟨_,rfl⟩
    obtain ⟨t,ht⟩:∃t,t=r.extract 0 m:=⟨_,rfl⟩
    have hcs:c.size=4:=by rw [hc,ByteArray.size_extract];omega
    have hrs:r.size=s.size - 12:=by rw [hr,ByteArray.size_extract];omega
    have hm32:m<4294967296:=by
      rw [hm]
      have h:c.data.toList.length=4:=by rw [←Lib.size_eq];exact hcs
      match c.data.toList,h with
      | [x0,x1,x2,x3],_ =>
        have:=x0.toNat_lt;have:=x1.toNat_lt;have:=x2.toNat_lt;have:=x3.toNat_lt
        simp only [Jn.unc]
        omega
    have c1:∀wx:World,(Instr.slice 9 (.string s) none (some (.int .i64 4)) none).run Tryz.prog wx=.ok (.string c) wx:=fun wx=>by
      rw [run_slice_string_to_if (P:=Tryz.prog) wx 9 s .i64 4 Tryz.underlying9,if_pos ⟨by omega,by omega⟩,hc];rfl
    have c2:∀wx:World,(Instr.slice 9 (.string s) (some (.int .i64 4)) (some (.int .i64 12)) none).run Tryz.prog wx=.ok (.string k) wx:=fun wx=>by
      rw [run_slice_string_if (P:=Tryz.prog) wx 9 s .i64 .i64 4 12 Tryz.underlying9,if_pos ⟨by omega,by omega⟩,if_pos ⟨by omega,by omega⟩,hk];rfl
    have c3:∀wx:World,(Instr.slice 9 (.string s) (some (.int .i64 12)) none none).run Tryz.prog wx=.ok (.string r) wx:=fun wx=>by
      rw [run_slice_string_from_if (P:=Tryz.prog) wx 9 s .i64 12 Tryz.underlying9,if_pos ⟨by omega,by omega⟩,hr];rfl
    have CU:Hid (∀W,Calls Tryz.prog 136 #[.string c] W fun e w'=>e=.returned (.int .u64 (m:Int))∧w'=W):=fun W=>by rw [hm];exact uncounted_c c hcs W
    have HFF:Hid (Jn.ff s=if min (s.size - 12) 16384<m then none else if Jn.sealOf c t=k then some t else none):=by
      show _=_
      rw [Jn.ff,if_neg h12,←hc,←hm,←hr,←ht,←hk]
    obtain ⟨rn,hrn⟩:∃rn,rn=r.size:=⟨_,rfl⟩
    have HRN:Hid (rn=s.size - 12):=by rw [hrn];exact hrs
    by_cases h1:min (s.size - 12) 16384<m
    · have HF:Hid (Jn.ff s=none):=by show _=_;rw [HFF.out,if_pos h1]
      have q2:min (r.size:Int) 16384<(m:Int):=by omega
      have q3:IntKind.u64.wrap (min (r.size:Int) 16384)=min (r.size:Int) 16384:=by rw [IntKind.wrap_u64];omega
      clear hc hm hr hk ht HFF h1 hrn
      go_enter Tryz.func98,Tryz.ntmps98
      go_upto_region 3 with fail
      go_quiet (fail)
      go_wp2_with fail
      refine (CU.out _).mono ?_
      rintro e w2 ⟨rfl,rfl⟩
      go_wp2
      go_ret2
      exact ⟨⟨⟨#[]⟩,.inr ⟨HF.out,rfl⟩⟩,below_drewN2 (Below.refl _ _) _⟩
    · have q2:¬min (r.size:Int) 16384<(m:Int):=by omega
      have q3:IntKind.u64.wrap (min (r.size:Int) 16384)=min (r.size:Int) 16384:=by rw [IntKind.wrap_u64];omega
      have c4:∀wx:World,(Instr.slice 9 (.string r) none (some (.int .u64 (m:Int))) none).run Tryz.prog wx=.ok (.string t) wx:=fun wx=>by
        rw [run_slice_string_to_if (P:=Tryz.prog) wx 9 r .u64 (m:Int) Tryz.underlying9,if_pos ⟨by omega,by omega⟩,ht];rfl
      obtain ⟨sl,hsl⟩:∃sl,sl=Jn.sealOf c t:=⟨_,rfl⟩
      have CS:Hid (∀W,Below w.heap.size w W→Calls Tryz.prog 42 #[.string c,.string t] W fun e w'=>e=.returned (.string sl)∧Below W.heap.size W w'):=fun W hW=>by
        rw [hsl];exact seal_c c t (by rw [hcs,ht,ByteArray.size_extract];omega) W (hK.below hK.1 hW)
      have HF:Hid (Jn.ff s=if sl=k then some t else none):=by show _=_;rw [HFF.out,if_neg h1,hsl]
      have HM:Hid (¬min (s.size - 12) 16384<m):=h1
      clear hc hm hr hk ht HFF h1 hrn hsl hK
      by_cases h2:sl=k
      · have q4:(sl.toList==k.toList)=true:=by rw [h2];exact beq_self_eq_true _
        have H2:Hid (sl=k):=h2
        clear h2
        go_enter Tryz.func98,Tryz.ntmps98
        go_upto_region 3 with fail
        go_quiet (fail)
        go_wp2_with fail
        refine (CU.out _).mono ?_
        rintro e w2 ⟨rfl,rfl⟩
        have B2:Hid (Below w.heap.size w (w.drewN nq)):=below_drewN2 (Below.refl _ _) _
        go_wp2_with fail
        refine (CS.out _ B2.out).mono ?_
        rintro e w3 ⟨rfl,hb3⟩
        have B3:Hid (Below w.heap.size w w3):=B2.out.trans (hb3.mono B2.out.size)
        clear hb3
        go_wp2
        go_ret2
        exact ⟨⟨t,.inl ⟨by rw [HF.out,if_pos H2.out],rfl⟩⟩,B3.out⟩
      · have q4:(sl.toList==k.toList)=false:=by
          rw [beq_eq_false_iff_ne,Lib.toList_data,Lib.toList_data]
          intro e
          exact h2 (Bn.data_ext e)
        go_enter Tryz.func98,Tryz.ntmps98
        go_upto_region 3 with fail
        go_quiet (fail)
        go_wp2_with fail
        refine (CU.out _).mono ?_
        rintro e w2 ⟨rfl,rfl⟩
        have B2:Hid (Below w.heap.size w (w.drewN nq)):=below_drewN2 (Below.refl _ _) _
        go_wp2_with fail
        refine (CS.out _ B2.out).mono ?_
        rintro e w3 ⟨rfl,hb3⟩
        have B3:Hid (Below w.heap.size w w3):=B2.out.trans (hb3.mono B2.out.size)
        clear hb3
        go_wp2
        go_ret2
        exact ⟨⟨⟨#[]⟩,.inr ⟨by rw [HF.out,if_neg h2],rfl⟩⟩,B3.out⟩
end Go.Proofs.YtggnfejjcgbebaaGreatDoor
