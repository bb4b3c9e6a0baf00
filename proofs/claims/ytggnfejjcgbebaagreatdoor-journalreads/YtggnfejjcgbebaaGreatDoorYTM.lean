/- Several texts, joined: ShPieces, ShAll, ShEnd, ShRefTop, MkRa -/
import Derived.Test.YtggnfejjcgbebaaGreatDoorJGM
import Derived.Test.YtggnfejjcgbebaaGreatDoorYSM
import Derived.Test.YtggnfejjcgbebaaGreatDoorJPM
import Derived.Test.YtggnfejjcgbebaaGreatDoorJIM
/- Plain lists: however a text is cut, the words behind its whole blocks and the rest behind them are the same. -/
namespace Go.Proofs.YtggnfejjcgbebaaGreatDoor
namespace Sh
theorem rest_eq (t:List UInt8):restOf t=t.drop (64*(t.length / 64)):=by
  unfold restOf
  rw [show t.length - t.length % 64=64*(t.length / 64) by omega]
theorem rest_length (t:List UInt8):(restOf t).length=t.length % 64:=by
  rw [restOf,List.length_drop]
  omega
end Sh
end Go.Proofs.YtggnfejjcgbebaaGreatDoor
/- What the reference's all makes of a state and a text: the words behind all whole blocks, and the rest. -/
namespace Go.Proofs.YtggnfejjcgbebaaGreatDoor
open Go.RowKit
attribute [local go_sem ↓] Go.wp_at_zero Go.wp_at_succ
theorem put10_0 {W:World} {B:Nat} {x0 x1 x2 x3 x4 x5 x6 x7 x8 x9:Value} (h:W.heap[B]?=some (.cells #[x0,x1,x2,x3,x4,x5,x6,x7,x8,x9] 102 (0,0))) (y:Value):(W.setCell ⟨B,0,none⟩ y).heap[B]?=some (.cells #[y,x1,x2,x3,x4,x5,x6,x7,x8,x9] 102 (0,0)):=heap_setCell_same W B 0 _ 102 y h
theorem put10_1 {W:World} {B:Nat} {x0 x1 x2 x3 x4 x5 x6 x7 x8 x9:Value} (h:W.heap[B]?=some (.cells #[x0,x1,x2,x3,x4,x5,x6,x7,x8,x9] 102 (0,0))) (y:Value):(W.setCell ⟨B,1,none⟩ y).heap[B]?=some (.cells #[x0,y,x2,x3,x4,x5,x6,x7,x8,x9] 102 (0,0)):=heap_setCell_same W B 1 _ 102 y h
theorem put10_2 {W:World} {B:Nat} {x0 x1 x2 x3 x4 x5 x6 x7 x8 x9:Value} (h:W.heap[B]?=some (.cells #[x0,x1,x2,x3,x4,x5,x6,x7,x8,x9] 102 (0,0))) (y:Value):(W.setCell ⟨B,2,none⟩ y).heap[B]?=some (.cells #[x0,x1,y,x3,x4,x5,x6,x7,x8,x9] 102 (0,0)):=heap_setCell_same W B 2 _ 102 y h
theorem put10_3 {W:World} {B:Nat} {x0 x1 x2 x3 x4 x5 x6 x7 x8 x9:Value} (h:W.heap[B]?=some (.cells #[x0,x1,x2,x3,x4,x5,x6,x7,x8,x9] 102 (0,0))) (y:Value):(W.setCell ⟨B,3,none⟩ y).heap[B]?=some (.cells #[x0,x1,x2,y,x4,x5,x6,x7,x8,x9] 102 (0,0)):=heap_setCell_same W B 3 _ 102 y h
theorem put10_4 {W:World} {B:Nat} {x0 x1 x2 x3 x4 x5 x6 x7 x8 x9:Value} (h:W.heap[B]?=some (.cells #[x0,x1,x2,x3,x4,x5,x6,x7,x8,x9] 102 (0,0))) (y:Value):(W.setCell ⟨B,4,none⟩ y).heap[B]?=some (.cells #[x0,x1,x2,x3,y,x5,x6,x7,x8,x9] 102 (0,0)):=heap_setCell_same W B 4 _ 102 y h
theorem put10_5 {W:World} {B:Nat} {x0 x1 x2 x3 x4 x5 x6 x7 x8 x9:Value} (h:W.heap[B]?=some (.cells #[x0,x1,x2,x3,x4,x5,x6,x7,x8,x9] 102 (0,0))) (y:Value):(W.setCell ⟨B,5,none⟩ y).heap[B]?=some (.cells #[x0,x1,x2,x3,x4,y,x6,x7,x8,x9] 102 (0,0)):=heap_setCell_same W B 5 _ 102 y h
theorem put10_6 {W:World} {B:Nat} {x0 x1 x2 x3 x4 x5 x6 x7 x8 x9:Value} (h:W.heap[B]?=some (.cells #[x0,x1,x2,x3,x4,x5,x6,x7,x8,x9] 102 (0,0))) (y:Value):(W.setCell ⟨B,6,none⟩ y).heap[B]?=some (.cells #[x0,x1,x2,x3,x4,x5,y,x7,x8,x9] 102 (0,0)):=heap_setCell_same W B 6 _ 102 y h
theorem put10_7 {W:World} {B:Nat} {x0 x1 x2 x3 x4 x5 x6 x7 x8 x9:Value} (h:W.heap[B]?=some (.cells #[x0,x1,x2,x3,x4,x5,x6,x7,x8,x9] 102 (0,0))) (y:Value):(W.setCell ⟨B,7,none⟩ y).heap[B]?=some (.cells #[x0,x1,x2,x3,x4,x5,x6,y,x8,x9] 102 (0,0)):=heap_setCell_same W B 7 _ 102 y h
theorem put10_8 {W:World} {B:Nat} {x0 x1 x2 x3 x4 x5 x6 x7 x8 x9:Value} (h:W.heap[B]?=some (.cells #[x0,x1,x2,x3,x4,x5,x6,x7,x8,x9] 102 (0,0))) (y:Value):(W.setCell ⟨B,8,none⟩ y).heap[B]?=some (.cells #[x0,x1,x2,x3,x4,x5,x6,x7,y,x9] 102 (0,0)):=heap_setCell_same W B 8 _ 102 y h
theorem put10_9 {W:World} {B:Nat} {x0 x1 x2 x3 x4 x5 x6 x7 x8 x9:Value} (h:W.heap[B]?=some (.cells #[x0,x1,x2,x3,x4,x5,x6,x7,x8,x9] 102 (0,0))) (y:Value):(W.setCell ⟨B,9,none⟩ y).heap[B]?=some (.cells #[x0,x1,x2,x3,x4,x5,x6,x7,x8,y] 102 (0,0)):=heap_setCell_same W B 9 _ 102 y h
theorem AI.other {w W:World} {s:Sh.S8} {c:Nat} {r:ByteArray} (h:AI w W s c r) (j:Nat) (v:Value) (C:Array Value) (hC:(W.setCell ⟨w.heap.size,j,none⟩ v).heap[w.heap.size]?=some (.cells C 102 (0,0))) :
    (W.setCell ⟨w.heap.size,j,none⟩ v).heap[w.heap.size]?=some (.cells C 102 (0,0))∧(W.setCell ⟨w.heap.size,j,none⟩ v).heap[w.heap.size+1]?=some (.cells #[.int .u32 0,.int .u32 0,.int .u32 0,.int .u32 0,.int .u32 0,.int .u32 0,.int .u32 0,.int .u32 0,.int .u64 0,.string ⟨#[]⟩] 102 (0,0))∧w.heap.size+2≤(W.setCell ⟨w.heap.size,j,none⟩ v).heap.size∧Below w.heap.size w (W.setCell ⟨w.heap.size,j,none⟩ v) :=
  ⟨hC,(heap_setCell_other _ _ _ _ (by show w.heap.size+1≠w.heap.size;omega)).trans h.2.1,by simpa using h.2.2,h.1.2.2.setCell (p:=⟨w.heap.size,j,none⟩) (by simp) _⟩
theorem AI.words {w wr:World} {s:Sh.S8} {c:Nat} {r:ByteArray} (h:AI w wr s c r) (m:Sh.S8):AI w ((((((((wr.setCell ⟨w.heap.size,0,none⟩ (.int .u32 (m.a:Int))).setCell ⟨w.heap.size,1,none⟩ (.int .u32 (m.b:Int))).setCell ⟨w.heap.size,2,none⟩ (.int .u32 (m.c:Int))).setCell ⟨w.heap.size,3,none⟩ (.int .u32 (m.d:Int))).setCell ⟨w.heap.size,4,none⟩ (.int .u32 (m.e:Int))).setCell ⟨w.heap.size,5,none⟩ (.int .u32 (m.f:Int))).setCell ⟨w.heap.size,6,none⟩ (.int .u32 (m.g:Int))).setCell ⟨w.heap.size,7,none⟩ (.int .u32 (m.h:Int))) m c r:=by
  obtain ⟨⟨h1,h2,h3⟩,h4,h5⟩:=h
  have hl:∀j:Nat,w.heap.size≤(⟨w.heap.size,j,none⟩:Addr).block:=fun _=>Nat.le_refl _
  have hn:∀(W:World) (j:Nat) (v:Value),(W.setCell ⟨w.heap.size,j,none⟩ v).heap[w.heap.size+1]?=W.heap[w.heap.size+1]?:=fun W j v=>heap_setCell_other _ _ _ _ (by show w.heap.size+1≠w.heap.size;omega)
  refine ⟨⟨put10_7 (put10_6 (put10_5 (put10_4 (put10_3 (put10_2 (put10_1 (put10_0 (h1) _) _) _) _) _) _) _) _,by simpa using h2,(((((((h3.setCell (hl 0) _).setCell (hl 1) _).setCell (hl 2) _).setCell (hl 3) _).setCell (hl 4) _).setCell (hl 5) _).setCell (hl 6) _).setCell (hl 7) _⟩,?_,by simpa using h5⟩
  rw [hn,hn,hn,hn,hn,hn,hn,hn]
  exact h4
theorem AI.count {w wr:World} {s:Sh.S8} {c:Nat} {r:ByteArray} (h:AI w wr s c r) (n:Nat):AI w (wr.setCell ⟨w.heap.size,8,none⟩ (.int .u64 (n:Int))) s n r:=by
  have k:=h.other 8 (.int .u64 (n:Int)) _ (put10_8 h.1.1 _)
  exact ⟨⟨k.1,by have:=k.2.2.1;omega,k.2.2.2⟩,k.2.1,k.2.2.1⟩
theorem AI.rest {w wr:World} {s:Sh.S8} {c:Nat} {r:ByteArray} (h:AI w wr s c r) (q:ByteArray):AI w (wr.setCell ⟨w.heap.size,9,none⟩ (.string q)) s c q:=by
  have k:=h.other 9 (.string q) _ (put10_9 h.1.1 _)
  exact ⟨⟨k.1,by have:=k.2.2.1;omega,k.2.2.2⟩,k.2.1,k.2.2.1⟩
theorem AI.drew {w wr:World} {s:Sh.S8} {c:Nat} {r:ByteArray} (h:AI w wr s c r):AI w wr.drew s c r:=⟨⟨h.1.1,h.1.2.1,h.1.2.2.drew⟩,h.2.1,h.2.2⟩
theorem block29' (v m:Sh.S8) (hv:v.ok) (b:ByteArray) (hb:b.size=64) (hm:Hid (m=Sh.chg1 v b.data.toList)) (w:World) :
    Calls Tryz.prog 108 #[.agg #[.int .u32 v.a,.int .u32 v.b,.int .u32 v.c,.int .u32 v.d,.int .u32 v.e,.int .u32 v.f,.int .u32 v.g,.int .u32 v.h],.string b] w
      fun e w'=>e=.returned (.agg #[.int .u32 m.a,.int .u32 m.b,.int .u32 m.c,.int .u32 m.d,.int .u32 m.e,.int .u32 m.f,.int .u32 m.g,.int .u32 m.h])∧Below w.heap.size w w':=by
  have:=block29 v hv b hb w
  rw [←hm.out] at this
  exact this
def strLen:Value→Nat
  | .string s=>s.size
  | _=>0
theorem AI.shape {w:World} {W:World} {s:Sh.S8} {c:Nat} {r:ByteArray} (h:AI w W s c r):∀j,W.frozen? ⟨w.heap.size,j,none⟩=false:=row_free h.1.1
set_option maxHeartbeats 4000000 in
set_option maxRecDepth 20000 in
theorem all21 (s m:Sh.S8) (hs:s.ok) (c n:Nat) (r t q:ByteArray) (hc:c≤1152921504606846976) (hr:r.size≤64) (ht:t.size≤1125899906840000) (hn:Hid (n=c+t.size))
    (hm:Hid (m=Sh.chgAll s (r.data.toList++t.data.toList))) (hq:Hid (q=⟨(Sh.restOf (r.data.toList++t.data.toList)).toArray⟩)) (w:World) :
    Calls Tryz.prog 81 #[.agg #[.int .u32 s.a,.int .u32 s.b,.int .u32 s.c,.int .u32 s.d,.int .u32 s.e,.int .u32 s.f,.int .u32 s.g,.int .u32 s.h,.int .u64 c,.string r],.string t] w fun e w'=>e=.returned (.agg #[.int .u32 m.a,.int .u32 m.b,.int .u32 m.c,.int .u32 m.d,.int .u32 m.e,.int .u32 m.f,.int .u32 m.g,.int .u32 m.h,.int .u64 n,.string q])∧Below w.heap.size w w':=by
  have hcs:(c:Int)+(t.size:Int)=(n:Int):=by have:=hn.out;omega
  obtain ⟨rt,hrt⟩:∃rt,rt=r++t:=⟨_,rfl⟩
  have hrl:rt.data.toList=r.data.toList++t.data.toList:=by rw [hrt];simp
  have hrs:rt.size=r.size+t.size:=by rw [Lib.size_eq,hrl,List.length_append,←Lib.size_eq,←Lib.size_eq]
  have hrs':rt.size≤1125899906842000:=by omega
  have hadd:∀W,(Op.stringOp .add r t).run Tryz.prog W=.ok (.string rt) W:=fun W=>by rw [hrt];exact run_string_add_sum W r t (by omega)
  have HRL:Hid (rt.data.toList=r.data.toList++t.data.toList):=hrl
  have HS:Hid s.ok:=hs
  have A0:Hid (AI w ((w.alloc (.cells #[.int .u32 s.a,.int .u32 s.b,.int .u32 s.c,.int .u32 s.d,.int .u32 s.e,.int .u32 s.f,.int .u32 s.g,.int .u32 s.h,.int .u64 c,.string r] 102)).alloc (.cells #[.int .u32 0,.int .u32 0,.int .u32 0,.int .u32 0,.int .u32 0,.int .u32 0,.int .u32 0,.int .u32 0,.int .u64 0,.string ⟨#[]⟩] 102)) s c r):=AI.start w s c r
  clear hs hrt hrl hrs hn
  go_enter Tryz.func81,Tryz.ntmps81
  go_wp2
  go_loopw [1] (fun v wr=>∃(k:Nat) (tk:ByteArray),64*k≤rt.size∧v=.string tk∧tk.data.toList=rt.data.toList.drop (64*k)∧AI w wr (Sh.chg s rt.data.toList k) n r) (fun v _=>strLen v)
  case atStart=>exact ⟨0,rt,by omega,rfl,by simp,AI.start w s n r⟩
  case round =>
    obtain ⟨k,tk,hk,rfl,htk,hA⟩:=hrel
    have hts:tk.size=rt.size - 64*k:=by rw [Lib.size_eq,htk,List.length_drop,←Lib.size_eq]
    by_cases hlt:64≤tk.size
    · obtain ⟨v,hvv⟩:∃v,v=Sh.chg s rt.data.toList k:=⟨_,rfl⟩
      rw [←hvv] at hA
      have hvo:v.ok:=by rw [hvv];exact Sh.chg_ok HS.out _ k
      obtain ⟨c0,c1,c2,c3,c4,c5,c6,c7,c8,c9⟩:=hA.1.cells
      obtain ⟨b,hb⟩:∃b,b=tk.extract 0 64:=⟨_,rfl⟩
      have hbs:b.size=64:=by rw [hb];exact piece_size tk 0 64 (by omega)
      have hbl:b.data.toList=Sh.blk rt.data.toList k:=by rw [hb,Lib.extract_data,htk];simp [Sh.blk]
      obtain ⟨t2,ht2⟩:∃t2,t2=tk.extract 64 tk.size:=⟨_,rfl⟩
      have ht2l:t2.data.toList=rt.data.toList.drop (64*(k+1)):=by
        rw [ht2,Lib.extract_data,htk,List.drop_drop,List.take_of_length_le (by rw [List.length_drop,←Lib.size_eq];omega)]
        congr 1
      have ht2s:t2.size<tk.size:=by rw [Lib.size_eq,ht2l,List.length_drop,←Lib.size_eq];omega
      have hsl:∀wx,(Instr.slice 9 (.string tk) none (some (.int .i64 64)) none).run Tryz.prog wx=.ok (.string b) wx:=fun wx=>by
        rw [run_slice_string_h (P:=Tryz.prog) wx 9 tk Tryz.underlying9 .i64 64 (by omega) (by omega),hb];rfl
      have hsl2:∀wx,(Instr.slice 9 (.string tk) (some (.int .i64 64)) none none).run Tryz.prog wx=.ok (.string t2) wx:=fun wx=>by
        rw [run_slice_string_l (P:=Tryz.prog) wx 9 tk Tryz.underlying9 .i64 64 (by omega) (by omega),ht2];rfl
      obtain ⟨m',hm'⟩:∃m',m'=Sh.chg1 v b.data.toList:=⟨_,rfl⟩
      have hnext:Hid (m'=Sh.chg s rt.data.toList (k+1)):=by
        show _=_
        rw [hm',hvv,hbl]
        rfl
      have HM:Hid (m'=_):=hm'
      have HA:Hid (AI w wr v n r):=hA
      have HVO:Hid v.ok:=hvo
      have HBS:Hid (b.size=64):=hbs
      have HT2:Hid (t2.data.toList=rt.data.toList.drop (64*(k+1))):=ht2l
      have hk1:64*(k+1)≤rt.size:=by omega
      have hge:(64:Int)≤(tk.size:Int):=by omega
      clear hm' hA hvv hb hbl hbs hvo ht2 ht2l htk
      go_wp2
      go_region_with (first | (go_at_call 108;refine (block29' v m' HVO.out b HBS.out HM _).mono ?_;rintro e w1 ⟨rfl,hb1⟩;have hI1:Hid (AI w w1 v n r):=HA.out.drew.call (by exact hb1);have fz:∀j,w1.frozen? ⟨w.heap.size,j,none⟩=false:=AI.shape hI1.out;obtain ⟨d0,d1,d2,d3,d4,d5,d6,d7,d8,d9⟩:=hI1.out.1.cells))
      all_goals go_wp2
      all_goals
        go_roundw
        case rel =>
          have R:=hI1.out.words m'
          first | exact ⟨k+1,t2,hk1,rfl,HT2.out,by rw [←hnext.out];exact R⟩ | ((repeat apply Exists.intro);exact ⟨⟨k+1,t2,hk1,rfl,HT2.out,by rw [←hnext.out];exact R⟩,rfl⟩)
        case measure=>simp [strLen];omega
    · have hkk:k=rt.size / 64:=by omega
      have hqt:tk=q:=by
        apply ByteArray.ext
        apply Array.toList_inj.1
        rw [hq.out,htk,←HRL.out,Sh.rest_eq,hkk,←Lib.size_eq]
      have hmv:Sh.chg s rt.data.toList k=m:=by
        rw [hm.out,←HRL.out,Sh.chgAll,hkk,←Lib.size_eq]
      rw [hmv] at hA
      rw [hqt] at hlt ⊢
      have HA:Hid (AI w wr m n r):=hA
      have A1:Hid (AI w (wr.setCell ⟨w.heap.size,9,none⟩ (.string q)) m n q):=hA.rest q
      obtain ⟨o0,o1,o2,o3,o4,o5,o6,o7,o8,o9⟩:=A1.out.out
      obtain ⟨c0,c1,c2,c3,c4,c5,c6,c7,c8,c9⟩:=A1.out.1.cells
      have fz:∀j,wr.frozen? ⟨w.heap.size,j,none⟩=false:=AI.shape hA
      have fz2:∀j,(wr.setCell ⟨w.heap.size,9,none⟩ (.string q)).frozen? ⟨w.heap.size+1,j,none⟩=false:=row_free A1.out.2.1
      have hge:¬(64:Int)≤(q.size:Int):=by omega
      have e9:=hA.1.cells.2.2.2.2.2.2.2.2.2
      clear hA hmv hqt hkk htk hts
      go_wp2_with fail
      refine bodyPost_ret (v:=.agg #[.int .u32 m.a,.int .u32 m.b,.int .u32 m.c,.int .u32 m.d,.int .u32 m.e,.int .u32 m.f,.int .u32 m.g,.int .u32 m.h,.int .u64 (n:Int),.string q]) (by simp [results,Tryz.results81,go_sem,o0,o1,o2,o3,o4,o5,o6,o7,o8,o9]) rfl ⟨rfl,?_⟩
      exact A1.out.kept _ _ _ _ _ _ _ _ _ _
end Go.Proofs.YtggnfejjcgbebaaGreatDoor
/- What the reference's End answers: the digest of a state that is right. -/
namespace Go.Proofs.YtggnfejjcgbebaaGreatDoor
open Go.RowKit
attribute [local go_sem ↓] Go.wp_at_zero Go.wp_at_succ
theorem XI.grown {w wr w1:World} {s:Sh.S8} {c:Nat} {r:ByteArray} {row:Option Nat} (h:XI w wr s c r) (o:Obj) (hg:(wr.alloc o).grownBy w1 row) (hr:∀k,row=some k→w.heap.size+1≤k):XI w w1 s c r:=by
  obtain ⟨h1,h3,h4⟩:=h
  have hne:∀j,j<w.heap.size+1→some j≠row:=fun j hj e=>by have:=hr j e.symm;omega
  refine ⟨?_,?_,(h4.alloc (by omega) o).grown hg (by simp;omega) (fun k hk=>by have:=hr k hk;omega)⟩
  · rw [hg.block _ (by simp;omega) (hne _ (by omega)),Below.heap_alloc _ _ _ (by omega)];exact h1
  · have:=hg.size;simp at this;omega
theorem one_own (w:World) (b:UInt8) (base:Nat) (hb:base≤w.heap.size):(w.alloc (.cells #[.int .u8 (b.toNat:Int)] 5)).ownsRow base 5 1 (.slice (some ⟨w.heap.size,0,none⟩) 1 1) [b].length (Lib.byteCells [b]) :=
  ⟨rfl,Or.inr ⟨w.heap.size,1,#[.int .u8 (b.toNat:Int)],rfl,hb,heap_alloc_new w _,by simp,by unfold maxLen;simp,by simp,by simp [Lib.byteCells]⟩⟩
def rowLen:Value→Nat
  | .slice _ n _=>n
  | _=>0
theorem own_open8 {w:World} {base n:Nat} {v:Value} {l:List Value} (h:w.ownsRow base 5 1 v n l) (hn:0<n):∃g cap,v=.slice (some ⟨g,0,none⟩) n cap∧n≤cap:=by
  rcases h.2 with ⟨_,h'⟩ | ⟨g,cap,cur,rfl,hb,hg,hc,_⟩
  · omega
  · exact ⟨g,cap,rfl,hc⟩
theorem XI.kept {w W:World} {s:Sh.S8} {c:Nat} {r:ByteArray} (h:XI w W s c r) (x0 x1 x2 x3 x4 x5 x6 x7 x8 x9:Value) :
    Below w.heap.size w ((((((((((W.setCell ⟨w.heap.size,0,none⟩ x0).setCell ⟨w.heap.size,1,none⟩ x1).setCell ⟨w.heap.size,2,none⟩ x2).setCell ⟨w.heap.size,3,none⟩ x3).setCell ⟨w.heap.size,4,none⟩ x4).setCell ⟨w.heap.size,5,none⟩ x5).setCell ⟨w.heap.size,6,none⟩ x6).setCell ⟨w.heap.size,7,none⟩ x7).setCell ⟨w.heap.size,8,none⟩ x8).setCell ⟨w.heap.size,9,none⟩ x9)∧w.heap.size+1≤((((((((((W.setCell ⟨w.heap.size,0,none⟩ x0).setCell ⟨w.heap.size,1,none⟩ x1).setCell ⟨w.heap.size,2,none⟩ x2).setCell ⟨w.heap.size,3,none⟩ x3).setCell ⟨w.heap.size,4,none⟩ x4).setCell ⟨w.heap.size,5,none⟩ x5).setCell ⟨w.heap.size,6,none⟩ x6).setCell ⟨w.heap.size,7,none⟩ x7).setCell ⟨w.heap.size,8,none⟩ x8).setCell ⟨w.heap.size,9,none⟩ x9).heap.size:=by
  have hl:w.heap.size≤w.heap.size:=Nat.le_refl _
  exact ⟨((((((((((h.2.2.setCell (p:=⟨w.heap.size,0,none⟩) hl x0).setCell (p:=⟨w.heap.size,1,none⟩) hl x1).setCell (p:=⟨w.heap.size,2,none⟩) hl x2).setCell (p:=⟨w.heap.size,3,none⟩) hl x3).setCell (p:=⟨w.heap.size,4,none⟩) hl x4).setCell (p:=⟨w.heap.size,5,none⟩) hl x5).setCell (p:=⟨w.heap.size,6,none⟩) hl x6).setCell (p:=⟨w.heap.size,7,none⟩) hl x7).setCell (p:=⟨w.heap.size,8,none⟩) hl x8).setCell (p:=⟨w.heap.size,9,none⟩) hl x9),by simpa using h.2.1⟩
theorem four_new (w:World) (u v x y:Value) (t:TypeId) (j:Nat) (z:Value) (hj:[u,v,x,y][j]?=some z):(w.alloc (.cells #[u,v,x,y] t)).cell? ((⟨w.heap.size,0,none⟩:Addr).add j)=some z:=by
  match j,hj with
  | 0,hj=>simp at hj;subst hj;simp [Addr.add]
  | 1,hj=>simp at hj;subst hj;simp [Addr.add]
  | 2,hj=>simp at hj;subst hj;simp [Addr.add]
  | 3,hj=>simp at hj;subst hj;simp [Addr.add]
theorem word_bytes (x:Nat) (hx:x<4294967296):Lib.byteCells (Sh.bytesOf x 4)=[.int .u8 ((x:Int) / 16777216),.int .u8 ((x:Int) / 65536 % 256),.int .u8 ((x:Int) / 256 % 256),.int .u8 ((x:Int) % 256)]:=by
  have e0:=Sh.nb_eq x 4 0
  have e1:=Sh.nb_eq x 4 1
  have e2:=Sh.nb_eq x 4 2
  have e3:=Sh.nb_eq x 4 3
  simp only [show (2:Int) ^ (8*(4 - 1 - 0))=16777216 from rfl] at e0
  simp only [show (2:Int) ^ (8*(4 - 1 - 1))=65536 from rfl] at e1
  simp only [show (2:Int) ^ (8*(4 - 1 - 2))=256 from rfl] at e2
  simp only [show (2:Int) ^ (8*(4 - 1 - 3))=1 from rfl,Int.ediv_one] at e3
  rw [show (x:Int) / 16777216=(x:Int) / 16777216 % 256 by omega,←e0,←e1,←e2,←e3]
  rfl
theorem nb_more (pre:List UInt8) (n k:Nat):Lib.byteCells (pre++(List.range (k+1)).map (Sh.nb n 8))=Lib.byteCells (pre++(List.range k).map (Sh.nb n 8))++[.int .u8 ((n:Int) / 2 ^ (8*(7 - k)) % 256)]:=by
  rw [List.range_succ,List.map_append,←List.append_assoc,show 7 - k=8 - 1 - k by omega,←Sh.nb_eq]
  simp [Lib.byteCells]
theorem nz_more (L:Nat) (h:1≤L):Lib.byteCells ([(128:UInt8)]++List.replicate (L+1 - 1) 0)=Lib.byteCells ([(128:UInt8)]++List.replicate (L - 1) 0)++[.int .u8 0]:=by
  obtain ⟨k,rfl⟩:∃k,L=k+1:=⟨L - 1,by omega⟩
  rw [show k+1+1 - 1=k+1 by omega,show k+1 - 1=k by omega,List.replicate_succ',←List.append_assoc]
  simp [Lib.byteCells]
set_option maxRecDepth 20000 in
set_option maxHeartbeats 4000000 in
theorem end16_yes (s:Sh.S8) (hs:s.ok) (c:Nat) (r:ByteArray) (hc:c<1152921504606846976) (hr:r.size≤64) (hyes:Sh.rightB c r.size=true) (d:ByteArray) (hd:Hid (d=⟨(Sh.fin s r.data.toList c).toArray⟩)) (w:World) :
    Calls Tryz.prog 80 #[.agg #[.int .u32 s.a,.int .u32 s.b,.int .u32 s.c,.int .u32 s.d,.int .u32 s.e,.int .u32 s.f,.int .u32 s.g,.int .u32 s.h,.int .u64 c,.string r]] w fun e w'=>e=.returned (.tuple #[.string d,.int .i64 0])∧Below w.heap.size w w':=by
  have HN:Hid (Sh.rightB c r.size=true):=hyes
  have hrc:r.size=c % 64:=by
    have:=hyes
    simp [Sh.rightB] at this
    exact this.2
  have HRC:Hid (r.size=c % 64):=hrc
  have HS:Hid s.ok:=hs
  obtain ⟨i0,hi,hz0,hz1,hz2⟩:=info_parts info5
  clear hyes hs hrc
  go_enter Tryz.func80,Tryz.ntmps80
  go_wp2_with fail
  refine (right24 s c r (by omega) (by omega) _).mono ?_
  rw [HN.out]
  rintro e w1 ⟨rfl,hb1⟩
  have X1:Hid (XI w w1 s c r):=(XI.start w s c r).call (by exact hb1)
  obtain ⟨d0,d1,d2,d3,d4,d5,d6,d7,d8,d9⟩:=X1.out.cells
  obtain ⟨n,hn⟩:∃n:Nat,n=8*c:=⟨_,rfl⟩
  have hn64:IntKind.u64.wrap (8*(c:Int))=(n:Int):=by rw [hn,IntKind.wrap_u64];omega
  have HNN:Hid (n=8*c):=hn
  have hsz1:w.heap.size+1≤w1.heap.size:=X1.out.2.1
  clear hb1 d0 d1 d2 d3 d4 d5 d6 d7 hn
  go_wp2
  go_loopw [5] (fun v wr=>∃L:Nat,1≤L∧L≤Sh.nz c+1∧wr.ownsRow (w.heap.size+1) 5 1 v L (Lib.byteCells ([128]++List.replicate (L - 1) 0))∧XI w wr s c r) (fun v _=>100 - rowLen v)
  case atStart=>exact ⟨1,by omega,by omega,one_own w1 128 _ hsz1,X1.out.alloc _⟩
  case round =>
    obtain ⟨L,hL1,hL2,hown,hX⟩:=hrel
    obtain ⟨g,cap,hv,hcap⟩:=own_open8 hown (by omega)
    have HBS:Hid (∀k,_→_):=own_block_le hown
    rw [hv] at hown HBS ⊢
    have HX:Hid (XI w wr s c r):=hX
    have e9:=hX.cells.2.2.2.2.2.2.2.2.2
    have hsz:w.heap.size+1≤wr.heap.size:=hX.2.1
    have hnz:Sh.nz c<64:=Sh.nz_lt c
    by_cases hlt:L<Sh.nz c+1
    · obtain ⟨z,hzz,hne⟩:∃z:Nat,(r.size:Int)+(L:Int)=(z:Int)∧((z:Int) % 64 != 56)=true:=⟨r.size+L,by omega,by have:=HRC.out;rw [bne_iff_ne];unfold Sh.nz at hlt;omega⟩
      have HO:Hid (wr.ownsRow (w.heap.size+1) 5 1 (.slice (some ⟨g,0,none⟩) L cap) L (Lib.byteCells ([128]++List.replicate (L - 1) 0))):=hown
      clear hown hX hv d8 d9
      go_wp2_with (first | (at_builtin;refine wpList_append_own _ rfl _ _ 61 rfl (w.heap.size+1) 5 i0 (.int .u8 0) 1 1 Tryz.underlying61 hi hz0 hz1 hz2 rfl (by decide) _ _ _ rfl (HO.out.alloc _) ⟨wr.heap.size,0,none⟩ 1 1 [.int .u8 0] rfl rfl (cell_new _ _ _) ?c2 ?c3 ?c4 ?c5 ?_))
      case c2=>first | rfl | (intro u hu;simp at hu;subst hu;rfl)
      case c3=>unfold maxLen;omega
      case c4=>omega
      case c5=>first | omega | (simp;omega)
      · intro v' w2 hown' hgrow _
        obtain ⟨g',cap',hv',_⟩:=own_open8 hown' (by omega)
        have R1:Hid (w2.ownsRow (w.heap.size+1) 5 1 v' (L+1) (Lib.byteCells ([128]++List.replicate (L+1 - 1) 0))):=by
          show World.ownsRow _ _ _ _ _ _ _
          rw [nz_more L hL1]
          exact hown'
        have R2:Hid (XI w w2 s c r):=HX.out.grown _ hgrow HBS.out
        clear hown' hgrow HO HX HBS
        go_wp2
        go_roundw
        case rel=>exact ⟨L+1,by omega,by omega,R1.out,R2.out⟩
        case measure=>rw [hv'];simp [rowLen];omega
    · have hLe:L=Sh.nz c+1:=by omega
      obtain ⟨z,hzz,heq⟩:∃z:Nat,(r.size:Int)+(L:Int)=(z:Int)∧((z:Int) % 64 != 56)=false:=⟨r.size+L,by omega,by have:=HRC.out;rw [bne_eq_false_iff_eq];unfold Sh.nz at hLe;omega⟩
      obtain ⟨pre,hpre⟩:∃pre:List UInt8,pre=[128]++List.replicate (L - 1) 0:=⟨_,rfl⟩
      have hpl:pre.length=L:=by rw [hpre];simp;omega
      rw [←hpre] at hown
      have HPRE:Hid (pre=[128]++List.replicate (Sh.nz c) 0):=by
        show _=_
        rw [hpre,hLe];simp
      have HO:Hid (wr.ownsRow (w.heap.size+1) 5 1 (.slice (some ⟨g,0,none⟩) L cap) L (Lib.byteCells pre)):=hown
      have hLs:L≤64:=by omega
      clear hown hX hv d8 d9 hpre hLe
      go_wp2
      go_loopw [5,6] (fun v i wr=>∃k:Nat,k≤8∧i=.int .i64 (7 - (k:Int))∧wr.ownsRow (w.heap.size+1) 5 1 v (L+k) (Lib.byteCells (pre++(List.range k).map (Sh.nb n 8)))∧XI w wr s c r) (fun _ i _=>(intOf i+1).toNat)
      case atStart=>exact ⟨0,by omega,rfl,by simpa using HO.out,HX.out⟩
      case round =>
        clear HO HX HBS e9 hsz
        obtain ⟨k,hk,rfl,hown,hX⟩:=hrel
        have HBS:Hid (∀k,_→_):=own_block_le hown
        have HX:Hid (XI w wr s c r):=hX
        have hsz:w.heap.size+1≤wr.heap.size:=hX.2.1
        by_cases hlt:k<8
        · obtain ⟨m,hm⟩:∃m:Nat,m=7 - k:=⟨_,rfl⟩
          have hm7:m≤7:=by omega
          rw [show (7:Int) - (k:Int)=(m:Int) by omega]
          have HO:Hid (wr.ownsRow _ _ _ _ _ _):=hown
          have hkm:Hid (m+k=7):=by show _=_;omega
          have hkL:L+k≤100:=by omega
          have HMK:Hid (m=7 - k):=hm
          clear hown hX hm
          go_wp2_with (first | (at_builtin;refine wpList_append_own _ rfl _ _ 61 rfl (w.heap.size+1) 5 i0 (.int .u8 0) 1 1 Tryz.underlying61 hi hz0 hz1 hz2 rfl (by decide) _ _ _ rfl (HO.out.alloc _) ⟨wr.heap.size,0,none⟩ 1 1 [.int .u8 ((n:Int) / 2 ^ (8*m) % 256)] rfl rfl (cell_new _ _ _) ?c2 ?c3 ?c4 ?c5 ?_))
          case c2=>first | rfl | (intro u hu;simp at hu;subst hu;rfl)
          case c3=>unfold maxLen;omega
          case c4=>omega
          case c5=>first | omega | (simp;omega)
          · intro v' w2 hown' hgrow _
            have R1:Hid (w2.ownsRow (w.heap.size+1) 5 1 v' (L+(k+1)) (Lib.byteCells (pre++(List.range (k+1)).map (Sh.nb n 8)))):=by
              show World.ownsRow _ _ _ _ _ _ _
              rw [nb_more,←HMK.out]
              exact hown'
            have R2:Hid (XI w w2 s c r):=HX.out.grown _ hgrow HBS.out
            clear hown' hgrow HO HX HBS
            go_wp2
            go_roundw
            case rel =>
              have hkm':=hkm.out
              rw [show (m:Int) - 1=7 - ((k+1:Nat):Int) by omega]
              first | exact ⟨k+1,by omega,by go_num,R1.out,R2.out⟩ | ((repeat apply Exists.intro);exact ⟨⟨k+1,by omega,by go_num,R1.out,R2.out⟩,rfl⟩)
            case measure=>first | (simp [intOf];done) | (simp [intOf];omega)
        · have hk8:k=8:=by omega
          subst hk8
          obtain ⟨p,hp⟩:∃p:ByteArray,p=⟨(Sh.pad c).toArray⟩:=⟨_,rfl⟩
          have hpad:pre++(List.range 8).map (Sh.nb n 8)=Sh.pad c:=by rw [HPRE.out,HNN.out];rfl
          have hpal:(Sh.pad c).length=L+8:=by rw [←hpad];simp;omega
          rw [hpad,←hpal] at hown
          obtain ⟨g2,n2,cap2,str,hv2,hconv,hstr⟩:=own_string hown (by intro h;rw [h] at hpal;simp at hpal)
          have hpl2:p.data.toList=Sh.pad c:=by rw [hp]
          have hps:p.size≤100:=by rw [Lib.size_eq,hpl2];omega
          rw [hstr.out,←hp] at hconv
          rw [hv2]
          obtain ⟨c0,c1,c2,c3,c4,c5,c6,c7,c8,c9⟩:=hX.cells
          obtain ⟨m,hm⟩:∃m,m=Sh.chgAll s (r.data.toList++p.data.toList):=⟨_,rfl⟩
          obtain ⟨q,hq⟩:∃q:ByteArray,q=⟨(Sh.restOf (r.data.toList++p.data.toList)).toArray⟩:=⟨_,rfl⟩
          obtain ⟨cn,hcn⟩:∃cn:Nat,cn=c+p.size:=⟨_,rfl⟩
          have HM:Hid (m=_):=hm
          have HQ:Hid (q=_):=hq
          have HCN:Hid (cn=_):=hcn
          have HD:Hid (d=⟨(Sh.dig m.list).toArray⟩):=by
            show _=_
            rw [hd.out,hm,hpl2];rfl
          have HMO:Hid m.ok:=by show m.ok;rw [hm];exact Sh.chg_ok HS.out _ _
          clear hm hq hcn hp hpl2 hpad hpal hown hv2 hX HBS
          go_wp2_with fail
          refine (all21 s m HS.out c cn r p q (by omega) hr (by omega) HCN HM HQ _).mono ?_
          rintro e w2 ⟨rfl,hb2⟩
          have X2:Hid (XI w w2 s c r):=HX.out.call hb2
          clear hb2 c0 c1 c2 c3 c4 c5 c6 c7 c8 c9 hconv HX
          have fz:∀j,w2.frozen? ⟨w.heap.size,j,none⟩=false:=row_free X2.out.1
          obtain ⟨c0,c1,c2,c3,c4,c5,c6,c7,c8,c9⟩:=X2.out.cells
          have K2:Hid (∀x0 x1 x2 x3 x4 x5 x6 x7 x8 x9:Value,_):=X2.out.kept
          go_wp2
          go_loopw [7,46] (fun v i wx=>∃k:Nat,k≤8∧i=.int .i64 (k:Int)∧wx.ownsRow (w.heap.size+1) 5 1 v (Sh.dig (m.list.take k)).length (Lib.byteCells (Sh.dig (m.list.take k)))∧Below w.heap.size w wx∧w.heap.size+1≤wx.heap.size) (fun _ i _=>8 - (intOf i).toNat)
          case atStart=>exact ⟨0,by omega,rfl,World.ownsRow_nil _ _ _ _,(K2.out _ _ _ _ _ _ _ _ _ _).1,(K2.out _ _ _ _ _ _ _ _ _ _).2⟩
          case round =>
            clear K2 X2 fz c0 c1 c2 c3 c4 c5 c6 c7 c8 c9
            obtain ⟨k,hk,rfl,hown,hBw,hsz⟩:=hrel
            have hml:m.list.length=8:=rfl
            by_cases hlt:k<8
            · obtain ⟨x,hx⟩:∃x,x=m.list.getD k 0:=⟨_,rfl⟩
              have hix:∀wx,(Instr.index 100 (.agg #[.int .u32 m.a,.int .u32 m.b,.int .u32 m.c,.int .u32 m.d,.int .u32 m.e,.int .u32 m.f,.int .u32 m.g,.int .u32 m.h]) (.int .i64 (k:Int))).run Tryz.prog wx=.ok (.int .u32 (x:Int)) wx:=by rw [hx];exact index_words m k hlt
              have hxl:x<4294967296:=by rw [hx];exact S8.getD_lt HMO.out k
              have hlen:(Sh.dig (m.list.take k)).length=4*k:=by rw [Sh.dig_length,List.length_take];omega
              have hnext:Hid (Lib.byteCells (Sh.dig (m.list.take (k+1)))=Lib.byteCells (Sh.dig (m.list.take k))++Lib.byteCells (Sh.bytesOf x 4)∧(Sh.dig (m.list.take (k+1))).length=4*k+4):=by
                show _∧_
                rw [hx,Sh.dig_take _ _ (by omega)]
                exact ⟨by simp [Lib.byteCells],by rw [List.length_append,hlen,Sh.bytesOf_length]⟩
              rw [hlen] at hown
              have HBS:Hid (∀k,_→_):=own_block_le hown
              have HO:Hid (wr.ownsRow _ _ _ _ _ _):=hown
              have HB:Hid (Below w.heap.size w wr):=hBw
              have k0:(0:Int)≤(k:Int):=by omega
              have k1:(k:Int)<8:=by omega
              clear hown hBw hx hlen hml
              go_wp2_with (first | (at_builtin;(refine wpList_append_own _ rfl _ _ 61 rfl (w.heap.size+1) 5 i0 (.int .u8 0) 1 1 Tryz.underlying61 hi hz0 hz1 hz2 rfl (by decide) _ _ _ rfl (HO.out.alloc _) ⟨wr.heap.size,0,none⟩ 4 4 [.int .u8 ((x:Int) / 16777216),.int .u8 ((x:Int) / 65536 % 256),.int .u8 ((x:Int) / 256 % 256),.int .u8 ((x:Int) % 256)] rfl rfl (four_new _ _ _ _ _ _) ?c2 ?c3 ?c4 ?c5 ?_)))
              case c2=>first | rfl | (intro u hu;simp at hu;rcases hu with rfl | rfl | rfl | rfl<;>rfl)
              case c3=>unfold maxLen;omega
              case c4=>omega
              case c5=>first | omega | (simp;omega)
              · intro v' w3 hown' hgrow _
                have R1:Hid (w3.ownsRow (w.heap.size+1) 5 1 v' (Sh.dig (m.list.take (k+1))).length (Lib.byteCells (Sh.dig (m.list.take (k+1))))):=by
                  show World.ownsRow _ _ _ _ _ _ _
                  rw [hnext.out.1,hnext.out.2,word_bytes x hxl]
                  exact hown'
                have R2:Hid (Below w.heap.size w w3):=(HB.out.alloc (by omega) _).grown hgrow (by simp;omega) (fun k hk=>by have:=HBS.out k hk;omega)
                have R3:w.heap.size+1≤w3.heap.size:=by have:=hgrow.size;simp at this;omega
                clear hown' hgrow HO HB HBS
                go_wp2
                go_roundw
                case rel=>first | exact ⟨k+1,by omega,by go_num,R1.out,R2.out,R3⟩ | ((repeat apply Exists.intro);exact ⟨⟨k+1,by omega,by go_num,R1.out,R2.out,R3⟩,rfl⟩)
                case measure=>simp [intOf];omega
            · have hk8:k=8:=by omega
              subst hk8
              rw [show m.list.take 8=m.list from rfl] at hown
              obtain ⟨g3,n3,cap3,str,hv,hconv,hstr⟩:=own_string hown (by intro h;have:=congrArg List.length h;rw [Sh.dig_length,hml] at this;simp at this)
              have HBB:Hid (Below w.heap.size w wr):=hBw
              rw [hstr.out,←HD.out] at hconv
              rw [hv]
              clear hown hBw hv
              go_wp2
              go_ret2
              exact ⟨rfl,HBB.out⟩
end Go.Proofs.YtggnfejjcgbebaaGreatDoor
/- What the reference's Sum answers. -/
namespace Go.Proofs.YtggnfejjcgbebaaGreatDoor
open Go.RowKit
attribute [local go_sem ↓] Go.wp_at_zero Go.wp_at_succ
theorem all21' (s m:Sh.S8) (hs:s.ok) (c n:Nat) (C:Int) (hC:C=(c:Int)) (r t q:ByteArray) (hc:c≤1152921504606846976) (hr:r.size≤64) (ht:t.size≤1125899906840000) (hn:Hid (n=c+t.size))
    (hm:Hid (m=Sh.chgAll s (r.data.toList++t.data.toList))) (hq:Hid (q=⟨(Sh.restOf (r.data.toList++t.data.toList)).toArray⟩)) (w:World) :
    Calls Tryz.prog 81 #[.agg #[.int .u32 s.a,.int .u32 s.b,.int .u32 s.c,.int .u32 s.d,.int .u32 s.e,.int .u32 s.f,.int .u32 s.g,.int .u32 s.h,.int .u64 C,.string r],.string t] w fun e w'=>e=.returned (.agg #[.int .u32 m.a,.int .u32 m.b,.int .u32 m.c,.int .u32 m.d,.int .u32 m.e,.int .u32 m.f,.int .u32 m.g,.int .u32 m.h,.int .u64 n,.string q])∧Below w.heap.size w w':=by
  subst hC
  exact all21 s m hs c n r t q hc hr ht hn hm hq w
set_option maxHeartbeats 1000000 in
theorem sum10 (t:ByteArray) (ht:t.size≤1125899906840000) (w:World) :
    Calls Tryz.prog 40 #[.string t] w fun e w'=>e=.returned (.string ⟨(Sh.sum t.data.toList).toArray⟩)∧Below w.heap.size w w':=by
  obtain ⟨s0,hs0⟩:∃s,s=Sh.S0:=⟨_,rfl⟩
  obtain ⟨m,hm⟩:∃m,m=Sh.chgAll s0 t.data.toList:=⟨_,rfl⟩
  have hmo:m.ok:=by rw [hm,hs0];exact Sh.chg_ok Sh.S0_ok _ _
  have hso:s0.ok:=by rw [hs0];exact Sh.S0_ok
  obtain ⟨q,hq⟩:∃q:ByteArray,q=⟨(Sh.restOf t.data.toList).toArray⟩:=⟨_,rfl⟩
  have hql:q.data.toList=Sh.restOf t.data.toList:=by rw [hq]
  have hqs:q.size=t.size % 64:=by rw [Lib.size_eq,hql,Sh.rest_length,←Lib.size_eq]
  have hqs':q.size≤64:=by omega
  obtain ⟨n,hn⟩:∃n,n=t.size:=⟨_,rfl⟩
  have hright:Sh.rightB n q.size=true:=by
    rw [hn,hqs]
    simp [Sh.rightB];omega
  obtain ⟨d,hd⟩:∃d:ByteArray,d=⟨(Sh.fin m q.data.toList n).toArray⟩:=⟨_,rfl⟩
  have HE:Hid (d=⟨(Sh.sum t.data.toList).toArray⟩):=by
    show _=_
    rw [hd,hql,hm,hs0,hn,Lib.size_eq]
    rfl
  have HS:Hid (s0=Sh.S0):=hs0
  have HM:Hid (m=Sh.chgAll s0 ((⟨#[]⟩:ByteArray).data.toList++t.data.toList)):=hm
  have HQ:Hid (q=⟨(Sh.restOf ((⟨#[]⟩:ByteArray).data.toList++t.data.toList)).toArray⟩):=hq
  have HNN:Hid (n=0+t.size):=by show _=_;omega
  have HD:Hid (d=⟨(Sh.fin m q.data.toList n).toArray⟩):=hd
  have HMO:Hid m.ok:=hmo
  have HSO:Hid s0.ok:=hso
  have HR:Hid (Sh.rightB n q.size=true):=hright
  have HNL:Hid (n<1152921504606846976):=by show _<_;omega
  clear hs0 hm hq hql hd hmo hso hright hqs hn
  go_enter Tryz.func40,Tryz.ntmps40
  go_wp2_with fail
  refine (start18 s0 HS _).mono ?_
  rintro e w1 ⟨rfl,hb1⟩
  have B1:Hid (Below w.heap.size w w1):=hb1
  clear hb1
  go_wp2_with fail
  refine (all21' s0 m HSO.out 0 n _ rfl ⟨#[]⟩ t q (by omega) (by decide) (by omega) HNN HM HQ _).mono ?_
  rintro e w2 ⟨rfl,hb2⟩
  have B2:Hid (Below w.heap.size w w2):=B1.out.trans (hb2.mono B1.out.size)
  clear hb2
  go_wp2_with fail
  refine (end16_yes m HMO.out n q HNL.out hqs' HR.out d HD _).mono ?_
  rintro e w3 ⟨rfl,hb3⟩
  have B3:Hid (Below w.heap.size w w3):=B2.out.trans (hb3.mono B2.out.size)
  clear hb3
  go_wp2
  go_ret
  exact ⟨ret_str HE.out,B3.out⟩
end Go.Proofs.YtggnfejjcgbebaaGreatDoor
/- The document's own answer: half, leaf, node and root. -/
namespace Go.Proofs.YtggnfejjcgbebaaGreatDoor
open Go.RowKit
attribute [local go_sem ↓] Go.wp_at_zero Go.wp_at_succ
set_option maxHeartbeats 2000000 in
theorem rhalf_c (n:Nat) (h2:2≤n) (hn:n≤1024) (w:World):Calls Tryz.prog 74 #[.int .i64 (n:Int)] w fun e w'=>e=.returned (.int .i64 (Mk.half n:Int))∧w=w':=by
  obtain ⟨h,hh⟩:∃h,h=Mk.half n:=⟨_,rfl⟩
  rw [←hh]
  have HH:Hid (h=Mk.half n):=hh
  clear hh
  go_enter Tryz.func74,Tryz.ntmps74
  go_wp2
  go_loop [3] (fun i=>∃k:Nat,i=.int .i64 (k:Int)∧1≤k∧k<n∧Hid (∃j,k=2 ^ j)) (fun i=>n - (intOf i).toNat)
  case atStart=>exact ⟨1,rfl,by omega,by omega,⟨0,rfl⟩⟩
  case round =>
    obtain ⟨k,rfl,hk1,hkn,hp⟩:=hrel
    by_cases hlt:2*k<n
    · have q:(2:Int)*(k:Int)<(n:Int):=by omega
      go_wp2
      go_round
      case rel=>exact ⟨k*2,by go_num,by omega,by omega,by obtain ⟨j,hj⟩:=hp.out;exact ⟨j+1,by rw [hj,Nat.pow_succ]⟩⟩
      case measure=>simp [intOf];omega
    · have q:¬(2:Int)*(k:Int)<(n:Int):=by omega
      have HE:Hid (k=h):=by
        obtain ⟨j,hj⟩:=hp.out
        show k=h
        rw [HH.out,hj]
        exact (Mk.half_of (by omega) (by rw [Nat.pow_succ];omega)).symm
      go_wp2
      go_ret
      exact ⟨by rw [HE.out];rfl,rfl⟩
theorem rsum_c (t:List UInt8) (ht:t.length≤1125899906840000) (w:World):Calls Tryz.prog 40 #[.string (bs t)] w fun e w'=>e=.returned (.string (bs (Sh.sum t)))∧Below w.heap.size w w' :=
  sum10 (bs t) (by rw [bs_size];exact ht) w
theorem rleaf_c (s:ByteArray) (hs:s.size≤140737488355328) (w:World) :
    Calls Tryz.prog 73 #[.string s] w fun e w'=>e=.returned (.string (bs (Mk.leaf s.data.toList)))∧Below w.heap.size w w':=by
  obtain ⟨t,ht⟩:∃t:ByteArray,t=bs (Mk.leafT s.data.toList):=⟨_,rfl⟩
  obtain ⟨d,hd⟩:∃d:ByteArray,d=bs (Mk.leaf s.data.toList):=⟨_,rfl⟩
  have C:Hid (Calls Tryz.prog 40 #[.string t] w fun e w'=>e=.returned (.string d)∧Below w.heap.size w w'):=by
    show Calls _ _ _ _ _
    rw [ht,hd]
    exact rsum_c _ (by simp only [Mk.leafT,List.length_cons,size_bytes];omega) w
  have hadd:∀W,(Op.stringOp .add ⟨#[0]⟩ s).run Tryz.prog W=.ok (.string t) W:=fun W=>by
    rw [run_string_add_sum W ⟨#[0]⟩ s (by show 1+s.size≤_;omega),ht]
    congr 2
  rw [←hd]
  clear ht hd hs
  go_enter Tryz.func73,Tryz.ntmps73
  go_wp2_with fail
  refine C.out.mono ?_
  rintro e w1 ⟨rfl,hb⟩
  have HB:Hid (Below w.heap.size w w1):=hb
  clear hb
  go_wp2
  go_ret
  exact ⟨rfl,HB.out⟩
theorem rnode_c (a b:ByteArray) (ha:a.size≤140737488355328) (hb:b.size≤140737488355328) (w:World) :
    Calls Tryz.prog 75 #[.string a,.string b] w fun e w'=>e=.returned (.string (bs (Mk.node a.data.toList b.data.toList)))∧Below w.heap.size w w':=by
  obtain ⟨t,ht⟩:∃t:ByteArray,t=bs (Mk.nodeT a.data.toList b.data.toList):=⟨_,rfl⟩
  obtain ⟨d,hd⟩:∃d:ByteArray,d=bs (Mk.node a.data.toList b.data.toList):=⟨_,rfl⟩
  obtain ⟨x,hx⟩:∃x:ByteArray,x=⟨#[1]⟩++a:=⟨_,rfl⟩
  have hxs:x.size=1+a.size:=by rw [hx,ByteArray.size_append];rfl
  have C:Hid (Calls Tryz.prog 40 #[.string t] w fun e w'=>e=.returned (.string d)∧Below w.heap.size w w'):=by
    show Calls _ _ _ _ _
    rw [ht,hd]
    exact rsum_c _ (by simp only [Mk.nodeT,List.length_cons,List.length_append,size_bytes];omega) w
  have hadd:∀W,(Op.stringOp .add ⟨#[1]⟩ a).run Tryz.prog W=.ok (.string x) W:=fun W=>by
    rw [run_string_add_sum W ⟨#[1]⟩ a (by show 1+a.size≤_;omega),hx]
  have hadd2:∀W,(Op.stringOp .add x b).run Tryz.prog W=.ok (.string t) W:=fun W=>by
    rw [run_string_add_sum W x b (by omega),ht,hx]
    congr 2
  rw [←hd]
  clear ht hd ha hb hx hxs
  go_enter Tryz.func75,Tryz.ntmps75
  go_wp2_with fail
  refine C.out.mono ?_
  rintro e w1 ⟨rfl,hb⟩
  have HB:Hid (Below w.heap.size w w1):=hb
  clear hb
  go_wp2
  go_ret
  exact ⟨rfl,HB.out⟩
def RootSays (n:Nat):Prop:=∀(l:List (List UInt8)),l.length=n→(∀x∈l,x.length≤140737488355328)→∀(W:World) (a:Option Addr) (m c H:Nat),H≤W.heap.size→m≤c→Sl W H (.slice a m c) l →
  Calls Tryz.prog 34 #[.slice a m c] W fun e w'=>e=.returned (.string (bs (Mk.root l)))∧Below W.heap.size W w'
set_option maxHeartbeats 2000000 in
set_option maxRecDepth 10000 in
theorem rroot_few (n:Nat) (hn:n<2):RootSays n:=by
  intro l hl hx W a m c H hH hmc hS
  have hm:m=n:=hS.len.trans hl
  match n,hn with
  | 0,_ =>
    have hl0:l=[]:=List.eq_nil_of_length_eq_zero hl
    subst hm hl0
    obtain ⟨d,hd⟩:∃d:ByteArray,d=bs (Mk.root []):=⟨_,rfl⟩
    have C:Hid (Calls Tryz.prog 40 #[.string ⟨#[]⟩] W fun e w'=>e=.returned (.string d)∧Below W.heap.size W w'):=by
      show Calls _ _ _ _ _
      rw [hd,Mk.root_none];exact rsum_c [] (by simp) W
    rw [←hd]
    clear hd hx hS hl
    go_enter Tryz.func34,Tryz.ntmps34
    go_wp2_with fail
    refine C.out.mono ?_
    rintro e w1 ⟨rfl,hb1⟩
    go_wp2
    go_ret
    exact ⟨rfl,hb1⟩
  | 1,_ =>
    obtain ⟨x,hl1⟩:∃x,l=[x]:=List.length_eq_one_iff.1 hl
    subst hm
    obtain ⟨b,off,rfl,-,-,hc⟩:=hS.at (by omega)
    obtain ⟨s,hs⟩:∃s:ByteArray,s=bs x:=⟨_,rfl⟩
    have hcell:W.cell? ⟨b,off,none⟩=some (.string s):=by rw [hs];exact hc 0 x (by rw [hl1];rfl)
    obtain ⟨d,hd⟩:∃d:ByteArray,d=bs (Mk.root l):=⟨_,rfl⟩
    have C:Hid (Calls Tryz.prog 73 #[.string s] W fun e w'=>e=.returned (.string d)∧Below W.heap.size W w'):=by
      show Calls _ _ _ _ _
      have:=rleaf_c s (by rw [hs,bs_size];exact hx x (by rw [hl1];simp)) W
      rw [hd,hl1,Mk.root_one]
      rw [hs] at this ⊢
      exact this
    rw [←hd]
    clear hd hl1 hs hx hS hl hc
    go_enter Tryz.func34,Tryz.ntmps34
    go_wp2_with fail
    refine C.out.mono ?_
    rintro e w1 ⟨rfl,hb1⟩
    go_wp2
    go_ret
    exact ⟨rfl,hb1⟩
set_option maxHeartbeats 8000000 in
set_option maxRecDepth 10000 in
theorem rroot_more (n:Nat) (h2:2≤n) (h1024:n≤1024) (ih:∀k,k<n→RootSays k):RootSays n:=by
  intro l hl hx W a m c H hH hmc hS
  have hm:m=n:=hS.len.trans hl
  subst hm
  obtain ⟨b,off,rfl,-,hbH,hc⟩:=hS.at (by omega)
  obtain ⟨h,hh⟩:∃h,h=Mk.half m:=⟨_,rfl⟩
  have hlt:h<m:=by rw [hh];exact Mk.half_lt h2
  have hpos:1≤h:=by rw [hh];exact Mk.half_pos m
  have CH:Hid (∀W,Calls Tryz.prog 74 #[.int .i64 (m:Int)] W fun e w'=>e=.returned (.int .i64 (h:Int))∧W=w'):=fun W=>by rw [hh];exact rhalf_c m h2 h1024 W
  obtain ⟨r1,hr1⟩:∃r:ByteArray,r=bs (Mk.root (l.take h)):=⟨_,rfl⟩
  obtain ⟨r2,hr2⟩:∃r:ByteArray,r=bs (Mk.root (l.drop h)):=⟨_,rfl⟩
  obtain ⟨d,hd⟩:∃r:ByteArray,r=bs (Mk.root l):=⟨_,rfl⟩
  have G1:Hid (∀W1,Below W.heap.size W W1→Calls Tryz.prog 34 #[.slice (some ⟨b,off,none⟩) h c] W1 fun e w'=>e=.returned (.string r1)∧Below W1.heap.size W1 w'):=fun W1 hW=>by
    rw [hr1]
    exact ih h hlt (l.take h) (by rw [List.length_take];omega) (fun x hx'=>hx x (List.mem_of_mem_take hx')) W1 _ h c H (Nat.le_trans hH hW.size) (by omega) (Sl.take (hS.stays hW hH) h c (by omega))
  have G2:Hid (∀W1,Below W.heap.size W W1→Calls Tryz.prog 34 #[.slice (some ⟨b,off+h,none⟩) (m - h) (c - h)] W1 fun e w'=>e=.returned (.string r2)∧Below W1.heap.size W1 w'):=fun W1 hW=>by
    have:=Sl.drop (hS.stays hW hH) h (c - h)
    rw [hl] at this
    rw [hr2]
    exact ih (m - h) (by omega) (l.drop h) (by rw [List.length_drop];omega) (fun x hx'=>hx x (List.mem_of_mem_drop hx')) W1 _ (m - h) (c - h) H (Nat.le_trans hH hW.size) (by omega) this
  have CN:Hid (∀W1,Calls Tryz.prog 75 #[.string r1,.string r2] W1 fun e w'=>e=.returned (.string d)∧Below W1.heap.size W1 w'):=fun W1=>by
    have:=rnode_c r1 r2 (by rw [hr1,bs_size,Mk.root_length];omega) (by rw [hr2,bs_size,Mk.root_length];omega) W1
    rw [hd,root_halves l m h hl hh h2]
    rw [hr1,hr2] at this ⊢
    exact this
  rw [←hd]
  have q0:((m:Int)==0)=false:=by rw [beq_eq_false_iff_ne];omega
  have q1:((m:Int)==1)=false:=by rw [beq_eq_false_iff_ne];omega
  have q2:(0:Int)≤(h:Int):=by omega
  have q3:(h:Int)≤(m:Int):=by omega
  have q4:(h:Int)≤(c:Int):=by omega
  have q5:(m:Int)≤(c:Int):=by omega
  have q6:¬c=h:=by omega
  clear hh hS hc hx ih hl hr1 hr2 hd
  go_enter Tryz.func34,Tryz.ntmps34
  go_wp2_with (go_at_call 74;refine (CH.out _).mono ?_;rintro e w' ⟨rfl,rfl⟩)
  refine wp_region_below W.heap.size W (Below.refl _ _) (by kernel_rfl) (by kernel_rfl) ?_
  repeat (go_big_quiet_step (first
    | (go_at_call_of 34 (Value.slice (some ⟨b,off,none⟩) h c);exact below_call _ (Nat.le_refl _) (G1.out _ (BelowOf.h _)))
    | (go_at_call_of 34 (Value.slice (some ⟨b,off+h,none⟩) (m - h) (c - h));exact below_call _ (Nat.le_refl _) (G2.out _ (BelowOf.h _)))
    | (go_at_call 75;exact below_call _ (Nat.le_refl _) (CN.out _))))
  refine wpQuiet_nil ?_
  intro _ hw'
  obtain ⟨pq,hw''⟩:=hw'
  subst hw''
  go_wp2
  go_ret
  exact ⟨rfl,pq.h⟩
theorem rroot_all (n:Nat) (h1024:n≤1024):RootSays n:=by
  induction n using Nat.strongRecOn with
  | _ n ih =>
    by_cases h2:2≤n
    · exact rroot_more n h2 h1024 (fun k hk=>ih k hk (by omega))
    · exact rroot_few n (by omega)
end Go.Proofs.YtggnfejjcgbebaaGreatDoor
