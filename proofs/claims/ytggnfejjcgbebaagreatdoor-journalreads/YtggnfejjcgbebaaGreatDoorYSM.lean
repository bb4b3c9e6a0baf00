/- Several texts, joined: ShState, ShRefA, ShBlockM, ShRotR, ShBlock -/
import Derived.Test.YtggnfejjcgbebaaGreatDoorJGM
import Derived.Deep.AppendLies
import Derived.Deep.RegionLaw
/- The boxes of a state and of a result behind it. -/
namespace Go.Proofs.YtggnfejjcgbebaaGreatDoor
open Go.RowKit
def XI (w W:World) (s:Sh.S8) (c:Nat) (r:ByteArray):Prop :=
  W.heap[w.heap.size]?=some (.cells #[.int .u32 s.a,.int .u32 s.b,.int .u32 s.c,.int .u32 s.d,.int .u32 s.e,.int .u32 s.f,.int .u32 s.g,.int .u32 s.h,.int .u64 c,.string r] 102 (0,0))∧w.heap.size+1≤W.heap.size∧Below w.heap.size w W
theorem XI.start (w:World) (s:Sh.S8) (c:Nat) (r:ByteArray):XI w (w.alloc (.cells #[.int .u32 s.a,.int .u32 s.b,.int .u32 s.c,.int .u32 s.d,.int .u32 s.e,.int .u32 s.f,.int .u32 s.g,.int .u32 s.h,.int .u64 c,.string r] 102)) s c r :=
  ⟨heap_alloc_new w _,by simp,(Below.refl _ w).alloc (Nat.le_refl _) _⟩
theorem XI.alloc {w W:World} {s:Sh.S8} {c:Nat} {r:ByteArray} (h:XI w W s c r) (o:Obj):XI w (W.alloc o) s c r :=
  ⟨(Below.heap_alloc _ _ _ (by have:=h.2.1;omega)).trans h.1,by simp;have:=h.2.1;omega,h.2.2.alloc (by have:=h.2.1;omega) _⟩
theorem XI.call {w wr w1:World} {s:Sh.S8} {c:Nat} {r:ByteArray} (h:XI w wr s c r) (hb:Below wr.heap.size wr w1):XI w w1 s c r:=by
  obtain ⟨h1,h3,h4⟩:=h
  exact ⟨(hb.block _ (by omega)).trans h1,Nat.le_trans h3 hb.size,h4.trans (hb.mono (by omega))⟩
theorem XI.cells {w W:World} {s:Sh.S8} {c:Nat} {r:ByteArray} (h:XI w W s c r) :
    W.cell? ⟨w.heap.size,0,none⟩=some (.int .u32 (s.a:Int))∧W.cell? ⟨w.heap.size,1,none⟩=some (.int .u32 (s.b:Int))∧W.cell? ⟨w.heap.size,2,none⟩=some (.int .u32 (s.c:Int))∧W.cell? ⟨w.heap.size,3,none⟩=some (.int .u32 (s.d:Int)) ∧
    W.cell? ⟨w.heap.size,4,none⟩=some (.int .u32 (s.e:Int))∧W.cell? ⟨w.heap.size,5,none⟩=some (.int .u32 (s.f:Int))∧W.cell? ⟨w.heap.size,6,none⟩=some (.int .u32 (s.g:Int))∧W.cell? ⟨w.heap.size,7,none⟩=some (.int .u32 (s.h:Int)) ∧
    W.cell? ⟨w.heap.size,8,none⟩=some (.int .u64 (c:Int))∧W.cell? ⟨w.heap.size,9,none⟩=some (.string r):=by
  obtain ⟨h1,_,_⟩:=h
  refine ⟨?_,?_,?_,?_,?_,?_,?_,?_,?_,?_⟩<;>(rw [cell_of_row W _ _ _ 102 (0,0) h1];rfl)
def AI (w W:World) (s:Sh.S8) (c:Nat) (r:ByteArray):Prop :=
  XI w W s c r∧W.heap[w.heap.size+1]?=some (.cells #[.int .u32 0,.int .u32 0,.int .u32 0,.int .u32 0,.int .u32 0,.int .u32 0,.int .u32 0,.int .u32 0,.int .u64 0,.string ⟨#[]⟩] 102 (0,0))∧w.heap.size+2≤W.heap.size
theorem AI.start (w:World) (s:Sh.S8) (c:Nat) (r:ByteArray):AI w ((w.alloc (.cells #[.int .u32 s.a,.int .u32 s.b,.int .u32 s.c,.int .u32 s.d,.int .u32 s.e,.int .u32 s.f,.int .u32 s.g,.int .u32 s.h,.int .u64 c,.string r] 102)).alloc (.cells #[.int .u32 0,.int .u32 0,.int .u32 0,.int .u32 0,.int .u32 0,.int .u32 0,.int .u32 0,.int .u32 0,.int .u64 0,.string ⟨#[]⟩] 102)) s c r:=by
  refine ⟨(XI.start w s c r).alloc _,?_,by simp⟩
  have:=heap_alloc_new (w.alloc (.cells #[.int .u32 s.a,.int .u32 s.b,.int .u32 s.c,.int .u32 s.d,.int .u32 s.e,.int .u32 s.f,.int .u32 s.g,.int .u32 s.h,.int .u64 c,.string r] 102)) (.cells #[.int .u32 0,.int .u32 0,.int .u32 0,.int .u32 0,.int .u32 0,.int .u32 0,.int .u32 0,.int .u32 0,.int .u64 0,.string ⟨#[]⟩] 102)
  rw [World.size_alloc] at this
  exact this
theorem AI.call {w wr w1:World} {s:Sh.S8} {c:Nat} {r:ByteArray} (h:AI w wr s c r) (hb:Below wr.heap.size wr w1):AI w w1 s c r:=by
  obtain ⟨h1,h2,h3⟩:=h
  exact ⟨h1.call hb,(hb.block _ (by omega)).trans h2,Nat.le_trans h3 hb.size⟩
theorem AI.out {w W:World} {s:Sh.S8} {c:Nat} {r:ByteArray} (h:AI w W s c r) :
    W.cell? ⟨w.heap.size+1,0,none⟩=some (.int .u32 0)∧W.cell? ⟨w.heap.size+1,1,none⟩=some (.int .u32 0)∧W.cell? ⟨w.heap.size+1,2,none⟩=some (.int .u32 0)∧W.cell? ⟨w.heap.size+1,3,none⟩=some (.int .u32 0) ∧
    W.cell? ⟨w.heap.size+1,4,none⟩=some (.int .u32 0)∧W.cell? ⟨w.heap.size+1,5,none⟩=some (.int .u32 0)∧W.cell? ⟨w.heap.size+1,6,none⟩=some (.int .u32 0)∧W.cell? ⟨w.heap.size+1,7,none⟩=some (.int .u32 0) ∧
    W.cell? ⟨w.heap.size+1,8,none⟩=some (.int .u64 0)∧W.cell? ⟨w.heap.size+1,9,none⟩=some (.string ⟨#[]⟩):=by
  obtain ⟨_,h1,_⟩:=h
  refine ⟨?_,?_,?_,?_,?_,?_,?_,?_,?_,?_⟩<;>(rw [cell_of_row W _ _ _ 102 (0,0) h1];rfl)
theorem AI.kept {w W:World} {s:Sh.S8} {c:Nat} {r:ByteArray} (h:AI w W s c r) (x0 x1 x2 x3 x4 x5 x6 x7 x8 x9:Value) :
    Below w.heap.size w ((((((((((W.setCell ⟨w.heap.size+1,0,none⟩ x0).setCell ⟨w.heap.size+1,1,none⟩ x1).setCell ⟨w.heap.size+1,2,none⟩ x2).setCell ⟨w.heap.size+1,3,none⟩ x3).setCell ⟨w.heap.size+1,4,none⟩ x4).setCell ⟨w.heap.size+1,5,none⟩ x5).setCell ⟨w.heap.size+1,6,none⟩ x6).setCell ⟨w.heap.size+1,7,none⟩ x7).setCell ⟨w.heap.size+1,8,none⟩ x8).setCell ⟨w.heap.size+1,9,none⟩ x9):=by
  have hl:w.heap.size≤w.heap.size+1:=Nat.le_succ _
  exact (((((((((h.1.2.2.setCell (p:=⟨w.heap.size+1,0,none⟩) hl x0).setCell (p:=⟨w.heap.size+1,1,none⟩) hl x1).setCell (p:=⟨w.heap.size+1,2,none⟩) hl x2).setCell (p:=⟨w.heap.size+1,3,none⟩) hl x3).setCell (p:=⟨w.heap.size+1,4,none⟩) hl x4).setCell (p:=⟨w.heap.size+1,5,none⟩) hl x5).setCell (p:=⟨w.heap.size+1,6,none⟩) hl x6).setCell (p:=⟨w.heap.size+1,7,none⟩) hl x7).setCell (p:=⟨w.heap.size+1,8,none⟩) hl x8).setCell (p:=⟨w.heap.size+1,9,none⟩) hl x9
end Go.Proofs.YtggnfejjcgbebaaGreatDoor
/- The reference's small parts: its constants, its words ahead of all bytes, its test of a state. -/
namespace Go.Proofs.YtggnfejjcgbebaaGreatDoor
open Go.RowKit
set_option maxRecDepth 10000 in
theorem k33 (w:World):Calls Tryz.prog 145 #[] w fun e w'=>e=.returned (.slice (some ⟨w.heap.size,0,none⟩) 64 64)∧w'=w.alloc (.cells (Sh.arr Sh.K) 99):=by
  go_enter Tryz.func145,Tryz.ntmps145
  go_wp2
  go_ret
  exact ⟨rfl,rfl⟩
theorem start18 (s0:Sh.S8) (h:Hid (s0=Sh.S0)) (w:World) :
    Calls Tryz.prog 82 #[] w fun e w'=>e=.returned (.agg #[.int .u32 s0.a,.int .u32 s0.b,.int .u32 s0.c,.int .u32 s0.d,.int .u32 s0.e,.int .u32 s0.f,.int .u32 s0.g,.int .u32 s0.h,.int .u64 0,.string ⟨#[]⟩])∧Below w.heap.size w w':=by
  have e:(.agg #[.int .u32 s0.a,.int .u32 s0.b,.int .u32 s0.c,.int .u32 s0.d,.int .u32 s0.e,.int .u32 s0.f,.int .u32 s0.g,.int .u32 s0.h,.int .u64 0,.string ⟨#[]⟩]:Value) =
      .agg #[.int .u32 1779033703,.int .u32 3144134277,.int .u32 1013904242,.int .u32 2773480762,.int .u32 1359893119,.int .u32 2600822924,.int .u32 528734635,.int .u32 1541459225,.int .u64 0,.string ⟨#[]⟩]:=by
    rw [h.out]
    rfl
  rw [e]
  clear e
  go_enter Tryz.func82,Tryz.ntmps82
  go_wp2
  exact bodyPost_ret (v:=.agg #[.int .u32 1779033703,.int .u32 3144134277,.int .u32 1013904242,.int .u32 2773480762,.int .u32 1359893119,.int .u32 2600822924,.int .u32 528734635,.int .u32 1541459225,.int .u64 0,.string ⟨#[]⟩]) (by simp [results,Tryz.results82,go_sem]) rfl ⟨rfl,(Below.refl _ _).alloc (Nat.le_refl _) _⟩
set_option maxHeartbeats 1000000 in
theorem right24 (s:Sh.S8) (c:Nat) (r:ByteArray) (hc:c<18446744073709551616) (hr:r.size≤9223372036854775807) (w:World) :
    Calls Tryz.prog 107 #[.agg #[.int .u32 s.a,.int .u32 s.b,.int .u32 s.c,.int .u32 s.d,.int .u32 s.e,.int .u32 s.f,.int .u32 s.g,.int .u32 s.h,.int .u64 c,.string r]] w fun e w'=>e=.returned (.bool (Sh.rightB c r.size))∧Below w.heap.size w w':=by
  by_cases h1:c<1152921504606846976
  · have h1':(c:Int)<1152921504606846976:=by omega
    by_cases h4:r.size<64
    · have h4':(r.size:Int)<64:=by omega
      by_cases h2:r.size=c % 64
      · have e:Sh.rightB c r.size=true:=by simp [Sh.rightB,h1,h2]
        rw [e]
        have h3:((r.size:Int)==(c:Int) % 64)=true:=by rw [beq_iff_eq];omega
        clear e h1 h2 h4
        go_enter Tryz.func107,Tryz.ntmps107
        go_wp2
        go_ret
        exact ⟨rfl,(Below.refl _ _).alloc (Nat.le_refl _) _⟩
      · have e:Sh.rightB c r.size=false:=by simp [Sh.rightB,h2]
        rw [e]
        have h3:((r.size:Int)==(c:Int) % 64)=false:=by rw [beq_eq_false_iff_ne];omega
        clear e h1 h2 h4
        go_enter Tryz.func107,Tryz.ntmps107
        go_wp2
        go_ret
        exact ⟨rfl,(Below.refl _ _).alloc (Nat.le_refl _) _⟩
    · have e:Sh.rightB c r.size=false:=by
        have:¬r.size=c % 64:=by omega
        simp [Sh.rightB,this]
      rw [e]
      have h4':¬(r.size:Int)<64:=by omega
      have h4'':decide ((r.size:Int)<64)=false:=by simpa using h4'
      clear e h1 h4
      go_enter Tryz.func107,Tryz.ntmps107
      go_wp2
      go_ret
      exact ⟨rfl,(Below.refl _ _).alloc (Nat.le_refl _) _⟩
  · have e:Sh.rightB c r.size=false:=by simp [Sh.rightB,h1]
    rw [e]
    have h1':¬(c:Int)<1152921504606846976:=by omega
    have h1'':decide ((c:Int)<1152921504606846976)=false:=by simpa using h1'
    clear e h1
    go_enter Tryz.func107,Tryz.ntmps107
    go_wp2
    go_ret
    exact ⟨rfl,(Below.refl _ _).alloc (Nat.le_refl _) _⟩
end Go.Proofs.YtggnfejjcgbebaaGreatDoor
/- What the walk over the reference's block wants beside it: four bytes as a number, one by one; owned rows of words; the blocks of the call. -/
namespace Go.Proofs.YtggnfejjcgbebaaGreatDoor
open Go.RowKit
namespace Sh
def pb (s:List UInt8) (i:Nat):Nat→Nat
  | 0=>0
  | j+1=>(256*pb s i j+(s.getD (i+j) 0).toNat) % 4294967296
theorem pb_lt (s:List UInt8) (i j:Nat):pb s i j<4294967296:=by
  cases j with
  | zero=>show 0<4294967296;decide
  | succ j=>exact Nat.mod_lt _ (by decide)
theorem pb_4 (s:List UInt8) (i:Nat):pb s i 4=be32 s i:=by
  have h0:=(s.getD i 0).toNat_lt
  have h1:=(s.getD (i+1) 0).toNat_lt
  have h2:=(s.getD (i+2) 0).toNat_lt
  have h3:=(s.getD (i+3) 0).toNat_lt
  simp only [pb,be32,Nat.add_zero]
  omega
def cellsOf (l:List Nat):List Value:=l.map fun n:Nat=>Value.int .u32 (n:Int)
theorem cellsOf_get (l:List Nat) (j:Nat) (h:j<l.length):(cellsOf l)[j]?=some (Value.int .u32 ((l.getD j 0:Nat):Int)):=by
  simp [cellsOf,h]
theorem cellsOf_next (s:List UInt8) (k x:Nat) (h:x=nextW s (ws s k)):cellsOf (ws s (k+1))=cellsOf (ws s k)++[.int .u32 (x:Int)]:=by
  rw [h];simp [cellsOf,ws]
theorem nextW_16 (s:List UInt8) (k:Nat) (h:k<16):nextW s (ws s k)=be32 s (4*k):=by
  unfold nextW
  rw [ws_length,if_pos h]
theorem nextW_64 (s:List UInt8) (k:Nat) (h:16≤k):nextW s (ws s k)=grow ((ws s k).getD (k - 16) 0) ((ws s k).getD (k - 15) 0) ((ws s k).getD (k - 7) 0) ((ws s k).getD (k - 2) 0):=by
  unfold nextW
  rw [ws_length,if_neg (by omega)]
end Sh
theorem info25':(Tryz.prog.info? 99).map (fun i=>(i.zero,i.size,i.bytes))=some (some (.int .u32 0),1,4):=by kernel_rfl
theorem own_block_le' {w:World} {base n:Nat} {v:Value} {xs:List Value} (h:w.ownsRow base 99 1 v n xs):∀k,v.ownBlock=some k→base≤k:=by
  intro k hk
  rcases h.2 with ⟨rfl,_⟩ | ⟨g,cap,cur,rfl,hg,_⟩
  · simp [Value.ownBlock] at hk
  · simp [Value.ownBlock] at hk;omega
def QI (w wr:World) (t:List Nat):Prop :=
  wr.heap[w.heap.size]?=some (.cells (Sh.arr t) 100 (0,0))∧wr.heap[w.heap.size+1]?=some (.cells (Sh.arr (List.replicate 8 0)) 100 (0,0))∧w.heap.size+2≤wr.heap.size∧Below w.heap.size w wr
theorem QI.start (w:World) (t:List Nat):QI w ((w.alloc (.cells (Sh.arr t) 100)).alloc (.cells (Sh.arr (List.replicate 8 0)) 100)) t:=change_start w t
theorem QI.grown {w wr w1:World} {t:List Nat} {row:Option Nat} (h:QI w wr t) (o:Obj) (hg:(wr.alloc o).grownBy w1 row) (hr:∀k,row=some k→w.heap.size+2≤k):QI w w1 t:=by
  obtain ⟨h1,h2,h3,h4⟩:=h
  have hne:∀j,j<w.heap.size+2→some j≠row:=fun j hj e=>by have:=hr j e.symm;omega
  refine ⟨?_,?_,?_,(h4.alloc (by omega) o).grown hg (by simp;omega) (fun k hk=>by have:=hr k hk;omega)⟩
  · rw [hg.block _ (by simp;omega) (hne _ (by omega)),Below.heap_alloc _ _ _ (by omega)];exact h1
  · rw [hg.block _ (by simp;omega) (hne _ (by omega)),Below.heap_alloc _ _ _ (by omega)];exact h2
  · have:=hg.size;simp at this;omega
theorem QI.drewN {w wr:World} {t:List Nat} (h:QI w wr t) (n:Nat):QI w (wr.drewN n) t:=⟨h.1,h.2.1,h.2.2.1,below_drewN' h.2.2.2⟩
theorem QI.drew {w wr:World} {t:List Nat} (h:QI w wr t):QI w wr.drew t:=⟨h.1,h.2.1,h.2.2.1,h.2.2.2.drew⟩
theorem own_open {w:World} {base n:Nat} {v:Value} {l:List Nat} (h:w.ownsRow base 99 1 v n (Sh.cellsOf l)) (hn:0<n) :
    ∃g cap,v=.slice (some ⟨g,0,none⟩) n cap∧base≤g∧n≤cap∧g<w.heap.size∧∀j,j<n→w.cell? ⟨g,j,none⟩=some (.int .u32 ((l.getD j 0:Nat):Int)):=by
  have hl:l.length=n:=by have:=h.1;simpa [Sh.cellsOf] using this
  rcases h.2 with ⟨_,h'⟩ | ⟨g,cap,cur,rfl,hb,hg,hc,_⟩
  · omega
  · refine ⟨g,cap,rfl,hb,hc,(Array.getElem?_eq_some_iff.1 hg).1,fun j hj=>?_⟩
    rw [h.cellAt j (by omega)]
    exact Sh.cellsOf_get l j (by omega)
theorem sig0_eq (p:Nat) (h:p<4294967296):bits .xor .u32 (bits .xor .u32 ((Sh.rotr p 7:Nat):Int) ((Sh.rotr p 18:Nat):Int)) ((p:Int) / 8)=((Sh.sig0 p:Nat):Int):=by
  rw [show ((p:Int) / 8)=((p / 2 ^ 3:Nat):Int) by omega,Sh.xor3 _ _ _ (Sh.rotr_lt _ h) (Sh.rotr_lt _ h) (by omega)]
  rfl
theorem sig1_eq (p:Nat) (h:p<4294967296):bits .xor .u32 (bits .xor .u32 ((Sh.rotr p 17:Nat):Int) ((Sh.rotr p 19:Nat):Int)) ((p:Int) / 1024)=((Sh.sig1 p:Nat):Int):=by
  rw [show ((p:Int) / 1024)=((p / 2 ^ 10:Nat):Int) by omega,Sh.xor3 _ _ _ (Sh.rotr_lt _ h) (Sh.rotr_lt _ h) (by omega)]
  rfl
theorem sum1 (a b:Nat):IntKind.u32.wrap ((a:Int)+(b:Int))=(((a+b) % 4294967296:Nat):Int):=by
  rw [IntKind.wrap_u32];omega
def RI (w0 wx:World) (v:List Nat):Prop :=
  wx.heap[w0.heap.size]?=some (.cells (Sh.arr v) 100 (0,0))∧wx.heap[w0.heap.size+1]?=some (.cells (Sh.arr Sh.K) 99 (0,0))∧w0.heap.size+2≤wx.heap.size∧Below w0.heap.size w0 wx
theorem RI.start (w0:World) (v:List Nat):RI w0 ((w0.alloc (.cells (Sh.arr v) 100)).alloc (.cells (Sh.arr Sh.K) 99)) v:=by
  refine ⟨?_,?_,by simp,((Below.refl _ w0).alloc (Nat.le_refl _) _).alloc (by simp) _⟩
  · rw [Below.heap_alloc _ _ _ (by simp)];exact heap_alloc_new w0 _
  · have:=heap_alloc_new (w0.alloc (.cells (Sh.arr v) 100)) (.cells (Sh.arr Sh.K) 99)
    rw [World.size_alloc] at this
    exact this
theorem RI.drewN {w0 wx:World} {v:List Nat} (h:RI w0 wx v) (n:Nat):RI w0 (wx.drewN n) v:=⟨h.1,h.2.1,h.2.2.1,below_drewN' h.2.2.2⟩
theorem RI.drew {w0 wx:World} {v:List Nat} (h:RI w0 wx v):RI w0 wx.drew v:=⟨h.1,h.2.1,h.2.2.1,h.2.2.2.drew⟩
theorem RI.put {w0 wx:World} {v:List Nat} (h:RI w0 wx v) (i x:Nat):RI w0 (wx.setCell ⟨w0.heap.size,i,none⟩ (.int .u32 (x:Int))) (v.set i x):=by
  obtain ⟨h1,h2,h3,h4⟩:=h
  refine ⟨row_put h1 i x,?_,by simpa using h3,h4.setCell (p:=⟨w0.heap.size,i,none⟩) (by simp) _⟩
  rw [heap_setCell_other _ _ _ _ (by show w0.heap.size+1≠w0.heap.size;omega)];exact h2
theorem RI.stored {w0 wr:World} {v:Sh.S8} (h:RI w0 wr v.list) (m:Sh.S8) :
    RI w0 ((((((((wr.setCell ⟨w0.heap.size,0,none⟩ (.int .u32 (m.a:Int))).setCell ⟨w0.heap.size,1,none⟩ (.int .u32 (m.b:Int))).setCell ⟨w0.heap.size,2,none⟩ (.int .u32 (m.c:Int))).setCell ⟨w0.heap.size,3,none⟩ (.int .u32 (m.d:Int))).setCell ⟨w0.heap.size,4,none⟩ (.int .u32 (m.e:Int))).setCell ⟨w0.heap.size,5,none⟩ (.int .u32 (m.f:Int))).setCell ⟨w0.heap.size,6,none⟩ (.int .u32 (m.g:Int))).setCell ⟨w0.heap.size,7,none⟩ (.int .u32 (m.h:Int))) m.list :=
  (((((((h.put 0 m.a).put 1 m.b).put 2 m.c).put 3 m.d).put 4 m.e).put 5 m.f).put 6 m.g).put 7 m.h
theorem not_form (e:Nat) (he:e<4294967296):(4294967295:Int) - (e:Int)=bits .xor .u32 IntKind.u32.max (e:Int):=by
  rw [Sh.max_u32,u32_xor_nat _ _ (by decide) he,Sh.not_eq e he]
  omega
theorem plus_comm (a b:Sh.S8):Sh.plus a b=Sh.plus b a:=by simp [Sh.plus,Nat.add_comm]
end Go.Proofs.YtggnfejjcgbebaaGreatDoor
/- The rotation of a word by the reference: the plain one. -/
namespace Go.Proofs.YtggnfejjcgbebaaGreatDoor
open Go.RowKit
set_option maxHeartbeats 400000 in
theorem rot32 (x:Nat) (n:Int) (w:World) (hx:x<4294967296) (h0:0<n) (h1:n<32) :
    Calls Tryz.prog 144 #[.int .u32 x,.int .i64 n] w fun e w'=>e=.returned (.int .u32 (Sh.rotr x n.toNat:Nat))∧∃k,w'=w.drewN k:=by
  go_enter Tryz.func144,Tryz.ntmps144
  go_wp2
  go_quiet (fail)
  go_wp2
  go_ret
  exact ⟨ret_u32 (Sh.rot_eq' x n hx h0 h1),_,rfl⟩
end Go.Proofs.YtggnfejjcgbebaaGreatDoor
/- What the reference's block makes of eight words and 64 bytes: the same as the plain one. -/
namespace Go.Proofs.YtggnfejjcgbebaaGreatDoor
open Go.RowKit
attribute [local go_sem ↓] Go.wp_at_zero Go.wp_at_succ
set_option maxHeartbeats 4000000 in
set_option maxRecDepth 10000 in
theorem block29 (t:Sh.S8) (ht:t.ok) (s:ByteArray) (hs:s.size=64) (w:World) :
    Calls Tryz.prog 108 #[.agg (Sh.arr t.list),.string s] w fun e w'=>e=.returned (.agg (Sh.arr (Sh.chg1 t s.data.toList).list))∧Below w.heap.size w w':=by
  show Calls Tryz.prog 108 #[.agg #[.int .u32 t.a,.int .u32 t.b,.int .u32 t.c,.int .u32 t.d,.int .u32 t.e,.int .u32 t.f,.int .u32 t.g,.int .u32 t.h],.string s] w _
  obtain ⟨i0,hi,hz0,hz1,hz2⟩:=info_parts info25'
  have HT:Hid t.ok:=ht
  clear ht
  go_enter Tryz.func108,Tryz.ntmps108
  go_wp2
  go_loopw [5,6] (fun v i wr=>∃k:Nat,k≤16∧i=.int .i64 k∧wr.ownsRow (w.heap.size+2) 99 1 v k (Sh.cellsOf (Sh.ws s.data.toList k))∧QI w wr t.list) (fun _ i _=>16 - (intOf i).toNat)
  case atStart=>exact ⟨0,by omega,rfl,World.ownsRow_nil _ _ _ _,QI.start w t.list⟩
  case round =>
    obtain ⟨k,hk,rfl,hown,hQ⟩:=hrel
    by_cases hlt:k<16
    · have HO:Hid (wr.ownsRow _ _ _ _ _ _):=hown
      have HQ:Hid (QI w wr t.list):=hQ
      have hsz:w.heap.size+2≤wr.heap.size:=hQ.2.2.1
      have HBS:Hid (∀k,_→_):=own_block_le' hown
      clear hown hQ
      go_wp2
      go_loop [7,8] (fun x b=>∃j:Nat,j≤4∧b=.int .i64 j∧x=.int .u32 ((Sh.pb s.data.toList (4*k) j:Nat):Int)) (fun _ b=>4 - (intOf b).toNat)
      case atStart=>exact ⟨0,by omega,rfl,rfl⟩
      case round =>
        obtain ⟨j,hj,rfl,rfl⟩:=hrel
        obtain ⟨x,hx⟩:∃x,x=Sh.pb s.data.toList (4*k) j:=⟨_,rfl⟩
        have hpl:x<4294967296:=by rw [hx];exact Sh.pb_lt _ _ _
        rw [←hx]
        by_cases hj4:j<4
        · obtain ⟨bb,hbl,hbb⟩:∃bb:Nat,bb<256∧bb=(s.data.toList.getD (4*k+j) 0).toNat:=⟨_,UInt8.toNat_lt _,rfl⟩
          have hix:∀wx,(Instr.index 9 (.string s) (.int .i64 (4*(k:Int)+(j:Int)))).run Tryz.prog wx=.ok (.int .u8 bb) wx:=fun wx=>by
            rw [hbb,index_byte s _ (by omega) (by omega),show (4*(k:Int)+(j:Int)).toNat=4*k+j by omega]
          have HX:Hid ((256*x+bb) % 4294967296=Sh.pb s.data.toList (4*k) (j+1)):=by
            show _=_
            rw [hx,hbb];rfl
          clear hx hbb
          go_wp2
          go_round
          case rel=>exact ⟨j+1,by omega,by go_num,by rw [←HX.out];go_num⟩
          case measure=>simp [intOf];omega
        · have hj4':j=4:=by omega
          subst hj4'
          have HX:Hid (x=Sh.nextW s.data.toList (Sh.ws s.data.toList k)):=by
            show _=_
            rw [hx,Sh.pb_4,Sh.nextW_16 _ _ hlt]
          clear hx hj hj4
          go_wp2_with (first | (at_builtin;refine wpList_append_own _ rfl _ _ 183 rfl (w.heap.size+2) 99 i0 (.int .u32 0) 1 4 Tryz.underlying183 hi hz0 hz1 hz2 rfl (by decide) _ _ _ rfl (HO.out.alloc _) ⟨wr.heap.size,0,none⟩ 1 1 [.int .u32 (x:Int)] rfl rfl (cell_new _ _ _) ?c2 ?c3 ?c4 ?c5 ?_))
          case c2=>first | rfl | (intro u hu;simp at hu;subst hu;rfl)
          case c3=>unfold maxLen;omega
          case c4=>omega
          case c5=>first | omega | (simp;omega)
          · intro v' w1 hown' hgrow _
            have R1:Hid (w1.ownsRow (w.heap.size+2) 99 1 v' (k+1) (Sh.cellsOf (Sh.ws s.data.toList (k+1)))):=by
              show World.ownsRow _ _ _ _ _ _ _
              rw [Sh.cellsOf_next _ _ x HX.out]
              exact hown'
            have R2:Hid (QI w w1 t.list):=HQ.out.grown _ hgrow HBS.out
            clear hown' hgrow HO HQ HBS
            go_wp2
            go_roundw
            case rel=>exact ⟨k+1,by omega,by go_num,R1.out,R2.out⟩
            case measure=>simp [intOf];omega
    · have hk16:k=16:=by omega
      subst hk16
      have HO:Hid (wr.ownsRow _ _ _ _ _ _):=hown
      have HQ:Hid (QI w wr t.list):=hQ
      clear hown hQ hk hlt
      go_wp2
      go_loopw [5,9] (fun v i wx=>∃k:Nat,16≤k∧k≤64∧i=.int .i64 k∧wx.ownsRow (w.heap.size+2) 99 1 v k (Sh.cellsOf (Sh.ws s.data.toList k))∧QI w wx t.list) (fun _ i _=>64 - (intOf i).toNat)
      case atStart=>exact ⟨16,by omega,by omega,rfl,HO.out,HQ.out⟩
      case round =>
        clear HO HQ
        obtain ⟨m,hm0,hm,rfl,hown,hQ⟩:=hrel
        obtain ⟨g,cap,hv,hbg,hcap,hgl,hcl⟩:=own_open hown (by omega)
        by_cases hlt:m<64
        · obtain ⟨p2,l2,c2,q2⟩:∃p:Nat,p<4294967296∧wr.cell? ⟨g,m - 2,none⟩=some (.int .u32 p)∧p=(Sh.ws s.data.toList m).getD (m - 2) 0:=⟨_,Sh.getD_lt (Sh.ws_lt _ _) _,hcl (m - 2) (by omega),rfl⟩
          obtain ⟨p15,l15,c15,q15⟩:∃p:Nat,p<4294967296∧wr.cell? ⟨g,m - 15,none⟩=some (.int .u32 p)∧p=(Sh.ws s.data.toList m).getD (m - 15) 0:=⟨_,Sh.getD_lt (Sh.ws_lt _ _) _,hcl (m - 15) (by omega),rfl⟩
          obtain ⟨p16,l16,c16,q16⟩:∃p:Nat,p<4294967296∧wr.cell? ⟨g,m - 16,none⟩=some (.int .u32 p)∧p=(Sh.ws s.data.toList m).getD (m - 16) 0:=⟨_,Sh.getD_lt (Sh.ws_lt _ _) _,hcl (m - 16) (by omega),rfl⟩
          obtain ⟨p7,l7,c7,q7⟩:∃p:Nat,p<4294967296∧wr.cell? ⟨g,m - 7,none⟩=some (.int .u32 p)∧p=(Sh.ws s.data.toList m).getD (m - 7) 0:=⟨_,Sh.getD_lt (Sh.ws_lt _ _) _,hcl (m - 7) (by omega),rfl⟩
          have HX:Hid (Sh.grow p16 p15 p7 p2=Sh.nextW s.data.toList (Sh.ws s.data.toList m)):=by
            show _=_
            rw [q2,q15,q16,q7,Sh.nextW_64 _ _ hm0]
          obtain ⟨j2,e2,r2,b2⟩:∃j:Nat,IntKind.i64.wrap ((m:Int) - 2)=(j:Int)∧j=m - 2∧(j:Int)<(m:Int):=⟨m - 2,by rw [IntKind.wrap_i64];omega,rfl,by omega⟩
          obtain ⟨j15,e15,r15,b15⟩:∃j:Nat,IntKind.i64.wrap ((m:Int) - 15)=(j:Int)∧j=m - 15∧(j:Int)<(m:Int):=⟨m - 15,by rw [IntKind.wrap_i64];omega,rfl,by omega⟩
          obtain ⟨j16,e16,r16,b16⟩:∃j:Nat,IntKind.i64.wrap ((m:Int) - 16)=(j:Int)∧j=m - 16∧(j:Int)<(m:Int):=⟨m - 16,by rw [IntKind.wrap_i64];omega,rfl,by omega⟩
          obtain ⟨j7,e7,r7,b7⟩:∃j:Nat,IntKind.i64.wrap ((m:Int) - 7)=(j:Int)∧j=m - 7∧(j:Int)<(m:Int):=⟨m - 7,by rw [IntKind.wrap_i64];omega,rfl,by omega⟩
          rw [←r2] at c2
          rw [←r15] at c15
          rw [←r16] at c16
          rw [←r7] at c7
          have hsz:w.heap.size+2≤wr.heap.size:=hQ.2.2.1
          have HQ:Hid (QI w wr t.list):=hQ
          have HBS:Hid (∀k,_→_):=own_block_le' hown
          rw [hv] at hown HBS ⊢
          have HO:Hid (wr.ownsRow (w.heap.size+2) 99 1 (.slice (some ⟨g,0,none⟩) m cap) m (Sh.cellsOf (Sh.ws s.data.toList m))):=hown
          clear hown hQ hcl q2 q15 q16 q7 r2 r15 r16 r7 hv
          go_wp2
          go_region_held3 (fun w'=>w'.cell? ⟨g,j15,none⟩=some (.int .u32 p15)) (go_keep) (first | (go_at_call 144;refine (rot32 _ _ _ (by assumption) (by decide) (by decide)).mono ?_;rintro e w' ⟨rfl,nk,rfl⟩))
          go_wp2
          go_region_held3 (fun w'=>w'.cell? ⟨g,j2,none⟩=some (.int .u32 p2)) (go_keep) (first | (go_at_call 144;refine (rot32 _ _ _ (by assumption) (by decide) (by decide)).mono ?_;rintro e w' ⟨rfl,nk,rfl⟩))
          go_wp2
          generalize hW5:wr.drewN _=W5
          have c16':W5.cell? ⟨g,j16,none⟩=some (.int .u32 p16):=by rw [←hW5];exact c16
          have c7':W5.cell? ⟨g,j7,none⟩=some (.int .u32 p7):=by rw [←hW5];exact c7
          have HO5:Hid (W5.ownsRow (w.heap.size+2) 99 1 (.slice (some ⟨g,0,none⟩) m cap) m (Sh.cellsOf (Sh.ws s.data.toList m))):=by rw [←hW5];exact HO.out
          have HQ5:Hid (QI w W5 t.list):=by rw [←hW5];exact HQ.out.drewN _
          have hsz5:w.heap.size+2≤W5.heap.size:=HQ5.out.2.2.1
          have hgl5:g<W5.heap.size:=by rw [←hW5];exact hgl
          clear hW5 c2 c15 c16 c7 HO HQ hsz hgl b2 b15 e2 e15
          obtain ⟨y1,w1,hy1⟩:∃y:Nat,IntKind.u32.wrap ((p16:Int)+bits .xor .u32 (bits .xor .u32 ((Sh.rotr p15 7:Nat):Int) ((Sh.rotr p15 18:Nat):Int)) ((p15:Int) / 8))=(y:Int)∧y=(p16+Sh.sig0 p15) % 4294967296:=⟨_,by rw [sig0_eq p15 l15,sum1],rfl⟩
          obtain ⟨y2,w2,hy2⟩:∃y:Nat,IntKind.u32.wrap ((y1:Int)+(p7:Int))=(y:Int)∧y=(y1+p7) % 4294967296:=⟨_,sum1 _ _,rfl⟩
          obtain ⟨y3,w3,hy3⟩:∃y:Nat,IntKind.u32.wrap ((y2:Int)+bits .xor .u32 (bits .xor .u32 ((Sh.rotr p2 17:Nat):Int) ((Sh.rotr p2 19:Nat):Int)) ((p2:Int) / 1024))=(y:Int)∧y=(y2+Sh.sig1 p2) % 4294967296:=⟨_,by rw [sig1_eq p2 l2,sum1],rfl⟩
          have HY:Hid (y3=Sh.nextW s.data.toList (Sh.ws s.data.toList m)):=by
            show _=_
            rw [←HX.out,hy3,hy2,hy1];rfl
          clear hy1 hy2 hy3 HX l2 l15 l16 l7
          have fit63:Hid (m+1≤maxLen):=by show _≤_;unfold maxLen;omega
          have fit47:Hid ((m+1)*4≤140737488355328):=by show _≤_;omega
          have mlt:(m:Int)≤(cap:Int):=by omega
          go_region_law ((refine step_append_lies _ (by rfl) _ _ _ (by rfl) (w.heap.size+2) 99 i0 _ 1 4 Tryz.underlying183 hi hz0 hz1 hz2 rfl (by omega) _ _ _ (by rfl) ((HO5.out.alloc _).drew) ⟨W5.heap.size,0,none⟩ 1 1 [.int .u32 (y3:Int)] (by rfl) (by rfl) (cell_new _ _ _) (by simp [Value.oneCell']) (by omega) fit63.out fit47.out (by simp;omega) (W5.heap.size+1) (by simp) ?_;intro gg cap' w1 hown1 hgrow hat hglt))
          all_goals
            have R1:Hid (w1.ownsRow (w.heap.size+2) 99 1 (.slice (some ⟨gg,0,none⟩) (m+1) cap') (m+1) (Sh.cellsOf (Sh.ws s.data.toList (m+1)))):=by
              show World.ownsRow _ _ _ _ _ _ _
              rw [Sh.cellsOf_next _ _ y3 HY.out]
              exact hown1
            have R2:Hid (QI w w1 t.list):=HQ5.out.drew.grown _ (by exact hgrow) HBS.out
            clear hown1 hgrow hat hglt HO5 HQ5 HBS c16' c7'
            go_wp2
            go_roundw
            case rel=>first | exact ⟨m+1,by omega,by omega,by go_num,R1.out,R2.out⟩ | ((repeat apply Exists.intro);exact ⟨⟨m+1,by omega,by omega,by go_num,R1.out,R2.out⟩,rfl⟩)
            case measure=>simp [intOf];omega
        · have hm64:m=64:=by omega
          subst hm64
          obtain ⟨d0,d1,d2,d3,d4,d5,d6,d7⟩:_:=CI.cells (v:=t) hQ
          have HQ:Hid (QI w wr t.list):=hQ
          rw [hv]
          obtain ⟨w0,rfl⟩:∃w0,w0=wr:=⟨_,rfl⟩
          have hwl:Hid (∀j,j<64→w0.cell? ⟨g,j,none⟩=some (.int .u32 (((Sh.ws s.data.toList 64).getD j 0:Nat):Int))):=hcl
          have hltB:w.heap.size<w0.heap.size:=by have:=hQ.2.2.1;omega
          clear hown hQ hcl hv hm hm0 hlt hcap hi hz0 hz1 hz2
          go_wp2_with (first | (go_at_call 145;refine (k33 _).mono ?_;rintro e w' ⟨rfl,rfl⟩))
          go_loopw [14] (fun i wx=>∃k:Nat,k≤64∧i=.int .i64 k∧RI w0 wx (Sh.rounds t (Sh.ws s.data.toList 64) k).list) (fun i _=>64 - (intOf i).toNat)
          case atStart=>exact ⟨0,by omega,rfl,RI.start w0 t.list⟩
          case round =>
            clear d0 d1 d2 d3 d4 d5 d6 d7
            obtain ⟨k,hk,rfl,hR⟩:=hrel
            by_cases hlt:k<64
            · obtain ⟨v,hvv⟩:∃v,v=Sh.rounds t (Sh.ws s.data.toList 64) k:=⟨_,rfl⟩
              rw [←hvv] at hR
              have hvo:v.ok:=by rw [hvv];exact Sh.rounds_ok _ HT.out k
              obtain ⟨wk,hwk,ewk⟩:∃x:Nat,wr.cell? ⟨g,k,none⟩=some (.int .u32 x)∧x=(Sh.ws s.data.toList 64).getD k 0:=⟨_,(hR.2.2.2.cell (p:=⟨g,k,none⟩) hgl).trans (hwl.out k hlt),rfl⟩
              obtain ⟨kk,hkk,ekk⟩:∃x:Nat,wr.cell? ⟨w0.heap.size+1,k,none⟩=some (.int .u32 x)∧x=Sh.K.getD k 0:=⟨_,row_cell hR.2.1 k hlt,rfl⟩
              have hnext:Hid (Sh.step v kk wk=Sh.rounds t (Sh.ws s.data.toList 64) (k+1)):=by
                show _=_
                rw [ewk,ekk,hvv]
                rfl
              have hv:=hR.1
              have c0:wr.cell? ⟨w0.heap.size,0,none⟩=some (.int .u32 (v.a:Int)):=row_cell hv 0 (show 0<8 by decide)
              have c1:wr.cell? ⟨w0.heap.size,1,none⟩=some (.int .u32 (v.b:Int)):=row_cell hv 1 (show 1<8 by decide)
              have c2:wr.cell? ⟨w0.heap.size,2,none⟩=some (.int .u32 (v.c:Int)):=row_cell hv 2 (show 2<8 by decide)
              have c3:wr.cell? ⟨w0.heap.size,3,none⟩=some (.int .u32 (v.d:Int)):=row_cell hv 3 (show 3<8 by decide)
              have c4:wr.cell? ⟨w0.heap.size,4,none⟩=some (.int .u32 (v.e:Int)):=row_cell hv 4 (show 4<8 by decide)
              have c5:wr.cell? ⟨w0.heap.size,5,none⟩=some (.int .u32 (v.f:Int)):=row_cell hv 5 (show 5<8 by decide)
              have c6:wr.cell? ⟨w0.heap.size,6,none⟩=some (.int .u32 (v.g:Int)):=row_cell hv 6 (show 6<8 by decide)
              have c7:wr.cell? ⟨w0.heap.size,7,none⟩=some (.int .u32 (v.h:Int)):=row_cell hv 7 (show 7<8 by decide)
              have fz:∀j,wr.frozen? ⟨w0.heap.size,j,none⟩=false:=row_free hv
              have HR:Hid (RI w0 wr v.list):=hR
              have HVO:Hid v.ok:=hvo
              have le:v.e<4294967296:=hvo.2.2.2.2.1
              have la:v.a<4294967296:=hvo.1
              have k0:(0:Int)≤(k:Int):=by omega
              have k1:(k:Int)<64:=by omega
              clear hR hv hvv hvo ewk ekk
              go_wp2
              go_region_held3 (fun w'=>w'.cell? ⟨w0.heap.size,4,none⟩=some (.int .u32 (v.e:Int))) (go_keep) (first | (go_at_call 144;refine (rot32 _ _ _ (by assumption) (by decide) (by decide)).mono ?_;rintro e w' ⟨rfl,nk,rfl⟩))
              go_wp2
              go_quiet (fail)
              go_wp2
              go_region_held3 (fun w'=>w'.cell? ⟨w0.heap.size,0,none⟩=some (.int .u32 (v.a:Int))) (go_keep) (first | (go_at_call 144;refine (rot32 _ _ _ (by assumption) (by decide) (by decide)).mono ?_;rintro e w' ⟨rfl,nk,rfl⟩))
              go_wp2
              go_roundw
              case rel =>
                rw [not_form v.e le,Sh.first_eq v kk wk HVO.out,Sh.fifth_eq v kk wk HVO.out]
                first | exact ⟨k+1,by omega,by go_num,by rw [←hnext.out];exact (HR.out.drewN _).stored (Sh.step v kk wk)⟩ | ((repeat apply Exists.intro);exact ⟨⟨k+1,by omega,by go_num,by rw [←hnext.out];exact (HR.out.drewN _).stored (Sh.step v kk wk)⟩,rfl⟩)
              case measure=>simp [intOf];omega
            · have hk64:k=64:=by omega
              subst hk64
              obtain ⟨v,hvv⟩:∃v,v=Sh.rounds t (Sh.ws s.data.toList 64) 64:=⟨_,rfl⟩
              rw [←hvv] at hR
              have HV:Hid (v=Sh.rounds t (Sh.ws s.data.toList 64) 64):=hvv
              have HR:Hid (RI w0 wr v.list):=hR
              clear hvv hR hk hlt hwl hgl
              go_wp2
              go_loopw [19] (fun i wx=>∃k:Nat,k≤8∧i=.int .i64 k∧RI w0 wx (Sh.addTo v.list t.list k)) (fun i _=>8 - (intOf i).toNat)
              case atStart=>exact ⟨0,by omega,rfl,HR.out⟩
              case round =>
                clear HR
                obtain ⟨m,hm,rfl,hR⟩:=hrel
                have hal:=Sh.addTo_length v.list t.list m
                have hvl:v.list.length=8:=rfl
                have htl:t.list.length=8:=rfl
                by_cases hlt:m<8
                · obtain ⟨p,hp,ep⟩:∃p:Nat,wr.cell? ⟨w0.heap.size,m,none⟩=some (.int .u32 p)∧p=(Sh.addTo v.list t.list m).getD m 0:=⟨_,row_cell hR.1 m (by omega),rfl⟩
                  obtain ⟨q,hq,eq⟩:∃p:Nat,wr.cell? ⟨w.heap.size,m,none⟩=some (.int .u32 p)∧p=t.list.getD m 0:=⟨_,(hR.2.2.2.cell (p:=⟨w.heap.size,m,none⟩) hltB).trans (row_cell HQ.out.1 m (by omega)),rfl⟩
                  have fz:wr.frozen? ⟨w0.heap.size,m,none⟩=false:=row_free hR.1 m
                  have R:Hid (RI w0 (wr.setCell ⟨w0.heap.size,m,none⟩ (.int .u32 (((p+q) % 4294967296:Nat):Int))).drew (Sh.addTo v.list t.list (m+1))):=by
                    show RI _ _ _
                    have:=(hR.put m ((p+q) % 4294967296)).drew
                    rw [ep,eq] at this ⊢
                    exact this
                  have lm0:(0:Int)≤(m:Int):=by omega
                  have lm:(m:Int)<8:=by omega
                  clear hR hal hvl htl ep eq
                  go_wp2
                  go_region
                  all_goals go_wp2
                  go_roundw
                  case rel =>
                    rw [show ((p:Int)+(q:Int)) % 4294967296=(((p+q) % 4294967296:Nat):Int) by omega]
                    first | exact ⟨m+1,by omega,by go_num,R.out⟩ | ((repeat apply Exists.intro);exact ⟨⟨m+1,by omega,by go_num,R.out⟩,rfl⟩)
                  case measure=>simp [intOf];omega
                · have hm8:m=8:=by omega
                  subst hm8
                  rw [Sh.addTo_8] at hR
                  obtain ⟨D,hD⟩:∃D,D=Sh.arr (Sh.plus v t).list:=⟨_,rfl⟩
                  have hl8:D.size=8:=by rw [hD];rfl
                  have h1:D.all (·.oneCell')=true:=by rw [hD];exact arr_one _
                  obtain ⟨hb,_,_,hnx⟩:=hR
                  rw [←hD] at hb
                  have hz:wr.heap[w.heap.size+1]?=some (.cells (Sh.arr (List.replicate 8 0)) 100 (0,0)):=(hnx.block _ (by have:=HQ.out.2.2.1;omega)).trans HQ.out.2.1
                  have hbw:Below w.heap.size w wr:=HQ.out.2.2.2.trans (hnx.mono (by omega))
                  have ht8:wr.there (w.heap.size+1) 0 D.size:=row_there hz (by rw [hl8];simp [Sh.arr])
                  have hst:=row_stored hz D (by rw [hl8];simp [Sh.arr])
                  have hbl:=below_setCells (b:=w.heap.size+1) (by omega) D.toList 0 hbw
                  have HD:Hid (D=Sh.arr (Sh.plus v t).list):=hD
                  clear hD hm hlt hnx hal hvl htl
                  go_wp2_with (first | (refine wpList_load_row rfl 100 _ rfl w0.heap.size rfl 100 D (0,0) _ hb Tryz.underlying100 rfl (by rw [hl8];exact info26) ?_) | (refine wpList_store_mid rfl 100 _ _ rfl (w.heap.size+1) 0 D rfl rfl ht8 (by rw [hl8];exact info26) h1 ?_))
                  refine bodyPost_ret (v:=.agg D) (results_cell_row rfl _ _ (w.heap.size+1) 100 D (0,0) _ rfl hst Tryz.underlying100 rfl (by rw [hl8];exact info26)) rfl ⟨by rw [HD.out,HV.out,plus_comm];rfl,hbl⟩
end Go.Proofs.YtggnfejjcgbebaaGreatDoor
