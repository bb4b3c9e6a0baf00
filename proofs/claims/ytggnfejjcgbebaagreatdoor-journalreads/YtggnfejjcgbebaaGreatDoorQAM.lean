/- Several texts, joined: JnM, JnA, JnB, JnC -/
import Derived.Test.YtggnfejjcgbebaaGreatDoorBinBxM
import Derived.Test.YtggnfejjcgbebaaGreatDoorJIM
import Derived.Test.YtggnfejjcgbebaaGreatDoorJLM
import Derived.Deep.RegionLaw
import Derived.Deep.AppendLies
/- Plain mathematics of revisions and blocks: whether they are right, their texts, what a text says. -/
namespace Go.Proofs.YtggnfejjcgbebaaGreatDoor
open Go.RowKit
open Vl (V)
namespace Jn
def i64 (n:Nat):Int:=if n<9223372036854775808 then (n:Int) else (n:Int) - 18446744073709551616
def num (n:Nat):V:=⟨2,false,i64 n,⟨#[]⟩,[],[]⟩
def txt (s:ByteArray):V:=⟨3,false,0,s,[],[]⟩
def blob (s:ByteArray):V:=⟨4,false,0,s,[],[]⟩
def lst (l:List V):V:=⟨5,false,0,⟨#[]⟩,l,[]⟩
structure R where
  kind:Nat
  table:ByteArray
  doc:Nat
  ver:Nat
  val:V
structure B where
  seq:Nat
  prev:ByteArray
  root:ByteArray
  sts:List ByteArray
  revs:List R
def R0:R:=⟨0,⟨#[]⟩,0,0,⟨0,false,0,⟨#[]⟩,[],[]⟩⟩
def B0:B:=⟨0,⟨#[]⟩,⟨#[]⟩,[],[]⟩
def most (k:Nat):Nat:=if k=1∨k=2 then 0 else 4611686018427387904
def kindV (k:Nat):Nat:=if k=2 then 3 else if k=3 then 6 else 0
def rwhy (r:R):Nat :=
  if r.kind=0∨5≤r.kind then 5
  else if r.table.size=0∨1024<r.table.size then 4
  else if Bn.u8 r.table=false then 9
  else if most r.kind<r.doc∨most r.kind<r.ver then 2
  else if Vl.check Bn.u8 0 r.val≠0 then Vl.check Bn.u8 0 r.val
  else if r.val.1≠kindV r.kind then 5 else 0
def rv (r:R):V:=lst [num r.kind,txt r.table,num r.doc,num r.ver,r.val]
def rerr (r:R):Nat:=if rwhy r≠0 then rwhy r else if Bn.werr (rv r)≠0∨1024<(Bn.wtext (rv r)).size then 4 else 0
def rtext (r:R):ByteArray:=if rerr r=0 then Bn.wtext (rv r) else ⟨#[]⟩
def first:List Nat→Nat
  | []=>0
  | x :: l=>if x≠0 then x else first l
def swhy (s:ByteArray):Nat:=if 1024<s.size then 4 else if Bn.u8 s=false then 9 else 0
def sizes (b:B):Nat :=
  if b.seq<1∨4611686018427387904<b.seq then 2
  else if b.prev.size≠32∨b.root.size≠32 then 4
  else if 64<b.sts.length∨b.revs.length<1∨64<b.revs.length then 3 else 0
def twhy (b:B):Nat:=if sizes b≠0 then sizes b else if first (b.sts.map swhy)≠0 then first (b.sts.map swhy) else first (b.revs.map rerr)
def texts (b:B):List (List UInt8):=b.revs.map fun r=>(rtext r).data.toList
def rootOf (b:B):ByteArray:=bs (Mk.root (texts b))
def bv (b:B):V:=lst [num b.seq,blob b.prev,blob b.root,lst (b.sts.map txt),lst (b.revs.map fun r=>blob (rtext r))]
def berr (b:B):Nat:=if twhy b≠0 then twhy b else if b.root≠rootOf b then 11 else Bn.werr (bv b)
def btext (b:B):ByteArray:=if berr b=0 then Bn.wtext (bv b) else ⟨#[]⟩
theorem first_zero:∀l:List Nat,first l=0 ↔ ∀x∈l,x=0
  | []=>by simp [first]
  | x :: l=>by
    rw [first]
    by_cases h:x=0
    · rw [if_neg (by simp [h]),first_zero l];simp [h]
    · rw [if_pos h];simp [h]
theorem first_app (a b:List Nat):first (a++b)=if first a≠0 then first a else first b:=by
  induction a with
  | nil=>simp [first]
  | cons x l ih =>
    rw [List.cons_append,first,first]
    by_cases h:x≠0
    · rw [if_pos h,if_pos h,if_pos h]
    · rw [if_neg h,if_neg h,ih]
theorem rtext_ok {r:R} (h:rerr r=0):rwhy r=0∧Bn.werr (rv r)=0∧rtext r=Bn.wtext (rv r)∧(rtext r).size≤1024:=by
  have e:rtext r=Bn.wtext (rv r):=by rw [rtext,if_pos h]
  rw [rerr] at h
  split at h
  · rename_i h1;exact absurd h h1
  · rename_i h1
    split at h
    · cases h
    · rename_i h2
      rw [e]
      refine ⟨by omega,by omega,rfl,by omega⟩
theorem berr_ok {b:B} (h:berr b=0):sizes b=0∧(∀s∈b.sts,swhy s=0)∧(∀r∈b.revs,rerr r=0)∧b.root=rootOf b∧Bn.werr (bv b)=0∧btext b=Bn.wtext (bv b):=by
  have e:btext b=Bn.wtext (bv b):=by rw [btext,if_pos h]
  rw [berr] at h
  split at h
  · rename_i h1;exact absurd h h1
  · rename_i h1
    split at h
    · cases h
    · rename_i h2
      have h3:twhy b=0:=by omega
      rw [twhy] at h3
      split at h3
      · rename_i h4;exact absurd h3 h4
      · rename_i h4
        split at h3
        · rename_i h5;exact absurd h3 h5
        · rename_i h5
          refine ⟨by omega,fun s hs=>?_,fun r hr=>?_,Decidable.of_not_not h2,h,e⟩
          · exact (first_zero _).1 (by omega) _ (List.mem_map.2 ⟨s,hs,rfl⟩)
          · exact (first_zero _).1 h3 _ (List.mem_map.2 ⟨r,hr,rfl⟩)
def u64 (i:Int):Nat:=(i % 18446744073709551616).toNat
theorem u64_i64 (n:Nat) (h:n<18446744073709551616):u64 (i64 n)=n:=by
  unfold u64 i64
  split<;>omega
def ofV:V→R
  | ⟨_,_,_,_,l,_⟩=>match l with
    | [⟨_,_,k,_,_,_⟩,⟨_,_,_,t,_,_⟩,⟨_,_,d,_,_,_⟩,⟨_,_,e,_,_,_⟩,v]=>⟨u64 k % 256,t,u64 d,u64 e,v⟩
    | _=>R0
def Says (s:ByteArray) (r:R):Prop:=(∃u,Bn.Is s u∧r=ofV u)∨((∀u,¬Bn.Is s u)∧r=R0)
theorem Says.one {s:ByteArray} {r q:R} (h:Says s r) (k:Says s q):r=q:=by
  rcases h with ⟨u,h1,rfl⟩ | ⟨h1,rfl⟩
  · rcases k with ⟨v,k1,rfl⟩ | ⟨k1,_⟩
    · rw [h1.one k1]
    · exact absurd h1 (k1 u)
  · rcases k with ⟨v,k1,_⟩ | ⟨_,rfl⟩
    · exact absurd k1 (h1 v)
    · rfl
def SaysB:V→B→Prop
  | ⟨_,_,_,_,l,_⟩,b=>match l with
    | [⟨_,_,n,_,_,_⟩,⟨_,_,_,p,_,_⟩,⟨_,_,_,r,_,_⟩,⟨_,_,_,_,ss,_⟩,⟨_,_,_,_,rs,_⟩] =>
      b.seq=u64 n∧b.prev=p∧b.root=r∧b.sts=ss.map (fun (x:V)=>x.4)∧b.revs.length=rs.length∧∀(i:Nat) (x:V) (q:R),rs[i]?=some x→b.revs[i]?=some q→Says x.4 q
    | _=>b=B0
end Jn
end Go.Proofs.YtggnfejjcgbebaaGreatDoor
/- Values of numbers and texts, as the journal makes them. -/
namespace Go.Proofs.YtggnfejjcgbebaaGreatDoor
open Go.RowKit
open Vl (V)
theorem heap_new2 (W:World) (o p:Obj):((W.alloc o).alloc p).heap[W.heap.size+1]?=some p:=by
  have:=heap_alloc_new (W.alloc o) p
  rwa [show (W.alloc o).heap.size=W.heap.size+1 by simp] at this
def flat (k:Nat) (n:Int) (s:ByteArray):Value:=.agg #[.int .u8 (k:Int),.bool false,.int .i64 n,.string s,.slice none 0 0,.slice none 0 0]
set_option maxHeartbeats 1000000 in
theorem asNumber_c (n:Nat) (hn:n<18446744073709551616) (w:World) :
    Calls Tryz.prog 48 #[.int .u64 (n:Int)] w fun e w'=>e=.returned (flat 2 (Jn.i64 n) ⟨#[]⟩)∧Below w.heap.size w w':=by
  obtain ⟨m,hm⟩:∃m,m=Jn.i64 n:=⟨_,rfl⟩
  have q:IntKind.i64.wrap (n:Int)=m:=by
    rw [hm,IntKind.wrap_i64,Jn.i64]
    split<;>omega
  rw [←hm]
  clear hm
  go_enter Tryz.func48,Tryz.ntmps48
  go_wp2
  exact bodyPost_ret (v:=.agg #[.int .u8 2,.bool false,.int .i64 m,.string ⟨#[]⟩,.slice none 0 0,.slice none 0 0]) (results_cell_row rfl _ _ w.heap.size 32 #[.int .u8 2,.bool false,.int .i64 m,.string ⟨#[]⟩,.slice none 0 0,.slice none 0 0] (0,0) _ rfl (heap_alloc_new w _) Tryz.underlying32 rfl infoVal) rfl ⟨rfl,below_new _ _⟩
set_option maxHeartbeats 1000000 in
theorem asText_c (s:ByteArray) (w:World) :
    Calls Tryz.prog 49 #[.string s] w fun e w'=>e=.returned (flat 3 0 s)∧Below w.heap.size w w':=by
  go_enter Tryz.func49,Tryz.ntmps49
  go_wp2
  exact bodyPost_ret (v:=.agg #[.int .u8 3,.bool false,.int .i64 0,.string s,.slice none 0 0,.slice none 0 0]) (results_cell_row rfl _ _ w.heap.size 32 #[.int .u8 3,.bool false,.int .i64 0,.string s,.slice none 0 0,.slice none 0 0] (0,0) _ rfl (heap_alloc_new w _) Tryz.underlying32 rfl infoVal) rfl ⟨rfl,below_new _ _⟩
set_option maxHeartbeats 1000000 in
theorem asBlob_c (s:ByteArray) (w:World) :
    Calls Tryz.prog 65 #[.string s] w fun e w'=>e=.returned (flat 4 0 s)∧Below w.heap.size w w':=by
  go_enter Tryz.func65,Tryz.ntmps65
  go_wp2
  exact bodyPost_ret (v:=.agg #[.int .u8 4,.bool false,.int .i64 0,.string s,.slice none 0 0,.slice none 0 0]) (results_cell_row rfl _ _ w.heap.size 32 #[.int .u8 4,.bool false,.int .i64 0,.string s,.slice none 0 0,.slice none 0 0] (0,0) _ rfl (heap_alloc_new w _) Tryz.underlying32 rfl infoVal) rfl ⟨rfl,below_new _ _⟩
set_option maxHeartbeats 1000000 in
theorem asItIs_c (xk:Nat) (xb:Bool) (xn:Int) (xs:ByteArray) (xa:Option Addr) (xl xc:Nat) (ya:Option Addr) (yl yc:Nat) (w:World) :
    Calls Tryz.prog 47 #[.agg #[.int .u8 (xk:Int),.bool xb,.int .i64 xn,.string xs,.slice xa xl xc,.slice ya yl yc]] w fun e w'=>e=.returned (.agg #[.int .u8 (xk:Int),.bool xb,.int .i64 xn,.string xs,.slice xa xl xc,.slice ya yl yc])∧Below w.heap.size w w':=by
  go_enter Tryz.func47,Tryz.ntmps47
  go_wp2
  exact bodyPost_ret (v:=.agg #[.int .u8 (xk:Int),.bool xb,.int .i64 xn,.string xs,.slice xa xl xc,.slice ya yl yc]) (results_cell_row rfl _ _ (w.heap.size+1) 32 #[.int .u8 (xk:Int),.bool xb,.int .i64 xn,.string xs,.slice xa xl xc,.slice ya yl yc] (0,0) _ rfl (heap_new2 w _ _) Tryz.underlying32 rfl infoVal) rfl ⟨rfl,below_new2 _ _ _⟩
end Go.Proofs.YtggnfejjcgbebaaGreatDoor
/- Whether a revision is right. -/
namespace Go.Proofs.YtggnfejjcgbebaaGreatDoor
open Go.RowKit
open Vl (V)
attribute [local go_sem ↓] Go.wp_at_zero Go.wp_at_succ
theorem mostOf_c (k:Nat) (w:World):Calls Tryz.prog 84 #[.int .u8 (k:Int)] w fun e w'=>e=.returned (.int .u64 (Jn.most k:Int))∧w'=w:=by
  by_cases h1:k=1
  · subst h1
    go_enter Tryz.func84,Tryz.ntmps84
    go_wp2
    go_ret
    exact ⟨rfl,rfl⟩
  · have q1:((k:Int)==1)=false:=by rw [beq_eq_false_iff_ne];omega
    by_cases h2:k=2
    · subst h2
      go_enter Tryz.func84,Tryz.ntmps84
      go_wp2
      go_ret
      exact ⟨rfl,rfl⟩
    · have q2:((k:Int)==2)=false:=by rw [beq_eq_false_iff_ne];omega
      have e:Jn.most k=4611686018427387904:=by rw [Jn.most,if_neg (by omega)]
      rw [e]
      go_enter Tryz.func84,Tryz.ntmps84
      go_wp2
      go_ret
      exact ⟨rfl,rfl⟩
theorem valueOf_c (k:Nat) (w:World):Calls Tryz.prog 86 #[.int .u8 (k:Int)] w fun e w'=>e=.returned (.int .u8 (Jn.kindV k:Int))∧w'=w:=by
  by_cases h1:k=2
  · subst h1
    go_enter Tryz.func86,Tryz.ntmps86
    go_wp2
    go_ret
    exact ⟨rfl,rfl⟩
  · have q1:((k:Int)==2)=false:=by rw [beq_eq_false_iff_ne];omega
    by_cases h2:k=3
    · subst h2
      go_enter Tryz.func86,Tryz.ntmps86
      go_wp2
      go_ret
      exact ⟨rfl,rfl⟩
    · have q2:((k:Int)==3)=false:=by rw [beq_eq_false_iff_ne];omega
      have e:Jn.kindV k=0:=by rw [Jn.kindV,if_neg h1,if_neg h2]
      rw [e]
      go_enter Tryz.func86,Tryz.ntmps86
      go_wp2
      go_ret
      exact ⟨rfl,rfl⟩
set_option maxHeartbeats 8000000 in
set_option maxRecDepth 10000 in
theorem checkRev_c (k:Nat) (tb:ByteArray) (d e:Nat) (t:V) (hk:k<256) (htb:tb.size≤maxLen) (xk:Nat) (xb:Bool) (xn:Int) (xs:ByteArray) (xa:Option Addr) (xl xc:Nat) (ya:Option Addr) (yl yc:Nat) (hx:xk=t.1) (w:World) (hU:Bn.HasU w) (H:Nat) (hH:H≤w.heap.size)
    (hR:Rep w H t (.agg #[.int .u8 (xk:Int),.bool xb,.int .i64 xn,.string xs,.slice xa xl xc,.slice ya yl yc])) :
    Calls Tryz.prog 44 #[.agg #[.int .u8 (k:Int),.string tb,.int .u64 (d:Int),.int .u64 (e:Int),.int .u8 (xk:Int),.bool xb,.int .i64 xn,.string xs,.slice xa xl xc,.slice ya yl yc]] w fun en w'=>en=.returned (.int .i64 (Jn.rwhy ⟨k,tb,d,e,t⟩:Int))∧Below w.heap.size w w':=by
  obtain ⟨B,hB⟩:∃B,B=w.heap.size:=⟨_,rfl⟩
  obtain ⟨w1,hw1⟩:∃w1,w1=w.alloc (.cells #[.int .u8 (k:Int),.string tb,.int .u64 (d:Int),.int .u64 (e:Int),.int .u8 (xk:Int),.bool xb,.int .i64 xn,.string xs,.slice xa xl xc,.slice ya yl yc] 34):=⟨_,rfl⟩
  have hrow:w1.heap[B]?=some (.cells #[.int .u8 (k:Int),.string tb,.int .u64 (d:Int),.int .u64 (e:Int),.int .u8 (xk:Int),.bool xb,.int .i64 xn,.string xs,.slice xa xl xc,.slice ya yl yc] 34 (0,0)):=by rw [hw1,hB];exact heap_alloc_new w _
  have hBlt:B<w1.heap.size:=(Array.getElem?_eq_some_iff.1 hrow).1
  have hb1:Below w.heap.size w w1:=by rw [hw1];exact below_new _ _
  have HC:Hid (∀W,Below w1.heap.size w1 W→W.cell? ⟨B,0,none⟩=some (.int .u8 (k:Int))∧W.cell? ⟨B,1,none⟩=some (.string tb)∧W.cell? ⟨B,2,none⟩=some (.int .u64 (d:Int))∧W.cell? ⟨B,3,none⟩=some (.int .u64 (e:Int))∧W.cell? ⟨B,4,none⟩=some (.int .u8 (xk:Int))∧W.cell? ⟨B,5,none⟩=some (.bool xb)∧W.cell? ⟨B,6,none⟩=some (.int .i64 xn)∧W.cell? ⟨B,7,none⟩=some (.string xs)∧W.cell? ⟨B,8,none⟩=some (.slice xa xl xc)∧W.cell? ⟨B,9,none⟩=some (.slice ya yl yc)):=fun W hW=>by
    have h:=(hW.block B hBlt).trans hrow
    exact ⟨block_cells h 0 _ rfl,block_cells h 1 _ rfl,block_cells h 2 _ rfl,block_cells h 3 _ rfl,block_cells h 4 _ rfl,block_cells h 5 _ rfl,block_cells h 6 _ rfl,block_cells h 7 _ rfl,block_cells h 8 _ rfl,block_cells h 9 _ rfl⟩
  have HB:Hid (∀W,Below w1.heap.size w1 W→Below w.heap.size w W):=fun W hW=>hb1.trans (hW.mono hb1.size)
  obtain ⟨u,hu⟩:∃u,u=Bn.u8 tb:=⟨_,rfl⟩
  obtain ⟨q,hq⟩:∃q,q=Vl.check Bn.u8 0 t:=⟨_,rfl⟩
  have CU:Hid (∀W,Below w1.heap.size w1 W→Calls Tryz.prog 83 #[.string tb] W fun e w'=>e=.returned (.bool u)∧Below W.heap.size W w'):=fun W hW=>by
    rw [hu];exact Bn.hasU.says tb W htb (hU.stays (HB.out W hW))
  have CC:Hid (∀W,Below w1.heap.size w1 W→Calls Tryz.prog 85 #[.agg #[.int .u8 (xk:Int),.bool xb,.int .i64 xn,.string xs,.slice xa xl xc,.slice ya yl yc]] W fun e w'=>e=.returned (.int .i64 (q:Int))∧Below W.heap.size W w'):=fun W hW=>by
    rw [hq];exact check27 t W (hU.stays (HB.out W hW)) H _ (by have:=(HB.out W hW).size;omega) (rep_stays ((HB.out W hW).mono hH) (Nat.le_refl _) t _ hR)
  obtain ⟨m,hm⟩:∃m,m=Jn.most k:=⟨_,rfl⟩
  obtain ⟨v,hv⟩:∃v,v=Jn.kindV k:=⟨_,rfl⟩
  have CM:Hid (∀W,Calls Tryz.prog 84 #[.int .u8 (k:Int)] W fun e w'=>e=.returned (.int .u64 (m:Int))∧w'=W):=fun W=>by rw [hm];exact mostOf_c k W
  have CV:Hid (∀W,Calls Tryz.prog 86 #[.int .u8 (k:Int)] W fun e w'=>e=.returned (.int .u8 (v:Int))∧w'=W):=fun W=>by rw [hv];exact valueOf_c k W
  obtain ⟨rz,hrz⟩:∃rz,rz=Jn.rwhy ⟨k,tb,d,e,t⟩:=⟨_,rfl⟩
  rw [←hrz]
  have HW:Hid (rz=if k=0∨5≤k then 5 else if tb.size=0∨1024<tb.size then 4 else if u=false then 9 else if m<d∨m<e then 2 else if q≠0 then q else if xk≠v then 5 else 0):=by
    show _=_
    rw [hrz,Jn.rwhy,hu,hq,hm,hv,hx]
  have B1:Hid (Below w1.heap.size w1 w1):=Below.refl _ _
  have HT:Hid (tb.size=0→(tb.toList==[])=true):=fun h=>by
    have h2:tb.data.toList=[]:=List.eq_nil_of_length_eq_zero (by rw [←Lib.size_eq];exact h)
    rw [Lib.toList_data,h2];rfl
  have HT2:Hid (tb.size≠0→(tb.toList==[])=false):=fun h=>by
    rw [beq_eq_false_iff_ne,Lib.toList_data]
    intro e
    exact h (by rw [Lib.size_eq,e];rfl)
  clear hR hU hrow hb1 hu hq hm hv hx hrz
  go_enter Tryz.func44,Tryz.ntmps44
  go_upto_region 1 with fail
  rw [←hw1,←hB]
  clear hw1 hB
  obtain ⟨p0,p1,p2,p3,p4,p5,p6,p7,p8,p9⟩:=HC.out w1 B1.out
  have HF:=HB.out w1 B1.out
  by_cases c1:k=0∨5≤k
  · have e1:Hid (rz=5):=by show _=_;rw [HW.out,if_pos c1]
    by_cases h0:k=0
    · have q1:(k:Int)≤0:=by omega
      go_wp2
      go_ret
      exact ⟨by rw [e1.out];rfl,HF⟩
    · have q1:¬(k:Int)≤0:=by omega
      have q2:(5:Int)≤(k:Int):=by omega
      go_wp2
      go_ret
      exact ⟨by rw [e1.out];rfl,HF⟩
  have q1:¬(k:Int)≤0:=by omega
  have q2:¬(5:Int)≤(k:Int):=by omega
  by_cases c2:tb.size=0∨1024<tb.size
  · have e1:Hid (rz=4):=by show _=_;rw [HW.out,if_neg c1,if_pos c2]
    by_cases h0:tb.size=0
    · have q3:=HT.out h0
      go_wp2
      go_ret
      exact ⟨by rw [e1.out];rfl,HF⟩
    · have q3:=HT2.out h0
      have q4:(1024:Int)<(tb.size:Int):=by omega
      go_wp2
      go_ret
      exact ⟨by rw [e1.out];rfl,HF⟩
  have q3:=HT2.out (by omega)
  have q4:¬(1024:Int)<(tb.size:Int):=by omega
  cases u with
  | false =>
    have e1:Hid (rz=9):=by show _=_;rw [HW.out,if_neg c1,if_neg c2,if_pos rfl]
    go_wp2_with fail
    refine (CU.out _ B1.out).mono ?_
    rintro en w2 ⟨rfl,hb2⟩
    have HF2:=HF.trans (hb2.mono HF.size)
    go_wp2
    go_ret
    exact ⟨by rw [e1.out];rfl,HF2⟩
  | true =>
    go_wp2_with fail
    refine (CU.out _ B1.out).mono ?_
    rintro en w2 ⟨rfl,hb2⟩
    have B2:Hid (Below w1.heap.size w1 w2):=hb2
    clear hb2 p0 p1 p2 p3 p4 p5 p6 p7 p8 p9 HF B1 CU
    go_upto_region 7 with fail
    have p0:∀p:BelowOf w2.heap.size w2,p.W.cell? ⟨B,0,none⟩=some (.int .u8 (k:Int)):=fun p=>(HC.out _ (B2.out.trans (p.h.mono B2.out.size))).1
    have p2:∀p:BelowOf w2.heap.size w2,p.W.cell? ⟨B,2,none⟩=some (.int .u64 (d:Int)):=fun p=>(HC.out _ (B2.out.trans (p.h.mono B2.out.size))).2.2.1
    have p3:∀p:BelowOf w2.heap.size w2,p.W.cell? ⟨B,3,none⟩=some (.int .u64 (e:Int)):=fun p=>(HC.out _ (B2.out.trans (p.h.mono B2.out.size))).2.2.2.1
    by_cases c4:m<d∨m<e
    · have e1:Hid (rz=2):=by show _=_;rw [HW.out,if_neg c1,if_neg c2,if_neg (by simp),if_pos c4]
      by_cases h0:m<d
      · have q5:(m:Int)<(d:Int):=by omega
        refine wp_region_below w2.heap.size w2 (Below.refl _ _) (by kernel_rfl) (by kernel_rfl) ?_
        repeat (go_big_quiet_step (first | (go_at_call 84;exact below_same _ (CM.out _))))
        refine wpQuiet_nil ?_
        intro _ hw'
        obtain ⟨pq,hw''⟩:=hw'
        subst hw''
        have HF:=HB.out _ (B2.out.trans (pq.h.mono B2.out.size))
        go_wp2
        go_ret
        exact ⟨by rw [e1.out];rfl,HF⟩
      · have q5:¬(m:Int)<(d:Int):=by omega
        have q6:(m:Int)<(e:Int):=by omega
        refine wp_region_below w2.heap.size w2 (Below.refl _ _) (by kernel_rfl) (by kernel_rfl) ?_
        repeat (go_big_quiet_step (first | (go_at_call 84;exact below_same _ (CM.out _))))
        refine wpQuiet_nil ?_
        intro _ hw'
        obtain ⟨pq,hw''⟩:=hw'
        subst hw''
        have HF:=HB.out _ (B2.out.trans (pq.h.mono B2.out.size))
        go_wp2
        go_ret
        exact ⟨by rw [e1.out];rfl,HF⟩
    · have q5:¬(m:Int)<(d:Int):=by omega
      have q6:¬(m:Int)<(e:Int):=by omega
      refine wp_region_below w2.heap.size w2 (Below.refl _ _) (by kernel_rfl) (by kernel_rfl) ?_
      repeat (go_big_quiet_step (first | (go_at_call 84;exact below_same _ (CM.out _))))
      refine wpQuiet_nil ?_
      intro _ hw'
      obtain ⟨pq,hw''⟩:=hw'
      subst hw''
      obtain ⟨w3,hw3⟩:∃W,W=pq.W:=⟨_,rfl⟩
      have B3:Hid (Below w1.heap.size w1 w3):=by rw [hw3];exact B2.out.trans (pq.h.mono B2.out.size)
      rw [←hw3]
      clear hw3 pq p0 p2 p3 B2 CM
      obtain ⟨p0,p1,p2,p3,p4,p5,p6,p7,p8,p9⟩:=HC.out w3 B3.out
      go_wp2_with fail
      refine (CC.out _ B3.out).mono ?_
      rintro en w4 ⟨rfl,hb4⟩
      have B4:Hid (Below w1.heap.size w1 w4):=B3.out.trans (hb4.mono B3.out.size)
      have HF:=HB.out _ B4.out
      clear hb4 p0 p1 p2 p3 p4 p5 p6 p7 p8 p9 B3 CC
      by_cases c5:q=0
      · have q7:((q:Int)==0)=true:=by rw [beq_iff_eq];omega
        go_upto_region 12 with fail
        have p0:∀p:BelowOf w4.heap.size w4,p.W.cell? ⟨B,0,none⟩=some (.int .u8 (k:Int)):=fun p=>(HC.out _ (B4.out.trans (p.h.mono B4.out.size))).1
        have p4:∀p:BelowOf w4.heap.size w4,p.W.cell? ⟨B,4,none⟩=some (.int .u8 (xk:Int)):=fun p=>(HC.out _ (B4.out.trans (p.h.mono B4.out.size))).2.2.2.2.1
        by_cases c6:xk=v
        · have e1:Hid (rz=0):=by show _=_;rw [HW.out,if_neg c1,if_neg c2,if_neg (by simp),if_neg c4,if_neg (by simp [c5]),if_neg (by simp [c6])]
          have q8:((xk:Int)==(v:Int))=true:=by rw [beq_iff_eq];omega
          refine wp_region_below w4.heap.size w4 (Below.refl _ _) (by kernel_rfl) (by kernel_rfl) ?_
          repeat (go_big_quiet_step (first | (go_at_call 86;exact below_same _ (CV.out _))))
          refine wpQuiet_nil ?_
          intro _ hw'
          obtain ⟨pq,hw''⟩:=hw'
          subst hw''
          have HF:=HB.out _ (B4.out.trans (pq.h.mono B4.out.size))
          go_wp2
          go_ret
          exact ⟨by rw [e1.out];rfl,HF⟩
        · have e1:Hid (rz=5):=by show _=_;rw [HW.out,if_neg c1,if_neg c2,if_neg (by simp),if_neg c4,if_neg (by simp [c5]),if_pos c6]
          have q8:((xk:Int)==(v:Int))=false:=by rw [beq_eq_false_iff_ne];omega
          refine wp_region_below w4.heap.size w4 (Below.refl _ _) (by kernel_rfl) (by kernel_rfl) ?_
          repeat (go_big_quiet_step (first | (go_at_call 86;exact below_same _ (CV.out _))))
          refine wpQuiet_nil ?_
          intro _ hw'
          obtain ⟨pq,hw''⟩:=hw'
          subst hw''
          have HF:=HB.out _ (B4.out.trans (pq.h.mono B4.out.size))
          go_wp2
          go_ret
          exact ⟨by rw [e1.out];rfl,HF⟩
      · have e1:Hid (rz=q):=by show _=_;rw [HW.out,if_neg c1,if_neg c2,if_neg (by simp),if_neg c4,if_pos c5]
        have q7:((q:Int)==0)=false:=by rw [beq_eq_false_iff_ne];omega
        go_wp2
        go_ret
        exact ⟨by rw [e1.out];rfl,HF⟩
end Go.Proofs.YtggnfejjcgbebaaGreatDoor
/- A list of values, made part by part. -/
namespace Go.Proofs.YtggnfejjcgbebaaGreatDoor
open Go.RowKit
open Vl (V)
attribute [local go_sem ↓] Go.wp_at_zero Go.wp_at_succ
structure LB (w:World) (K:List V) (lv:Value) (W:World):Prop where
  below:Below w.heap.size w W
  out:Row6 W w.heap.size (.int .u8 0) (.bool false) (.int .i64 0) (.string ⟨#[]⟩) (.slice none 0 0) (.slice none 0 0)
  box:Row6 W (w.heap.size+1) (.int .u8 5) (.bool false) (.int .i64 0) (.string ⟨#[]⟩) lv (.slice none 0 0)
  row:∃cs,W.ownsRow (w.heap.size+2) 32 6 lv K.length cs∧Kept w w.heap.size cs K
theorem LB.call {w W W':World} {K:List V} {lv:Value} (h:LB w K lv W) (hb:Below W.heap.size W W'):LB w K lv W' :=
  ⟨h.below.trans (hb.mono h.below.size),h.out.call hb,h.box.call hb,h.row.imp fun _ hc=>⟨own_call hc.1 hb,hc.2⟩⟩
theorem LB.start (w:World):LB w [] (.slice none 0 0) ((w.alloc (.cells #[.int .u8 0,.bool false,.int .i64 0,.string ⟨#[]⟩,.slice none 0 0,.slice none 0 0] 32)).alloc (.cells #[.int .u8 5,.bool false,.int .i64 0,.string ⟨#[]⟩,.slice none 0 0,.slice none 0 0] 32)):=by
  refine ⟨below_new2 _ _ _,?_,?_,[],⟨rfl,.inl ⟨rfl,rfl⟩⟩,Kept.none _ _⟩
  · exact Row6.call (w:=w.alloc _) ⟨by simp,heap_alloc_new w _⟩ (below_new _ _)
  · exact ⟨by simp,heap_new2 w _ _⟩
theorem LB.next {w W W3 W4 W5:World} {K:List V} {lv:Value} {t:V} {gg cap:Nat} {c0 c1 c2 c3 c4 c5:Value} {cs:List Value} (h:LB w K lv W) (h3:Below W.heap.size W W3) (h4:Below W3.heap.size W3 W4) (hk:Kept w w.heap.size cs K) (ho:W.ownsRow (w.heap.size+2) 32 6 lv K.length cs)
    (hr:Rep w w.heap.size t (.agg #[c0,c1,c2,c3,c4,c5])) (hg:W4.grownBy W5 lv.ownBlock) (hn:W5.ownsRow (w.heap.size+2) 32 6 (.slice (some ⟨gg,0,none⟩) (K.length+1) cap) (K.length+1) (cs++[c0,c1,c2,c3,c4,c5])) :
    LB w (K++[t]) (.slice (some ⟨gg,0,none⟩) (K.length+1) cap) (W5.setCell ⟨w.heap.size+1,4,none⟩ (.slice (some ⟨gg,0,none⟩) (K.length+1) cap))∧Row6 W5 (w.heap.size+1) (.int .u8 5) (.bool false) (.int .i64 0) (.string ⟨#[]⟩) lv (.slice none 0 0):=by
  have hb:Below W.heap.size W W4:=h3.trans (h4.mono h3.size)
  have hW4:=h.call hb
  have hs2:w.heap.size+2≤W4.heap.size:=by have:=hW4.box.1;omega
  have hle:∀k,lv.ownBlock=some k→w.heap.size+2≤k:=by
    intro k hk2
    rcases ho.2 with ⟨rfl,_⟩ | ⟨g,cap',cur,rfl,hg',_⟩
    · simp [Value.ownBlock] at hk2
    · simp [Value.ownBlock] at hk2;omega
  have hb5:Below (w.heap.size+2) W4 W5:=(Below.refl _ _).grown hg hs2 hle
  have out5:Row6 W5 w.heap.size (.int .u8 0) (.bool false) (.int .i64 0) (.string ⟨#[]⟩) (.slice none 0 0) (.slice none 0 0):=hW4.out.keep hg.size (hb5.block _ (by omega))
  have box5:Row6 W5 (w.heap.size+1) (.int .u8 5) (.bool false) (.int .i64 0) (.string ⟨#[]⟩) lv (.slice none 0 0):=hW4.box.keep hg.size (hb5.block _ (by omega))
  refine ⟨⟨?_,out5.other (by omega),box5.set4,cs++[c0,c1,c2,c3,c4,c5],?_,hk.more hr⟩,box5⟩
  · exact (hW4.below.trans (hb5.mono (by omega))).setCell (by show w.heap.size≤w.heap.size+1;omega) _
  · rw [List.length_append]
    exact ownsRow_setCell_below hn (by show w.heap.size+1<w.heap.size+2;omega) _
theorem LB.done {w W:World} {K:List V} {lv:Value} (h:LB w K lv W) (hK:K.length≤maxLen) :
    (W.setCells w.heap.size 0 [.int .u8 5,.bool false,.int .i64 0,.string ⟨#[]⟩,lv,.slice none 0 0]).heap[w.heap.size]?=some (.cells #[.int .u8 5,.bool false,.int .i64 0,.string ⟨#[]⟩,lv,.slice none 0 0] 32 (0,0))∧Below w.heap.size w (W.setCells w.heap.size 0 [.int .u8 5,.bool false,.int .i64 0,.string ⟨#[]⟩,lv,.slice none 0 0])∧Rep (W.setCells w.heap.size 0 [.int .u8 5,.bool false,.int .i64 0,.string ⟨#[]⟩,lv,.slice none 0 0]) (W.setCells w.heap.size 0 [.int .u8 5,.bool false,.int .i64 0,.string ⟨#[]⟩,lv,.slice none 0 0]).heap.size (Jn.lst K) (.agg #[.int .u8 5,.bool false,.int .i64 0,.string ⟨#[]⟩,lv,.slice none 0 0]):=by
  have hst:(W.setCells w.heap.size 0 [.int .u8 5,.bool false,.int .i64 0,.string ⟨#[]⟩,lv,.slice none 0 0]).heap[w.heap.size]?=some (.cells #[.int .u8 5,.bool false,.int .i64 0,.string ⟨#[]⟩,lv,.slice none 0 0] 32 (0,0)):=Z6.put h.out _ _ _ _ _ _
  have k6:∀k,k≠w.heap.size→(W.setCells w.heap.size 0 [.int .u8 5,.bool false,.int .i64 0,.string ⟨#[]⟩,lv,.slice none 0 0]).heap[k]?=W.heap[k]?:=fun k hk=>setCells_block hk _
  have s6:(W.setCells w.heap.size 0 [.int .u8 5,.bool false,.int .i64 0,.string ⟨#[]⟩,lv,.slice none 0 0]).heap.size=W.heap.size:=size_setCellsV' _ _ _ _
  have b6:Below w.heap.size w (W.setCells w.heap.size 0 [.int .u8 5,.bool false,.int .i64 0,.string ⟨#[]⟩,lv,.slice none 0 0]):=below_setCellsV (Nat.le_refl _) _ _ h.below
  obtain ⟨w6,hw6⟩:∃w6,w6=W.setCells w.heap.size 0 [.int .u8 5,.bool false,.int .i64 0,.string ⟨#[]⟩,lv,.slice none 0 0]:=⟨_,rfl⟩
  rw [←hw6] at hst k6 s6 b6 ⊢
  clear hw6
  refine ⟨hst,b6,?_⟩
  obtain ⟨cs,ho,hk⟩:=h.row
  have hr:∀t v,Rep w w.heap.size t v→Rep w6 w6.heap.size t v:=fun t v hr=>rep_stays b6 b6.size t v hr
  rcases ho.2 with ⟨rfl,h0⟩ | ⟨g,cap,cur,rfl,hg,hc,hx⟩
  · have hK0:K=[]:=List.eq_nil_of_length_eq_zero h0
    subst hK0
    rw [Jn.lst,Rep]
    exact ⟨none,0,none,0,rfl,by omega,by omega,by decide,by simp,by simp,fun h=>by simp at h,fun h=>by simp at h⟩
  · have hne:g≠w.heap.size:=by omega
    have ho6:w6.ownsRow (w.heap.size+2) 32 6 (.slice (some ⟨g,0,none⟩) K.length cap) K.length cs:=⟨ho.1,.inr ⟨g,cap,cur,rfl,hg,(k6 g hne).trans hc,hx⟩⟩
    rw [Jn.lst,Rep]
    refine ⟨some ⟨g,0,none⟩,cap,none,0,rfl,by omega,by omega,by decide,hK,by simp,fun _=>⟨g,0,rfl,by rw [s6];exact (Array.getElem?_eq_some_iff.1 hc).1,repL_mk K 0 fun j t hj=>?_⟩,fun h=>by simp at h⟩
    obtain ⟨c0,c1,c2,c3,c4,c5,e0,e1,e2,e3,e4,e5,hrr⟩:=hk.2 j t hj
    refine ⟨c0,c1,c2,c3,c4,c5,?_,hr _ _ hrr⟩
    rw [Nat.zero_add]
    exact ⟨own_cell ho6 e0,own_cell ho6 e1,own_cell ho6 e2,own_cell ho6 e3,own_cell ho6 e4,own_cell ho6 e5⟩
set_option maxHeartbeats 8000000 in
set_option maxRecDepth 100000 in
theorem listV_c (g o n c:Nat) (ts:List V) (hn:n=ts.length) (hn2:n≤1048576) (w:World) (hg:g<w.heap.size) (hR:RepL w w.heap.size g o ts) :
    Calls Tryz.prog 46 #[.func (.func 47) #[] #[],.slice (some ⟨g,o,none⟩) n c] w fun e w'=>∃a c',e=.returned (.agg #[.int .u8 5,.bool false,.int .i64 0,.string ⟨#[]⟩,.slice a n c',.slice none 0 0])∧Rep w' w'.heap.size (Jn.lst ts) (.agg #[.int .u8 5,.bool false,.int .i64 0,.string ⟨#[]⟩,.slice a n c',.slice none 0 0])∧Below w.heap.size w w':=by
  obtain ⟨i0,hi,hz0,hz1,hz2⟩:=info_parts info26'
  have HR:Hid (RepL w w.heap.size g o ts):=hR
  have HN:Hid (n=ts.length):=hn
  clear hR hn
  go_enter Tryz.func46,Tryz.ntmps46
  go_wp2
  go_loopw [11] (fun i wr=>∃(j:Nat) (lv:Value),j≤n∧i=.int .i64 j∧LB w (ts.take j) lv wr) (fun i _=>n - (intOf i).toNat)
  case atStart=>exact ⟨0,_,Nat.zero_le _,rfl,LB.start w⟩
  case round =>
    obtain ⟨j,lv,hj,rfl,hS⟩:=hrel
    have S:Hid (LB w (ts.take j) lv wr):=hS
    clear hS
    by_cases hlt:j<n
    · obtain ⟨x,hx⟩:∃x,ts[j]?=some x:=⟨_,List.getElem?_eq_getElem (by rw [←HN.out];exact hlt)⟩
      obtain ⟨c0,c1,c2,c3,c4,c5,hsix,hrx⟩:=repL_at ts o HR.out j x hx
      obtain ⟨d0,d1,d2,d3,d4,d5⟩:=hsix.stays S.out.below hg
      obtain ⟨xk,xb,xn,xs,xa,xl,xc,ya,yl,yc,rfl,rfl,rfl,rfl,rfl,rfl⟩:=rep_form hrx
      have HX:Hid (ts[j]?=some x):=hx
      have HRX:Hid (Rep w w.heap.size x (.agg #[.int .u8 (xk:Int),.bool xb,.int .i64 xn,.string xs,.slice xa xl xc,.slice ya yl yc])):=hrx
      have hlj:(ts.take j).length=j:=by rw [List.length_take,←HN.out];omega
      have HLJ:Hid ((ts.take j).length=j):=hlj
      clear hx hrx hsix hlj
      go_upto_region 5 with fail
      obtain ⟨w2,hw2⟩:∃w2,w2=wr.alloc (.cells #[.int .u8 (xk:Int),.bool xb,.int .i64 xn,.string xs,.slice xa xl xc,.slice ya yl yc] 32):=⟨_,rfl⟩
      obtain ⟨B,hB⟩:∃B,B=wr.heap.size:=⟨_,rfl⟩
      have hb2:Below wr.heap.size wr w2:=by rw [hw2];exact below_new _ _
      have S2:Hid (LB w (ts.take j) lv w2):=S.out.call hb2
      have HBX:Hid (Row6 w2 B (.int .u8 (xk:Int)) (.bool xb) (.int .i64 xn) (.string xs) (.slice xa xl xc) (.slice ya yl yc)):=by
        show Row6 _ _ _ _ _ _ _ _
        rw [hw2,hB];exact ⟨by simp,heap_alloc_new wr _⟩
      have C9:Hid (∀W,Calls Tryz.prog 47 #[.agg #[.int .u8 (xk:Int),.bool xb,.int .i64 xn,.string xs,.slice xa xl xc,.slice ya yl yc]] W fun e w'=>e=.returned (.agg #[.int .u8 (xk:Int),.bool xb,.int .i64 xn,.string xs,.slice xa xl xc,.slice ya yl yc])∧Below W.heap.size W w'):=fun W=>asItIs_c xk xb xn xs xa xl xc ya yl yc W
      rw [←hw2,←hB]
      clear hw2 hB hb2 d0 d1 d2 d3 d4 d5 S
      obtain ⟨cs,hown,hel⟩:=S2.out.row
      rw [HLJ.out] at hown
      have HOWN:Hid (w2.ownsRow (w.heap.size+2) 32 6 lv j cs):=hown
      have HEL:Hid (Kept w w.heap.size cs (ts.take j)):=hel
      clear hown hel
      obtain ⟨p0,p1,p2,p3,p4,p5⟩:=S2.out.box.cells
      obtain ⟨q0,q1,q2,q3,q4,q5⟩:=HBX.out.cells
      have ltB:=HBX.out.1
      have ltO:=S2.out.box.1
      have fit63:Hid (j+1≤maxLen):=by show _≤_;unfold maxLen;omega
      have fit47:Hid ((j+1)*80≤140737488355328):=by show _≤_;omega
      go_region_law (first
        | (go_simp;go_at_call 47;refine (C9.out _).mono ?_;rintro e w3 ⟨rfl,hb3⟩
           have HB3:Hid (Below w2.heap.size w2 w3):=(by first | exact (Below.refl _ _).drew.trans hb3 | exact hb3)
           obtain ⟨r0,r1,r2,r3,r4,r5⟩:=(S2.out.call HB3.out).box.cells
           have lt3:=(S2.out.call HB3.out).box.1
           clear hb3)
        | (revert HB3;intro HB3
           refine step_append_lies _ (by rfl) _ _ _ (by rfl) (w.heap.size+2) 32 i0 _ 6 80 Tryz.underlying29 hi hz0 hz1 hz2 rfl (by omega) lv j cs (by rfl) ((own_call HOWN.out HB3.out).alloc _) ⟨w3.heap.size,0,none⟩ 1 1 [.int .u8 (xk:Int),.bool xb,.int .i64 xn,.string xs,.slice xa xl xc,.slice ya yl yc] (by rfl) (by rfl) (World.news_of_block (heap_alloc_new w3 _)) (by simp [Value.oneCell']) (by omega) fit63.out fit47.out (by simp;omega) (w3.heap.size+1) (by simp) ?_;intro gg cap w5 hown5 hgrow hat hglt
           have N:=LB.next S2.out HB3.out (below_new _ _) HEL.out (by rw [HLJ.out];exact HOWN.out) HRX.out hgrow (by rw [HLJ.out];exact hown5)
           rw [HLJ.out] at N
           have S5:Hid (LB w (ts.take j++[x]) (.slice (some ⟨gg,0,none⟩) (j+1) cap) (w5.setCell ⟨w.heap.size+1,4,none⟩ (.slice (some ⟨gg,0,none⟩) (j+1) cap))):=N.1
           obtain ⟨t0,t1,t2,t3,t4,t5⟩:=N.2.cells
           have fz5:=N.2.free
           have lt5:=N.2.1
           clear N hown5 hgrow hat hglt)
        | fail "no arm")
      all_goals
        have S6:Hid (LB w (ts.take (j+1)) (.slice (some ⟨gg,0,none⟩) (j+1) cap) (w5.setCell ⟨w.heap.size+1,4,none⟩ (.slice (some ⟨gg,0,none⟩) (j+1) cap))):=by
          show LB _ _ _ _
          rw [List.take_add_one,HX.out]
          exact S5.out
        go_wp2
        go_roundw
        case rel=>first | exact ⟨j+1,_,by omega,by go_num,S6.out⟩ | ((repeat apply Exists.intro);exact ⟨⟨j+1,_,by omega,by go_num,S6.out⟩,rfl⟩)
        case measure=>simp [intOf];omega
    · have hjn:j=n:=by omega
      subst hjn
      have hall:ts.take j=ts:=List.take_of_length_le (by rw [←HN.out];exact Nat.le_refl _)
      have S9:Hid (LB w ts lv wr):=by have h:=S.out;rw [hall] at h;exact h
      obtain ⟨a,c',hlv⟩:∃a c',lv=.slice a j c':=by
        obtain ⟨cs,ho,_⟩:=S9.out.row
        rcases ho.2 with ⟨h,h0⟩ | ⟨g',cap,cur,h,_⟩
        · exact ⟨none,0,by rw [h,HN.out,h0]⟩
        · exact ⟨_,cap,by rw [h,←HN.out]⟩
      subst hlv
      have F:=S9.out.done (by rw [←HN.out];unfold maxLen;omega)
      have HF:Hid _:=F
      obtain ⟨p0,p1,p2,p3,p4,p5⟩:=S9.out.box.cells
      obtain ⟨q0,q1,q2,q3,q4,q5⟩:=S9.out.out.cells
      have fz:=S9.out.out.free
      clear F S hall
      go_wp2
      have F:=HF.out
      rw [sets6]
      exact bodyPost_ret (v:=.agg #[.int .u8 5,.bool false,.int .i64 0,.string ⟨#[]⟩,.slice a j c',.slice none 0 0]) (results_cell_row rfl _ _ w.heap.size 32 #[.int .u8 5,.bool false,.int .i64 0,.string ⟨#[]⟩,.slice a j c',.slice none 0 0] (0,0) _ rfl F.1 Tryz.underlying32 rfl infoVal) rfl ⟨_,_,rfl,F.2.2,F.2.1⟩
end Go.Proofs.YtggnfejjcgbebaaGreatDoor
