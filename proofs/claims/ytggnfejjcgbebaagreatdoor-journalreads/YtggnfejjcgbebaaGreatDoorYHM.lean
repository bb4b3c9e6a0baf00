/- Several texts, joined: RkP, RkQ, JnRe -/
import Derived.Test.YtggnfejjcgbebaaGreatDoorYGM
import Derived.Test.YtggnfejjcgbebaaGreatDoorXCM
import Derived.Test.YtggnfejjcgbebaaGreatDoorQKM
import Derived.Test.YtggnfejjcgbebaaGreatDoorXEM
/- Of frames, as the document looks for them; blocks so far. -/
namespace Go.Proofs.YtggnfejjcgbebaaGreatDoor
open Go.RowKit
open Vl (V)
attribute [local go_sem ↓] Go.wp_at_zero Go.wp_at_succ
def BRX (W:World) (n₀:Nat) (X:Option Nat) (lv:Value) (bs:List Jn.B):Prop:=∃cs,W.ownsRow n₀ 26 5 lv bs.length cs∧cs.length=bs.length*5∧(∀g,lv.ownBlock=some g→X≠some g)∧∀j b,bs[j]?=some b→∃sv rv A,(∀i v,(BC b sv rv)[i]?=some v→cs[j*5+i]?=some v)∧BkI W A b sv rv∧∀g,A g→n₀≤g∧g<W.heap.size∧lv.ownBlock≠some g∧X≠some g
theorem BRX.none (W:World) (n₀:Nat) (X:Option Nat):BRX W n₀ X (.slice none 0 0) []:=⟨[],⟨rfl,.inl ⟨rfl,rfl⟩⟩,rfl,fun g h=>by simp [Value.ownBlock] at h,fun j b h=>by simp at h⟩
theorem BRX.row {W:World} {n₀:Nat} {X:Option Nat} {lv:Value} {bs:List Jn.B} (h:BRX W n₀ X lv bs):BlkRow W n₀ lv bs:=by
  obtain ⟨cs,h1,h2,_,h3⟩:=h
  refine ⟨cs,h1,h2,fun j b hj=>?_⟩
  obtain ⟨sv,rv,A,k1,k2,k3⟩:=h3 j b hj
  exact ⟨sv,rv,A,k1,k2,fun g hg=>⟨(k3 g hg).1,(k3 g hg).2.1,(k3 g hg).2.2.1⟩⟩
theorem BRX.step {W W':World} {n₀:Nat} {X X':Option Nat} {lv:Value} {bs:List Jn.B} (h:BRX W n₀ X lv bs) (hs:W.heap.size≤W'.heap.size) (hb:∀g,n₀≤g→g<W.heap.size→X≠some g→W'.heap[g]?=W.heap[g]?∧X'≠some g):BRX W' n₀ X' lv bs:=by
  obtain ⟨cs,h1,h2,h0,h3⟩:=h
  refine ⟨cs,own_block h1 fun g hg=>?_,h2,fun g hg=>?_,fun j b hj=>?_⟩
  · obtain ⟨k1,k2⟩:=own_in h1 g hg
    exact (hb g k1 k2 (h0 g hg)).1
  · obtain ⟨k1,k2⟩:=own_in h1 g hg
    exact (hb g k1 k2 (h0 g hg)).2
  · obtain ⟨sv,rv,A,k1,k2,k3⟩:=h3 j b hj
    exact ⟨sv,rv,A,k1,k2.stays fun g hg=>(hb g (k3 g hg).1 (k3 g hg).2.1 (k3 g hg).2.2.2).1,fun g hg=>⟨(k3 g hg).1,Nat.lt_of_lt_of_le (k3 g hg).2.1 hs,(k3 g hg).2.2.1,(hb g (k3 g hg).1 (k3 g hg).2.1 (k3 g hg).2.2.2).2⟩⟩
theorem BRX.call {W W':World} {n₀:Nat} {X:Option Nat} {lv:Value} {bs:List Jn.B} (h:BRX W n₀ X lv bs) (hb:Below W.heap.size W W'):BRX W' n₀ X lv bs:=h.step hb.size fun g _ hg hX=>⟨hb.block g hg,hX⟩
theorem BRX.more {W W':World} {n₀:Nat} {X:Option Nat} {lv lv':Value} {bs:List Jn.B} {b:Jn.B} {sv rv:Value} {A:Nat→Prop} {cs:List Value} (hc:cs.length=bs.length*5) (hX:∀g,X=some g→g<W.heap.size) (hlX:∀g,lv.ownBlock=some g→X≠some g) (h3:∀j b,bs[j]?=some b→∃sv rv A,(∀i v,(BC b sv rv)[i]?=some v→cs[j*5+i]?=some v)∧BkI W A b sv rv∧∀g,A g→n₀≤g∧g<W.heap.size∧lv.ownBlock≠some g∧X≠some g)
    (hb:BkI W A b sv rv) (hA:∀g,A g→n₀≤g∧g<W.heap.size∧lv.ownBlock≠some g∧X≠some g) (hg:W.grownBy W' lv.ownBlock) (hat:lv'.ownBlock=lv.ownBlock∨lv'.ownBlock=some W.heap.size) (hn:W'.ownsRow n₀ 26 5 lv' (bs.length+1) (cs++BC b sv rv)):BRX W' n₀ X lv' (bs++[b]):=by
  have move:∀A:Nat→Prop,(∀g,A g→n₀≤g∧g<W.heap.size∧lv.ownBlock≠some g∧X≠some g)→∀g,A g→W'.heap[g]?=W.heap[g]?∧n₀≤g∧g<W'.heap.size∧lv'.ownBlock≠some g∧X≠some g:=by
    intro A hA g hg'
    obtain ⟨k1,k2,k3,k4⟩:=hA g hg'
    refine ⟨hg.block g k2 (fun q=>k3 q.symm),k1,Nat.lt_of_lt_of_le k2 hg.size,?_,k4⟩
    rcases hat with e | e
    · rw [e];exact k3
    · rw [e];intro q;simp at q;omega
  refine ⟨cs++BC b sv rv,by rw [List.length_append];exact hn,by simp [hc,BC];omega,fun g hg' q=>?_,fun j u hj=>?_⟩
  · rcases hat with e | e
    · rw [e] at hg';exact hlX g hg' q
    · rw [e] at hg'
      have:=hX g q
      simp at hg'
      omega
  rcases Nat.lt_or_ge j bs.length with hlt | hge
  · rw [List.getElem?_append_left hlt] at hj
    obtain ⟨sv',rv',A',k1,k2,k3⟩:=h3 j u hj
    refine ⟨sv',rv',A',fun i v hi=>?_,k2.stays fun g hg'=>(move A' k3 g hg').1,fun g hg'=>(move A' k3 g hg').2⟩
    have hi5:i<5:=by have:=(List.getElem?_eq_some_iff.1 hi).1;simpa [BC] using this
    rw [List.getElem?_append_left (by omega)]
    exact k1 i v hi
  · have hj2:j=bs.length:=by
      have:=(List.getElem?_eq_some_iff.1 hj).1
      simp at this;omega
    subst hj2
    rw [List.getElem?_append_right (Nat.le_refl _),Nat.sub_self] at hj
    simp at hj
    subst hj
    refine ⟨sv,rv,A,fun i v hi=>?_,hb.stays fun g hg'=>(move A hA g hg').1,fun g hg'=>(move A hA g hg').2⟩
    rw [List.getElem?_append_right (by omega),←hc,Nat.add_sub_cancel_left]
    exact hi
set_option maxHeartbeats 2000000 in
theorem firstR_c (w:World):Calls Tryz.prog 64 #[] w fun e w'=>e=.returned (.string Jn.ahead)∧Below w.heap.size w w':=by
  obtain ⟨i0,hi,hz0,hz1,hz2⟩:=info_parts info5
  obtain ⟨M,hM⟩:∃M,M=madeCells (Value.int .u8 0).cells (32*i0.size):=⟨_,rfl⟩
  have hmk:∀u:World,(Instr.makeSlice 61 (.int .i64 32) (.int .i64 32)).run Tryz.prog u=.ok (.slice (some ⟨u.heap.size,0,none⟩) 32 32) (u.alloc (.cells M 5)):=fun u=>by
    have h:=run_make (P:=Tryz.prog) u 61 5 i0 (.int .u8 0) Tryz.underlying61 hi hz0 .i64 .i64 32 32 (by omega) (by omega) (by rw [hz2];omega) (by omega)
    rw [show (32:Int).toNat=32 by omega,←hM] at h
    exact h
  have HO:(w.alloc (.cells M 5)).ownsRow w.heap.size 5 1 (.slice (some ⟨w.heap.size,0,none⟩) 32 32) (List.replicate 32 (0:UInt8)).length (Lib.byteCells (List.replicate 32 (0:UInt8))):=by
    have e:M=(Lib.byteCells (List.replicate 32 (0:UInt8))).toArray:=by rw [hM,hz1];exact made_bytes 32
    rw [e]
    exact ⟨by simp [Lib.byteCells],.inr ⟨w.heap.size,32,_,rfl,Nat.le_refl _,heap_alloc_new w _,by simp,by unfold maxLen;omega,by simp [Lib.byteCells],by simp [Lib.byteCells]⟩⟩
  obtain ⟨g,n,cap,str,hv,hc,hs⟩:=own_string HO (by decide)
  injection hv with h1 h2 h3
  injection h1 with h1
  injection h1 with h1
  subst h1 h2 h3
  clear hM HO
  go_enter Tryz.func64,Tryz.ntmps64
  go_wp2
  go_ret
  exact ⟨by rw [hs.out];rfl,below_new _ _⟩
structure RW (w W:World) (bs:List Jn.B) (ov:Value):Prop where
  below:Below w.heap.size w W
  took:Jn.Took (bs.map Jn.btext) bs
  row:BRX W w.heap.size none ov bs
theorem RW.call {w W W':World} {bs:List Jn.B} {ov:Value} (h:RW w W bs ov) (hb:Below W.heap.size W W'):RW w W' bs ov :=
  ⟨h.below.trans (hb.mono h.below.size),h.took,h.row.call hb⟩
theorem RW.put {w w1 w2 wx:World} {bs:List Jn.B} {c:Jn.B} {ov sv rv:Value} (h:RW w w1 bs ov) (h12:Below w1.heap.size w1 w2) (hbn:BkN w2 w1.heap.size c sv rv) (h2x:Below w2.heap.size w2 wx) (ht:Jn.Took ((bs++[c]).map Jn.btext) (bs++[c])) :
    ∃cs,wx.ownsRow w.heap.size 26 5 ov bs.length cs∧∀ov' w9,w9.ownsRow w.heap.size 26 5 ov' (bs.length+1) (cs++BC c sv rv)→wx.grownBy w9 ov.ownBlock→(ov'.ownBlock=ov.ownBlock∨ov'.ownBlock=some wx.heap.size)→RW w w9 (bs++[c]) ov':=by
  have h09:Below w1.heap.size w1 wx:=h12.trans (h2x.mono h12.size)
  have hI:BkI wx (fun g=>w1.heap.size≤g∧g<w2.heap.size∧CellsAt w2 g) c sv rv:=hbn.bki.stays fun g hg=>h2x.block g hg.2.1
  obtain ⟨cs0,ho0,_⟩:=h.row
  have hovl:∀g,ov.ownBlock=some g→g<w1.heap.size:=fun g hg=>(own_in ho0 g hg).2
  obtain ⟨cs,k1,k2,k3,k4⟩:=h.row.call h09
  refine ⟨cs,k1,fun ov' w9 hn hg hat=>?_⟩
  have s1:=h.below.size
  have s3:=h12.size
  have s4:=h2x.size
  have hw2:Below w.heap.size w wx:=h.below.trans (h09.mono h.below.size)
  refine ⟨hw2.grown hg hw2.size (fun k hk=>(own_in k1 k hk).1),ht,BRX.more (A:=fun g=>w1.heap.size≤g∧g<w2.heap.size∧CellsAt w2 g) k2 (fun g hg=>by cases hg) k3 k4 hI (fun g hg=>⟨by have:=hg.1;omega,by have:=hg.2.1;omega,fun q=>?_,fun q=>by cases q⟩) hg hat hn⟩
  have:=hovl g q;have:=hg.1;omega
namespace Jn
theorem ext_ext (s:ByteArray) (a i j:Nat) (h:a+j≤s.size):(s.extract a s.size).extract i j=s.extract (a+i) (a+j):=by
  refine ba_ext ?_
  simp only [ext_list]
  have hl:s.data.toList.length=s.size:=by rw [←Lib.size_eq]
  rw [List.drop_take,List.drop_drop,List.take_take]
  congr 1
  omega
theorem ext_end (s:ByteArray) (a i:Nat) (h:a≤s.size):(s.extract a s.size).extract i (s.extract a s.size).size=s.extract (a+i) s.size:=by
  have e:(s.extract a s.size).size=s.size - a:=by rw [ByteArray.size_extract];omega
  rw [e,ext_ext s a i (s.size - a) (by omega)]
  congr 1
  omega
theorem ff_only {r t:ByteArray} (h:ff r=some t):unc (r.extract 0 4).data.toList=t.size∧12+t.size≤r.size∧t.size≤16384∧r.extract 12 (12+t.size)=t∧r.extract 0 (12+t.size)=frameOf t:=by
  have h1:=ff_size h
  have h2:=ff_small h
  have h3:=ff_back h
  have hu:unc (r.extract 0 4).data.toList=t.size:=by
    rw [ff] at h
    by_cases h12:r.size<12
    · rw [if_pos h12] at h;cases h
    rw [if_neg h12] at h
    by_cases hmin:(min (r.size - 12) 16384)<unc (r.extract 0 4).data.toList
    · rw [if_pos hmin] at h;cases h
    rw [if_neg hmin] at h
    split at h
    · replace h:=Option.some.inj h
      rw [←h,ByteArray.size_extract,ByteArray.size_extract];omega
    · cases h
  have hf:(frameOf t).size=12+t.size:=by
    have e:=congrArg ByteArray.size h3
    rw [ByteArray.size_append,ByteArray.size_extract] at e
    omega
  have hfl:(frameOf t).data.toList.length=12+t.size:=by rw [←Lib.size_eq];exact hf
  have h4:r.data.toList=(frameOf t).data.toList++(r.extract (12+t.size) r.size).data.toList:=by
    have e:=congrArg (fun x:ByteArray=>x.data.toList) h3
    simp only [app_list] at e
    exact e
  have h0:r.extract 0 (12+t.size)=frameOf t:=by
    refine ba_ext ?_
    rw [ext_list,h4,List.drop_zero,List.take_append_of_le_length (by omega),List.take_of_length_le (by omega)]
  refine ⟨hu,h1,h2,?_,h0⟩
  refine ba_ext ?_
  have h5:(frameOf t).data.toList=(bs (cnt t.size)++sealOf (bs (cnt t.size)) t).data.toList++t.data.toList:=by rw [frameOf,app_list]
  have h6:(bs (cnt t.size)++sealOf (bs (cnt t.size)) t).data.toList.length=12:=by
    have e:=congrArg List.length h5
    rw [List.length_append,hfl,←Lib.size_eq (s:=t)] at e
    omega
  rw [ext_list,h4,h5,List.append_assoc,List.drop_append_of_le_length (by omega),List.drop_of_length_le (by omega),List.nil_append,List.take_append_of_le_length (by rw [←Lib.size_eq];omega),List.take_of_length_le (by rw [←Lib.size_eq];omega)]
theorem ff_yes {r t:ByteArray} (hs:12+t.size≤r.size) (h2:t.size≤16384) (h:r.extract 0 (12+t.size)=frameOf t):ff r=some t:=by
  have e:r=frameOf t++r.extract (12+t.size) r.size:=by
    refine ba_ext ?_
    rw [←h,app_list]
    simp only [ext_list]
    have hl:r.data.toList.length=r.size:=by rw [←Lib.size_eq]
    rw [List.drop_zero,List.take_of_length_le (l:=r.data.toList.drop (12+t.size)) (by rw [List.length_drop];omega),Nat.sub_zero,List.take_append_drop]
  rw [e]
  exact (ff_frame t _ h2).1
theorem unc_at (s:ByteArray) (a:Nat) (h:a+4≤s.size):unc ((s.extract a s.size).extract 0 4).data.toList=(s.data.toList.getD a 0).toNat+256*(s.data.toList.getD (a+1) 0).toNat+65536*(s.data.toList.getD (a+2) 0).toNat+16777216*(s.data.toList.getD (a+3) 0).toNat:=by
  have hl:s.data.toList.length=s.size:=by rw [←Lib.size_eq]
  rw [ext_ext s a 0 4 h,ext_list,show a+4 - (a+0)=4 by omega,show a+0=a from rfl]
  obtain ⟨l,hle⟩:∃l,l=s.data.toList:=⟨_,rfl⟩
  rw [←hle] at hl ⊢
  rw [List.drop_eq_getElem_cons (by omega),List.drop_eq_getElem_cons (by omega),List.drop_eq_getElem_cons (by omega),List.drop_eq_getElem_cons (by omega)]
  simp only [List.take_succ_cons,List.take_zero,unc,List.getD_eq_getElem?_getD]
  rw [List.getElem?_eq_getElem (by omega),List.getElem?_eq_getElem (by omega),List.getElem?_eq_getElem (by omega),List.getElem?_eq_getElem (by omega)]
  simp only [Option.getD_some,Nat.add_assoc,Nat.reduceAdd]
  omega
def Far (s:ByteArray) (ts:List ByteArray):Prop:=total ts≤s.size∧frs s=ts++frs (s.extract (total ts) s.size)
theorem Far.start (s:ByteArray):Far s []:=by
  refine ⟨Nat.zero_le _,?_⟩
  have e:s.extract (total []) s.size=s:=by
    refine ba_ext ?_
    rw [ext_list]
    show (s.data.toList.drop 0).take (s.size - 0)=_
    rw [List.drop_zero,List.take_of_length_le (by rw [←Lib.size_eq];omega)]
  rw [e];rfl
theorem Far.next {s t:ByteArray} {ts:List ByteArray} (h:Far s ts) (hf:ff (s.extract (total ts) s.size)=some t):Far s (ts++[t])∧total (ts++[t])=total ts+12+t.size:=by
  have h1:=(ff_only hf).2.1
  rw [ByteArray.size_extract] at h1
  have e:=total_snoc ts t
  refine ⟨⟨by have:=h.1;omega,?_⟩,by omega⟩
  have h2:=h.2
  rw [frs_some hf,ext_end s _ _ h.1] at h2
  rw [h2,e,List.append_assoc]
  rfl
theorem Far.all {s:ByteArray} {ts:List ByteArray} (h:Far s ts) (hf:ff (s.extract (total ts) s.size)=none):ts=frs s:=by
  rw [h.2,frs_none hf,List.append_nil]
theorem Far.ends {s t:ByteArray} {ts:List ByteArray} (h:Far s ts) (hf:ff (s.extract (total ts) s.size)=some t):ts++[t] <+: frs s:=by
  rw [h.2,frs_some hf]
  exact ⟨frs ((s.extract (total ts) s.size).extract (12+t.size) (s.extract (total ts) s.size).size),by simp⟩
theorem Far.pre {s:ByteArray} {ts:List ByteArray} (h:Far s ts):ts <+: frs s:=⟨_,h.2.symm⟩
end Jn
end Go.Proofs.YtggnfejjcgbebaaGreatDoor
/- The document's Scan. -/
namespace Go.Proofs.YtggnfejjcgbebaaGreatDoor
open Go.RowKit
open Vl (V)
attribute [local go_sem ↓] Go.wp_at_zero Go.wp_at_succ
theorem wr64 {x:Int} {c:Nat} (h:x=(c:Int)) (hc:c≤4611686018427387904):IntKind.i64.wrap x=(c:Int)∧wrap64 x=(c:Int):=by
  subst h
  exact ⟨by rw [IntKind.wrap_i64];omega,by unfold wrap64;omega⟩
theorem wrU {x:Int} {c:Nat} (h:x=(c:Int)) (hc:c<18446744073709551616):IntKind.u64.wrap x=(c:Int):=by
  subst h
  rw [IntKind.wrap_u64];omega
theorem wsub {s a b:Nat} (h:b=s - a) (ha:a≤s) (hs:s≤140737488351232):IntKind.i64.wrap ((s:Int) - (a:Int))=(b:Int)∧wrap64 ((s:Int) - (a:Int))=(b:Int):=wr64 (by omega) (by omega)
theorem wadd {a k c:Nat} (h:c=a+k) (hc:c≤4611686018427387904):IntKind.i64.wrap ((a:Int)+(k:Int))=(c:Int)∧wrap64 ((a:Int)+(k:Int))=(c:Int):=wr64 (by omega) hc
theorem wsubk {b k c:Nat} (h:c=b - k) (hk:k≤b) (hc:b≤4611686018427387904):IntKind.i64.wrap ((b:Int) - (k:Int))=(c:Int)∧wrap64 ((b:Int) - (k:Int))=(c:Int):=wr64 (by omega) (by omega)
theorem umul {k y m:Nat} (h:m=k*y) (hk:k≤16777216) (hy:y<256):IntKind.u64.wrap ((k:Int)*(y:Int))=(m:Int):=by
  refine wrU (by rw [h,Int.natCast_mul]) ?_
  have:k*y≤16777216*256:=Nat.mul_le_mul hk (by omega)
  omega
theorem sums4 {y0 y1 y2 y3 m1 m2 m3 p1 p2 nn:Nat} (h1:m1=256*y1) (h2:m2=65536*y2) (h3:m3=16777216*y3) (h4:p1=y0+m1) (h5:p2=p1+m2) (h6:nn=p2+m3) (hy:y0<256∧y1<256∧y2<256∧y3<256):p1<4294967296∧p2<4294967296∧nn<4294967296∧nn=y0+256*y1+65536*y2+16777216*y3:=by omega
theorem ends4 {b s a cc ax ez nn:Nat} (h1:b=s - a) (h2:cc=b - 12) (h3:12≤b) (h4:ax=a+12) (h5:ez=ax+nn) (h6:¬cc<nn) (h7:a≤s):ax=a+12∧ez=a+12+nn∧ez≤s∧a≤ez∧ax≤ez:=by omega
theorem few1 {n s:Nat} (h:n*88≤s) (hs:s≤140737488351232):n≤1599289640354:=by omega
theorem few2 {n:Nat} (h:n≤1599289640354):(n+1)*88≤140737488355328:=by omega
theorem ez4 {ax a ez nn s:Nat} (h:ax=a+12∧ez=a+12+nn∧ez≤s∧a≤ez∧ax≤ez):a<ez:=by omega
theorem uadd {p m r:Nat} (h:r=p+m) (hr:r<18446744073709551616):IntKind.u64.wrap ((p:Int)+(m:Int))=(r:Int):=wrU (by omega) hr
theorem ff_big {s:ByteArray} {a b cc nn:Nat} (hb:b=s.size - a) (hc:cc=b - 12∧12≤b) (hu:Jn.unc ((s.extract a s.size).extract 0 4).data.toList=nn) (h:cc<nn):Jn.ff (s.extract a s.size)=none:=by
  rcases hf:Jn.ff (s.extract a s.size) with _ | t
  · rfl
  · exfalso
    have h1:=Jn.ff_only hf
    have h5:=h1.2.1
    rw [ByteArray.size_extract] at h5
    rw [h1.1] at hu
    omega
theorem ff_hit {s t fs:ByteArray} {a ax ez nn:Nat} (ht:t=s.extract ax ez) (hfs:fs=s.extract a ez) (hE:ax=a+12∧ez=a+12+nn∧ez≤s.size∧a≤ez∧ax≤ez) (hu:Jn.unc ((s.extract a s.size).extract 0 4).data.toList=nn):t.size=nn∧(Jn.frameOf t=fs→nn≤16384→Jn.ff (s.extract a s.size)=some t)∧(¬(Jn.frameOf t=fs∧nn≤16384)→Jn.ff (s.extract a s.size)=none):=by
  have h3:t.size=nn:=by rw [ht,ByteArray.size_extract];omega
  refine ⟨h3,fun h1 h2=>?_,fun h0=>?_⟩
  · refine Jn.ff_yes (by rw [ByteArray.size_extract];omega) (by omega) ?_
    have e1:a+(12+t.size)=ez:=by omega
    rw [Jn.ext_ext s a 0 (12+t.size) (by omega),h1,hfs,e1,Nat.add_zero]
  · rcases hf:Jn.ff (s.extract a s.size) with _ | t'
    · rfl
    · exfalso
      have h1:=Jn.ff_only hf
      rw [h1.1] at hu
      have h5:=h1.2.1
      rw [ByteArray.size_extract] at h5
      have h6:=h1.2.2.2.1
      have h7:=h1.2.2.2.2
      rw [Jn.ext_ext s a 12 (12+t'.size) (by omega)] at h6
      rw [Jn.ext_ext s a 0 (12+t'.size) (by omega)] at h7
      have e2:a+(12+t'.size)=ez:=by omega
      rw [e2,←hE.1] at h6
      rw [e2,Nat.add_zero] at h7
      have e1:t=t':=by rw [ht,←h6]
      refine h0 ⟨?_,by have:=h1.2.2.1;omega⟩
      rw [e1,←h7,hfs]
theorem slice_run (s:ByteArray) {i j:Nat} (h:i≤j) (h2:j≤s.size) (wx:World):(Instr.slice 9 (.string s) (some (.int .i64 (i:Int))) (some (.int .i64 (j:Int))) none).run Tryz.prog wx=.ok (.string (s.extract i j)) wx:=by
  rw [run_slice_string_if (P:=Tryz.prog) wx 9 s .i64 .i64 i j Tryz.underlying9,if_pos ⟨by omega,by omega⟩,if_pos ⟨by omega,by omega⟩];rfl
theorem RW.scan {w W:World} {s:ByteArray} {bs:List Jn.B} {ov:Value} {a:Nat} (h:RW w W bs ov) (hf:Jn.Far s (bs.map Jn.btext)) (ha:a=Jn.total (bs.map Jn.btext)) (he:Jn.ff (s.extract a s.size)=none∨∃t,Jn.ff (s.extract a s.size)=some t∧Jn.Ends bs t):ScanGave s w (.returned (.tuple #[ov,.int .i64 (a:Int)])) W:=by
  subst ha
  refine ⟨h.below,bs.map Jn.btext,bs,ov,h.took,hf.pre,?_,rfl,h.row.row⟩
  rcases he with he | ⟨t,he,hE⟩
  · exact .inl (hf.all he)
  · exact .inr ⟨t,hf.ends he,hE⟩
theorem ff_short {s:ByteArray} {a:Nat} (h:s.size - a<12):Jn.ff (s.extract a s.size)=none:=by
  rw [Jn.ff,if_pos (by rw [ByteArray.size_extract];omega)]
theorem arQ {m a e:Nat} (h1:a<e) (h2:e≤m):m - ((e:Int)).toNat<m - ((a:Int)).toNat:=by omega
theorem RW.few {w W:World} {s:ByteArray} {bs:List Jn.B} {ov:Value} (h:RW w W bs ov) (hf:Jn.Far s (bs.map Jn.btext)):bs.length*88≤s.size:=h.took.few fun _ ht=>hf.pre.subset ht
theorem ends_seq {bs:List Jn.B} {b:Jn.B} {t:ByteArray} (hb:Jn.berr b=0) (hr:Jn.rngB b) (ht:Jn.btext b=t) (h:b.seq≠bs.length+1∨b.prev≠Jn.prevOf bs):Jn.Ends bs t:=by
  intro c hc hrc hct hs hp
  obtain rfl:=Jn.btext_inj hc hb hrc hr (hct.trans ht.symm)
  rcases h with h | h
  · exact h hs
  · exact h hp
theorem ends_no {bs:List Jn.B} {t:ByteArray} (h:∀c,Jn.berr c=0→Jn.rngB c→Jn.btext c≠t):Jn.Ends bs t:=fun c hc hr ht _ _=>h c hc hr ht
set_option maxHeartbeats 64000000 in
set_option maxRecDepth 100000 in
theorem rscan_c (s:ByteArray) (hs:s.size≤140737488351232) (w:World):Calls Tryz.prog 22 #[.string s] w (ScanGave s w):=by
  obtain ⟨ib,hib,hb0,hb1,hb2⟩:=info_parts infoBlk3
  have CF:Hid (∀W,Calls Tryz.prog 64 #[] W fun e w'=>e=.returned (.string Jn.ahead)∧Below W.heap.size W w'):=fun W=>firstR_c W
  have CR:Hid (∀x W,Calls Tryz.prog 20 #[.string x] W (BlockRead x W)):=fun x W=>rreadB_c x W
  have HS:Hid (s.size≤140737488351232):=hs
  have hs63:s.size≤9223372036854775807:=by omega
  clear hs
  go_enter Tryz.func22,Tryz.ntmps22
  go_wp2_with fail
  refine (CF.out _).mono ?_
  rintro e w1 ⟨rfl,hbw⟩
  have S1:Hid (RW w w1 [] (.slice none 0 0)):=⟨hbw,Jn.Took.none,BRX.none _ _ _⟩
  clear hbw CF
  go_wp2
  go_loopw [4,5,6] (fun lv pv i wr=>∃(bs:List Jn.B) (oa:Option Addr) (n oc a:Nat),lv=.slice oa n oc∧pv=.string (Jn.prevOf bs)∧i=.int .i64 (a:Int)∧n=bs.length∧a=Jn.total (bs.map Jn.btext)∧RW w wr bs (.slice oa n oc)∧Jn.Far s (bs.map Jn.btext)) (fun _ _ i _=>s.size - (intOf i).toNat)
  case atStart=>exact ⟨[],none,0,0,0,rfl,rfl,rfl,rfl,rfl,S1.out,Jn.Far.start s⟩
  case round =>
    obtain ⟨bs,oa,n,oc,a,rfl,rfl,rfl,hn,ha,hS,hF⟩:=hrel
    have S:Hid (RW w wr bs (.slice oa n oc)):=hS
    have HFar:Hid (Jn.Far s (bs.map Jn.btext)):=hF
    have HA:Hid (a=Jn.total (bs.map Jn.btext)):=ha
    have HN:Hid (n=bs.length):=hn
    have HL:Hid (a≤s.size∧n*88≤s.size):=⟨by rw [ha];exact hF.1,by rw [hn];exact hS.few hF⟩
    clear hS hF ha hn
    obtain ⟨pv,hpv⟩:∃pv,pv=Jn.prevOf bs:=⟨_,rfl⟩
    have HPV:Hid (pv=Jn.prevOf bs):=hpv
    rw [←hpv]
    clear hpv
    obtain ⟨b,hb⟩:∃b,b=s.size - a:=⟨_,rfl⟩
    have HB:Hid (b=s.size - a):=hb
    obtain ⟨vsub,vsub2⟩:=wsub hb HL.out.1 HS.out
    clear hb
    by_cases h12:12≤b
    case neg =>
      have q1:¬(12:Int)≤(b:Int):=by omega
      have HX:=S.out.scan HFar.out HA.out (.inl (ff_short (by rw [←HB.out];omega)))
      go_wp2
      go_ret2
      exact HX
    have q1:(12:Int)≤(b:Int):=by omega
    have HAB:Hid (∀k z,z=a+k→k≤12→z≤4611686018427387904):=by have h1:=HL.out.1;have h2:=HS.out;intro k z hz hk;omega
    have HAB2:Hid (∀k z,z=a+k→k≤11→0≤(z:Int)∧(z:Int)<(s.size:Int)):=by have h1:=HL.out.1;have h2:=HB.out;intro k z hz hk;omega
    obtain ⟨y0,e0⟩:∃y,y=(s.data.toList.getD a 0).toNat:=⟨_,rfl⟩
    obtain ⟨y1,e1⟩:∃y,y=(s.data.toList.getD (a+1) 0).toNat:=⟨_,rfl⟩
    obtain ⟨y2,e2⟩:∃y,y=(s.data.toList.getD (a+2) 0).toNat:=⟨_,rfl⟩
    obtain ⟨y3,e3⟩:∃y,y=(s.data.toList.getD (a+3) 0).toNat:=⟨_,rfl⟩
    have HY:Hid (y0<256∧y1<256∧y2<256∧y3<256):=by rw [e0,e1,e2,e3];exact ⟨UInt8.toNat_lt _,UInt8.toNat_lt _,UInt8.toNat_lt _,UInt8.toNat_lt _⟩
    have HU:Hid (Jn.unc ((s.extract a s.size).extract 0 4).data.toList=y0+256*y1+65536*y2+16777216*y3):=by
      show _=_
      rw [Jn.unc_at s a (by have:=HB.out;omega),e0,e1,e2,e3]
    obtain ⟨a1,ha1⟩:∃z,z=a+1:=⟨_,rfl⟩
    obtain ⟨k1,l1⟩:IntKind.i64.wrap ((a:Int)+1)=(a1:Int)∧wrap64 ((a:Int)+1)=(a1:Int):=wadd (k:=1) ha1 (HAB.out 1 a1 ha1 (by decide))
    obtain ⟨a2,ha2⟩:∃z,z=a+2:=⟨_,rfl⟩
    obtain ⟨k2,l2⟩:IntKind.i64.wrap ((a:Int)+2)=(a2:Int)∧wrap64 ((a:Int)+2)=(a2:Int):=wadd (k:=2) ha2 (HAB.out 2 a2 ha2 (by decide))
    obtain ⟨a3,ha3⟩:∃z,z=a+3:=⟨_,rfl⟩
    obtain ⟨k3,l3⟩:IntKind.i64.wrap ((a:Int)+3)=(a3:Int)∧wrap64 ((a:Int)+3)=(a3:Int):=wadd (k:=3) ha3 (HAB.out 3 a3 ha3 (by decide))
    have i0:∀wx:World,(Instr.index 9 (.string s) (.int .i64 (a:Int))).run Tryz.prog wx=.ok (.int .u8 (y0:Int)) wx:=fun wx=>by
      rw [Bn.index_byte s a (HAB2.out 0 _ rfl (by decide)).1 (HAB2.out 0 _ rfl (by decide)).2 wx,Int.toNat_natCast,e0]
    have c0:IntKind.u64.wrap (y0:Int)=(y0:Int):=wrU rfl (Nat.lt_trans HY.out.1 (by decide))
    have i1:∀wx:World,(Instr.index 9 (.string s) (.int .i64 (a1:Int))).run Tryz.prog wx=.ok (.int .u8 (y1:Int)) wx:=fun wx=>by
      rw [Bn.index_byte s a1 (HAB2.out 1 _ ha1 (by decide)).1 (HAB2.out 1 _ ha1 (by decide)).2 wx,Int.toNat_natCast,e1,ha1]
    have c1:IntKind.u64.wrap (y1:Int)=(y1:Int):=wrU rfl (Nat.lt_trans HY.out.2.1 (by decide))
    have i2:∀wx:World,(Instr.index 9 (.string s) (.int .i64 (a2:Int))).run Tryz.prog wx=.ok (.int .u8 (y2:Int)) wx:=fun wx=>by
      rw [Bn.index_byte s a2 (HAB2.out 2 _ ha2 (by decide)).1 (HAB2.out 2 _ ha2 (by decide)).2 wx,Int.toNat_natCast,e2,ha2]
    have c2:IntKind.u64.wrap (y2:Int)=(y2:Int):=wrU rfl (Nat.lt_trans HY.out.2.2.1 (by decide))
    have i3:∀wx:World,(Instr.index 9 (.string s) (.int .i64 (a3:Int))).run Tryz.prog wx=.ok (.int .u8 (y3:Int)) wx:=fun wx=>by
      rw [Bn.index_byte s a3 (HAB2.out 3 _ ha3 (by decide)).1 (HAB2.out 3 _ ha3 (by decide)).2 wx,Int.toNat_natCast,e3,ha3]
    have c3:IntKind.u64.wrap (y3:Int)=(y3:Int):=wrU rfl (Nat.lt_trans HY.out.2.2.2 (by decide))
    obtain ⟨m1,hm1⟩:∃m,m=256*y1:=⟨_,rfl⟩
    obtain ⟨m2,hm2⟩:∃m,m=65536*y2:=⟨_,rfl⟩
    obtain ⟨m3,hm3⟩:∃m,m=16777216*y3:=⟨_,rfl⟩
    have v1:IntKind.u64.wrap (256*(y1:Int))=(m1:Int):=umul (k:=256) hm1 (by decide) HY.out.2.1
    have v2:IntKind.u64.wrap (65536*(y2:Int))=(m2:Int):=umul (k:=65536) hm2 (by decide) HY.out.2.2.1
    have v3:IntKind.u64.wrap (16777216*(y3:Int))=(m3:Int):=umul (k:=16777216) hm3 (by decide) HY.out.2.2.2
    obtain ⟨p1,hp1⟩:∃p,p=y0+m1:=⟨_,rfl⟩
    obtain ⟨p2,hp2⟩:∃p,p=p1+m2:=⟨_,rfl⟩
    obtain ⟨nn,hnn⟩:∃p,p=p2+m3:=⟨_,rfl⟩
    have HPP:Hid (p1<4294967296∧p2<4294967296∧nn<4294967296∧nn=y0+256*y1+65536*y2+16777216*y3):=sums4 hm1 hm2 hm3 hp1 hp2 hnn HY.out
    have u1:IntKind.u64.wrap ((y0:Int)+(m1:Int))=(p1:Int):=uadd hp1 (Nat.lt_trans HPP.out.1 (by decide))
    have u2:IntKind.u64.wrap ((p1:Int)+(m2:Int))=(p2:Int):=uadd hp2 (Nat.lt_trans HPP.out.2.1 (by decide))
    have u3:IntKind.u64.wrap ((p2:Int)+(m3:Int))=(nn:Int):=uadd hnn (Nat.lt_trans HPP.out.2.2.1 (by decide))
    have HNN:Hid (nn<4294967296∧Jn.unc ((s.extract a s.size).extract 0 4).data.toList=nn):=by
      exact ⟨HPP.out.2.2.1,by rw [HU.out];exact HPP.out.2.2.2.symm⟩
    obtain ⟨cc,hcc⟩:∃c,c=b - 12:=⟨_,rfl⟩
    have HBB:Hid (b≤140737488351232):=by show _≤_;rw [HB.out];exact Nat.le_trans (Nat.sub_le _ _) HS.out
    obtain ⟨vc,vc2⟩:IntKind.i64.wrap ((b:Int) - 12)=(cc:Int)∧wrap64 ((b:Int) - 12)=(cc:Int):=wsubk (k:=12) hcc h12 (Nat.le_trans HBB.out (by decide))
    have vc3:IntKind.u64.wrap (cc:Int)=(cc:Int):=wrU rfl (Nat.lt_of_le_of_lt (by rw [hcc];exact Nat.sub_le _ _) (Nat.lt_of_le_of_lt HBB.out (by decide)))
    have HCC:Hid (cc=b - 12∧12≤b):=⟨hcc,h12⟩
    clear e0 e1 e2 e3 ha1 ha2 ha3 hm1 hm2 hm3 hp1 hp2 hnn hcc h12
    go_upto_region 5 with fail
    go_quiet (fail)
    obtain ⟨w2,hw2⟩:∃w2,w2=wr.drewN nq:=⟨_,rfl⟩
    have S2:Hid (RW w w2 bs (.slice oa n oc)):=by rw [hw2];exact S.out.call (below_drewN2 (Below.refl _ _) _)
    rw [←hw2]
    clear hw2 S i0 i1 i2 i3 c0 c1 c2 c3 v1 v2 v3 u1 u2 u3 k1 k2 k3 l1 l2 l3
    by_cases hbig:cc<nn
    case pos =>
      have q2:(cc:Int)<(nn:Int):=Int.ofNat_lt.2 hbig
      have HX:=S2.out.scan HFar.out HA.out (.inl (ff_big HB.out HCC.out HNN.out.2 hbig))
      go_wp2
      go_ret2
      exact HX
    have q2:¬(cc:Int)<(nn:Int):=fun h=>hbig (Int.ofNat_lt.1 h)
    obtain ⟨ax,hax⟩:∃z,z=a+12:=⟨_,rfl⟩
    obtain ⟨ez,hez⟩:∃z,z=ax+nn:=⟨_,rfl⟩
    obtain ⟨kx,kx2⟩:IntKind.i64.wrap ((a:Int)+12)=(ax:Int)∧wrap64 ((a:Int)+12)=(ax:Int):=wadd (k:=12) hax (HAB.out 12 ax hax (by decide))
    have kn:IntKind.i64.wrap (nn:Int)=(nn:Int):=(wr64 rfl (Nat.le_trans (Nat.le_of_lt HNN.out.1) (by decide))).1
    have HE:Hid (ax=a+12∧ez=a+12+nn∧ez≤s.size∧a≤ez∧ax≤ez):=ends4 HB.out HCC.out.1 HCC.out.2 hax hez hbig HL.out.1
    obtain ⟨kz,kz2⟩:IntKind.i64.wrap ((ax:Int)+(nn:Int))=(ez:Int)∧wrap64 ((ax:Int)+(nn:Int))=(ez:Int):=wadd hez (Nat.le_trans HE.out.2.2.1 (Nat.le_trans HS.out (by decide)))
    clear hax hez hbig
    obtain ⟨t,ht⟩:∃t,t=s.extract ax ez:=⟨_,rfl⟩
    obtain ⟨fs,hfs⟩:∃t,t=s.extract a ez:=⟨_,rfl⟩
    have s1:∀wx:World,(Instr.slice 9 (.string s) (some (.int .i64 (ax:Int))) (some (.int .i64 (ez:Int))) none).run Tryz.prog wx=.ok (.string t) wx:=fun wx=>by rw [ht];exact slice_run s HE.out.2.2.2.2 HE.out.2.2.1 wx
    have s2:∀wx:World,(Instr.slice 9 (.string s) (some (.int .i64 (a:Int))) (some (.int .i64 (ez:Int))) none).run Tryz.prog wx=.ok (.string fs) wx:=fun wx=>by rw [hfs];exact slice_run s HE.out.2.2.2.1 HE.out.2.2.1 wx
    obtain ⟨fx,hfx⟩:∃f,f=Jn.frameOf t:=⟨_,rfl⟩
    have HH:=ff_hit ht hfs HE.out HNN.out.2
    rw [←hfx] at HH
    have HTS:Hid (t.size=nn):=HH.1
    have HYES:Hid (fx=fs→nn≤16384→Jn.ff (s.extract a s.size)=some t):=HH.2.1
    have HNO:Hid (¬(fx=fs∧nn≤16384)→Jn.ff (s.extract a s.size)=none):=HH.2.2
    clear HH
    have CM:Hid (∀W,Calls Tryz.prog 43 #[.string t] W fun e w'=>e=.returned (.string fx)∧Below W.heap.size W w'):=fun W=>by
      rw [hfx];exact rframed_c t (by rw [HTS.out];exact Nat.le_trans (Nat.le_of_lt HNN.out.1) (by decide)) W
    clear ht hfs hfx
    go_wp2_with fail
    refine (CR.out t _).mono ?_
    rintro e w3 ⟨hb3,h3⟩
    have HB3:Hid (Below w2.heap.size w2 w3):=hb3
    clear hb3
    rcases h3 with ⟨c,sv,rv,hce,hct,rfl,hcn⟩ | ⟨hno,rfl⟩
    case inr =>
      have HENDS:Hid (Jn.ff (s.extract a s.size)=none∨∃t,Jn.ff (s.extract a s.size)=some t∧Jn.Ends bs t):=by
        by_cases hy:fx=fs∧nn≤16384
        · exact .inr ⟨t,HYES.out hy.1 hy.2,ends_no hno⟩
        · exact .inl (HNO.out hy)
      clear hno
      obtain ⟨w4,hw4⟩:∃w4,w4=w3.alloc (.cells #[.int .u64 0,.string ⟨#[]⟩,.string ⟨#[]⟩,.slice none 0 0,.slice none 0 0] 26):=⟨_,rfl⟩
      have S4:Hid (RW w w4 bs (.slice oa n oc)):=by rw [hw4];exact (S2.out.call HB3.out).call (below_new _ _)
      go_upto_region 10 with fail
      rw [←hw4]
      clear hw4
      by_cases hfe:fx=fs
      case pos =>
        have qf:(fx.toList != fs.toList)=false:=by rw [hfe];simp
        have qf2:(fx.toList==fs.toList)=true:=by rw [hfe];simp
        clear hfe
        refine wp_region_below w4.heap.size w4 (Below.refl _ _) (by kernel_rfl) (by kernel_rfl) ?_
        repeat (go_big_quiet_step (first | (go_at_call 43;exact below_call _ (Nat.le_refl _) (CM.out _)) | fail "no arm"))
        refine wpQuiet_nil ?_
        intro _ hw'
        obtain ⟨pq,hw''⟩:=hw'
        subst hw''
        have HX:=(S4.out.call pq.h).scan HFar.out HA.out HENDS.out
        go_wp2
        go_ret2
        exact HX
      case neg =>
        have qf:(fx.toList != fs.toList)=true:=by simp only [bne_iff_ne,ne_eq];rw [Lib.toList_data,Lib.toList_data];exact fun e=>hfe (Bn.data_ext e)
        have qf2:(fx.toList==fs.toList)=false:=by rw [beq_eq_false_iff_ne,Lib.toList_data,Lib.toList_data];exact fun e=>hfe (Bn.data_ext e)
        clear hfe
        refine wp_region_below w4.heap.size w4 (Below.refl _ _) (by kernel_rfl) (by kernel_rfl) ?_
        repeat (go_big_quiet_step (first | (go_at_call 43;exact below_call _ (Nat.le_refl _) (CM.out _)) | fail "no arm"))
        refine wpQuiet_nil ?_
        intro _ hw'
        obtain ⟨pq,hw''⟩:=hw'
        subst hw''
        have HX:=(S4.out.call pq.h).scan HFar.out HA.out HENDS.out
        go_wp2
        go_ret2
        exact HX
    obtain ⟨sa,sn,sc,rfl⟩:∃a n c,sv=.slice a n c:=by obtain ⟨a,c,e⟩:=own_slc hcn.row3;exact ⟨a,_,c,e⟩
    obtain ⟨xa,xn,xc,rfl⟩:∃a n c,rv=.slice a n c:=by obtain ⟨cs,ho,_⟩:=hcn.row4;obtain ⟨a,c,e⟩:=own_slc ho;exact ⟨a,_,c,e⟩
    have HCE:Hid (Jn.berr c=0∧BkN w3 w2.heap.size c (.slice sa sn sc) (.slice xa xn xc)∧Jn.rngB c∧Jn.btext c=t):=⟨hce,hcn,hcn.rngB,hct⟩
    have HBK:Hid (∀W,Below w3.heap.size w3 W→Bk W W.heap.size c sa sn sc xa xn xc):=fun W hW=>hcn.bk.stays hW hW.size
    have H16:Hid (nn≤16384):=by show _≤_;rw [←HTS.out,←hct];exact Jn.btext_size c
    obtain ⟨cq,hcq⟩:∃cq:Int,cq=(c.seq:Int):=⟨_,rfl⟩
    obtain ⟨cp,hcp⟩:∃cp,cp=c.prev:=⟨_,rfl⟩
    obtain ⟨cr,hcr⟩:∃cr,cr=c.root:=⟨_,rfl⟩
    obtain ⟨rl,hrl⟩:∃rl,rl=c.revs.length:=⟨_,rfl⟩
    obtain ⟨st,hst⟩:∃st,st=(Jn.headOf c).sts:=⟨_,rfl⟩
    obtain ⟨dg,hdg⟩:∃dg,dg=Jn.digest (Jn.headOf c):=⟨_,rfl⟩
    have HOK:=Jn.berr_seq hce
    have CSH:Hid (∀W,Below w3.heap.size w3 W→Calls Tryz.prog 10 #[.agg #[.int .u64 cq,.string cp,.string cr,.slice sa sn sc,.slice xa xn xc]] W fun e w'=>e=.returned (.tuple #[.agg #[.int .u64 cq,.string cp,.string cr,.int .u64 (rl:Int),.string st],.int .i64 0])∧Below W.heap.size W w'):=fun W hW=>by
      have h:=rshortB_c c sa sn sc xa xn xc W (HBK.out W hW)
      rw [hd_of HCE.out.1,HCE.out.1,←hcq,←hcp,←hcr,←hrl,←hst] at h
      exact h
    have CDG:Hid (∀W,Calls Tryz.prog 27 #[.agg #[.int .u64 cq,.string cp,.string cr,.int .u64 (rl:Int),.string st]] W fun e w'=>e=.returned (.string dg)∧Below W.heap.size W w'):=fun W=>by
      have hsz:st.size≤maxLen:=by rw [hst,Jn.headOf];show (Jn.stsDigest _).size≤_;rw [Jn.stsDigest,bs_size,Mk.sum_length];decide
      have h:=rdigest_c c.seq c.prev c.root c.revs.length st (Nat.lt_of_le_of_lt HOK.2.1 (by decide)) (by rw [HOK.2.2.1];decide) (by rw [HOK.2.2.2.1];decide) (Nat.lt_of_le_of_lt HOK.2.2.2.2.2.2 (by decide)) hsz W
      rw [←hcq,←hcp,←hcr] at h
      rw [hrl,hdg]
      have e:Jn.headOf c=⟨c.seq,c.prev,c.root,c.revs.length,st⟩:=by rw [hst];rfl
      rw [e,←hcp,←hcr]
      exact h
    have HNX:Hid (dg=Jn.prevOf (bs++[c])):=by show _=_;rw [hdg,Jn.prevOf_snoc]
    have HQ3:Hid (cq=(c.seq:Int)∧cp=c.prev∧cr=c.root):=⟨hcq,hcp,hcr⟩
    rw [←hcq,←hcp,←hcr]
    clear hcq hcp hcr hrl hst hdg HOK hce hcn hct
    obtain ⟨w4,hw4⟩:∃w4,w4=w3.alloc (.cells #[.int .u64 cq,.string cp,.string cr,.slice sa sn sc,.slice xa xn xc] 26):=⟨_,rfl⟩
    obtain ⟨Q,hQ⟩:∃Q,Q=w3.heap.size:=⟨_,rfl⟩
    have V4:Hid (w4.heap[Q]?=some (.cells #[.int .u64 cq,.string cp,.string cr,.slice sa sn sc,.slice xa xn xc] 26 (0,0))∧Below w3.heap.size w3 w4):=by rw [hw4,hQ];exact ⟨heap_alloc_new w3 _,below_new _ _⟩
    go_upto_region 10 with fail
    rw [←hw4,←hQ]
    clear hw4 hQ
    have d0:∀p:BelowOf w4.heap.size w4,p.W.cell? ⟨Q,0,none⟩=some (.int .u64 cq):=fun p=>block_cells (blk_call V4.out.1 p.h) 0 _ rfl
    have d1:∀p:BelowOf w4.heap.size w4,p.W.cell? ⟨Q,1,none⟩=some (.string cp):=fun p=>block_cells (blk_call V4.out.1 p.h) 1 _ rfl
    have HNS:Hid (n≤1599289640354):=few1 HL.out.2 HS.out
    have un:IntKind.u64.wrap (n:Int)=(n:Int):=wrU rfl (Nat.lt_of_le_of_lt HNS.out (by decide))
    obtain ⟨n1,hn1⟩:∃n1,n1=n+1:=⟨_,rfl⟩
    have un1:IntKind.u64.wrap ((n:Int)+1)=(n1:Int):=uadd (m:=1) hn1 (Nat.lt_of_le_of_lt (by rw [hn1];exact Nat.succ_le_succ HNS.out) (by decide))
    have HN1:Hid (n1=bs.length+1):=by show _=_;rw [hn1,HN.out]
    clear hn1
    by_cases hfe:fx=fs
    case neg =>
      have qf:(fx.toList != fs.toList)=true:=by simp only [bne_iff_ne,ne_eq];rw [Lib.toList_data,Lib.toList_data];exact fun e=>hfe (Bn.data_ext e)
      have qf2:(fx.toList==fs.toList)=false:=by rw [beq_eq_false_iff_ne,Lib.toList_data,Lib.toList_data];exact fun e=>hfe (Bn.data_ext e)
      have HEN:Hid (Jn.ff (s.extract a s.size)=none∨∃t,Jn.ff (s.extract a s.size)=some t∧Jn.Ends bs t):=.inl (HNO.out fun h=>hfe h.1)
      clear hfe
      refine wp_region_below w4.heap.size w4 (Below.refl _ _) (by kernel_rfl) (by kernel_rfl) ?_
      repeat (go_big_quiet_step (first | (go_at_call 43;exact below_call _ (Nat.le_refl _) (CM.out _)) | fail "no arm"))
      refine wpQuiet_nil ?_
      intro _ hw'
      obtain ⟨pq,hw''⟩:=hw'
      subst hw''
      have HX:=((S2.out.call HB3.out).call V4.out.2 |>.call pq.h).scan HFar.out HA.out HEN.out
      go_wp2
      go_ret2
      exact HX
    have qf:(fx.toList != fs.toList)=false:=by rw [hfe];simp
    have qf2:(fx.toList==fs.toList)=true:=by rw [hfe];simp
    have HFF:Hid (Jn.ff (s.extract a s.size)=some t):=HYES.out hfe H16.out
    clear hfe HYES HNO
    by_cases hsq:cq=(n1:Int)
    case neg =>
      have qs:(cq != (n1:Int))=true:=by simpa using hsq
      have qs2:(cq==(n1:Int))=false:=by rw [beq_eq_false_iff_ne];exact hsq
      have HEN:Hid (Jn.ff (s.extract a s.size)=none∨∃t,Jn.ff (s.extract a s.size)=some t∧Jn.Ends bs t):=.inr ⟨t,HFF.out,ends_seq HCE.out.1 HCE.out.2.2.1 HCE.out.2.2.2 (.inl fun h=>hsq (by rw [HQ3.out.1,h,HN1.out]))⟩
      clear hsq
      refine wp_region_below w4.heap.size w4 (Below.refl _ _) (by kernel_rfl) (by kernel_rfl) ?_
      repeat (go_big_quiet_step (first | (go_at_call 43;exact below_call _ (Nat.le_refl _) (CM.out _)) | fail "no arm"))
      refine wpQuiet_nil ?_
      intro _ hw'
      obtain ⟨pq,hw''⟩:=hw'
      subst hw''
      have HX:=((S2.out.call HB3.out).call V4.out.2 |>.call pq.h).scan HFar.out HA.out HEN.out
      go_wp2
      go_ret2
      exact HX
    have qs:(cq != (n1:Int))=false:=by rw [hsq];simp
    have qs2:(cq==(n1:Int))=true:=by rw [hsq];simp
    have HSQ:Hid (c.seq=bs.length+1):=by
      have h:=HQ3.out.1
      rw [hsq] at h
      rw [←HN1.out]
      exact (Int.ofNat_inj.1 h).symm
    clear hsq
    by_cases hpe:cp=pv
    case neg =>
      have qp:(cp.toList != pv.toList)=true:=by simp only [bne_iff_ne,ne_eq];rw [Lib.toList_data,Lib.toList_data];exact fun e=>hpe (Bn.data_ext e)
      have qp2:(cp.toList==pv.toList)=false:=by rw [beq_eq_false_iff_ne,Lib.toList_data,Lib.toList_data];exact fun e=>hpe (Bn.data_ext e)
      have HEN:Hid (Jn.ff (s.extract a s.size)=none∨∃t,Jn.ff (s.extract a s.size)=some t∧Jn.Ends bs t):=.inr ⟨t,HFF.out,ends_seq HCE.out.1 HCE.out.2.2.1 HCE.out.2.2.2 (.inr fun h=>hpe (by rw [HQ3.out.2.1,h,HPV.out]))⟩
      clear hpe
      refine wp_region_below w4.heap.size w4 (Below.refl _ _) (by kernel_rfl) (by kernel_rfl) ?_
      repeat (go_big_quiet_step (first | (go_at_call 43;exact below_call _ (Nat.le_refl _) (CM.out _)) | fail "no arm"))
      refine wpQuiet_nil ?_
      intro _ hw'
      obtain ⟨pq,hw''⟩:=hw'
      subst hw''
      have HX:=((S2.out.call HB3.out).call V4.out.2 |>.call pq.h).scan HFar.out HA.out HEN.out
      go_wp2
      go_ret2
      exact HX
    have qp:(cp.toList != pv.toList)=false:=by rw [hpe];simp
    have qp2:(cp.toList==pv.toList)=true:=by rw [hpe];simp
    have HTK:Hid (Jn.Took ((bs++[c]).map Jn.btext) (bs++[c])):=by
      have h:=Jn.Took.more S2.out.took HCE.out.1 HCE.out.2.2.1 HSQ.out (by rw [←HQ3.out.2.1,hpe,HPV.out])
      simp only [List.map_append,List.map_cons,List.map_nil]
      exact h
    have HFX:Hid (Jn.Far s ((bs++[c]).map Jn.btext)∧ez=Jn.total ((bs++[c]).map Jn.btext)):=by
      have hf:=HFF.out
      rw [HA.out] at hf
      have h:=HFar.out.next hf
      have e:(bs++[c]).map Jn.btext=bs.map Jn.btext++[t]:=by simp [HCE.out.2.2.2]
      rw [e]
      exact ⟨h.1,by rw [h.2,HTS.out,←HA.out];exact HE.out.2.1⟩
    clear hpe
    refine wp_region_below w4.heap.size w4 (Below.refl _ _) (by kernel_rfl) (by kernel_rfl) ?_
    repeat (go_big_quiet_step (first | (go_at_call 43;exact below_call _ (Nat.le_refl _) (CM.out _)) | fail "no arm"))
    refine wpQuiet_nil ?_
    intro _ hw'
    obtain ⟨pq,hw''⟩:=hw'
    subst hw''
    have V5:Hid (pq.W.heap[Q]?=some (.cells #[.int .u64 cq,.string cp,.string cr,.slice sa sn sc,.slice xa xn xc] 26 (0,0))∧Below w3.heap.size w3 pq.W):=⟨blk_call V4.out.1 pq.h,V4.out.2.trans (pq.h.mono V4.out.2.size)⟩
    obtain ⟨w5,hw5⟩:∃w5,w5=pq.W:=⟨_,rfl⟩
    rw [←hw5] at V5
    rw [←hw5]
    clear hw5 d0 d1 V4 qf qf2 qs qs2 qp qp2 s1 s2 un un1
    have x0:=block_cells V5.out.1 0 _ rfl
    have x1:=block_cells V5.out.1 1 _ rfl
    have x2:=block_cells V5.out.1 2 _ rfl
    have x3:=block_cells V5.out.1 3 _ rfl
    have x4:=block_cells V5.out.1 4 _ rfl
    go_wp2_with fail
    refine Calls.mono (CSH.out _ V5.out.2) ?_
    rintro e w6 ⟨rfl,hb6⟩
    have V6:Hid (w6.heap[Q]?=some (.cells #[.int .u64 cq,.string cp,.string cr,.slice sa sn sc,.slice xa xn xc] 26 (0,0))∧Below w3.heap.size w3 w6):=⟨blk_call V5.out.1 hb6,V5.out.2.trans (hb6.mono V5.out.2.size)⟩
    clear hb6 V5 CSH x0 x1 x2 x3 x4
    obtain ⟨w7,hw7⟩:∃w7,w7=w6.alloc (.cells #[.int .u64 cq,.string cp,.string cr,.int .u64 (rl:Int),.string st] 41):=⟨_,rfl⟩
    obtain ⟨P,hP⟩:∃P,P=w6.heap.size:=⟨_,rfl⟩
    have V7:Hid (w7.heap[Q]?=some (.cells #[.int .u64 cq,.string cp,.string cr,.slice sa sn sc,.slice xa xn xc] 26 (0,0))∧Below w3.heap.size w3 w7∧w7.heap[P]?=some (.cells #[.int .u64 cq,.string cp,.string cr,.int .u64 (rl:Int),.string st] 41 (0,0))):=by
      have hn:=below_new w6 (.cells #[.int .u64 cq,.string cp,.string cr,.int .u64 (rl:Int),.string st] 41)
      rw [hw7,hP]
      exact ⟨blk_call V6.out.1 hn,V6.out.2.trans (hn.mono V6.out.2.size),heap_alloc_new w6 _⟩
    go_upto_region 12 with fail
    rw [←hw7,←hP]
    clear hw7 hP V6
    have y0:=block_cells V7.out.2.2 0 _ rfl
    have y1:=block_cells V7.out.2.2 1 _ rfl
    have y2:=block_cells V7.out.2.2 2 _ rfl
    have y3:=block_cells V7.out.2.2 3 _ rfl
    have y4:=block_cells V7.out.2.2 4 _ rfl
    go_wp2_with fail
    refine Calls.mono (CDG.out _) ?_
    rintro e w8 ⟨rfl,hb8⟩
    have V8:Hid (w8.heap[Q]?=some (.cells #[.int .u64 cq,.string cp,.string cr,.slice sa sn sc,.slice xa xn xc] 26 (0,0))∧Below w3.heap.size w3 w8):=⟨blk_call V7.out.1 hb8,V7.out.2.1.trans (hb8.mono V7.out.2.1.size)⟩
    clear hb8 V7 CDG y0 y1 y2 y3 y4
    have x0:=block_cells V8.out.1 0 _ rfl
    have x1:=block_cells V8.out.1 1 _ rfl
    have x2:=block_cells V8.out.1 2 _ rfl
    have x3:=block_cells V8.out.1 3 _ rfl
    have x4:=block_cells V8.out.1 4 _ rfl
    have HX6:Hid (Below w3.heap.size w3 (w8.alloc (.cells #[.int .u64 cq,.string cp,.string cr,.slice sa sn sc,.slice xa xn xc] 26))):=V8.out.2.trans ((below_new w8 _).mono V8.out.2.size)
    obtain ⟨cs,hown,hput⟩:=RW.put S2.out HB3.out HCE.out.2.1 HX6.out HTK.out
    have HOWN:Hid ((w8.alloc (.cells #[.int .u64 cq,.string cp,.string cr,.slice sa sn sc,.slice xa xn xc] 26)).ownsRow w.heap.size 26 5 (.slice oa n oc) n cs):=by rw [HN.out] at hown ⊢;exact hown
    have HPUT:Hid (∀ov' w9,w9.ownsRow w.heap.size 26 5 ov' (n+1) (cs++[.int .u64 cq,.string cp,.string cr,.slice sa sn sc,.slice xa xn xc])→(w8.alloc (.cells #[.int .u64 cq,.string cp,.string cr,.slice sa sn sc,.slice xa xn xc] 26)).grownBy w9 (Value.slice oa n oc).ownBlock→(ov'.ownBlock=(Value.slice oa n oc).ownBlock∨ov'.ownBlock=some (w8.alloc (.cells #[.int .u64 cq,.string cp,.string cr,.slice sa sn sc,.slice xa xn xc] 26)).heap.size)→RW w w9 (bs++[c]) ov'):=by
      intro ov' w9 h1 h2 h3
      refine hput ov' w9 ?_ h2 h3
      rw [←HN.out]
      have e:BC c (.slice sa sn sc) (.slice xa xn xc)=[.int .u64 cq,.string cp,.string cr,.slice sa sn sc,.slice xa xn xc]:=by rw [BC,HQ3.out.1,HQ3.out.2.1,HQ3.out.2.2]
      rw [e]
      exact h1
    clear hown hput
    have fit63:Hid (n+1≤maxLen):=Nat.le_trans (Nat.succ_le_succ HNS.out) (by decide)
    have fit47:Hid ((n+1)*88≤140737488355328):=few2 HNS.out
    have HSZ:Hid (w.heap.size≤(w8.alloc (.cells #[.int .u64 cq,.string cp,.string cr,.slice sa sn sc,.slice xa xn xc] 26)).heap.size):=Nat.le_trans S2.out.below.size (Nat.le_trans HB3.out.size HX6.out.size)
    go_wp2_with (first | (at_builtin;refine wpList_append_lies _ rfl _ _ 50 rfl w.heap.size 26 ib _ 5 88 Tryz.underlying50 hib hb0 hb1 hb2 rfl (by decide) _ _ _ rfl HOWN.out ⟨w8.heap.size,0,none⟩ 1 1 [.int .u64 cq,.string cp,.string cr,.slice sa sn sc,.slice xa xn xc] rfl rfl (World.news_of_block (heap_alloc_new w8 _)) (by simp [Value.oneCell']) (by decide) fit63.out fit47.out HSZ.out _ rfl ?_;intro gg cap w9 hown9 hgrow hat hglt;have S9:Hid (RW w w9 (bs++[c]) (.slice (some ⟨gg,0,none⟩) (n+1) cap)):=HPUT.out _ w9 hown9 hgrow (hat.elim (fun e=>.inl e.symm) (fun e=>.inr (by rw [e];simp [Value.ownBlock])));clear hown9 hgrow hat hglt))
    go_roundw
    case rel=>first | exact ⟨bs++[c],_,n+1,_,ez,rfl,by rw [HNX.out],rfl,by rw [List.length_append,HN.out];rfl,HFX.out.2,S9.out,HFX.out.1⟩ | ((repeat apply Exists.intro);exact ⟨⟨bs++[c],_,n+1,_,ez,rfl,by rw [HNX.out],rfl,by rw [List.length_append,HN.out];rfl,HFX.out.2,S9.out,HFX.out.1⟩,rfl⟩)
    case measure =>
      simp only [intOf]
      exact arQ (ez4 HE.out) HE.out.2.2.1
end Go.Proofs.YtggnfejjcgbebaaGreatDoor
/- JournalReads, walked: any bytes are read as a block, as blocks in a row, any head has its text and its digest. -/
namespace Go.Proofs.YtggnfejjcgbebaaGreatDoor
open Go.RowKit
open Vl (V)
attribute [local go_sem ↓] Go.wp_at_zero Go.wp_at_succ
namespace Jn
def RG (s:ByteArray) (m:B) (me:Nat):Prop:=(berr m=0∧btext m=s∧rngB m∧me=0)∨(NoB s∧m=B0∧me=11)
theorem RG.one {s:ByteArray} {m q:B} {me qe:Nat} (h:RG s m me) (k:RG s q qe):m=q∧me=qe:=by
  rcases h with ⟨h1,h2,h3,rfl⟩ | ⟨h1,rfl,rfl⟩
  · rcases k with ⟨k1,k2,k3,rfl⟩ | ⟨k1,_,_⟩
    · exact ⟨btext_inj h1 k1 h3 k3 (h2.trans k2.symm),rfl⟩
    · exact absurd h2 (k1 m h1 h3)
  · rcases k with ⟨k1,k2,k3,_⟩ | ⟨_,rfl,rfl⟩
    · exact absurd k2 (h1 q k1 k3)
    · exact ⟨rfl,rfl⟩
theorem RG.sts {s:ByteArray} {m:B} {me:Nat} (h:RG s m me):m.sts.length≤1048576:=by
  rcases h with ⟨h1,_⟩ | ⟨_,rfl,_⟩
  · have:=(berr_seq h1).2.2.2.2.1
    omega
  · decide
def Whole (s:ByteArray) (ts:List ByteArray) (bs:List B):Prop:=Took ts bs∧ts <+: frs s∧(ts=frs s∨∃x,ts++[x] <+: frs s∧Ends bs x)
theorem Whole.le {s:ByteArray} {ts qs:List ByteArray} {bs cs:List B} (h:Whole s ts bs) (k:Whole s qs cs) (hl:ts.length≤qs.length):ts=qs∧bs=cs:=by
  have hp:ts <+: qs:=List.prefix_of_prefix_length_le h.2.1 k.2.1 hl
  have h9:=again k.1 h.1 hp (by
    rcases h.2.2 with e | ⟨x,hx,hE⟩
    · exact .inl (hp.eq_of_length (Nat.le_antisymm hl (by rw [e];exact k.2.1.length_le)))
    · by_cases he:ts.length=qs.length
      · exact .inl (hp.eq_of_length he)
      · exact .inr ⟨x,List.prefix_of_prefix_length_le hx k.2.1 (by rw [List.length_append,List.length_singleton];omega),hE⟩)
  exact h9
theorem Whole.one {s:ByteArray} {ts qs:List ByteArray} {bs cs:List B} (h:Whole s ts bs) (k:Whole s qs cs):ts=qs∧bs=cs:=by
  rcases Nat.le_total ts.length qs.length with hl | hl
  · exact h.le k hl
  · have:=k.le h hl
    exact ⟨this.1.symm,this.2.symm⟩
theorem Whole.few {s:ByteArray} {ts:List ByteArray} {bs:List B} (h:Whole s ts bs) (hs:s.size≤140737488351232):bs.length≤140737488355328:=by
  have:=h.1.few fun t ht=>h.2.1.subset ht
  omega
theorem Whole.sts {s:ByteArray} {ts:List ByteArray} {bs:List B} (h:Whole s ts bs):∀b∈bs,b.sts.length≤1048576:=by
  intro b hb
  obtain ⟨i,hi,hix⟩:=List.getElem_of_mem hb
  have h0:=h.1.at i b (by rw [List.getElem?_eq_getElem hi,hix])
  have:=(berr_seq h0.1).2.2.2.2.1
  omega
end Jn
theorem read_gave {s:ByteArray} {w w':World} {en:Ending} (h:BlockRead s w en w'):∃(m:Jn.B) (me:Nat) (a:Option Addr) (n d:Nat) (e:Option Addr) (f g:Nat),en=.returned (.tuple #[.agg #[.int .u64 (m.seq:Int),.string m.prev,.string m.root,.slice a n d,.slice e f g],.int .i64 (me:Int)])∧Below w.heap.size w w'∧BkN w' w.heap.size m (.slice a n d) (.slice e f g)∧Jn.RG s m me:=by
  obtain ⟨hb,h | h⟩:=h
  · obtain ⟨c,sv,rv,h0,h1,rfl,hn⟩:=h
    obtain ⟨ta,tn,tc,rfl⟩:∃a n c,sv=.slice a n c:=by obtain ⟨a,c,e⟩:=own_slc hn.row3;exact ⟨a,_,c,e⟩
    obtain ⟨ua,un,uc,rfl⟩:∃a n c,rv=.slice a n c:=by obtain ⟨cs,ho,_⟩:=hn.row4;obtain ⟨a,c,e⟩:=own_slc ho;exact ⟨a,_,c,e⟩
    exact ⟨c,0,_,_,_,_,_,_,rfl,hb,hn,.inl ⟨h0,h1,hn.rngB,rfl⟩⟩
  · obtain ⟨h0,rfl⟩:=h
    exact ⟨Jn.B0,11,_,_,_,_,_,_,rfl,hb,BkN.zero _ _,.inr ⟨h0,rfl,rfl⟩⟩
set_option maxHeartbeats 16000000 in
set_option maxRecDepth 100000 in
theorem reads_c (s:ByteArray) (hs:s.size≤140737488351232) (sq:Nat) (pv rt:ByteArray) (rn:Nat) (st:ByteArray) (hh:sq<18446744073709551616∧pv.size≤maxLen∧rt.size≤maxLen∧rn<18446744073709551616∧st.size≤maxLen) (w:World) (hU:Bn.HasU w) (hK:HasK w) :
    Calls Tryz.prog 4 #[.string s,.agg #[.int .u64 (sq:Int),.string pv,.string rt,.int .u64 (rn:Int),.string st]] w fun e w'=>e=.returned (.bool true)∧Below w.heap.size w w':=by
  have HU:Hid (∀W,Below w.heap.size w W→Bn.HasU W):=fun W hW=>hU.stays hW
  have HK:Hid (∀W,Below w.heap.size w W→HasK W):=fun W hW=>hK.below hK.1 hW
  have CL:Hid (∀W,Below w.heap.size w W→Calls Tryz.prog 15 #[] W fun e w'=>e=.returned (.bool true)∧Below W.heap.size W w'):=fun W hW=>livesJ_c W (HU.out W hW) (HK.out W hW)
  have CR1:Hid (∀W,Below w.heap.size w W→Calls Tryz.prog 19 #[.string s] W (BlockRead s W)):=fun W hW=>readB_c s W (HU.out W hW) (HK.out W hW)
  have CR2:Hid (∀W,Calls Tryz.prog 20 #[.string s] W (BlockRead s W)):=fun W=>rreadB_c s W
  have CS1:Hid (∀W,Below w.heap.size w W→Calls Tryz.prog 21 #[.string s] W (ScanGave s W)):=fun W hW=>scan_c s hs W (HU.out W hW) (HK.out W hW)
  have CS2:Hid (∀W,Calls Tryz.prog 22 #[.string s] W (ScanGave s W)):=fun W=>rscan_c s hs W
  obtain ⟨tx,htx⟩:∃tx,tx=Jn.htext ⟨sq,pv,rt,rn,st⟩:=⟨_,rfl⟩
  obtain ⟨dg,hdg⟩:∃dg,dg=Jn.digest ⟨sq,pv,rt,rn,st⟩:=⟨_,rfl⟩
  have CH1:Hid (∀W,Below w.heap.size w W→Calls Tryz.prog 24 #[.agg #[.int .u64 (sq:Int),.string pv,.string rt,.int .u64 (rn:Int),.string st]] W fun e w'=>e=.returned (.string tx)∧Below W.heap.size W w'):=fun W hW=>by rw [htx];exact headText_c sq pv rt rn st hh.1 hh.2.1 hh.2.2.1 hh.2.2.2.1 hh.2.2.2.2 W (HU.out W hW)
  have CH2:Hid (∀W,Calls Tryz.prog 25 #[.agg #[.int .u64 (sq:Int),.string pv,.string rt,.int .u64 (rn:Int),.string st]] W fun e w'=>e=.returned (.string tx)∧Below W.heap.size W w'):=fun W=>by rw [htx];exact rheadText_c sq pv rt rn st hh.1 hh.2.1 hh.2.2.1 hh.2.2.2.1 hh.2.2.2.2 W
  have CD1:Hid (∀W,Below w.heap.size w W→Calls Tryz.prog 26 #[.agg #[.int .u64 (sq:Int),.string pv,.string rt,.int .u64 (rn:Int),.string st]] W fun e w'=>e=.returned (.string dg)∧Below W.heap.size W w'):=fun W hW=>by rw [hdg];exact digest_c sq pv rt rn st hh.1 hh.2.1 hh.2.2.1 hh.2.2.2.1 hh.2.2.2.2 W (HU.out W hW) (HK.out W hW)
  have CD2:Hid (∀W,Calls Tryz.prog 27 #[.agg #[.int .u64 (sq:Int),.string pv,.string rt,.int .u64 (rn:Int),.string st]] W fun e w'=>e=.returned (.string dg)∧Below W.heap.size W w'):=fun W=>by rw [hdg];exact rdigest_c sq pv rt rn st hh.1 hh.2.1 hh.2.2.1 hh.2.2.2.1 hh.2.2.2.2 W
  have HSZ:Hid (s.size≤140737488351232):=hs
  obtain ⟨w1,hw1⟩:∃w1,w1=w.alloc (.cells #[.int .u64 (sq:Int),.string pv,.string rt,.int .u64 (rn:Int),.string st] 41):=⟨_,rfl⟩
  obtain ⟨D,hD⟩:∃D,D=w.heap.size:=⟨_,rfl⟩
  have V1:Hid (w1.heap[D]?=some (.cells #[.int .u64 (sq:Int),.string pv,.string rt,.int .u64 (rn:Int),.string st] 41 (0,0))∧Below w.heap.size w w1):=by rw [hw1,hD];exact ⟨heap_alloc_new w _,below_new _ _⟩
  clear hU hK hs hh htx hdg HU HK
  go_enter Tryz.func4,Tryz.ntmps4
  go_upto_region 1 with fail
  rw [←hw1,←hD]
  clear hw1 hD
  go_wp2_with fail
  refine (CR1.out _ V1.out.2).mono ?_
  intro en w2 h2
  obtain ⟨m,me,a1,n1,c1,e1,f1,g1,rfl,hb2,hn2,hg2⟩:=read_gave h2
  clear h2 CR1
  have V2:Hid (w2.heap[D]?=some (.cells #[.int .u64 (sq:Int),.string pv,.string rt,.int .u64 (rn:Int),.string st] 41 (0,0))∧Below w.heap.size w w2):=⟨blk_call V1.out.1 hb2,V1.out.2.trans (hb2.mono V1.out.2.size)⟩
  have HG:Hid (Jn.RG s m me):=hg2
  obtain ⟨w3,hw3⟩:∃w3,w3=w2.alloc (.cells #[.int .u64 (m.seq:Int),.string m.prev,.string m.root,.slice a1 n1 c1,.slice e1 f1 g1] 26):=⟨_,rfl⟩
  obtain ⟨F,hF⟩:∃F,F=w2.heap.size:=⟨_,rfl⟩
  have b3:Below w2.heap.size w2 w3:=by rw [hw3];exact below_new _ _
  have V3:Hid (w3.heap[D]?=some (.cells #[.int .u64 (sq:Int),.string pv,.string rt,.int .u64 (rn:Int),.string st] 41 (0,0))∧Below w.heap.size w w3∧w3.heap[F]?=some (.cells #[.int .u64 (m.seq:Int),.string m.prev,.string m.root,.slice a1 n1 c1,.slice e1 f1 g1] 26 (0,0))∧∃q,BkN w3 q m (.slice a1 n1 c1) (.slice e1 f1 g1)):=⟨blk_call V2.out.1 b3,V2.out.2.trans (b3.mono V2.out.2.size),by rw [hw3,hF];exact heap_alloc_new w2 _,_,hn2.stays b3⟩
  clear hb2 hn2 hg2 b3 V1 V2
  go_upto_region 2 with fail
  rw [←hw3,←hF]
  clear hw3 hF
  go_wp2_with fail
  refine (CR2.out _).mono ?_
  intro en w4 h4
  obtain ⟨m',me',a2,n2,c2,e2,f2,g2,rfl,hb4,hn4,hg4⟩:=read_gave h4
  obtain ⟨rfl,rfl⟩:=HG.out.one hg4
  clear h4 CR2 hg4
  obtain ⟨w5,hw5⟩:∃w5,w5=w4.alloc (.cells #[.int .u64 (m.seq:Int),.string m.prev,.string m.root,.slice a2 n2 c2,.slice e2 f2 g2] 26):=⟨_,rfl⟩
  obtain ⟨G,hG⟩:∃G,G=w4.heap.size:=⟨_,rfl⟩
  have b5:Below w4.heap.size w4 w5:=by rw [hw5];exact below_new _ _
  have b35:Below w3.heap.size w3 w5:=hb4.trans (b5.mono hb4.size)
  have V5:Hid (w5.heap[D]?=some (.cells #[.int .u64 (sq:Int),.string pv,.string rt,.int .u64 (rn:Int),.string st] 41 (0,0))∧Below w.heap.size w w5∧w5.heap[F]?=some (.cells #[.int .u64 (m.seq:Int),.string m.prev,.string m.root,.slice a1 n1 c1,.slice e1 f1 g1] 26 (0,0))∧(∃q,BkN w5 q m (.slice a1 n1 c1) (.slice e1 f1 g1))∧w5.heap[G]?=some (.cells #[.int .u64 (m.seq:Int),.string m.prev,.string m.root,.slice a2 n2 c2,.slice e2 f2 g2] 26 (0,0))∧∃q,BkN w5 q m (.slice a2 n2 c2) (.slice e2 f2 g2)):=⟨blk_call V3.out.1 b35,V3.out.2.1.trans (b35.mono V3.out.2.1.size),blk_call V3.out.2.2.1 b35,V3.out.2.2.2.imp fun _ h=>h.stays b35,by rw [hw5,hG];exact heap_alloc_new w4 _,_,hn4.stays b5⟩
  clear hb4 hn4 b5 b35 V3
  go_upto_region 3 with fail
  rw [←hw5,←hG]
  clear hw5 hG
  go_wp2_with fail
  refine (CS1.out _ V5.out.2.1).mono ?_
  rintro en w6 ⟨hb6,ts,bs,lv,k1,k2,k3,rfl,hrow⟩
  have HW:Hid (Jn.Whole s ts bs):=⟨k1,k2,k3⟩
  have B56:Hid (Below w5.heap.size w5 w6∧BV w6 lv bs):=⟨hb6,BV.of hrow⟩
  obtain ⟨tt,htt⟩:∃tt,tt=Jn.total ts:=⟨_,rfl⟩
  have HTT:Hid (tt=Jn.total ts):=htt
  rw [←htt]
  clear hb6 k1 k2 k3 hrow CS1 htt
  go_wp2_with fail
  refine (CS2.out _).mono ?_
  rintro en w7 ⟨hb7,ts',bs',lv',k1,k2,k3,rfl,hrow⟩
  obtain ⟨rfl,rfl⟩:=HW.out.one (show Jn.Whole s ts' bs' from ⟨k1,k2,k3⟩)
  rw [←HTT.out]
  have B57:Below w5.heap.size w5 w7:=B56.out.1.trans (hb7.mono B56.out.1.size)
  have V7:Hid (w7.heap[D]?=some (.cells #[.int .u64 (sq:Int),.string pv,.string rt,.int .u64 (rn:Int),.string st] 41 (0,0))∧Below w.heap.size w w7∧w7.heap[F]?=some (.cells #[.int .u64 (m.seq:Int),.string m.prev,.string m.root,.slice a1 n1 c1,.slice e1 f1 g1] 26 (0,0))∧w7.heap[G]?=some (.cells #[.int .u64 (m.seq:Int),.string m.prev,.string m.root,.slice a2 n2 c2,.slice e2 f2 g2] 26 (0,0))):=⟨blk_call V5.out.1 B57,V5.out.2.1.trans (B57.mono V5.out.2.1.size),blk_call V5.out.2.2.1 B57,blk_call V5.out.2.2.2.2.1 B57⟩
  have HBV:Hid (BV w7 lv bs∧BV w7 lv' bs):=⟨B56.out.2.call hb7,BV.of hrow⟩
  have HBN:Hid ((∃q,BkN w7 q m (.slice a1 n1 c1) (.slice e1 f1 g1))∧∃q,BkN w7 q m (.slice a2 n2 c2) (.slice e2 f2 g2)):=⟨V5.out.2.2.2.1.imp fun _ h=>h.stays B57,V5.out.2.2.2.2.2.imp fun _ h=>h.stays B57⟩
  clear hb7 k1 k2 k3 hrow CS2 B56 B57 V5 HTT
  have CSM:Hid (∀W,Below w7.heap.size w7 W→Calls Tryz.prog 16 #[.agg #[.int .u64 (m.seq:Int),.string m.prev,.string m.root,.slice a1 n1 c1,.slice e1 f1 g1],.agg #[.int .u64 (m.seq:Int),.string m.prev,.string m.root,.slice a2 n2 c2,.slice e2 f2 g2]] W fun e w'=>e=.returned (.bool true)∧Below W.heap.size W w'):=fun W hW=>by
    obtain ⟨_,h1⟩:=HBN.out.1
    obtain ⟨_,h2⟩:=HBN.out.2
    exact sameB_c m a1 n1 c1 e1 f1 g1 a2 n2 c2 e2 f2 g2 W HG.out.sts (h1.stays hW).bk (h2.stays hW).bk
  have CSA:Hid (∀W,Below w7.heap.size w7 W→Calls Tryz.prog 23 #[lv,lv'] W fun e w'=>e=.returned (.bool true)∧Below W.heap.size W w'):=fun W hW=>sameAll_c bs (HW.out.few HSZ.out) HW.out.sts lv lv' W (HBV.out.1.call hW) (HBV.out.2.call hW)
  have HBW:Hid (∀W,Below w7.heap.size w7 W→Below w.heap.size w W):=fun W hW=>V7.out.2.1.trans (hW.mono V7.out.2.1.size)
  have p0:∀p:BelowOf w7.heap.size w7,p.W.cell? ⟨F,0,none⟩=some (.int .u64 (m.seq:Int)):=fun p=>block_cells (blk_call V7.out.2.2.1 p.h) 0 _ rfl
  have p1:∀p:BelowOf w7.heap.size w7,p.W.cell? ⟨F,1,none⟩=some (.string m.prev):=fun p=>block_cells (blk_call V7.out.2.2.1 p.h) 1 _ rfl
  have p2:∀p:BelowOf w7.heap.size w7,p.W.cell? ⟨F,2,none⟩=some (.string m.root):=fun p=>block_cells (blk_call V7.out.2.2.1 p.h) 2 _ rfl
  have p3:∀p:BelowOf w7.heap.size w7,p.W.cell? ⟨F,3,none⟩=some (.slice a1 n1 c1):=fun p=>block_cells (blk_call V7.out.2.2.1 p.h) 3 _ rfl
  have p4:∀p:BelowOf w7.heap.size w7,p.W.cell? ⟨F,4,none⟩=some (.slice e1 f1 g1):=fun p=>block_cells (blk_call V7.out.2.2.1 p.h) 4 _ rfl
  have q0:∀p:BelowOf w7.heap.size w7,p.W.cell? ⟨G,0,none⟩=some (.int .u64 (m.seq:Int)):=fun p=>block_cells (blk_call V7.out.2.2.2 p.h) 0 _ rfl
  have q1:∀p:BelowOf w7.heap.size w7,p.W.cell? ⟨G,1,none⟩=some (.string m.prev):=fun p=>block_cells (blk_call V7.out.2.2.2 p.h) 1 _ rfl
  have q2:∀p:BelowOf w7.heap.size w7,p.W.cell? ⟨G,2,none⟩=some (.string m.root):=fun p=>block_cells (blk_call V7.out.2.2.2 p.h) 2 _ rfl
  have q3:∀p:BelowOf w7.heap.size w7,p.W.cell? ⟨G,3,none⟩=some (.slice a2 n2 c2):=fun p=>block_cells (blk_call V7.out.2.2.2 p.h) 3 _ rfl
  have q4:∀p:BelowOf w7.heap.size w7,p.W.cell? ⟨G,4,none⟩=some (.slice e2 f2 g2):=fun p=>block_cells (blk_call V7.out.2.2.2 p.h) 4 _ rfl
  have d0:∀p:BelowOf w7.heap.size w7,p.W.cell? ⟨D,0,none⟩=some (.int .u64 (sq:Int)):=fun p=>block_cells (blk_call V7.out.1 p.h) 0 _ rfl
  have d1:∀p:BelowOf w7.heap.size w7,p.W.cell? ⟨D,1,none⟩=some (.string pv):=fun p=>block_cells (blk_call V7.out.1 p.h) 1 _ rfl
  have d2:∀p:BelowOf w7.heap.size w7,p.W.cell? ⟨D,2,none⟩=some (.string rt):=fun p=>block_cells (blk_call V7.out.1 p.h) 2 _ rfl
  have d3:∀p:BelowOf w7.heap.size w7,p.W.cell? ⟨D,3,none⟩=some (.int .u64 (rn:Int)):=fun p=>block_cells (blk_call V7.out.1 p.h) 3 _ rfl
  have d4:∀p:BelowOf w7.heap.size w7,p.W.cell? ⟨D,4,none⟩=some (.string st):=fun p=>block_cells (blk_call V7.out.1 p.h) 4 _ rfl
  go_upto_region 5 with fail
  refine wp_region_below w7.heap.size w7 (Below.refl _ _) (by kernel_rfl) (by kernel_rfl) ?_
  repeat (go_big_quiet_step (first
    | (go_at_call 15;exact below_call _ (Nat.le_refl _) (CL.out _ (HBW.out _ (BelowOf.h _))))
    | (go_at_call 16;exact below_call _ (Nat.le_refl _) (CSM.out _ (BelowOf.h _)))
    | (go_at_call 23;exact below_call _ (Nat.le_refl _) (CSA.out _ (BelowOf.h _)))
    | (go_at_call 24;exact below_call _ (Nat.le_refl _) (CH1.out _ (HBW.out _ (BelowOf.h _))))
    | (go_at_call 25;exact below_call _ (Nat.le_refl _) (CH2.out _))
    | (go_at_call 26;exact below_call _ (Nat.le_refl _) (CD1.out _ (HBW.out _ (BelowOf.h _))))
    | (go_at_call 27;exact below_call _ (Nat.le_refl _) (CD2.out _))
    | fail "no arm"))
  refine wpQuiet_nil ?_
  intro _ hw'
  obtain ⟨pq,hw''⟩:=hw'
  subst hw''
  have HF:=HBW.out _ pq.h
  go_wp2
  go_ret
  exact ⟨by simp,HF⟩
end Go.Proofs.YtggnfejjcgbebaaGreatDoor
