/- Several texts, joined: CpL, CpA, MkAs, JnCp, JnCq -/
import Derived.Test.YtggnfejjcgbebaaGreatDoorJNM
import Derived.Deep.CutRange
import Derived.Deep.CutBlock
import Derived.Deep.RegionLaw
import Derived.Deep.AppendLies
import Derived.Test.YtggnfejjcgbebaaGreatDoorJIM
import Derived.Test.YtggnfejjcgbebaaGreatDoorJMM
import Derived.Deep.Upon
import Derived.Test.YtggnfejjcgbebaaGreatDoorQGM
/- What the document's Copy keeps as it goes: parts appended one by one. -/
namespace Go.Proofs.YtggnfejjcgbebaaGreatDoor
open Go.RowKit
open Vl (V)
namespace Vl
mutual
def small:V→Prop
  | ⟨_,_,_,s,l,f⟩=>s.size≤140737488351232∧l.length≤1759218604390∧f.length≤1466015503668∧smallL l∧smallF f
def smallL:List V→Prop
  | []=>True
  | x :: r=>small x∧smallL r
def smallF:List (ByteArray × V)→Prop
  | []=>True
  | (m,x) :: r=>m.size≤140737488351232∧small x∧smallF r
end
end Vl
structure CS (w W:World) (l:List V) (j:Nat) (v0 v1 v2 v3 v4 v5 lv:Value):Prop where
  below:Below w.heap.size w W
  arg:Row6 W w.heap.size v0 v1 v2 v3 v4 v5
  res:Z6 W (w.heap.size+1)
  out:Row6 W (w.heap.size+1+1) v0 v1 v2 v3 lv (.slice none 0 0)
  parts:∃cs,W.ownsRow (w.heap.size+3) 32 6 lv j cs∧EL W (fun g=>w.heap.size+3≤g∧some g≠lv.ownBlock∧g<W.heap.size) (l.take j) cs
section
variable {w W W':World} {l:List V} {j:Nat} {v0 v1 v2 v3 v4 v5 lv:Value}
theorem CS.call (h:CS w W l j v0 v1 v2 v3 v4 v5 lv) (hb:Below W.heap.size W W'):CS w W' l j v0 v1 v2 v3 v4 v5 lv:=by
  obtain ⟨cs,h1,h2⟩:=h.parts
  exact ⟨h.below.trans (hb.mono h.below.size),h.arg.call hb,h.res.call hb,h.out.call hb,cs,own_call h1 hb,EL.stays (fun g hg=>hb.block g hg.2.2) (fun g hg=>⟨hg.1,hg.2.1,Nat.lt_of_lt_of_le hg.2.2 hb.size⟩) _ _ h2⟩
theorem CS.next {w3 w4 w5:World} (h:CS w W l j v0 v1 v2 v3 v4 v5 lv) {x:V} (hx:l[j]?=some x) {cs:List Value} (ho:W.ownsRow (w.heap.size+3) 32 6 lv j cs) (he:EL W (fun g=>w.heap.size+3≤g∧some g≠lv.ownBlock∧g<W.heap.size) (l.take j) cs)
    (h3:Below W.heap.size W w3) {d0 d1 d2 d3 d4 d5:Value} (hr:RepA w3 (fun g=>W.heap.size≤g∧g<w3.heap.size) x (.agg #[d0,d1,d2,d3,d4,d5])) (h4:Below w3.heap.size w3 w4) (hg:w4.grownBy w5 lv.ownBlock)
    {g cap:Nat} (hn:w5.ownsRow (w.heap.size+3) 32 6 (.slice (some ⟨g,0,none⟩) (j+1) cap) (j+1) (cs++[d0,d1,d2,d3,d4,d5])) (hat:lv.ownBlock=some g∨g=w4.heap.size) :
    (Row6 w5 (w.heap.size+1+1) v0 v1 v2 v3 lv (.slice none 0 0))∧CS w (w5.setCell ⟨w.heap.size+1+1,4,none⟩ (.slice (some ⟨g,0,none⟩) (j+1) cap)) l (j+1) v0 v1 v2 v3 v4 v5 (.slice (some ⟨g,0,none⟩) (j+1) cap):=by
  have hlv:∀k,lv.ownBlock=some k→w.heap.size+3≤k∧k<W.heap.size:=ho.lt
  have hs:=h3.size
  have hs4:=h4.size
  have hs5:=hg.size
  have hgb:w.heap.size+3≤g∧∀k,k<W.heap.size→some k≠lv.ownBlock→k≠g:=by
    rcases hat with e | e
    · exact ⟨(hlv g e).1,fun k hk hne e2=>hne (by rw [e2,e])⟩
    · exact ⟨by have:=h.out.1;omega,fun k hk _=>by omega⟩
  have hgn:∀k,W.heap.size≤k→k<w4.heap.size→k≠g:=fun k h1 h2 e=>by
    rcases hat with e2 | e2
    · have:=(hlv g e2).2;omega
    · omega
  -- blocks that stay
  have st:∀k,k<W.heap.size→some k≠lv.ownBlock→w5.heap[k]?=W.heap[k]?:=fun k hk hne=>(hg.block k (by omega) hne).trans ((h4.block k (by omega)).trans (h3.block k hk))
  have sn:∀k,W.heap.size≤k→k<w3.heap.size→w5.heap[k]?=w3.heap[k]?:=fun k hk hk2=>(hg.block k (by omega) (fun e=>by have:=(hlv k e.symm).2;omega)).trans (h4.block k hk2)
  have o0:=h.arg.1
  have o1:=h.res.1
  have o2:=h.out.1
  have nb:∀k,k<w.heap.size+3→some k≠lv.ownBlock:=fun k hk e=>by have:=(hlv k e.symm).1;omega
  have hout:Row6 w5 (w.heap.size+1+1) v0 v1 v2 v3 lv (.slice none 0 0):=⟨by omega,(st _ o2 (nb _ (by omega))).trans h.out.2⟩
  have hset:∀k,k≠w.heap.size+1+1→(w5.setCell ⟨w.heap.size+1+1,4,none⟩ (.slice (some ⟨g,0,none⟩) (j+1) cap)).heap[k]?=w5.heap[k]?:=fun k hk=>heap_setCell_other _ _ _ _ hk
  have hsz:(w5.setCell ⟨w.heap.size+1+1,4,none⟩ (.slice (some ⟨g,0,none⟩) (j+1) cap)).heap.size=w5.heap.size:=by simp
  have hbel:Below w.heap.size w w5:=(h.below.trans (h3.mono h.below.size)).trans ((h4.mono (by have:=h.below.size;omega))) |>.grown hg (by have:=h.below.size;omega) (fun k hk=>by have:=(hlv k hk).1;omega)
  refine ⟨hout,hbel.setCell (p:=⟨w.heap.size+1+1,4,none⟩) (by show w.heap.size≤w.heap.size+1+1;omega) _,⟨by rw [hsz];omega,(hset _ (by omega)).trans ((st _ o0 (nb _ (by omega))).trans h.arg.2)⟩,⟨by rw [hsz];omega,(hset _ (by omega)).trans ((st _ o1 (nb _ (by omega))).trans h.res.2)⟩,hout.set4,cs++[d0,d1,d2,d3,d4,d5],own_set hn (fun e=>by simp [Value.ownBlock] at e;omega),?_⟩
  have ht:l.take (j+1)=l.take j++[x]:=by rw [List.take_add_one,hx];rfl
  rw [ht]
  refine EL.snoc ?_ _ _ ?_
  · refine repA_stays (fun k hk=>?_) (fun k hk=>?_) x _ hr
    · exact (hset k (by omega)).trans (sn k hk.1 hk.2)
    · exact ⟨by omega,fun e=>hgn k hk.1 (by omega) (by simpa [Value.ownBlock] using e),by rw [hsz];omega⟩
  · refine EL.stays (fun k hk=>?_) (fun k hk=>?_) _ _ he
    · exact (hset k (by omega)).trans (st k hk.2.2 hk.2.1)
    · exact ⟨hk.1,fun e=>hgb.2 k hk.2.2 hk.2.1 (by simpa [Value.ownBlock] using e),by rw [hsz];omega⟩
theorem CS.start (w:World) (l:List V) (v0 v1 v2 v3 v4 v5:Value) :
    CS w (((w.alloc (.cells #[v0,v1,v2,v3,v4,v5] 32)).alloc (.cells #[.int .u8 0,.bool false,.int .i64 0,.string ⟨#[]⟩,.slice none 0 0,.slice none 0 0] 32)).alloc (.cells #[v0,v1,v2,v3,.slice none 0 0,.slice none 0 0] 32)) l 0 v0 v1 v2 v3 v4 v5 (.slice none 0 0):=by
  obtain ⟨w1,hw1⟩:∃w1,w1=w.alloc (.cells #[v0,v1,v2,v3,v4,v5] 32):=⟨_,rfl⟩
  obtain ⟨w2,hw2⟩:∃w2,w2=w1.alloc (.cells #[.int .u8 0,.bool false,.int .i64 0,.string ⟨#[]⟩,.slice none 0 0,.slice none 0 0] 32):=⟨_,rfl⟩
  have s1:w1.heap.size=w.heap.size+1:=by rw [hw1];simp
  have s2:w2.heap.size=w.heap.size+1+1:=by rw [hw2];simp [s1]
  have b1:Below w.heap.size w w1:=by rw [hw1];exact below_new _ _
  have b2:Below w1.heap.size w1 w2:=by rw [hw2];exact below_new _ _
  have r0:Row6 w1 w.heap.size v0 v1 v2 v3 v4 v5:=by rw [hw1];exact ⟨by simp,heap_alloc_new w _⟩
  have r1:Z6 w2 (w.heap.size+1):=by
    rw [←s1,hw2];exact ⟨by simp,heap_alloc_new w1 _⟩
  rw [←hw1,←hw2]
  refine ⟨((b1.trans (b2.mono b1.size)).trans ((below_new w2 _).mono (by omega))),(r0.call b2).call (below_new _ _),r1.call (below_new _ _),?_,[],World.ownsRow_nil _ _ _ _,by rw [List.take_zero];rfl⟩
  rw [←s2];exact ⟨by simp,heap_alloc_new w2 _⟩
end
def LL (W:World) (B M:Nat) (lv:Value) (l:List V):Prop:=∃ao lc,lv=.slice ao l.length lc∧(0<l.length→∃g,ao=some ⟨g,0,none⟩∧B≤g∧g<M∧RepLA W (fun g=>B≤g∧g<M) g 0 l)
theorem LL.stays {W W':World} {B M:Nat} {lv:Value} {l:List V} (h:LL W B M lv l) (hb:∀g,B≤g→g<M→W'.heap[g]?=W.heap[g]?):LL W' B M lv l:=by
  obtain ⟨ao,lc,e,h1⟩:=h
  refine ⟨ao,lc,e,fun hp=>?_⟩
  obtain ⟨g,e2,h2,h3,h4⟩:=h1 hp
  exact ⟨g,e2,h2,h3,repLA_stays (fun k hk=>hb k hk.1 hk.2) (fun _ hk=>hk) (hb g h2 h3) l 0 h4⟩
theorem CS.done {w W:World} {l:List V} {v0 v1 v2 v3 v4 v5 lv:Value} (h:CS w W l l.length v0 v1 v2 v3 v4 v5 lv):LL W (w.heap.size+3) W.heap.size lv l:=by
  obtain ⟨cs,h1,h2⟩:=h.parts
  rw [List.take_length] at h2
  by_cases hp:0<l.length
  · obtain ⟨g,cap,rfl,hb,hl,ho,hc⟩:=own_row hp h1
    exact ⟨some ⟨g,0,none⟩,cap,rfl,fun _=>⟨g,rfl,hb,hl,EL.lies l cs 0 (EL.stays (fun _ _=>rfl) (fun k hk=>⟨hk.1,hk.2.2⟩) l cs h2) (fun j u hu=>by rw [Nat.zero_add];exact hc j u hu)⟩⟩
  · rcases h1.2 with ⟨e,_⟩ | ⟨g,cap,cur,e,_⟩
    · exact ⟨none,0,by rw [e];simp;omega,fun h=>absurd h hp⟩
    · exact ⟨some ⟨g,0,none⟩,cap,e,fun h=>absurd h hp⟩
structure CT (w W:World) (M:Nat) (l:List V) (f:List (ByteArray × V)) (j:Nat) (v0 v1 v2 v3 v4 v5 lv fv:Value):Prop where
  below:Below w.heap.size w W
  arg:Row6 W w.heap.size v0 v1 v2 v3 v4 v5
  res:Z6 W (w.heap.size+1)
  out:Row6 W (w.heap.size+1+1) v0 v1 v2 v3 lv fv
  late:w.heap.size+3≤M
  le:M≤W.heap.size
  li:LL W (w.heap.size+3) M lv l
  parts:∃cs,W.ownsRow M 147 7 fv j cs∧EF W (fun g=>M≤g∧some g≠fv.ownBlock∧g<W.heap.size) (f.take j) cs
section
variable {w W W':World} {M:Nat} {l:List V} {f:List (ByteArray × V)} {j:Nat} {v0 v1 v2 v3 v4 v5 lv fv:Value}
theorem CT.call (h:CT w W M l f j v0 v1 v2 v3 v4 v5 lv fv) (hb:Below W.heap.size W W'):CT w W' M l f j v0 v1 v2 v3 v4 v5 lv fv:=by
  obtain ⟨cs,h1,h2⟩:=h.parts
  have hle:=h.le
  exact ⟨h.below.trans (hb.mono h.below.size),h.arg.call hb,h.res.call hb,h.out.call hb,h.late,Nat.le_trans h.le hb.size,h.li.stays (fun g _ hg=>hb.block g (by omega)),cs,own_call h1 hb,EF.stays (fun g hg=>hb.block g hg.2.2) (fun g hg=>⟨hg.1,hg.2.1,Nat.lt_of_lt_of_le hg.2.2 hb.size⟩) _ _ h2⟩
theorem CT.start (h:CS w W l l.length v0 v1 v2 v3 v4 v5 lv):CT w W W.heap.size l f 0 v0 v1 v2 v3 v4 v5 lv (.slice none 0 0) :=
  ⟨h.below,h.arg,h.res,h.out,by have:=h.out.1;omega,Nat.le_refl _,h.done,[],World.ownsRow_nil _ _ _ _,by rw [List.take_zero];rfl⟩
theorem CT.next {w3 w4 w5:World} (h:CT w W M l f j v0 v1 v2 v3 v4 v5 lv fv) {m:ByteArray} {x:V} (hx:f[j]?=some (m,x)) (hm:m.size≤maxLen) {cs:List Value} (ho:W.ownsRow M 147 7 fv j cs) (he:EF W (fun g=>M≤g∧some g≠fv.ownBlock∧g<W.heap.size) (f.take j) cs)
    (h3:Below W.heap.size W w3) {d0 d1 d2 d3 d4 d5:Value} (hr:RepA w3 (fun g=>W.heap.size≤g∧g<w3.heap.size) x (.agg #[d0,d1,d2,d3,d4,d5])) (h4:Below w3.heap.size w3 w4) (hg:w4.grownBy w5 fv.ownBlock)
    {g cap:Nat} (hn:w5.ownsRow M 147 7 (.slice (some ⟨g,0,none⟩) (j+1) cap) (j+1) (cs++[.string m,d0,d1,d2,d3,d4,d5])) (hat:fv.ownBlock=some g∨g=w4.heap.size) :
    (Row6 w5 (w.heap.size+1+1) v0 v1 v2 v3 lv fv)∧CT w (w5.setCell ⟨w.heap.size+1+1,5,none⟩ (.slice (some ⟨g,0,none⟩) (j+1) cap)) M l f (j+1) v0 v1 v2 v3 v4 v5 lv (.slice (some ⟨g,0,none⟩) (j+1) cap):=by
  have hlv:∀k,fv.ownBlock=some k→M≤k∧k<W.heap.size:=ho.lt
  have hs:=h3.size
  have hs4:=h4.size
  have hs5:=hg.size
  have hlate:=h.late
  have hle:=h.le
  have hgb:M≤g∧∀k,k<W.heap.size→some k≠fv.ownBlock→k≠g:=by
    rcases hat with e | e
    · exact ⟨(hlv g e).1,fun k hk hne e2=>hne (by rw [e2,e])⟩
    · exact ⟨by omega,fun k hk _=>by omega⟩
  have hgn:∀k,W.heap.size≤k→k<w4.heap.size→k≠g:=fun k h1 h2 e=>by
    rcases hat with e2 | e2
    · have:=(hlv g e2).2;omega
    · omega
  have st:∀k,k<W.heap.size→some k≠fv.ownBlock→w5.heap[k]?=W.heap[k]?:=fun k hk hne=>(hg.block k (by omega) hne).trans ((h4.block k (by omega)).trans (h3.block k hk))
  have sn:∀k,W.heap.size≤k→k<w3.heap.size→w5.heap[k]?=w3.heap[k]?:=fun k hk hk2=>(hg.block k (by omega) (fun e=>by have:=(hlv k e.symm).2;omega)).trans (h4.block k hk2)
  have o0:=h.arg.1
  have o1:=h.res.1
  have o2:=h.out.1
  have nb:∀k,k<M→some k≠fv.ownBlock:=fun k hk e=>by have:=(hlv k e.symm).1;omega
  have hout:Row6 w5 (w.heap.size+1+1) v0 v1 v2 v3 lv fv:=⟨by omega,(st _ o2 (nb _ (by omega))).trans h.out.2⟩
  have hset:∀k,k≠w.heap.size+1+1→(w5.setCell ⟨w.heap.size+1+1,5,none⟩ (.slice (some ⟨g,0,none⟩) (j+1) cap)).heap[k]?=w5.heap[k]?:=fun k hk=>heap_setCell_other _ _ _ _ hk
  have hsz:(w5.setCell ⟨w.heap.size+1+1,5,none⟩ (.slice (some ⟨g,0,none⟩) (j+1) cap)).heap.size=w5.heap.size:=by simp
  have hbel:Below w.heap.size w w5:=(h.below.trans (h3.mono h.below.size)).trans ((h4.mono (by have:=h.below.size;omega))) |>.grown hg (by have:=h.below.size;omega) (fun k hk=>by have:=(hlv k hk).1;omega)
  refine ⟨hout,hbel.setCell (p:=⟨w.heap.size+1+1,5,none⟩) (by show w.heap.size≤w.heap.size+1+1;omega) _,⟨by rw [hsz];omega,(hset _ (by omega)).trans ((st _ o0 (nb _ (by omega))).trans h.arg.2)⟩,⟨by rw [hsz];omega,(hset _ (by omega)).trans ((st _ o1 (nb _ (by omega))).trans h.res.2)⟩,hout.set5,hlate,by rw [hsz];omega,h.li.stays (fun k hk1 hk2=>(hset k (by omega)).trans (st k (by omega) (nb k hk2))),cs++[.string m,d0,d1,d2,d3,d4,d5],own_set hn (fun e=>by simp [Value.ownBlock] at e;omega),?_⟩
  have ht:f.take (j+1)=f.take j++[(m,x)]:=by rw [List.take_add_one,hx];rfl
  rw [ht]
  refine EF.snoc hm ?_ _ _ ?_
  · refine repA_stays (fun k hk=>?_) (fun k hk=>?_) x _ hr
    · exact (hset k (by omega)).trans (sn k hk.1 hk.2)
    · exact ⟨by omega,fun e=>hgn k hk.1 (by omega) (by simpa [Value.ownBlock] using e),by rw [hsz];omega⟩
  · refine EF.stays (fun k hk=>?_) (fun k hk=>?_) _ _ he
    · exact (hset k (by omega)).trans (st k hk.2.2 hk.2.1)
    · exact ⟨hk.1,fun e=>hgb.2 k hk.2.2 hk.2.1 (by simpa [Value.ownBlock] using e),by rw [hsz];omega⟩
def CX (W:World) (B U:Nat):V→Value→Prop
  | ⟨k,b,n,s,l,f⟩,v=>∃ao lc fo fc,v=.agg #[.int .u8 (k:Int),.bool b,.int .i64 n,.string s,.slice ao l.length lc,.slice fo f.length fc] ∧
      (0<l.length→∃g,ao=some ⟨g,0,none⟩∧(B≤g∧g<U∧∀a,fo=some a→g≠a.block)∧RepLA W (fun g=>B≤g∧g<U∧∀a,fo=some a→g≠a.block) g 0 l) ∧
      (0<f.length→∃g,fo=some ⟨g,0,none⟩∧B≤g∧g<U∧(∃C,W.heap[g]?=some (.cells C 147 (0,0))∧f.length*7≤C.size)∧RepFA W (fun g=>B≤g∧g<U∧∀a,fo=some a→g≠a.block) g 0 f)
theorem CX.stays {W W':World} {B U B':Nat} (hBB:B'≤B):∀{t:V} {v:Value},CX W B U t v→(∀g,B≤g→g<U→W'.heap[g]?=W.heap[g]?)→CX W' B' U t v
  | ⟨k,b,n,s,l,f⟩,v,h,hb=>by
    obtain ⟨ao,lc,fo,fc,e,h2,h3⟩:=h
    refine ⟨ao,lc,fo,fc,e,fun hp=>?_,fun hp=>?_⟩
    · obtain ⟨g,e2,h4,h5⟩:=h2 hp
      exact ⟨g,e2,⟨by omega,h4.2⟩,repLA_stays (fun k hk=>hb k hk.1 hk.2.1) (fun k hk=>⟨by omega,hk.2⟩) (hb g h4.1 h4.2.1) l 0 h5⟩
    · obtain ⟨g,e2,h4,h5,⟨C,hC1,hC2⟩,h6⟩:=h3 hp
      exact ⟨g,e2,by omega,h5,⟨C,(hb g h4 h5).trans hC1,hC2⟩,repFA_stays (fun k hk=>hb k hk.1 hk.2.1) (fun k hk=>⟨by omega,hk.2⟩) (hb g h4 h5) f 0 h6⟩
theorem CT.cx {k:Nat} {b:Bool} {n:Int} {s:ByteArray} (h:CT w W M l f f.length (.int .u8 (k:Int)) (.bool b) (.int .i64 n) (.string s) v4 v5 lv fv):CX W (w.heap.size+3) W.heap.size ⟨k,b,n,s,l,f⟩ (.agg #[.int .u8 (k:Int),.bool b,.int .i64 n,.string s,lv,fv]):=by
  have hlate:=h.late
  have hle:=h.le
  obtain ⟨ao,lc,rfl,h1⟩:=h.li
  obtain ⟨cs,h2,h3⟩:=h.parts
  rw [List.take_length] at h3
  by_cases hp:0<f.length
  · obtain ⟨g,cap,rfl,hb,hl,ho,hc⟩:=own_row hp h2
    refine ⟨ao,lc,some ⟨g,0,none⟩,cap,rfl,fun hq=>?_,fun _=>⟨g,rfl,by omega,hl,?_,?_⟩⟩
    · obtain ⟨q,e,h5,h6,h7⟩:=h1 hq
      exact ⟨q,e,⟨h5,by omega,fun a ea=>by cases ea;show q≠g;omega⟩,repLA_stays (fun _ _=>rfl) (fun j hj=>⟨hj.1,by omega,fun a ea=>by cases ea;show j≠g;omega⟩) rfl l 0 h7⟩
    · rcases h2.2 with ⟨e,_⟩ | ⟨g',cap',cur,e,_,hrow,hcap,_,hsz,_⟩
      · cases e
      · cases e
        exact ⟨cur,hrow,by rw [hsz];exact Nat.mul_le_mul_right _ hcap⟩
    · refine EF.lies f cs 0 (EF.stays (fun _ _=>rfl) (fun j hj=>⟨by omega,hj.2.2,fun a ea=>?_⟩) f cs h3) (fun j u hu=>by rw [Nat.zero_add];exact hc j u hu)
      cases ea
      exact fun e=>hj.2.1 (by rw [e];rfl)
  · have hf0:f.length=0:=by omega
    obtain ⟨fo,fc,rfl,hno⟩:∃fo fc,fv=.slice fo f.length fc∧∀a,fo=some a→M≤a.block:=by
      rcases h2.2 with ⟨e,_⟩ | ⟨g,cap,cur,e,hg,_⟩
      · exact ⟨none,0,by rw [e,hf0],fun a ea=>by cases ea⟩
      · exact ⟨some ⟨g,0,none⟩,cap,e,fun a ea=>by cases ea;exact hg⟩
    refine ⟨ao,lc,fo,fc,rfl,fun hq=>?_,fun h=>absurd h hp⟩
    obtain ⟨q,e,h5,h6,h7⟩:=h1 hq
    exact ⟨q,e,⟨h5,by omega,fun a ea=>by have:=hno a ea;omega⟩,repLA_stays (fun _ _=>rfl) (fun j hj=>⟨hj.1,by omega,fun a ea=>by have:=hno a ea;omega⟩) rfl l 0 h7⟩
theorem CT.rep {k:Nat} {b:Bool} {n:Int} {s:ByteArray} (h:CT w W M l f f.length (.int .u8 (k:Int)) (.bool b) (.int .i64 n) (.string s) v4 v5 lv fv) (hk:k<256∧(-9223372036854775808≤n∧n<9223372036854775808)∧s.size≤maxLen∧l.length≤maxLen∧f.length≤maxLen) :
    RepA W (fun g=>w.heap.size+1<g∧g<W.heap.size) ⟨k,b,n,s,l,f⟩ (.agg #[.int .u8 (k:Int),.bool b,.int .i64 n,.string s,lv,fv]):=by
  have hlate:=h.late
  have hle:=h.le
  obtain ⟨ao,lc,rfl,h1⟩:=h.li
  obtain ⟨cs,h2,h3⟩:=h.parts
  rw [List.take_length] at h3
  obtain ⟨fo,fc,rfl,h4⟩:∃fo fc,fv=.slice fo f.length fc∧(0<f.length→∃g,fo=some ⟨g,0,none⟩∧M≤g∧g<W.heap.size∧RepFA W (fun g=>M≤g∧g<W.heap.size) g 0 f∧∀r,W.frozen? ⟨g,r,none⟩=false):=by
    by_cases hp:0<f.length
    · obtain ⟨g,cap,rfl,hb,hl,ho,hc⟩:=own_row hp h2
      exact ⟨some ⟨g,0,none⟩,cap,rfl,fun _=>⟨g,rfl,hb,hl,EF.lies f cs 0 (EF.stays (fun _ _=>rfl) (fun k hk=>⟨hk.1,hk.2.2⟩) f cs h3) (fun j u hu=>by rw [Nat.zero_add];exact hc j u hu),own_free h2⟩⟩
    · rcases h2.2 with ⟨e,_⟩ | ⟨g,cap,cur,e,_⟩
      · exact ⟨none,0,by rw [e];simp;omega,fun h=>absurd h hp⟩
      · exact ⟨some ⟨g,0,none⟩,cap,e,fun h=>absurd h hp⟩
  rw [RepA]
  refine ⟨ao,lc,fo,fc,rfl,hk.1,hk.2.1,hk.2.2.1,hk.2.2.2.1,hk.2.2.2.2,fun hp=>?_,fun hp=>?_⟩
  · obtain ⟨g,e,h5,h6,h7⟩:=h1 hp
    exact ⟨g,0,e,⟨by omega,by omega⟩,repLA_stays (fun _ _=>rfl) (fun q hq=>⟨by omega,by omega⟩) rfl l 0 h7⟩
  · obtain ⟨g,e,h5,h6,h7,h8⟩:=h4 hp
    exact ⟨g,0,e,⟨by omega,by omega⟩,repFA_stays (fun _ _=>rfl) (fun q hq=>⟨by omega,by omega⟩) rfl f 0 h7,h8⟩
end
end Go.Proofs.YtggnfejjcgbebaaGreatDoor
/- The document's Copy, whatever the value. -/
namespace Go.Proofs.YtggnfejjcgbebaaGreatDoor
open Go.RowKit
open Vl (V)
end Go.Proofs.YtggnfejjcgbebaaGreatDoor
namespace Go.Proofs.YtggnfejjcgbebaaGreatDoor
open Go.RowKit
open Vl (V)
end Go.Proofs.YtggnfejjcgbebaaGreatDoor
/- Texts that lie anywhere, appended to a row of the call's own. -/
namespace Go.Proofs.YtggnfejjcgbebaaGreatDoor
open Go.RowKit
theorem info9s:(Tryz.prog.info? 9).map (fun i=>(i.zero,i.size,i.bytes))=some (some (.string ⟨#[]⟩),1,16):=by kernel_rfl
end Go.Proofs.YtggnfejjcgbebaaGreatDoor
/- The document's Copy of revisions, and of a block. -/
namespace Go.Proofs.YtggnfejjcgbebaaGreatDoor
open Go.RowKit
open Vl (V)
end Go.Proofs.YtggnfejjcgbebaaGreatDoor
/- The document's Copy of a block, its statements too. -/
namespace Go.Proofs.YtggnfejjcgbebaaGreatDoor
open Go.RowKit
open Vl (V)
attribute [local go_sem ↓] Go.wp_at_zero Go.wp_at_succ
end Go.Proofs.YtggnfejjcgbebaaGreatDoor
