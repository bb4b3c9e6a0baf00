/- Several texts, joined: JnZa, JnZb -/
import Derived.Test.YtggnfejjcgbebaaGreatDoorQHM
import Derived.RangeFuncNested
import Derived.RangeFuncBound
import Derived.RangeFuncCalls
import Derived.RangeFuncLeaves
import Derived.Shelf.Abstract
import Derived.Shelf.RegionOpen
import Derived.WalkKit
import Derived.OwnWalkIn
import Derived.TacticsInMore
import Derived.LoopNIn
import Derived.LoopIn
import Derived.Test.YtggnfejjcgbebaaGreatDoorQIM
/- Blocks that lie in memory of their own, in a row. -/
namespace Go.Proofs.YtggnfejjcgbebaaGreatDoor
open Go.RowKit
open Vl (V)
def CellsAt (W:World) (g:Nat):Prop:=∃cs t fr,W.heap[g]?=some (.cells cs t fr)
theorem CellsAt.of_cell {W:World} {g o:Nat} {v:Value} (h:W.cell? ⟨g,o,none⟩=some v):CellsAt W g:=by
  unfold World.cell? at h
  unfold CellsAt
  cases hg:W.heap[g]? with
  | none=>simp [hg] at h
  | some ob =>
    cases ob with
    | cells cs t fr=>exact ⟨cs,t,fr,rfl⟩
    | _=>simp [hg] at h
theorem CellsAt.keep {W W':World} {g:Nat} (h:CellsAt W g) (hb:W'.heap[g]?=W.heap[g]?):CellsAt W' g:=by
  obtain ⟨cs,t,fr,e⟩:=h
  exact ⟨cs,t,fr,hb.trans e⟩
mutual
theorem repA_cells {W:World} {A:Nat→Prop}:∀(t:V) (v:Value),RepA W A t v→RepA W (fun g=>A g∧CellsAt W g) t v
  | ⟨k,b,n,s,l,f⟩,v,h=>by
    rw [RepA] at h ⊢
    obtain ⟨ao,lc,fo,fc,h1,h2,h3,h4,h5,h6,h7,h8⟩:=h
    refine ⟨ao,lc,fo,fc,h1,h2,h3,h4,h5,h6,fun hp=>?_,fun hp=>?_⟩
    · obtain ⟨g,o,e,hg,hr⟩:=h7 hp
      refine ⟨g,o,e,⟨hg,?_⟩,repLA_cells l o hr⟩
      cases l with
      | nil=>simp at hp
      | cons x r =>
        rw [RepLA] at hr
        obtain ⟨⟨c0,c1,c2,c3,c4,c5,h6',_⟩,_⟩:=hr
        exact CellsAt.of_cell h6'.1
    · obtain ⟨g,o,e,hg,hr,hz⟩:=h8 hp
      refine ⟨g,o,e,⟨hg,?_⟩,repFA_cells f o hr,hz⟩
      cases f with
      | nil=>simp at hp
      | cons x r =>
        obtain ⟨m,x⟩:=x
        rw [RepFA] at hr
        exact CellsAt.of_cell hr.1.1
theorem repLA_cells {W:World} {A:Nat→Prop} {g:Nat}:∀(l:List V) (o:Nat),RepLA W A g o l→RepLA W (fun g=>A g∧CellsAt W g) g o l
  | [],_,_=>by rw [RepLA];trivial
  | x :: r,o,h=>by
    rw [RepLA] at h ⊢
    obtain ⟨⟨c0,c1,c2,c3,c4,c5,h1,h2⟩,h3⟩:=h
    exact ⟨⟨c0,c1,c2,c3,c4,c5,h1,repA_cells x _ h2⟩,repLA_cells r _ h3⟩
theorem repFA_cells {W:World} {A:Nat→Prop} {g:Nat}:∀(l:List (ByteArray × V)) (o:Nat),RepFA W A g o l→RepFA W (fun g=>A g∧CellsAt W g) g o l
  | [],_,_=>by rw [RepFA];trivial
  | (m,x) :: r,o,h=>by
    rw [RepFA] at h ⊢
    obtain ⟨⟨h0,hm,c0,c1,c2,c3,c4,c5,h1,h2⟩,h3⟩:=h
    exact ⟨⟨h0,hm,c0,c1,c2,c3,c4,c5,h1,repA_cells x _ h2⟩,repFA_cells r _ h3⟩
end
structure BkI (W:World) (A:Nat→Prop) (b:Jn.B) (sv rv:Value):Prop where
  seq:b.seq<18446744073709551616
  prev:b.prev.size≤maxLen
  root:b.root.size≤maxLen
  small:∀s∈b.sts,s.size≤maxLen
  len:b.revs.length≤maxLen
  cells:∀g,A g→CellsAt W g
  row3:W.ownsRow 0 9 1 sv b.sts.length (b.sts.map Value.string)
  at3:∀g,sv.ownBlock=some g→A g
  row4:∃cs,W.ownsRow 0 34 10 rv b.revs.length cs∧cs.length=b.revs.length*10∧∀j r,b.revs[j]?=some r→RevIn W (fun g=>A g∧rv.ownBlock≠some g) cs (j*10) r
  at4:∀g,rv.ownBlock=some g→A g
theorem BkI.stays {W W':World} {A:Nat→Prop} {b:Jn.B} {sv rv:Value} (h:BkI W A b sv rv) (hb:∀g,A g→W'.heap[g]?=W.heap[g]?):BkI W' A b sv rv:=by
  obtain ⟨cs,h1,h2,h3⟩:=h.row4
  refine ⟨h.seq,h.prev,h.root,h.small,h.len,fun g hg=>(h.cells g hg).keep (hb g hg),own_block h.row3 fun g hg=>hb g (h.at3 g hg),h.at3,⟨cs,own_block h1 fun g hg=>hb g (h.at4 g hg),h2,fun j r hj=>?_⟩,h.at4⟩
  obtain ⟨c4,c5,c6,c7,c8,c9,k1,k2,k3⟩:=h3 j r hj
  exact ⟨c4,c5,c6,c7,c8,c9,k1,repA_stays (fun g hg=>hb g hg.1) (fun g hg=>hg) _ _ k2,k3⟩
theorem BkN.bki {W:World} {base:Nat} {b:Jn.B} {sv rv:Value} (h:BkN W base b sv rv):BkI W (fun g=>base≤g∧g<W.heap.size∧CellsAt W g) b sv rv:=by
  obtain ⟨cs,h1,h2⟩:=h.row4
  have own:∀{e sz n:Nat} {v:Value} {xs:List Value},W.ownsRow base e sz v n xs→∀g,v.ownBlock=some g→base≤g∧g<W.heap.size∧CellsAt W g:=by
    intro e sz n v xs ho g hg
    obtain ⟨k1,k2⟩:=own_in ho g hg
    refine ⟨k1,k2,?_⟩
    rcases ho.2 with ⟨rfl,_⟩ | ⟨g',cap',cur,rfl,_,hc,_⟩
    · simp [Value.ownBlock] at hg
    · simp [Value.ownBlock] at hg;subst hg;exact ⟨_,_,_,hc⟩
  refine ⟨h.seq,h.prev,h.root,h.small,h.len,fun g hg=>hg.2.2,own_down h.row3 (Nat.zero_le _),own h.row3,⟨cs,own_down h1 (Nat.zero_le _),h2.1,fun j r hj=>?_⟩,own h1⟩
  obtain ⟨c4,c5,c6,c7,c8,c9,k1,k2,k3⟩:=h2.2 j r hj
  exact ⟨c4,c5,c6,c7,c8,c9,k1,repA_stays (fun _ _=>rfl) (fun g hg=>⟨⟨hg.1.1,hg.1.2.1,hg.2⟩,hg.1.2.2⟩) _ _ (repA_cells _ _ k2),k3⟩
theorem BkI.bkn {W:World} {A:Nat→Prop} {b:Jn.B} {sv rv:Value} (h:BkI W A b sv rv):BkN W 0 b sv rv:=by
  obtain ⟨cs,h1,h2,h3⟩:=h.row4
  refine ⟨h.seq,h.prev,h.root,h.small,h.len,h.row3,cs,h1,h2,fun j r hj=>?_⟩
  obtain ⟨c4,c5,c6,c7,c8,c9,k1,k2,k3⟩:=h3 j r hj
  refine ⟨c4,c5,c6,c7,c8,c9,k1,repA_stays (fun _ _=>rfl) (fun g hg=>⟨Nat.zero_le _,?_,hg.2⟩) _ _ k2,k3⟩
  obtain ⟨cs',t,fr,e⟩:=h.cells g hg.1
  exact (Array.getElem?_eq_some_iff.1 e).1
def BC (b:Jn.B) (sv rv:Value):List Value:=[.int .u64 (b.seq:Int),.string b.prev,.string b.root,sv,rv]
def BlkRow (W:World) (n₀:Nat) (lv:Value) (bs:List Jn.B):Prop:=∃cs,W.ownsRow n₀ 26 5 lv bs.length cs∧cs.length=bs.length*5∧∀j b,bs[j]?=some b→∃sv rv A,(∀i v,(BC b sv rv)[i]?=some v→cs[j*5+i]?=some v)∧BkI W A b sv rv∧∀g,A g→n₀≤g∧g<W.heap.size∧lv.ownBlock≠some g
theorem BlkRow.none (W:World) (n₀:Nat):BlkRow W n₀ (.slice none 0 0) []:=⟨[],⟨rfl,.inl ⟨rfl,rfl⟩⟩,rfl,fun j b h=>by simp at h⟩
theorem BlkRow.step {W W':World} {n₀:Nat} {lv:Value} {bs:List Jn.B} (h:BlkRow W n₀ lv bs) (hs:W.heap.size≤W'.heap.size) (hb:∀g,n₀≤g→g<W.heap.size→CellsAt W g→W'.heap[g]?=W.heap[g]?):BlkRow W' n₀ lv bs:=by
  obtain ⟨cs,h1,h2,h3⟩:=h
  refine ⟨cs,own_block h1 fun g hg=>?_,h2,fun j b hj=>?_⟩
  · obtain ⟨k1,k2⟩:=own_in h1 g hg
    refine hb g k1 k2 ?_
    rcases h1.2 with ⟨rfl,_⟩ | ⟨g',cap',cur,rfl,_,hc,_⟩
    · simp [Value.ownBlock] at hg
    · simp [Value.ownBlock] at hg;subst hg;exact ⟨_,_,_,hc⟩
  · obtain ⟨sv,rv,A,k1,k2,k3⟩:=h3 j b hj
    exact ⟨sv,rv,A,k1,k2.stays fun g hg=>hb g (k3 g hg).1 (k3 g hg).2.1 (k2.cells g hg),fun g hg=>⟨(k3 g hg).1,Nat.lt_of_lt_of_le (k3 g hg).2.1 hs,(k3 g hg).2.2⟩⟩
theorem BlkRow.call {W W':World} {n₀:Nat} {lv:Value} {bs:List Jn.B} (h:BlkRow W n₀ lv bs) (hb:Below W.heap.size W W'):BlkRow W' n₀ lv bs:=h.step hb.size fun g _ hg _=>hb.block g hg
theorem BlkRow.more {W W':World} {n₀:Nat} {lv lv':Value} {bs:List Jn.B} {b:Jn.B} {sv rv:Value} {A:Nat→Prop} {cs:List Value} (hc:cs.length=bs.length*5) (h3:∀j b,bs[j]?=some b→∃sv rv A,(∀i v,(BC b sv rv)[i]?=some v→cs[j*5+i]?=some v)∧BkI W A b sv rv∧∀g,A g→n₀≤g∧g<W.heap.size∧lv.ownBlock≠some g)
    (hb:BkI W A b sv rv) (hA:∀g,A g→n₀≤g∧g<W.heap.size∧lv.ownBlock≠some g) (hg:W.grownBy W' lv.ownBlock) (hat:lv'.ownBlock=lv.ownBlock∨lv'.ownBlock=some W.heap.size) (hn:W'.ownsRow n₀ 26 5 lv' (bs.length+1) (cs++BC b sv rv)):BlkRow W' n₀ lv' (bs++[b]):=by
  have move:∀A:Nat→Prop,(∀g,A g→n₀≤g∧g<W.heap.size∧lv.ownBlock≠some g)→∀g,A g→W'.heap[g]?=W.heap[g]?∧n₀≤g∧g<W'.heap.size∧lv'.ownBlock≠some g:=by
    intro A hA g hg'
    obtain ⟨k1,k2,k3⟩:=hA g hg'
    refine ⟨hg.block g k2 (fun q=>k3 q.symm),k1,Nat.lt_of_lt_of_le k2 hg.size,?_⟩
    rcases hat with e | e
    · rw [e];exact k3
    · rw [e];intro q;simp at q;omega
  refine ⟨cs++BC b sv rv,by rw [List.length_append];exact hn,by simp [hc,BC];omega,fun j u hj=>?_⟩
  rcases Nat.lt_or_ge j bs.length with hlt | hge
  · rw [List.getElem?_append_left hlt] at hj
    obtain ⟨sv',rv',A',k1,k2,k3⟩:=h3 j u hj
    refine ⟨sv',rv',A',fun i v hi=>?_,k2.stays fun g hg'=>(move A' k3 g hg').1,fun g hg'=>(move A' k3 g hg').2⟩
    have hi5:i<5:=by have:=(List.getElem?_eq_some_iff.1 hi).1;simpa [BC] using this
    rw [List.getElem?_append_left (by omega)]
    exact k1 i v hi
  · have hj2:j=bs.length:=by
      have:=(List.getElem?_eq_some_iff.1 hj).1
      simp at this;omega
    subst hj2
    rw [List.getElem?_append_right (Nat.le_refl _),Nat.sub_self] at hj
    simp at hj
    subst hj
    refine ⟨sv,rv,A,fun i v hi=>?_,hb.stays fun g hg'=>(move A hA g hg').1,fun g hg'=>(move A hA g hg').2⟩
    rw [List.getElem?_append_right (by omega),←hc,Nat.add_sub_cancel_left]
    exact hi
end Go.Proofs.YtggnfejjcgbebaaGreatDoor
/- The frames that stand behind one another at the beginning of bytes, as they are ranged over. -/
namespace Go.Proofs.YtggnfejjcgbebaaGreatDoor
open Go.RowKit Go.Shelf
open Vl (V)
attribute [local go_sem] Oper.semAt_some
namespace Jn
def frsN:Nat→ByteArray→List ByteArray
  | 0,_=>[]
  | n+1,s=>match ff s with
    | none=>[]
    | some t=>t :: frsN n (s.extract (12+t.size) s.size)
def frs (s:ByteArray):List ByteArray:=frsN s.size s
theorem ff_size {s t:ByteArray} (h:ff s=some t):12+t.size≤s.size:=by
  rw [ff] at h
  split at h
  · cases h
  split at h
  · cases h
  split at h
  · injection h with h
    rw [←h,ByteArray.size_extract,ByteArray.size_extract]
    omega
  · cases h
theorem ff_small {s t:ByteArray} (h:ff s=some t):t.size≤16384:=by
  rw [ff] at h
  split at h
  · cases h
  split at h
  · cases h
  split at h
  · injection h with h
    rw [←h,ByteArray.size_extract,ByteArray.size_extract]
    omega
  · cases h
theorem rest_size {s t:ByteArray} (h:ff s=some t):(s.extract (12+t.size) s.size).size+12≤s.size:=by
  have:=ff_size h
  rw [ByteArray.size_extract]
  omega
theorem frsN_more:∀(n m:Nat) (s:ByteArray),s.size≤n→s.size≤m→frsN n s=frsN m s
  | 0,0,_,_,_=>rfl
  | 0,m+1,s,h,_=>by
    have h0:ff s=none:=by rw [ff,if_pos (by omega)]
    rw [frsN,frsN,h0]
  | n+1,0,s,_,h=>by
    have h0:ff s=none:=by rw [ff,if_pos (by omega)]
    rw [frsN,frsN,h0]
  | n+1,m+1,s,h1,h2=>by
    rw [frsN,frsN]
    cases h:ff s with
    | none=>rfl
    | some t =>
      have:=rest_size h
      exact congrArg (t :: ·) (frsN_more n m _ (by omega) (by omega))
theorem frs_none {s:ByteArray} (h:ff s=none):frs s=[]:=by
  unfold frs
  cases s.size with
  | zero=>rfl
  | succ n=>rw [frsN,h]
theorem frs_some {s t:ByteArray} (h:ff s=some t):frs s=t :: frs (s.extract (12+t.size) s.size):=by
  have h2:=rest_size h
  obtain ⟨n,hn⟩:∃n,s.size=n+1:=⟨s.size - 1,by omega⟩
  rw [frs,hn,frsN,h]
  show t :: _=t :: _
  rw [frs,←hn]
  exact congrArg (t :: ·) (frsN_more _ _ _ (by omega) (by omega))
def strSize:Value→Nat
  | .string b=>b.size
  | _=>0
end Jn
theorem grown_below {W W':World} (h:Below W.heap.size W W'):W.grownBy W' none:=⟨h.os,h.tape,h.output,h.size,fun k hk _=>h.block k hk⟩
set_option maxRecDepth 100000 in
set_option maxHeartbeats 4000000 in
theorem frames1_in (n:Nat) (hn:1≤n) (l Bs n₀:Nat) (s:ByteArray) (J Jx:List ByteArray→World→Prop)
    (hJ:∀pre W W',J pre W→Below W.heap.size W W'→J pre W')
    (hY:∀pre x W,J pre W→x∈Jn.frs s→pre.length<s.size→YieldAt Fence.wide (n - 1) Tryz.prog l #[.string x] W fun e W' =>
      (e=.returned (.bool true)∧J (pre++[x]) W'∧Below n₀ W W')∨(e=.returned (.bool false)∧Jx (pre++[x]) W'))
    (W:World) (hn₀:n₀≤W.heap.size) (hBs:W.cell? ⟨Bs,0,none⟩=some (.string s)) (hK:∀W',Below n₀ W W'→HasK W') (h0:J [] W) :
    CallsIn Fence.wide n Tryz.prog 97 #[.func (.yield l) #[] #[],.pointer (some ⟨Bs,0,none⟩)] W fun e W'=>(∃v,e=.returned v) ∧
      ((∃ys,ys=Jn.frs s∧J ys W')∨(∃pre,pre <+: Jn.frs s∧Jx pre W')):=by
  refine callsIn_of_wp Tryz.func97 rfl trivial ?_ rfl
  simp only [Tryz.ntmps97,List.size_toArray,List.length_cons,List.length_nil,Nat.reduceAdd,Nat.reduceSub,Array.replicate_succ,Array.replicate_zero,List.push_toArray,List.append_toArray,List.nil_append,List.cons_append]
  gi_wp2
  gi_loopw [3] (fun p wr=>∃(pre:List ByteArray) (rest:ByteArray),p=.string rest∧Jn.frs s=pre++Jn.frs rest∧J pre wr∧Below n₀ W wr∧pre.length+rest.size≤s.size) (fun p _=>Jn.strSize p)
  case atStart=>exact ⟨[],s,rfl,rfl,h0,Below.refl _ _,by simp⟩
  case round =>
    obtain ⟨pre,rest,rfl,hx,hJs,hB,hlen⟩:=hrel
    have HFF:Hid (Calls Tryz.prog 98 #[.string rest] wr fun e w'=>(∃t,Jn.ff rest=some t∧e=.returned (.tuple #[.string t,.bool true])∨Jn.ff rest=none∧e=.returned (.tuple #[.string ⟨#[]⟩,.bool false]))∧Below wr.heap.size wr w'):=firstFrame_c rest wr (hK _ hB)
    cases hf:Jn.ff rest with
    | none =>
      have C:CallsIn Fence.wide (n - 1) Tryz.prog 98 #[.string rest] wr fun e w'=>e=.returned (.tuple #[.string ⟨#[]⟩,.bool false])∧Below wr.heap.size wr w':=callsIn_wide.2 (HFF.out.mono (by
        rintro e w' ⟨⟨t,h | h⟩,hb⟩
        · rw [hf] at h;cases h.1
        · exact ⟨h.2,hb⟩))
      gi_wp2_with (refine ⟨trivial,?_⟩;gi_at_call 98;refine C.mono ?_;rintro e w' ⟨rfl,hb⟩)
      refine ⟨fun _ h=>(by cases h),?_⟩
      gi_wp2
      refine bodyPost_ret (results_none rfl _ _ _) rfl ?_
      exact ⟨⟨_,rfl⟩,.inl ⟨pre,by rw [hx,Jn.frs_none hf];simp,hJ _ _ _ hJs hb⟩⟩
    | some t =>
      have C:CallsIn Fence.wide (n - 1) Tryz.prog 98 #[.string rest] wr fun e w'=>e=.returned (.tuple #[.string t,.bool true])∧Below wr.heap.size wr w':=callsIn_wide.2 (HFF.out.mono (by
        rintro e w' ⟨⟨t',h | h⟩,hb⟩
        · rw [hf] at h
          obtain ⟨h1,h2⟩:=h
          injection h1 with h1
          subst h1
          exact ⟨h2,hb⟩
        · rw [hf] at h;cases h.1))
      have hrs:=Jn.rest_size hf
      have hts:=Jn.ff_size hf
      have htm:=Jn.ff_small hf
      have hcut:∀wx:World,(Instr.slice 9 (.string rest) (some (.int .i64 (12+(t.size:Int)))) none none).run Tryz.prog wx=.ok (.string (rest.extract (12+t.size) rest.size)) wx:=fun wx=>by
        rw [run_slice_string_from_if (P:=Tryz.prog) wx 9 rest .i64 (12+(t.size:Int)) Tryz.underlying9,if_pos ⟨by omega,by omega⟩]
        rw [show (12+(t.size:Int)).toNat=12+t.size by omega]
      gi_wp2_with (refine ⟨trivial,?_⟩;gi_at_call 98;refine C.mono ?_;rintro e w' ⟨rfl,hb⟩;have hJ':=hJ _ _ _ hJs hb;have hB':=hB.trans (hb.mono (Nat.le_trans hn₀ hB.size));obtain ⟨fn,tmps,assign,body,hy,hR⟩:=hY pre t w' hJ' (by rw [hx,Jn.frs_some hf];simp) (by omega))
      refine hR.mono ?_
      rintro e W3 (⟨rfl,hJ3,hk3⟩ | ⟨rfl,hJx3⟩)
      · gi_wp2
        go_roundw
        case rel=>exact ⟨pre++[t],_,rfl,by rw [hx,Jn.frs_some hf];simp,hJ3,hB'.trans hk3,by simp;omega⟩
        case measure=>simp only [Jn.strSize];omega
      · gi_wp2
        refine bodyPost_ret (results_none rfl _ _ _) rfl ?_
        exact ⟨⟨_,rfl⟩,.inr ⟨pre++[t],by rw [hx,Jn.frs_some hf];exact ⟨Jn.frs (rest.extract (12+t.size) rest.size),by simp⟩,hJx3⟩⟩
end Go.Proofs.YtggnfejjcgbebaaGreatDoor
