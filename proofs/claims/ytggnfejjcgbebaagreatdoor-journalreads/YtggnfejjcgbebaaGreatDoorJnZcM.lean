/- The blocks that stand in bytes, scanned. -/
import Derived.Test.YtggnfejjcgbebaaGreatDoorQJM
import Derived.RangeFuncWrites
import Derived.Maps.OwnIn
import Derived.Sort.CutIn
import Derived.RangeFuncBox
namespace Go.Proofs.YtggnfejjcgbebaaGreatDoor
open Go.RowKit Go.Shelf
open Vl (V)
attribute [local go_sem] Oper.semAt_some
namespace Jn
def prevOf (bs:List B):ByteArray:=match bs.getLast? with
  | none=>ahead
  | some b=>digest (headOf b)
theorem prevOf_snoc (bs:List B) (b:B):prevOf (bs++[b])=digest (headOf b):=by simp [prevOf]
def total (ts:List ByteArray):Nat:=(ts.map fun t=>12+t.size).sum
theorem total_snoc (ts:List ByteArray) (t:ByteArray):total (ts++[t])=total ts+(12+t.size):=by simp [total]
inductive Took:List ByteArray→List B→Prop
  | none:Took [] []
  | more {ts bs b}:Took ts bs→berr b=0→rngB b→b.seq=bs.length+1→b.prev=prevOf bs→Took (ts++[btext b]) (bs++[b])
theorem Took.len {ts:List ByteArray} {bs:List B} (h:Took ts bs):ts.length=bs.length:=by
  induction h with
  | none=>rfl
  | more _ _ _ _ _ ih=>simp [ih]
def Ends (bs:List B) (x:ByteArray):Prop:=∀b,berr b=0→rngB b→btext b=x→b.seq=bs.length+1→b.prev≠prevOf bs
theorem Took.mem {ts:List ByteArray} {bs:List B} (h:Took ts bs):∀t∈ts,∃b,btext b=t∧berr b=0∧rngB b∧b.seq≤bs.length:=by
  induction h with
  | none=>intro t ht;cases ht
  | more h1 h2 h3 h4 h5 ih =>
    intro t ht
    rw [List.length_append]
    rcases List.mem_append.1 ht with h | h
    · obtain ⟨b,k1,k2,k3,k4⟩:=ih t h
      exact ⟨b,k1,k2,k3,by omega⟩
    · rw [List.mem_singleton] at h
      exact ⟨_,h.symm,h2,h3,by simp;omega⟩
theorem Took.nodup {ts:List ByteArray} {bs:List B} (h:Took ts bs):ts.Nodup:=by
  induction h with
  | none=>exact List.nodup_nil
  | more h1 h2 h3 h4 h5 ih =>
    rw [List.nodup_append]
    refine ⟨ih,by simp,fun a ha b hb e=>?_⟩
    rw [List.mem_singleton] at hb
    obtain ⟨c,k1,k2,k3,k4⟩:=h1.mem a ha
    have e2:=btext_inj k2 h2 k3 h3 (by rw [k1,e,hb])
    rw [e2] at k4
    omega
theorem btext_big {b:B} (h:berr b=0):76≤(btext b).size:=by
  obtain ⟨_,_,_,_,hw,ht⟩:=berr_ok h
  obtain ⟨_,_,hp,hr,_⟩:=berr_seq h
  rw [ht,Bn.wtext,if_pos hw]
  show 76≤(Bn.bytes (bv b)).toArray.size
  have n1:=Bn.num_pos 5
  have n2:=Bn.num_pos (Bn.fold (i64 b.seq))
  have n3:=Bn.num_pos b.prev.size
  have n4:=Bn.num_pos b.root.size
  have n5:=Bn.num_pos (b.sts.map txt).length
  have n6:=Bn.num_pos (b.revs.map fun r=>blob (rtext r)).length
  have l1:b.prev.data.toList.length=32:=by rw [←Lib.size_eq];exact hp
  have l2:b.root.data.toList.length=32:=by rw [←Lib.size_eq];exact hr
  simp [bv,lst,num,blob,Bn.bytes,Bn.bytesL,Bn.text] at *
  omega
theorem Took.big {ts:List ByteArray} {bs:List B} (h:Took ts bs):bs.length*88≤total ts:=by
  induction h with
  | none=>exact Nat.zero_le _
  | more h1 h2 h3 h4 h5 ih =>
    have:=btext_big h2
    rw [total_snoc,List.length_append]
    simp
    omega
theorem total_erase:∀(l:List (List UInt8)) (t:List UInt8),t∈l→(l.map fun t=>12+t.length).sum=(12+t.length)+((l.erase t).map fun t=>12+t.length).sum
  | [],t,h=>by cases h
  | x :: l,t,h=>by
    by_cases e:x=t
    · subst e
      rw [List.erase_cons_head]
      simp
    · rw [List.erase_cons_tail (by simpa using e)]
      have:=total_erase l t (by rcases List.mem_cons.1 h with h | h;exact absurd h.symm e;exact h)
      simp only [List.map_cons,List.sum_cons]
      omega
theorem total_sub:∀(ts l:List (List UInt8)),ts.Nodup→(∀t∈ts,t∈l)→(ts.map fun t=>12+t.length).sum≤(l.map fun t=>12+t.length).sum
  | [],l,_,_=>Nat.zero_le _
  | t :: ts,l,h,hs=>by
    obtain ⟨h1,h2⟩:=List.nodup_cons.1 h
    have h3:=total_erase l t (hs t (by simp))
    have h4:=total_sub ts (l.erase t) h2 (fun x hx=>by
      have hne:x≠t:=fun e=>h1 (by rw [←e];exact hx)
      exact (List.mem_erase_of_ne hne).2 (hs x (by simp [hx])))
    simp only [List.map_cons,List.sum_cons]
    omega
theorem total_lists (l:List ByteArray):total l=((l.map fun t=>t.data.toList).map fun t=>12+t.length).sum:=by
  rw [total,List.map_map]
  congr 1
theorem total_frs:∀(n:Nat) (s:ByteArray),s.size≤n→total (frs s)≤s.size
  | 0,s,h=>by
    have h0:ff s=none:=by rw [ff,if_pos (by omega)]
    rw [frs_none h0];exact Nat.zero_le _
  | n+1,s,h=>by
    cases hf:ff s with
    | none=>rw [frs_none hf];exact Nat.zero_le _
    | some t =>
      have h1:=ff_size hf
      have h2:=rest_size hf
      have h3:=total_frs n (s.extract (12+t.size) s.size) (by omega)
      rw [frs_some hf]
      have h4:(s.extract (12+t.size) s.size).size=s.size - (12+t.size):=by rw [ByteArray.size_extract];omega
      simp only [total,List.map_cons,List.sum_cons] at h3 ⊢
      omega
theorem total_prefix {ts:List ByteArray} {s:ByteArray} (h:ts <+: frs s):total ts≤s.size:=by
  obtain ⟨r,e⟩:=h
  have h1:=total_frs s.size s (Nat.le_refl _)
  rw [←e] at h1
  simp only [total,List.map_append,List.sum_append] at h1 ⊢
  omega
theorem Took.few {ts:List ByteArray} {bs:List B} {s:ByteArray} (h:Took ts bs) (hm:∀t∈ts,t∈frs s):bs.length*88≤s.size:=by
  have h1:=h.big
  have h2:=total_frs s.size s (Nat.le_refl _)
  have h3:total ts≤total (frs s):=by
    rw [total_lists,total_lists]
    refine total_sub _ _ ?_ (fun t ht=>?_)
    · refine List.Pairwise.map _ (fun a b hab e=>hab ?_) h.nodup
      exact Bn.data_ext e
    · obtain ⟨x,hx,rfl⟩:=List.mem_map.1 ht
      exact List.mem_map.2 ⟨x,hm x hx,rfl⟩
  omega
end Jn
theorem CellsAt.lt {W:World} {g:Nat} (h:CellsAt W g):g<W.heap.size:=by
  obtain ⟨cs,t,fr,e⟩:=h
  exact (Array.getElem?_eq_some_iff.1 e).1
structure MC (w:World) (B4 B5 n₀:Nat) (lv v5 v6:Value) (bs:List Jn.B) (W:World):Prop where
  below:Below w.heap.size w W
  b4:W.heap[B4]?=some (.cells #[lv] 50 (0,0))
  b5:W.heap[B5]?=some (.cells #[v5] 3 (0,0))
  b6:W.heap[B5+1]?=some (.cells #[v6] 9 (0,0))
  row:BlkRow W n₀ lv bs
  big:n₀≤W.heap.size
theorem MC.step {w W W':World} {B4 B5 n₀:Nat} {lv v5 v6:Value} {bs:List Jn.B} (h:MC w B4 B5 n₀ lv v5 v6 bs W) (hw:Below w.heap.size w W') (hs:W.heap.size≤W'.heap.size) (hb:∀g,CellsAt W g→W'.heap[g]?=W.heap[g]?):MC w B4 B5 n₀ lv v5 v6 bs W' :=
  ⟨hw,(hb _ ⟨_,_,_,h.b4⟩).trans h.b4,(hb _ ⟨_,_,_,h.b5⟩).trans h.b5,(hb _ ⟨_,_,_,h.b6⟩).trans h.b6,h.row.step hs fun g _ _ hc=>hb g hc,Nat.le_trans h.big hs⟩
theorem MC.call {w W W':World} {B4 B5 n₀:Nat} {lv v5 v6:Value} {bs:List Jn.B} (h:MC w B4 B5 n₀ lv v5 v6 bs W) (hb:Below W.heap.size W W'):MC w B4 B5 n₀ lv v5 v6 bs W' :=
  h.step (h.below.trans (hb.mono h.below.size)) hb.size fun g hg=>hb.block g hg.lt
theorem MC.turn {w W W':World} {B4 B5 n₀ B:Nat} {lv v5 v6:Value} {bs:List Jn.B} {row:Option Nat} (h:MC w B4 B5 n₀ lv v5 v6 bs W) (hB:w.heap.size≤B) (hg:W.grownBy W' row) (hr:∀r,row=some r→B≤r∧∃o:Obj,W.heap[r]?=some o∧o.isCells=false):MC w B4 B5 n₀ lv v5 v6 bs W':=by
  have hb:∀g,CellsAt W g→W'.heap[g]?=W.heap[g]?:=fun g hc=>by
    refine hg.block g hc.lt fun q=>?_
    obtain ⟨_,o,h1,h2⟩:=hr g q.symm
    obtain ⟨cs,t,fr,e⟩:=hc
    rw [e] at h1
    injection h1 with h1
    subst h1
    cases h2
  refine h.step ⟨hg.os.trans h.below.os,hg.tape.trans h.below.tape,hg.output.trans h.below.output,Nat.le_trans h.below.size hg.size,fun k hk=>?_⟩ hg.size hb
  refine (hg.block k (Nat.lt_of_lt_of_le hk h.below.size) fun q=>?_).trans (h.below.block k hk)
  have:=(hr k q.symm).1
  omega
theorem MC.set5 {w W:World} {B4 B5 n₀:Nat} {lv v5 v6:Value} {bs:List Jn.B} (h:MC w B4 B5 n₀ lv v5 v6 bs W) (h1:w.heap.size≤B4) (h2:B4<B5) (h3:B5+1<n₀) (v:Value):MC w B4 B5 n₀ lv v v6 bs (W.setCell ⟨B5,0,none⟩ v):=by
  have o:∀k,k≠B5→(W.setCell ⟨B5,0,none⟩ v).heap[k]?=W.heap[k]?:=fun k hk=>heap_setCell_other _ _ _ _ hk
  exact ⟨h.below.setCell (p:=⟨B5,0,none⟩) (by show w.heap.size≤B5;omega) _,(o _ (by omega)).trans h.b4,heap_setCell_same W B5 0 _ 3 v h.b5,(o _ (by omega)).trans h.b6,h.row.step (by simp) fun g hg _ _=>o g (by omega),by simp;exact h.big⟩
theorem MC.set6 {w W:World} {B4 B5 n₀:Nat} {lv v5 v6:Value} {bs:List Jn.B} (h:MC w B4 B5 n₀ lv v5 v6 bs W) (h1:w.heap.size≤B4) (h2:B4<B5) (h3:B5+1<n₀) (v:Value):MC w B4 B5 n₀ lv v5 v bs (W.setCell ⟨B5+1,0,none⟩ v):=by
  have o:∀k,k≠B5+1→(W.setCell ⟨B5+1,0,none⟩ v).heap[k]?=W.heap[k]?:=fun k hk=>heap_setCell_other _ _ _ _ hk
  exact ⟨h.below.setCell (p:=⟨B5+1,0,none⟩) (by show w.heap.size≤B5+1;omega) _,(o _ (by omega)).trans h.b4,(o _ (by omega)).trans h.b5,heap_setCell_same W (B5+1) 0 _ 9 v h.b6,h.row.step (by simp) fun g hg _ _=>o g (by omega),by simp;exact h.big⟩
theorem MC.grow {w W W':World} {B4 B5 n₀:Nat} {lv lv' v5 v6:Value} {bs:List Jn.B} {b:Jn.B} {sv rv:Value} {A:Nat→Prop} (h:MC w B4 B5 n₀ lv v5 v6 bs W) (h1:w.heap.size≤B4) (h2:B4<B5) (h3:B5+1<n₀)
    {cs:List Value} (hc:cs.length=bs.length*5) (ho:W.ownsRow n₀ 26 5 lv bs.length cs) (h4:∀j b,bs[j]?=some b→∃sv rv A,(∀i v,(BC b sv rv)[i]?=some v→cs[j*5+i]?=some v)∧BkI W A b sv rv∧∀g,A g→n₀≤g∧g<W.heap.size∧lv.ownBlock≠some g)
    (hb:BkI W A b sv rv) (hA:∀g,A g→n₀≤g∧g<W.heap.size∧lv.ownBlock≠some g) (hg:W.grownBy W' lv.ownBlock) (hat:lv'.ownBlock=lv.ownBlock∨lv'.ownBlock=some W.heap.size) (hn:W'.ownsRow n₀ 26 5 lv' (bs.length+1) (cs++BC b sv rv)) :
    MC w B4 B5 n₀ lv' v5 v6 (bs++[b]) (W'.setCell ⟨B4,0,none⟩ lv')∧W'.heap[B4]?=some (.cells #[lv] 50 (0,0))∧KeepsOthers W W'∧Below w.heap.size W W':=by
  have hle:∀k,lv.ownBlock=some k→n₀≤k:=fun k hk=>(own_in ho k hk).1
  have hsz:=(Array.getElem?_eq_some_iff.1 h.b6).1
  have k:∀g,g<n₀→g<W.heap.size→W'.heap[g]?=W.heap[g]?:=fun g hg1 hg2=>hg.block g hg2 fun q=>by have:=hle g q.symm;omega
  have o:∀k,k≠B4→(W'.setCell ⟨B4,0,none⟩ lv').heap[k]?=W'.heap[k]?:=fun k hk=>heap_setCell_other _ _ _ _ hk
  have b4:=(k B4 (by omega) (by omega)).trans h.b4
  have hbw:Below w.heap.size W W':=⟨hg.os,hg.tape,hg.output,hg.size,fun g hg1=>k g (by omega) (by omega)⟩
  refine ⟨⟨(h.below.trans hbw).setCell (p:=⟨B4,0,none⟩) (by show w.heap.size≤B4;exact h1) _,heap_setCell_same W' B4 0 _ 50 lv' b4,?_,?_,?_,by simp;exact Nat.le_trans h.big hg.size⟩,b4,⟨hg.size,fun g ob hg1 hg2=>?_⟩,hbw⟩
  · exact (o _ (by omega)).trans ((k _ (by omega) (by omega)).trans h.b5)
  · exact (o _ (by omega)).trans ((k _ (by omega) (by omega)).trans h.b6)
  · exact (BlkRow.more hc h4 hb hA hg hat hn).step (by simp) fun g hg1 _ _=>o g (by omega)
  · refine (hg.block g (Array.getElem?_eq_some_iff.1 hg1).1 fun q=>?_).trans hg1
    rcases ho.2 with ⟨rfl,_⟩ | ⟨g',cap',cur,rfl,_,hcc,_⟩
    · simp [Value.ownBlock] at q
    · simp [Value.ownBlock] at q;subst q
      rw [hcc] at hg1
      injection hg1 with hg1
      subst hg1
      cases hg2
theorem keeps_below {W W':World} (h:Below W.heap.size W W'):KeepsOthers W W':=⟨h.size,fun k _ hk _=>(h.block k (Array.getElem?_eq_some_iff.1 hk).1).trans hk⟩
def SC (w:World) (B4 B5 n₀:Nat) (ts:List ByteArray) (lv:Value) (bs:List Jn.B) (W:World):Prop:=Jn.Took ts bs∧MC w B4 B5 n₀ lv (.int .i64 (IntKind.i64.wrap (Jn.total ts:Int))) (.string (Jn.prevOf bs)) bs W
theorem BlkRow.mono {W:World} {n₀ n₁:Nat} {lv:Value} {bs:List Jn.B} (h:BlkRow W n₀ lv bs) (hn:n₁≤n₀):BlkRow W n₁ lv bs:=by
  obtain ⟨cs,h1,h2,h3⟩:=h
  refine ⟨cs,own_down h1 hn,h2,fun j b hj=>?_⟩
  obtain ⟨sv,rv,A,k1,k2,k3⟩:=h3 j b hj
  exact ⟨sv,rv,A,k1,k2,fun g hg=>⟨Nat.le_trans hn (k3 g hg).1,(k3 g hg).2⟩⟩
theorem MC.fin {w W:World} {B4 B5 n₀ D:Nat} {lv v5 v6:Value} {bs:List Jn.B} (h:MC w B4 B5 n₀ lv v5 v6 bs W) (hn:w.heap.size≤n₀) (hD:w.heap.size≤D) (hK:W.heap[D]?=some (.deferred (some []))) (o:Obj):Below w.heap.size w (W.drew.putObj D o)∧BlkRow (W.drew.putObj D o) w.heap.size lv bs:=by
  have hb:Below w.heap.size w (W.drew.putObj D o):=h.below.drew.trans (belowK_b (w:=w) (Nat.le_refl _) W.drew D _ _ hD hK rfl rfl)
  have hs:W.heap.size≤(W.drew.putObj D o).heap.size:=by simp
  refine ⟨hb,(h.step hb hs fun g hc=>?_).row.mono hn⟩
  refine World.putObj_heap_other (w:=W.drew) fun e=>?_
  subst e
  obtain ⟨cs,t,fr,e⟩:=hc
  rw [e] at hK
  cases hK
theorem wrap_off (a:Int):∃k,wrap64 a=a+18446744073709551616*k:=⟨-((a+9223372036854775808) / 18446744073709551616),by unfold wrap64;omega⟩
theorem wrap_off_eq (a k:Int):wrap64 (a+18446744073709551616*k)=wrap64 a:=by
  unfold wrap64
  rw [show a+18446744073709551616*k+9223372036854775808=(a+9223372036854775808)+18446744073709551616*k by omega,Int.add_mul_emod_self_left]
theorem wrap_total (a n:Nat):wrap64 (IntKind.i64.wrap (a:Int)+wrap64 (12+(n:Int)))=IntKind.i64.wrap (((a+(12+n):Nat)):Int):=by
  have e:∀x,IntKind.i64.wrap x=wrap64 x:=fun x=>by first | rfl | (rw [IntKind.wrap_i64];unfold wrap64;rfl) | simp
  rw [e,e]
  obtain ⟨k1,h1⟩:=wrap_off (a:Int)
  obtain ⟨k2,h2⟩:=wrap_off (12+(n:Int))
  rw [h1,h2,show (a:Int)+18446744073709551616*k1+(12+(n:Int)+18446744073709551616*k2)=((a+(12+n):Nat):Int)+18446744073709551616*(k1+k2) by omega,wrap_off_eq]
theorem infoBlk3:(Tryz.prog.info? 26).map (fun i=>(i.zero,i.size,i.bytes))=some (some (.agg #[.int .u64 0,.string ⟨#[]⟩,.string ⟨#[]⟩,.slice none 0 0,.slice none 0 0]),5,88):=by kernel_rfl
theorem frames_stops (n:Nat) (hn:1≤n) (Bs:Nat) (s:ByteArray) (w w0:World) (hBs:Bs<w0.heap.size) (hc:w0.cell? ⟨Bs,0,none⟩=some (.string s)) (hK:HasK w) (hb:Below w.heap.size w w0) :
    SeqStopsK Fence.wide n Tryz.prog 97 #[.pointer (some ⟨Bs,0,none⟩)] (fun x:{ t:ByteArray // t∈Jn.frs s }=>#[Value.string x.1]) (Below w.heap.size) (fun ys=>ys.map (·.1)=Jn.frs s) (fun pre=>pre.map (·.1) <+: Jn.frs s) s.size w0:=fun l J Jx W hW hJ _ hY h0=>by
  refine (frames1_in n hn l Bs w.heap.size s (fun pre W=>∃p:List { t:ByteArray // t∈Jn.frs s },p.map (·.1)=pre∧J p W) (fun pre W=>∃p:List { t:ByteArray // t∈Jn.frs s },p.map (·.1)=pre∧Jx p W) (fun pre A B hs hb=>?_) (fun pre x W1 hs hx hlen=>?_) W (Nat.le_trans hb.size hW.size) ((hW.cell (p:=⟨Bs,0,none⟩) hBs).trans hc) (fun W' h'=>?_) ⟨[],rfl,h0⟩).mono ?_
  · obtain ⟨p,rfl,hp⟩:=hs
    exact ⟨p,rfl,hJ p A B none hp (grown_below hb) (fun r e=>by cases e)⟩
  · obtain ⟨p,rfl,hp⟩:=hs
    obtain ⟨fn,tmps,assign,body,hy,hR⟩:=hY p ⟨x,hx⟩ W1 hp (by simpa using hlen)
    refine ⟨fn,tmps,assign,body,hy,hR.mono ?_⟩
    rintro e W3 (⟨rfl,h1,h2⟩ | ⟨rfl,h1⟩)
    · exact .inl ⟨rfl,⟨p++[⟨x,hx⟩],by simp,h1⟩,h2⟩
    · exact .inr ⟨rfl,⟨p++[⟨x,hx⟩],by simp,h1⟩⟩
  · exact hK.below hK.1 ((hb.trans (hW.mono hb.size)).trans h')
  · rintro e W' ⟨hv,⟨ys,rfl,p,hp,h⟩ | ⟨pre,hpre,p,rfl,h⟩⟩
    · exact ⟨hv,.inl ⟨p,hp,h⟩⟩
    · exact ⟨hv,.inr ⟨p,hpre,h⟩⟩
set_option maxHeartbeats 1000000 in
theorem frames_in (n:Nat) (s:ByteArray) (w:World):CallsIn Fence.wide n Tryz.prog 63 #[.string s] w fun e w'=>e=.returned (.func (.func 97) #[] #[.pointer (some ⟨w.heap.size,0,none⟩)])∧w'=w.alloc (.cells #[.string s] 9):=by
  refine callsIn_of_wp Tryz.func63 rfl trivial ?_ rfl
  simp only [Tryz.ntmps63,List.size_toArray,List.length_cons,List.length_nil,Nat.reduceAdd,Nat.reduceSub,Array.replicate_succ,Array.replicate_zero,List.push_toArray,List.append_toArray,List.nil_append,List.cons_append]
  gi_wp2
  go_ret
  exact ⟨rfl,rfl⟩
def ScanGave (s:ByteArray) (w:World) (en:Ending) (w':World):Prop:=Below w.heap.size w w'∧∃ts bs lv,Jn.Took ts bs∧ts <+: Jn.frs s∧(ts=Jn.frs s∨∃x,ts++[x] <+: Jn.frs s∧Jn.Ends bs x)∧en=.returned (.tuple #[lv,.int .i64 (Jn.total ts:Int)])∧BlkRow w' w.heap.size lv bs
set_option maxRecDepth 100000 in
set_option maxHeartbeats 16000000 in
theorem scan_c (s:ByteArray) (hs:s.size≤140737488351232) (w:World) (hU:Bn.HasU w) (hK:HasK w):Calls Tryz.prog 21 #[.string s] w (ScanGave s w):=by
  refine (callsIn_wide (n:=6)).1 ?_
  refine callsIn_of_wp_marks Tryz.func21 rfl trivial ?_ rfl
  simp only [Tryz.ntmps21,List.size_toArray,List.length_cons,List.length_nil,Nat.reduceAdd,Nat.reduceSub,Array.replicate_succ,Array.replicate_zero,List.push_toArray,List.append_toArray,List.nil_append,List.cons_append]
  gi_wp2_with (first | (refine ⟨trivial,?_⟩;gi_at_call 28;refine (callsIn_wide.2 (ahead_c _)).mono ?_;rintro e w1 ⟨rfl,hb1⟩) | (refine ⟨trivial,?_⟩;gi_at_call 63;refine (frames_in _ _ _).mono ?_;rintro e w' ⟨rfl,rfl⟩))
  obtain ⟨W0,hW0⟩:∃W0,W0=(((w1.alloc (.cells #[.int .i64 0] 3)).alloc (.cells #[.string Jn.ahead] 9)).alloc (.cells #[.string s] 9)):=⟨_,rfl⟩
  obtain ⟨B5,hB5⟩:∃B5,B5=w1.heap.size:=⟨_,rfl⟩
  have HB:Hid (w.heap.size<B5∧W0.heap.size=B5+3∧Below w.heap.size w W0∧W0.cell? ⟨B5+1+1,0,none⟩=some (.string s)∧SC w w.heap.size B5 (B5+3) [] (.slice none 0 0) [] W0):=by
    have hb0:=below_new w (.cells #[.slice none 0 0] 50)
    have h1:=hb1.size
    have hb01:=hb0.trans (hb1.mono (by simp))
    have e1:=heap_alloc_new w (.cells #[.slice none 0 0] 50 (0,0))
    have e2:=blk_call e1 hb1
    have hW:Below w1.heap.size w1 W0:=by rw [hW0];exact ((below_new _ _).trans ((below_new _ _).mono (by simp))).trans ((below_new _ _).mono (by simp;omega))
    have c5:W0.heap[B5]?=some (.cells #[.int .i64 0] 3 (0,0)):=by
      rw [hW0,hB5];exact blk_call (blk_call (heap_alloc_new w1 _) (below_new _ _)) (below_new _ _)
    have c6:W0.heap[B5+1]?=some (.cells #[.string Jn.ahead] 9 (0,0)):=by
      have:=heap_alloc_new (w1.alloc (.cells #[.int .i64 0] 3)) (.cells #[.string Jn.ahead] 9)
      rw [World.size_alloc] at this
      rw [hW0,hB5];exact blk_call this (below_new _ _)
    have c7:W0.heap[B5+1+1]?=some (.cells #[.string s] 9 (0,0)):=by
      have:=heap_alloc_new ((w1.alloc (.cells #[.int .i64 0] 3)).alloc (.cells #[.string Jn.ahead] 9)) (.cells #[.string s] 9)
      rw [World.size_alloc,World.size_alloc] at this
      rw [hW0,hB5];exact this
    have hlt:w.heap.size<B5:=by rw [hB5];have:=h1;simp at this;omega
    refine ⟨hlt,by rw [hW0,hB5];simp,hb01.trans (hW.mono hb01.size),block_cells c7 0 _ rfl,Jn.Took.none,hb01.trans (hW.mono hb01.size),?_,c5,c6,BlkRow.none _ _,by rw [hW0,hB5];simp⟩
    exact (hW.block _ (by rw [←hB5];exact hlt)).trans e2
  rw [←hW0,←hB5]
  have HU:Hid (∀W,Below w.heap.size w W→Bn.HasU W):=fun W hW=>hU.stays hW
  have HK:Hid (∀W,Below w.heap.size w W→HasK W):=fun W hW=>hK.below hK.1 hW
  clear hW0 hB5 hb1 hU
  obtain ⟨hlt5,hsz0,hbW0,hcs,hS0⟩:=HB.out
  refine wpIn_rangeFunc_ownG rfl (by omega) (gf:=97) (lb:=#[.pointer (some ⟨B5+1+1,0,none⟩)]) rfl trivial (enters_of Tryz.func97 (by kernel_rfl) rfl)
    (frames_stops 5 (by omega) (B5+1+1) s w W0 (by omega) hcs hK hbW0) belowK_t (belowK_b hbW0.size) (Below.refl _ _) (fun _=>rfl)
    (fun pre W=>∃lv bs,SC w w.heap.size B5 (B5+3) (pre.map (·.1)) lv bs W)
    (fun c pre W=>c=.exit 0∧∃ts x lv bs,pre.map (·.1)=ts++[x]∧SC w w.heap.size B5 (B5+3) ts lv bs W∧Jn.Ends bs x)
    (fun pre A B row hs hg hr=>by
      obtain ⟨lv,bs,h1,h2⟩:=hs
      exact ⟨lv,bs,h1,h2.turn hbW0.size hg hr⟩)
    (fun c pre A B row hs hg hr=>by
      obtain ⟨hc,ts,x,lv,bs,e,⟨h1,h2⟩,h3⟩:=hs
      exact ⟨hc,ts,x,lv,bs,e,⟨h1,h2.turn hbW0.size hg hr⟩,h3⟩)
    ⟨_,_,hS0⟩
    (fun x=>{ tmps:=#[.string s,undef,.slice none 0 0,.int .i64 0,.pointer (some ⟨w.heap.size,0,none⟩),.pointer (some ⟨B5,0,none⟩),.pointer (some ⟨B5+1,0,none⟩),.string x.1,undef,undef,.string Jn.ahead,.string s,.func (.func 97) #[] #[.pointer (some ⟨B5+1+1,0,none⟩)],.string x.1,undef,undef,undef,undef,undef,undef,undef,undef,undef,undef,undef,undef,undef,undef,undef,undef,undef,undef,undef,undef,undef,undef,undef,undef,undef,undef,undef,undef,undef,undef,undef,undef,undef,undef,undef,undef],defers:=[] }) ?assign ?body ?done ?stop
  case assign =>
    intro l x W K hK
    gi_wp2
    exact hK
  case body =>
    rintro l pre0 ⟨x,hxm⟩ W ⟨lv,bs,hT,hM⟩ hlt
    obtain ⟨pre,hpre⟩:∃pre:List ByteArray,pre=pre0.map (·.1):=⟨_,rfl⟩
    have HPM:Hid ((pre0++[(⟨x,hxm⟩:{ t:ByteArray // t∈Jn.frs s })]).map (·.1)=pre++[x]):=by show _=_;rw [hpre,List.map_append];rfl
    have hfew:=hT.few (s:=s) (fun t ht=>by obtain ⟨y,_,rfl⟩:=List.mem_map.1 ht;exact y.2)
    rw [←hpre] at hT hM
    obtain ⟨la,lc,rfl⟩:∃a c,lv=.slice a bs.length c:=by obtain ⟨cs,ho,_⟩:=hM.row;exact own_slc ho
    have hlen:=hT.len
    obtain ⟨n,hn⟩:∃n,n=bs.length:=⟨_,rfl⟩
    obtain ⟨pv,hpv⟩:∃pv,pv=Jn.prevOf bs:=⟨_,rfl⟩
    obtain ⟨tw,htw⟩:∃tw,tw=IntKind.i64.wrap (Jn.total pre:Int):=⟨_,rfl⟩
    rw [←hn,←hpv,←htw] at hM
    have HM:Hid (MC w w.heap.size B5 (B5+3) (.slice la n lc) (.int .i64 tw) (.string pv) bs W):=hM
    have HT:Hid (Jn.Took pre bs∧n=bs.length∧pv=Jn.prevOf bs∧tw=IntKind.i64.wrap (Jn.total pre:Int)):=⟨hT,hn,hpv,htw⟩
    have HNS:Hid (n*88≤s.size):=by show _≤_;rw [hn];exact hfew
    have hns:n*88≤s.size:=HNS.out
    have v1:IntKind.u64.wrap (n:Int)=(n:Int):=by rw [IntKind.wrap_u64];omega
    have v2:IntKind.u64.wrap ((n:Int)+1)=(n:Int)+1:=by rw [IntKind.wrap_u64];omega
    have CR:CallsIn Fence.wide (6 - 1 - 1 - 1) Tryz.prog 19 #[.string x] W (BlockRead x W):=callsIn_wide.2 (readB_c x W (HU.out W hM.below) (HK.out W hM.below))
    have HLT:Hid (w.heap.size<B5∧B5+1<W.heap.size):=⟨hlt5,(Array.getElem?_eq_some_iff.1 hM.b6).1⟩
    clear hM hT hlen hn hpv htw hns hfew hpre
    gi_wp2_with fail
    refine ⟨trivial,?_⟩
    refine (CallsIn.inRound l CR).mono ?_
    rintro e w2 ⟨hb2,h2⟩
    have HM2:Hid (MC w w.heap.size B5 (B5+3) (.slice la n lc) (.int .i64 tw) (.string pv) bs w2):=HM.out.call hb2
    have KO2:Hid (KeepsOthers W w2∧Below w.heap.size W w2∧W.heap.size≤w2.heap.size):=⟨keeps_below hb2,hb2.mono HM.out.below.size,hb2.size⟩
    have l4:w.heap.size<w2.heap.size:=by have:=HLT.out;have:=hb2.size;omega
    have l5:B5<w2.heap.size:=by have:=HLT.out;have:=hb2.size;omega
    have l6:B5+1<w2.heap.size:=by have:=HLT.out;have:=hb2.size;omega
    have c4:=block_cells HM2.out.b4 0 _ rfl
    have c5:=block_cells HM2.out.b5 0 _ rfl
    have c6:=block_cells HM2.out.b6 0 _ rfl
    clear CR
    rcases h2 with ⟨b,sv,rv,hbe,hbx,rfl,hbn⟩ | ⟨hno,rfl⟩
    · obtain ⟨sa,sn,sc,rfl⟩:∃a n c,sv=.slice a n c:=by obtain ⟨a,c,e⟩:=own_slc hbn.row3;exact ⟨a,_,c,e⟩
      obtain ⟨ra,rn,rc,rfl⟩:∃a n c,rv=.slice a n c:=by obtain ⟨cs,ho,_⟩:=hbn.row4;obtain ⟨a,c,e⟩:=own_slc ho;exact ⟨a,_,c,e⟩
      have HBN:Hid (Jn.berr b=0∧Jn.btext b=x∧BkN w2 W.heap.size b (.slice sa sn sc) (.slice ra rn rc)):=⟨hbe,hbx,hbn⟩
      have HENDS:Hid (b.seq≠n+1∨b.prev≠pv→Jn.Ends bs x):=fun hne b' k1 k2 k3 k4 k5=>by
        have e:=Jn.btext_inj k1 HBN.out.1 k2 HBN.out.2.2.rngB (k3.trans HBN.out.2.1.symm)
        subst e
        rcases hne with h | h
        · exact h (by rw [HT.out.2.1];exact k4)
        · exact h (by rw [HT.out.2.2.1];exact k5)
      clear hbe hbx hbn hb2
      by_cases hq1:b.seq=n+1
      · have q1:((b.seq:Int) != (n:Int)+1)=false:=by simp;omega
        by_cases hq2:b.prev=pv
        · have q2:(b.prev.toList==pv.toList)=true:=by rw [hq2];exact beq_self_eq_true _
          have HQ:Hid (b.seq=n+1∧b.prev=pv):=⟨hq1,hq2⟩
          clear hq1 hq2
          gi_upto_region 7 with fail
          obtain ⟨w3,hw3⟩:∃w3,w3=w2.alloc (.cells #[.int .u64 (b.seq:Int),.string b.prev,.string b.root,.slice sa sn sc,.slice ra rn rc] 26):=⟨_,rfl⟩
          obtain ⟨F,hF⟩:∃F,F=w2.heap.size:=⟨_,rfl⟩
          have b3:Below w2.heap.size w2 w3:=by rw [hw3];exact below_new _ _
          have HM3:Hid (MC w w.heap.size B5 (B5+3) (.slice la n lc) (.int .i64 tw) (.string pv) bs w3):=HM2.out.call b3
          have V3:Hid (w3.heap[F]?=some (.cells #[.int .u64 (b.seq:Int),.string b.prev,.string b.root,.slice sa sn sc,.slice ra rn rc] 26 (0,0))):=by rw [hw3,hF];exact heap_alloc_new w2 _
          have HI3:Hid (BkI w3 (fun g=>W.heap.size≤g∧g<w2.heap.size∧CellsAt w2 g) b (.slice sa sn sc) (.slice ra rn rc)):=HBN.out.2.2.bki.stays fun g hg=>b3.block g hg.2.1
          have KO3:Hid (KeepsOthers W w3∧Below w.heap.size W w3):=⟨KO2.out.1.trans (keeps_below b3),KO2.out.2.1.trans (b3.mono HM2.out.below.size)⟩
          have HBK3:Hid (∀W',Below w3.heap.size w3 W'→Bk W' W'.heap.size b sa sn sc ra rn rc):=fun W' h'=>(HI3.out.stays fun g hg=>h'.block g (Nat.lt_of_lt_of_le hg.2.1 b3.size)).bkn.bk
          have HF3:Hid (B5+3≤F∧F<w3.heap.size∧W.heap.size≤F∧w2.heap.size≤w3.heap.size∧F=w2.heap.size):=⟨by rw [hF];exact HM2.out.big,(Array.getElem?_eq_some_iff.1 V3.out).1,by rw [hF];exact KO2.out.2.2,b3.size,hF⟩
          rw [←hw3,←hF]
          clear hw3 hF b3 c4 c5 c6 l4 l5 l6
          have EBC:Hid (BC b (.slice sa sn sc) (.slice ra rn rc)=[.int .u64 (b.seq:Int),.string b.prev,.string b.root,.slice sa sn sc,.slice ra rn rc]):=rfl
          clear q1
          obtain ⟨cs,hown,hcl,hcb⟩:=HM3.out.row
          have HOWN:Hid (w3.ownsRow (B5+3) 26 5 (.slice la n lc) bs.length cs∧cs.length=bs.length*5∧∀j b,bs[j]?=some b→∃sv rv A,(∀i v,(BC b sv rv)[i]?=some v→cs[j*5+i]?=some v)∧BkI w3 A b sv rv∧∀g,A g→B5+3≤g∧g<w3.heap.size∧(Value.slice la n lc).ownBlock≠some g):=⟨hown,hcl,hcb⟩
          clear hown hcl hcb
          have c4:=block_cells HM3.out.b4 0 _ rfl
          have d0:=block_cells V3.out 0 _ rfl
          have d1:=block_cells V3.out 1 _ rfl
          have d2:=block_cells V3.out 2 _ rfl
          have d3:=block_cells V3.out 3 _ rfl
          have d4:=block_cells V3.out 4 _ rfl
          have fit63:Hid (n+1≤maxLen):=by have:=HNS.out;show _≤_;unfold maxLen;omega
          have fit47:Hid ((n+1)*88≤140737488355328):=by have:=HNS.out;show _≤_;omega
          obtain ⟨w4,hw4⟩:∃w4,w4=w3.alloc (.cells #[.int .u64 (b.seq:Int),.string b.prev,.string b.root,.slice sa sn sc,.slice ra rn rc] 26):=⟨_,rfl⟩
          have b4:Below w3.heap.size w3 w4:=by rw [hw4];exact below_new _ _
          have HOW4:Hid (w4.ownsRow (B5+3) 26 5 (.slice la n lc) n cs):=by have h:=own_call HOWN.out.1 b4;rw [←HT.out.2.1] at h;exact h
          have HNEW:Hid (∀j u,([.int .u64 (b.seq:Int),.string b.prev,.string b.root,.slice sa sn sc,.slice ra rn rc]:List Value)[j]?=some u→w4.cell? ((⟨w3.heap.size,0,none⟩:Addr).add j)=some u):=by rw [hw4];exact World.news_of_block (heap_alloc_new w3 _)
          have HSZ:Hid (B5+3≤w4.heap.size∧w4.heap.size=w3.heap.size+1):=⟨Nat.le_trans HM3.out.big b4.size,by rw [hw4];simp⟩
          have HG:Hid (∀gg cap w5,w5.ownsRow (B5+3) 26 5 (.slice (some ⟨gg,0,none⟩) (n+1) cap) (n+1) (cs++[.int .u64 (b.seq:Int),.string b.prev,.string b.root,.slice sa sn sc,.slice ra rn rc])→w4.grownBy w5 (Value.slice la n lc).ownBlock→((Value.slice (some ⟨gg,0,none⟩) (n+1) cap).ownBlock=(Value.slice la n lc).ownBlock∨(Value.slice (some ⟨gg,0,none⟩) (n+1) cap).ownBlock=some w4.heap.size)→MC w w.heap.size B5 (B5+3) (.slice (some ⟨gg,0,none⟩) (n+1) cap) (.int .i64 tw) (.string pv) (bs++[b]) (w5.setCell ⟨w.heap.size,0,none⟩ (.slice (some ⟨gg,0,none⟩) (n+1) cap))∧w5.heap[w.heap.size]?=some (.cells #[.slice la n lc] 50 (0,0))∧KeepsOthers W w5∧Below w.heap.size W w5∧w5.heap[F]?=some (.cells #[.int .u64 (b.seq:Int),.string b.prev,.string b.root,.slice sa sn sc,.slice ra rn rc] 26 (0,0))∧(∀g,W.heap.size≤g→g<w2.heap.size→w5.heap[g]?=w3.heap[g]?)):=by
            intro gg cap w5 ho hgr hat
            have hbl:∀k,(Value.slice la n lc).ownBlock=some k→k<W.heap.size:=by
              obtain ⟨cs',ho',_⟩:=HM.out.row
              exact fun k hk=>(own_in ho' k hk).2
            have hM4:=HM3.out.call b4
            obtain ⟨_,hn2,_,_⟩:=HT.out
            have hI4:=HI3.out.stays (W':=w4) fun g hg=>b4.block g (Nat.lt_of_lt_of_le hg.2.1 HF3.out.2.2.2.1)
            have G:=MC.grow (lv':=.slice (some ⟨gg,0,none⟩) (n+1) cap) hM4 (Nat.le_refl _) HLT.out.1 (by omega) HOWN.out.2.1 (own_call HOWN.out.1 b4) (fun j b' hj=>by
                obtain ⟨sv,rv,A,k1,k2,k3⟩:=HOWN.out.2.2 j b' hj
                exact ⟨sv,rv,A,k1,k2.stays fun g hg=>b4.block g (k3 g hg).2.1,fun g hg=>⟨(k3 g hg).1,Nat.lt_of_lt_of_le (k3 g hg).2.1 b4.size,(k3 g hg).2.2⟩⟩) hI4
              (fun g hg=>⟨Nat.le_trans HM.out.big hg.1,Nat.lt_of_lt_of_le hg.2.1 (Nat.le_trans HF3.out.2.2.2.1 b4.size),fun q=>by have:=hbl g q;have:=hg.1;omega⟩) hgr hat (by rw [←hn2,EBC.out];exact ho)
            refine ⟨G.1,G.2.1,KO3.out.1.trans ((keeps_below b4).trans G.2.2.1),KO3.out.2.trans ((b4.mono HM3.out.below.size).trans G.2.2.2),?_,?_⟩
            · exact (hgr.block F (Nat.lt_of_lt_of_le HF3.out.2.1 b4.size) fun q=>by have:=hbl F q.symm;have:=HF3.out.2.2.1;omega).trans ((b4.block F HF3.out.2.1).trans V3.out)
            · intro g h1 h2
              exact (hgr.block g (Nat.lt_of_lt_of_le h2 (Nat.le_trans HF3.out.2.2.2.1 b4.size)) fun q=>by have:=hbl g q.symm;omega).trans (b4.block g (Nat.lt_of_lt_of_le h2 HF3.out.2.2.2.1))
          obtain ⟨ib,hib,hz0,hz1,hz2⟩:=info_parts infoBlk3
          gi_upto_region 8 with (first | (gi_at_builtin;rw [←hw4];refine wpListIn_append_own_at _ rfl _ _ 50 rfl (B5+3) 26 ib _ 5 88 Tryz.underlying50 hib hz0 hz1 hz2 rfl (by decide) _ _ _ rfl HOW4.out ⟨w3.heap.size,0,none⟩ 1 1 [.int .u64 (b.seq:Int),.string b.prev,.string b.root,.slice sa sn sc,.slice ra rn rc] rfl rfl HNEW.out (by simp [Value.oneCell']) fit63.out fit47.out HSZ.out.1 ?_;intro lv' w5 hown' hgrow hnil hat;obtain ⟨gg,cap,rfl⟩:=ownsRow_succ hown';have N:=HG.out gg cap w5 hown' hgrow hat;have HN:Hid _:=N;have c4':=block_cells N.2.1 0 _ rfl;have fz4:=row_freeV N.2.1;clear N hown' hgrow hnil hat))
          obtain ⟨w6,hw6⟩:∃w6,w6=w5.setCell ⟨w.heap.size,0,none⟩ (.slice (some ⟨gg,0,none⟩) (n+1) cap):=⟨_,rfl⟩
          have o6:∀k,k≠w.heap.size→w6.heap[k]?=w5.heap[k]?:=fun k hk=>by rw [hw6];exact heap_setCell_other _ _ _ _ hk
          have HM6:Hid (MC w w.heap.size B5 (B5+3) (.slice (some ⟨gg,0,none⟩) (n+1) cap) (.int .i64 tw) (.string pv) (bs++[b]) w6):=by rw [hw6];exact HN.out.1
          have KO6:Hid (KeepsOthers W w6∧Below w.heap.size W w6):=by rw [hw6];exact ⟨HN.out.2.2.1.trans (KeepsOthers.setCell _ _ _),HN.out.2.2.2.1.setCell (p:=⟨w.heap.size,0,none⟩) (Nat.le_refl _) _⟩
          have V6:Hid (w6.heap[F]?=some (.cells #[.int .u64 (b.seq:Int),.string b.prev,.string b.root,.slice sa sn sc,.slice ra rn rc] 26 (0,0))):=(o6 F (by have:=HF3.out;have:=HLT.out;omega)).trans HN.out.2.2.2.2.1
          have HI6:Hid (BkI w6 (fun g=>W.heap.size≤g∧g<w2.heap.size∧CellsAt w2 g) b (.slice sa sn sc) (.slice ra rn rc)):=HI3.out.stays fun g hg=>(o6 g (by have:=hg.1;have:=HLT.out;omega)).trans (HN.out.2.2.2.2.2 g hg.1 hg.2.1)
          rw [←hw6]
          clear hw6 hw4 b4 c4 c4' fz4 d0 d1 d2 d3 d4 HG HN HOW4 HNEW HSZ o6
          have c5:=block_cells HM6.out.b5 0 _ rfl
          have fz5:=row_freeV HM6.out.b5
          gi_upto_region 9 with fail
          obtain ⟨tz,htz⟩:∃tz,tz=wrap64 (tw+wrap64 (12+(x.size:Int))):=⟨_,rfl⟩
          have HTZ:Hid (tz=IntKind.i64.wrap (Jn.total (pre++[x]):Int)):=by
            show _=_
            rw [htz,HT.out.2.2.2,Jn.total_snoc]
            exact wrap_total _ _
          rw [←htz]
          obtain ⟨w7,hw7⟩:∃w7,w7=w6.setCell ⟨B5,0,none⟩ (.int .i64 tz):=⟨_,rfl⟩
          have o7:∀k,k≠B5→w7.heap[k]?=w6.heap[k]?:=fun k hk=>by rw [hw7];exact heap_setCell_other _ _ _ _ hk
          have HM7:Hid (MC w w.heap.size B5 (B5+3) (.slice (some ⟨gg,0,none⟩) (n+1) cap) (.int .i64 tz) (.string pv) (bs++[b]) w7):=by rw [hw7];exact HM6.out.set5 (Nat.le_refl _) HLT.out.1 (by omega) _
          have KO7:Hid (KeepsOthers W w7∧Below w.heap.size W w7):=by rw [hw7];exact ⟨KO6.out.1.trans (KeepsOthers.setCell _ _ _),KO6.out.2.setCell (p:=⟨B5,0,none⟩) (Nat.le_of_lt HLT.out.1) _⟩
          have V7:Hid (w7.heap[F]?=some (.cells #[.int .u64 (b.seq:Int),.string b.prev,.string b.root,.slice sa sn sc,.slice ra rn rc] 26 (0,0))):=(o7 F (by have:=HF3.out;omega)).trans V6.out
          have HI7:Hid (BkI w7 (fun g=>W.heap.size≤g∧g<w2.heap.size∧CellsAt w2 g) b (.slice sa sn sc) (.slice ra rn rc)):=HI6.out.stays fun g hg=>o7 g (by have:=hg.1;have:=HLT.out;omega)
          rw [←hw7]
          clear hw7 htz c5 fz5 o7 KO6 HM6 V6 HI6
          obtain ⟨sd,hsd⟩:∃sd,sd=Jn.stsDigest (b.sts.map fun s=>s.data.toList):=⟨_,rfl⟩
          obtain ⟨dg,hdg⟩:∃dg,dg=Jn.digest ⟨b.seq,b.prev,b.root,rn,sd⟩:=⟨_,rfl⟩
          have hsq:=Jn.berr_seq HBN.out.1
          have HBK7:=HI7.out.bkn.bk
          have HDG:Hid (dg=Jn.prevOf (bs++[b])):=by show _=_;rw [hdg,hsd,Jn.prevOf_snoc,Jn.headOf,HBK7.many]
          have CH:CallsIn Fence.wide (6 - 1 - 1 - 1) Tryz.prog 37 #[.agg #[.int .u64 (b.seq:Int),.string b.prev,.string b.root,.slice sa sn sc,.slice ra rn rc]] w7 fun e w'=>e=.returned (.agg #[.int .u64 (b.seq:Int),.string b.prev,.string b.root,.int .u64 (rn:Int),.string sd])∧Below w7.heap.size w7 w':=callsIn_wide.2 (by
            have hsl:=HBK7.sts.len
            rw [List.length_map] at hsl
            rw [hsd]
            exact headOf_c b.seq b.prev b.root sa sn sc ra rn rc (by omega) HBK7.len _ (fun x hx=>by
              obtain ⟨s,hs,rfl⟩:=List.mem_map.1 hx
              rw [←Lib.size_eq];exact HBK7.small s hs) w7 (HU.out w7 HM7.out.below) (HK.out w7 HM7.out.below) HBK7.sts (by omega) (by omega))
          have CD:Hid (∀W',Below w7.heap.size w7 W'→CallsIn Fence.wide (6 - 1 - 1 - 1) Tryz.prog 26 #[.agg #[.int .u64 (b.seq:Int),.string b.prev,.string b.root,.int .u64 (rn:Int),.string sd]] W' fun e w'=>e=.returned (.string dg)∧Below W'.heap.size W' w'):=fun W' h'=>callsIn_wide.2 (by
            have hw:=HM7.out.below.trans (h'.mono HM7.out.below.size)
            rw [hdg]
            refine digest_c b.seq b.prev b.root rn sd (by omega) (by unfold maxLen;omega) (by unfold maxLen;omega) (by have:=HBK7.many;omega) ?_ W' (HU.out W' hw) (HK.out W' hw)
            rw [hsd,Jn.stsDigest,bs_size,Mk.sum_length];decide)
          clear hsd hdg HBK7 hsq
          have d0:=block_cells V7.out 0 _ rfl
          have d1:=block_cells V7.out 1 _ rfl
          have d2:=block_cells V7.out 2 _ rfl
          have d3:=block_cells V7.out 3 _ rfl
          have d4:=block_cells V7.out 4 _ rfl
          gi_wp2_with fail
          refine ⟨trivial,?_⟩
          refine (CallsIn.inRound l CH).mono ?_
          rintro e w8 ⟨rfl,hb8⟩
          have HB8:Hid (Below w7.heap.size w7 w8):=hb8
          clear hb8 CH d0 d1 d2 d3 d4
          gi_wp2_with fail
          refine ⟨trivial,?_⟩
          refine (CallsIn.inRound l (CD.out _ HB8.out)).mono ?_
          rintro e w9 ⟨rfl,hb9⟩
          have HB9:Hid (Below w7.heap.size w7 w9):=HB8.out.trans (hb9.mono HB8.out.size)
          have HM9:Hid (MC w w.heap.size B5 (B5+3) (.slice (some ⟨gg,0,none⟩) (n+1) cap) (.int .i64 tz) (.string pv) (bs++[b]) w9):=HM7.out.call HB9.out
          have c6:=block_cells HM9.out.b6 0 _ rfl
          have fz6:=row_freeV HM9.out.b6
          clear hb9 HB8 CD
          gi_wp2
          refine ⟨((KO7.out.1.trans (keeps_below HB9.out)).trans (KeepsOthers.setCell _ _ _)).from _,(KO7.out.2.trans (HB9.out.mono HM7.out.below.size)).setCell (p:=⟨B5+1,0,none⟩) (by have:=HLT.out.1;show w.heap.size≤B5+1;omega) _,.slice (some ⟨gg,0,none⟩) (n+1) cap,bs++[b],?_,?_⟩
          · rw [HPM.out]
            have h:=Jn.Took.more HT.out.1 HBN.out.1 HBN.out.2.2.rngB (by rw [←HT.out.2.1];exact HQ.out.1) (by rw [←HT.out.2.2.1];exact HQ.out.2)
            rw [HBN.out.2.1] at h
            exact h
          · rw [HPM.out,←HTZ.out,←HDG.out]
            exact HM9.out.set6 (Nat.le_refl _) HLT.out.1 (by omega) _
        · have q2:(b.prev.toList==pv.toList)=false:=by
            rw [beq_eq_false_iff_ne,Lib.toList_data,Lib.toList_data]
            intro e
            exact hq2 (Bn.data_ext e)
          clear hq1
          gi_wp2
          all_goals exact ⟨(KO2.out.1.trans (KeepsOthers.alloc _ _)).from _,rfl,pre,x,_,bs,HPM.out,⟨HT.out.1,by rw [←HT.out.2.2.2,←HT.out.2.2.1];exact HM2.out.call (below_new _ _)⟩,HENDS.out (.inr hq2)⟩
      · have q1:((b.seq:Int) != (n:Int)+1)=true:=by simp;omega
        gi_wp2
        all_goals exact ⟨(KO2.out.1.trans (KeepsOthers.alloc _ _)).from _,rfl,pre,x,_,bs,HPM.out,⟨HT.out.1,by rw [←HT.out.2.2.2,←HT.out.2.2.1];exact HM2.out.call (below_new _ _)⟩,HENDS.out (.inl hq1)⟩
    · have HENDS:Hid (Jn.Ends bs x):=fun b' k1 k2 k3 _ _=>hno b' k1 k2 k3
      clear hno hb2
      gi_wp2
      all_goals exact ⟨(KO2.out.1.trans (KeepsOthers.alloc _ _)).from _,rfl,pre,x,_,bs,HPM.out,⟨HT.out.1,by rw [←HT.out.2.2.2,←HT.out.2.2.1];exact HM2.out.call (below_new _ _)⟩,HENDS.out⟩
  case done =>
    rintro D ys W hD hys ⟨lv,bs,hT,hM⟩ hKD
    rw [hys] at hT hM
    have c4:=block_cells hM.b4 0 _ rfl
    have c5:=block_cells hM.b5 0 _ rfl
    have hmx:Tryz.prog.follows .mixedOrders=true:=by kernel_rfl
    gi_wp2
    gi_region
    gi_wp2
    have hT':=Jn.total_prefix (s:=s) (ts:=Jn.frs s) (List.prefix_refl _)
    have hw64:wrap64 (Jn.total (Jn.frs s):Int)=(Jn.total (Jn.frs s):Int):=by unfold wrap64;omega
    refine ⟨by simp,.inl ⟨_,_,rfl,run_takeDeferred hKD,?_⟩⟩
    have F:=hM.fin (by omega) (Nat.le_trans hbW0.size hD) hKD (.deferred none)
    rw [hw64]
    exact ⟨_,results_tmp2 rfl _ _ _,F.1,(Jn.frs s),bs,lv,hT,List.prefix_refl _,.inl rfl,rfl,F.2⟩
  case stop =>
    rintro D c pre W hD hpre ⟨rfl,ts,x,lv,bs,hpm,⟨hT,hM⟩,hE⟩ hKD
    rw [hpm] at hpre
    have c4:=block_cells hM.b4 0 _ rfl
    have c5:=block_cells hM.b5 0 _ rfl
    have hmx:Tryz.prog.follows .mixedOrders=true:=by kernel_rfl
    gi_wp2
    gi_region
    gi_wp2
    have hT':=Jn.total_prefix (s:=s) (ts:=ts) (List.IsPrefix.trans (List.prefix_append _ _) hpre)
    have hw64:wrap64 (Jn.total ts:Int)=(Jn.total ts:Int):=by unfold wrap64;omega
    refine ⟨by simp,.inl ⟨_,_,rfl,run_takeDeferred hKD,?_⟩⟩
    have F:=hM.fin (by omega) (Nat.le_trans hbW0.size hD) hKD (.deferred none)
    rw [hw64]
    exact ⟨_,results_tmp2 rfl _ _ _,F.1,ts,bs,lv,hT,List.IsPrefix.trans (List.prefix_append _ _) hpre,.inr ⟨x,hpre,hE⟩,rfl,F.2⟩
end Go.Proofs.YtggnfejjcgbebaaGreatDoor
