/- Several texts, joined: JnQ, JnR, JnT -/
import Derived.Test.YtggnfejjcgbebaaGreatDoorQFM
import Derived.Deep.RegionLaw
import Derived.Deep.AppendLies
/- Revisions kept in a row; a block while it is read out of a value. -/
namespace Go.Proofs.YtggnfejjcgbebaaGreatDoor
open Go.RowKit
open Vl (V)
theorem infoRev3:(Tryz.prog.info? 34).map (fun i=>(i.zero,i.size,i.bytes))=some (some (.agg #[.int .u8 0,.string ⟨#[]⟩,.int .u64 0,.int .u64 0,.int .u8 0,.bool false,.int .i64 0,.string ⟨#[]⟩,.slice none 0 0,.slice none 0 0]),10,120):=by kernel_rfl
theorem info_blk:(Tryz.prog.info? 26).map (·.size)=some 5:=by kernel_rfl
def Jn.Fits (r:Jn.R):Prop:=r.kind<256∧r.table.size≤maxLen∧r.doc<18446744073709551616∧r.ver<18446744073709551616
def RC (r:Jn.R) (c4 c5 c6 c7 c8 c9:Value):List Value:=[.int .u8 (r.kind:Int),.string r.table,.int .u64 (r.doc:Int),.int .u64 (r.ver:Int),c4,c5,c6,c7,c8,c9]
def RevIn (W:World) (A:Nat→Prop) (cs:List Value) (q:Nat) (r:Jn.R):Prop:=∃c4 c5 c6 c7 c8 c9,(∀i v,(RC r c4 c5 c6 c7 c8 c9)[i]?=some v→cs[q+i]?=some v)∧RepA W A r.val (.agg #[c4,c5,c6,c7,c8,c9])∧Jn.Fits r
def Apart (base:Nat) (lv:Value) (W:World) (g:Nat):Prop:=base≤g∧g<W.heap.size∧lv.ownBlock≠some g
def KeptR (W:World) (base:Nat) (lv:Value) (cs:List Value) (rs:List Jn.R):Prop:=cs.length=rs.length*10∧∀j r,rs[j]?=some r→RevIn W (Apart base lv W) cs (j*10) r
theorem KeptR.none (W:World) (base:Nat) (lv:Value):KeptR W base lv [] []:=⟨rfl,fun j r h=>by simp at h⟩
theorem KeptR.step {W W':World} {base:Nat} {lv lv':Value} {cs:List Value} {rs:List Jn.R} (h:KeptR W base lv cs rs) (hb:∀g,Apart base lv W g→W'.heap[g]?=W.heap[g]?∧Apart base lv' W' g):KeptR W' base lv' cs rs :=
  ⟨h.1,fun j r hj=>by
    obtain ⟨c4,c5,c6,c7,c8,c9,h1,h2,h3⟩:=h.2 j r hj
    exact ⟨c4,c5,c6,c7,c8,c9,h1,repA_stays (fun g hg=>(hb g hg).1) (fun g hg=>(hb g hg).2) _ _ h2,h3⟩⟩
theorem KeptR.more {W:World} {base:Nat} {lv:Value} {cs:List Value} {rs:List Jn.R} {r:Jn.R} {c4 c5 c6 c7 c8 c9:Value} (h:KeptR W base lv cs rs) (hr:RepA W (Apart base lv W) r.val (.agg #[c4,c5,c6,c7,c8,c9])) (ok:Jn.Fits r):KeptR W base lv (cs++RC r c4 c5 c6 c7 c8 c9) (rs++[r]):=by
  refine ⟨by simp [h.1,RC];omega,fun j u hj=>?_⟩
  have hl:=h.1
  rcases Nat.lt_or_ge j rs.length with hlt | hge
  · rw [List.getElem?_append_left hlt] at hj
    obtain ⟨d4,d5,d6,d7,d8,d9,h1,h2,h3⟩:=h.2 j u hj
    refine ⟨d4,d5,d6,d7,d8,d9,fun i v hi=>?_,h2,h3⟩
    have hi10:i<10:=by have:=(List.getElem?_eq_some_iff.1 hi).1;simpa [RC] using this
    rw [List.getElem?_append_left (by omega)]
    exact h1 i v hi
  · have hj2:j=rs.length:=by
      have:=(List.getElem?_eq_some_iff.1 hj).1
      simp at this;omega
    subst hj2
    rw [List.getElem?_append_right (Nat.le_refl _),Nat.sub_self] at hj
    simp at hj
    subst hj
    refine ⟨c4,c5,c6,c7,c8,c9,fun i v hi=>?_,hr,ok⟩
    rw [List.getElem?_append_right (by omega),←hl,Nat.add_sub_cancel_left]
    exact hi
theorem KeptR.call {W W':World} {base:Nat} {lv:Value} {cs:List Value} {rs:List Jn.R} (h:KeptR W base lv cs rs) (hb:Below W.heap.size W W'):KeptR W' base lv cs rs :=
  h.step fun g hg=>⟨hb.block g hg.2.1,hg.1,Nat.lt_of_lt_of_le hg.2.1 hb.size,hg.2.2⟩
theorem blk_call {W W':World} {B:Nat} {o:Obj} (h:W.heap[B]?=some o) (hb:Below W.heap.size W W'):W'.heap[B]?=some o:=(hb.block B (Array.getElem?_eq_some_iff.1 h).1).trans h
structure QS (w:World) (vc:Array Value) (sq:Nat) (pv rt:ByteArray) (l3 l4:Value) (ss:List ByteArray) (rs:List Jn.R) (W:World):Prop where
  below:Below w.heap.size w W
  vbox:W.heap[w.heap.size]?=some (.cells vc 32 (0,0))
  res:W.heap[w.heap.size+1]?=some (.cells #[.int .u64 0,.string ⟨#[]⟩,.string ⟨#[]⟩,.slice none 0 0,.slice none 0 0] 26 (0,0))
  box:W.heap[w.heap.size+2]?=some (.cells #[.int .u64 (sq:Int),.string pv,.string rt,l3,l4] 26 (0,0))
  row3:W.ownsRow (w.heap.size+3) 9 1 l3 ss.length (ss.map Value.string)
  row4:∃cs,W.ownsRow (w.heap.size+3) 34 10 l4 rs.length cs∧KeptR W (w.heap.size+3) l4 cs rs
theorem QS.call {w W W':World} {vc:Array Value} {sq:Nat} {pv rt:ByteArray} {l3 l4:Value} {ss:List ByteArray} {rs:List Jn.R} (h:QS w vc sq pv rt l3 l4 ss rs W) (hb:Below W.heap.size W W'):QS w vc sq pv rt l3 l4 ss rs W' :=
  ⟨h.below.trans (hb.mono h.below.size),blk_call h.vbox hb,blk_call h.res hb,blk_call h.box hb,own_call h.row3 hb,h.row4.imp fun _ hc=>⟨own_call hc.1 hb,hc.2.call hb⟩⟩
theorem QS.lt {w W:World} {vc:Array Value} {sq:Nat} {pv rt:ByteArray} {l3 l4:Value} {ss:List ByteArray} {rs:List Jn.R} (h:QS w vc sq pv rt l3 l4 ss rs W):w.heap.size+3≤W.heap.size:=by
  have:=(Array.getElem?_eq_some_iff.1 h.box).1;omega
theorem own_in {W:World} {base e sz n:Nat} {v:Value} {xs:List Value} (h:W.ownsRow base e sz v n xs):∀k,v.ownBlock=some k→base≤k∧k<W.heap.size:=by
  intro k hk
  rcases h.2 with ⟨rfl,_⟩ | ⟨g,cap',cur,rfl,hg',hc,_⟩
  · simp [Value.ownBlock] at hk
  · simp [Value.ownBlock] at hk;subst hk;exact ⟨hg',(Array.getElem?_eq_some_iff.1 hc).1⟩
theorem QS.next3 {w W W4 W5:World} {vc:Array Value} {sq:Nat} {pv rt:ByteArray} {l3:Value} {ss:List ByteArray} {gg cap:Nat} {s:ByteArray} (h:QS w vc sq pv rt l3 (.slice none 0 0) ss [] W) (h4:Below W.heap.size W W4)
    (hg:W4.grownBy W5 l3.ownBlock) (hn:W5.ownsRow (w.heap.size+3) 9 1 (.slice (some ⟨gg,0,none⟩) (ss.length+1) cap) (ss.length+1) (ss.map Value.string++[.string s])) :
    QS w vc sq pv rt (.slice (some ⟨gg,0,none⟩) (ss.length+1) cap) (.slice none 0 0) (ss++[s]) [] (W5.setCell ⟨w.heap.size+2,3,none⟩ (.slice (some ⟨gg,0,none⟩) (ss.length+1) cap))∧W5.heap[w.heap.size+2]?=some (.cells #[.int .u64 (sq:Int),.string pv,.string rt,l3,.slice none 0 0] 26 (0,0)):=by
  have hW4:=h.call h4
  have hs:=hW4.lt
  have hb5:Below (w.heap.size+3) W4 W5:=(Below.refl _ _).grown hg hs (fun k hk=>(own_in h.row3 k hk).1)
  have box5:=(hb5.block (w.heap.size+2) (by omega)).trans hW4.box
  refine ⟨⟨?_,?_,?_,?_,?_,[],⟨rfl,.inl ⟨rfl,rfl⟩⟩,KeptR.none _ _ _⟩,box5⟩
  · exact (hW4.below.trans (hb5.mono (by omega))).setCell (by show w.heap.size≤w.heap.size+2;omega) _
  · rw [heap_setCell_other _ _ _ _ (by show w.heap.size≠w.heap.size+2;omega)];exact (hb5.block _ (by omega)).trans hW4.vbox
  · rw [heap_setCell_other _ _ _ _ (by show w.heap.size+1≠w.heap.size+2;omega)];exact (hb5.block _ (by omega)).trans hW4.res
  · exact heap_setCell_same W5 _ 3 _ 26 _ box5
  · rw [List.length_append,List.map_append]
    exact ownsRow_setCell_below hn (by show w.heap.size+2<w.heap.size+3;omega) _
theorem QS.next4 {w W W3 W4 W5:World} {vc:Array Value} {sq:Nat} {pv rt:ByteArray} {l3 l4:Value} {ss:List ByteArray} {rs:List Jn.R} {gg cap:Nat} {r:Jn.R} {c4 c5 c6 c7 c8 c9:Value} {cs:List Value} (h:QS w vc sq pv rt l3 l4 ss rs W) (h3:Below W.heap.size W W3) (h4:Below W3.heap.size W3 W4)
    (ho:W.ownsRow (w.heap.size+3) 34 10 l4 rs.length cs) (hk:KeptR W (w.heap.size+3) l4 cs rs) (hr:RepA W3 (fun g=>W.heap.size≤g∧g<W3.heap.size) r.val (.agg #[c4,c5,c6,c7,c8,c9])) (ok:Jn.Fits r)
    (hg:W4.grownBy W5 l4.ownBlock) (hat:l4.ownBlock=some gg∨gg=W4.heap.size) (hn:W5.ownsRow (w.heap.size+3) 34 10 (.slice (some ⟨gg,0,none⟩) (rs.length+1) cap) (rs.length+1) (cs++RC r c4 c5 c6 c7 c8 c9)) :
    QS w vc sq pv rt l3 (.slice (some ⟨gg,0,none⟩) (rs.length+1) cap) ss (rs++[r]) (W5.setCell ⟨w.heap.size+2,4,none⟩ (.slice (some ⟨gg,0,none⟩) (rs.length+1) cap))∧W5.heap[w.heap.size+2]?=some (.cells #[.int .u64 (sq:Int),.string pv,.string rt,l3,l4] 26 (0,0)):=by
  have hb:Below W.heap.size W W4:=h3.trans (h4.mono h3.size)
  have hW4:=h.call hb
  have hs:=hW4.lt
  have hb5:Below (w.heap.size+3) W4 W5:=(Below.refl _ _).grown hg hs (fun k hk=>(own_in ho k hk).1)
  have box5:=(hb5.block (w.heap.size+2) (by omega)).trans hW4.box
  refine ⟨⟨?_,?_,?_,?_,?_,cs++RC r c4 c5 c6 c7 c8 c9,?_,?_⟩,box5⟩
  · exact (hW4.below.trans (hb5.mono (by omega))).setCell (by show w.heap.size≤w.heap.size+2;omega) _
  · rw [heap_setCell_other _ _ _ _ (by show w.heap.size≠w.heap.size+2;omega)];exact (hb5.block _ (by omega)).trans hW4.vbox
  · rw [heap_setCell_other _ _ _ _ (by show w.heap.size+1≠w.heap.size+2;omega)];exact (hb5.block _ (by omega)).trans hW4.res
  · exact heap_setCell_same W5 _ 4 _ 26 _ box5
  · exact ownsRow_setCell_below (own_apart hW4.row3 (own_call ho hb) (by decide) hg) (by show w.heap.size+2<w.heap.size+3;omega) _
  · rw [List.length_append]
    exact ownsRow_setCell_below hn (by show w.heap.size+2<w.heap.size+3;omega) _
  · have hle:∀k,l4.ownBlock=some k→k<W.heap.size:=fun k hk=>(own_in ho k hk).2
    have b3:=h3.size
    have b4:=h4.size
    have b5:=hg.size
    have hl:=h.lt
    have move:∀g,Apart (w.heap.size+3) l4 W3 g→(W5.setCell ⟨w.heap.size+2,4,none⟩ (.slice (some ⟨gg,0,none⟩) (rs.length+1) cap)).heap[g]?=W3.heap[g]?∧Apart (w.heap.size+3) (.slice (some ⟨gg,0,none⟩) (rs.length+1) cap) (W5.setCell ⟨w.heap.size+2,4,none⟩ (.slice (some ⟨gg,0,none⟩) (rs.length+1) cap)) g:=by
      rintro g ⟨hg1,hg2,hg3⟩
      refine ⟨?_,hg1,?_,?_⟩
      · rw [heap_setCell_other _ _ _ _ (by show g≠w.heap.size+2;omega),hg.block g (by omega) (fun q=>hg3 q.symm),h4.block g hg2]
      · simp;omega
      · show some gg≠some g
        rcases hat with h1 | rfl
        · rw [←h1];exact hg3
        · intro q;simp at q;omega
    have k3:KeptR W3 (w.heap.size+3) l4 (cs++RC r c4 c5 c6 c7 c8 c9) (rs++[r]):=(hk.call h3).more (repA_stays (fun _ _=>rfl) (fun g hg'=>⟨by omega,hg'.2,fun q=>by have:=hle g q;omega⟩) _ _ hr) ok
    exact k3.step move
end Go.Proofs.YtggnfejjcgbebaaGreatDoor
/- What a value says as a block. -/
namespace Go.Proofs.YtggnfejjcgbebaaGreatDoor
open Go.RowKit
open Vl (V)
attribute [local go_sem ↓] Go.wp_at_zero Go.wp_at_succ
theorem setsB5 (W:World) (B:Nat) (v0 v1 v2 v3 v4:Value):(((((W.setCell ⟨B,0,none⟩ v0).setCell ⟨B,1,none⟩ v1).setCell ⟨B,2,none⟩ v2).setCell ⟨B,3,none⟩ v3).setCell ⟨B,4,none⟩ v4)=W.setCells B 0 [v0,v1,v2,v3,v4]:=rfl
theorem putB5 {W:World} {g:Nat} {t:TypeId} {z0 z1 z2 z3 z4:Value} (h:W.heap[g]?=some (.cells #[z0,z1,z2,z3,z4] t (0,0))) (a0 a1 a2 a3 a4:Value):(W.setCells g 0 [a0,a1,a2,a3,a4]).heap[g]?=some (.cells #[a0,a1,a2,a3,a4] t (0,0)):=by
  have h1:=heap_setCells_put g t [a0,a1,a2,a3,a4] 0 W _ h
  rw [h1]
  simp [putAll]
structure BkN (W:World) (base:Nat) (b:Jn.B) (sv rv:Value):Prop where
  seq:b.seq<18446744073709551616
  prev:b.prev.size≤maxLen
  root:b.root.size≤maxLen
  small:∀s∈b.sts,s.size≤maxLen
  len:b.revs.length≤maxLen
  row3:W.ownsRow base 9 1 sv b.sts.length (b.sts.map Value.string)
  row4:∃cs,W.ownsRow base 34 10 rv b.revs.length cs∧KeptR W base rv cs b.revs
theorem BkN.stays {W W':World} {base:Nat} {b:Jn.B} {sv rv:Value} (h:BkN W base b sv rv) (hb:Below W.heap.size W W'):BkN W' base b sv rv :=
  ⟨h.seq,h.prev,h.root,h.small,h.len,own_call h.row3 hb,h.row4.imp fun _ hc=>⟨own_call hc.1 hb,hc.2.call hb⟩⟩
theorem own_slc {W:World} {base e sz n:Nat} {v:Value} {xs:List Value} (h:W.ownsRow base e sz v n xs):∃a c,v=.slice a n c:=by
  rcases h.2 with ⟨rfl,rfl⟩ | ⟨g,cap',cur,rfl,_⟩
  · exact ⟨none,0,rfl⟩
  · exact ⟨_,_,rfl⟩
theorem BkN.zero (W:World) (base:Nat):BkN W base Jn.B0 (.slice none 0 0) (.slice none 0 0) :=
  ⟨by decide,by decide,by decide,fun s h=>(by cases h),by decide,⟨rfl,.inl ⟨rfl,rfl⟩⟩,[],⟨rfl,.inl ⟨rfl,rfl⟩⟩,KeptR.none _ _ _⟩
theorem BkN.bk {W:World} {base:Nat} {b:Jn.B} {sa:Option Addr} {sn sc:Nat} {ra:Option Addr} {rn rc:Nat} (h:BkN W base b (.slice sa sn sc) (.slice ra rn rc)):Bk W W.heap.size b sa sn sc ra rn rc:=by
  obtain ⟨cs,ho,hk⟩:=h.row4
  have hn:rn=b.revs.length:=by obtain ⟨a,c,e⟩:=own_slc ho;injection e
  have hs:sn=b.sts.length:=by obtain ⟨a,c,e⟩:=own_slc h.row3;injection e
  refine ⟨h.seq,h.prev,h.root,?_,h.small,hn,by rw [hn];exact h.len,fun hp=>?_⟩
  · have h3:=h.row3
    have:(b.sts.map Value.string)=scs (b.sts.map fun s=>s.data.toList):=by
      simp [scs,encS,bs_data,List.map_map,Function.comp_def]
    rw [this] at h3
    refine own_sl (base:=base) ?_
    rw [List.length_map]
    exact h3
  · rcases ho.2 with ⟨e,h0⟩ | ⟨g,cap,cur,e,hg,hc,hx⟩
    · omega
    · injection e with e1 e2 e3
      subst e1 e3
      refine ⟨g,0,rfl,(Array.getElem?_eq_some_iff.1 hc).1,fun i r hi=>?_⟩
      obtain ⟨c4,c5,c6,c7,c8,c9,h1,h2,h3⟩:=hk.2 i r hi
      have hr:Rep W W.heap.size r.val (.agg #[c4,c5,c6,c7,c8,c9]):=repA_rep (fun q hq=>hq.2.1) _ _ h2
      have cell:∀k v,(RC r c4 c5 c6 c7 c8 c9)[k]?=some v→W.cell? ⟨g,0+i*10+k,none⟩=some v:=fun k v hv=>by
        rw [Nat.zero_add];exact own_cell (sz:=10) (e:=34) (base:=base) (n:=b.revs.length) (cap:=rc) (xs:=cs) (by have h:=ho;rw [hn] at h;exact h) (h1 k v hv)
      obtain ⟨v0,hv⟩:∃v0,r.val=v0:=⟨_,rfl⟩
      obtain ⟨k0,b0,n0,s0,l0,f0⟩:=v0
      rw [hv] at hr
      have hr':=hr
      rw [Rep] at hr'
      obtain ⟨ao,lc,fo,fc,he,_⟩:=hr'
      simp only [Value.agg.injEq,Array.mk.injEq,List.cons.injEq,and_true] at he
      obtain ⟨rfl,rfl,rfl,rfl,rfl,rfl⟩:=he
      exact ⟨k0,b0,n0,s0,ao,l0.length,lc,fo,f0.length,fc,cell 0 _ rfl,cell 1 _ rfl,cell 2 _ rfl,cell 3 _ rfl,cell 4 _ rfl,cell 5 _ rfl,cell 6 _ rfl,cell 7 _ rfl,cell 8 _ rfl,cell 9 _ rfl,by rw [hv];exact hr,by rw [hv],h3⟩
end Go.Proofs.YtggnfejjcgbebaaGreatDoor
/- A block's text says the block, plain mathematics. -/
namespace Go.Proofs.YtggnfejjcgbebaaGreatDoor
open Go.RowKit
open Vl (V)
namespace Jn
def rngB (b:B):Prop:=∀r∈b.revs,Bn.rng r.val
theorem i64_rng (n:Nat) (h:n<18446744073709551616):-9223372036854775808≤i64 n∧i64 n≤9223372036854775807:=by
  unfold i64
  split<;>omega
theorem rngL_of:∀l:List V,(∀x∈l,Bn.rng x)→Bn.rngL l
  | [],_=>by rw [Bn.rngL];trivial
  | x :: l,h=>by rw [Bn.rngL];exact ⟨h x (by simp),rngL_of l fun y hy=>h y (by simp [hy])⟩
theorem rngF_nil:Bn.rngF []:=by rw [Bn.rngF];trivial
theorem rng_num (n:Nat) (h:n<18446744073709551616):Bn.rng (num n):=by
  rw [num,Bn.rng]
  exact ⟨i64_rng n h,rngL_of _ (fun x hx=>by cases hx),rngF_nil⟩
theorem rng_txt (s:ByteArray):Bn.rng (txt s):=by
  rw [txt,Bn.rng]
  exact ⟨by omega,rngL_of _ (fun x hx=>by cases hx),rngF_nil⟩
theorem rng_blob (s:ByteArray):Bn.rng (blob s):=by
  rw [blob,Bn.rng]
  exact ⟨by omega,rngL_of _ (fun x hx=>by cases hx),rngF_nil⟩
theorem rng_lst (l:List V) (h:∀x∈l,Bn.rng x):Bn.rng (lst l):=by
  rw [lst,Bn.rng]
  exact ⟨by omega,rngL_of _ h,rngF_nil⟩
theorem rerr_fits {r:R} (h:rerr r=0):Fits r:=by
  have h1:=(rtext_ok h).1
  rw [rwhy] at h1
  split at h1
  · cases h1
  split at h1
  · cases h1
  split at h1
  · cases h1
  split at h1
  · cases h1
  rename_i a b c d
  have m:most r.kind≤4611686018427387904:=by unfold most;split<;>omega
  exact ⟨by omega,by unfold maxLen;omega,by omega,by omega⟩
theorem is_rev {r:R} (h:rerr r=0) (hv:Bn.rng r.val):Bn.Is (rtext r) (rv r):=by
  obtain ⟨_,h2,h3,_⟩:=rtext_ok h
  have f:=rerr_fits h
  rw [h3]
  refine Bn.is_wrote (rng_lst _ ?_) h2
  intro x hx
  simp only [List.mem_cons,List.not_mem_nil,or_false] at hx
  rcases hx with rfl | rfl | rfl | rfl | rfl
  · exact rng_num _ (by have:=f.1;omega)
  · exact rng_txt _
  · exact rng_num _ f.2.2.1
  · exact rng_num _ f.2.2.2
  · exact hv
theorem ofV_rv {r:R} (f:Fits r):ofV (rv r)=r:=by
  obtain ⟨k,t,d,e,v⟩:=r
  obtain ⟨f1,f2,f3,f4⟩:=f
  simp only at f1 f2 f3 f4
  show R.mk (u64 (i64 k) % 256) t (u64 (i64 d)) (u64 (i64 e)) v=_
  rw [u64_i64 k (by omega),u64_i64 d f3,u64_i64 e f4,Nat.mod_eq_of_lt f1]
theorem says_rev {r q:R} (h:rerr r=0) (hv:Bn.rng r.val) (hs:Says (rtext r) q):q=r :=
  hs.one (.inl ⟨_,is_rev h hv,(ofV_rv (rerr_fits h)).symm⟩)
theorem berr_seq {b:B} (h:berr b=0):1≤b.seq∧b.seq≤4611686018427387904∧b.prev.size=32∧b.root.size=32∧b.sts.length≤64∧1≤b.revs.length∧b.revs.length≤64:=by
  have h1:=(berr_ok h).1
  rw [sizes] at h1
  split at h1
  · cases h1
  split at h1
  · cases h1
  split at h1
  · cases h1
  omega
theorem is_blk {b:B} (h:berr b=0):Bn.Is (btext b) (bv b):=by
  obtain ⟨_,_,h3,_,h5,h6⟩:=berr_ok h
  have hs:=berr_seq h
  rw [h6]
  refine Bn.is_wrote (rng_lst _ ?_) h5
  intro x hx
  simp only [List.mem_cons,List.not_mem_nil,or_false] at hx
  rcases hx with rfl | rfl | rfl | rfl | rfl
  · exact rng_num _ (by omega)
  · exact rng_blob _
  · exact rng_blob _
  · exact rng_lst _ fun x hx=>by obtain ⟨s,_,rfl⟩:=List.mem_map.1 hx;exact rng_txt _
  · exact rng_lst _ fun x hx=>by obtain ⟨r,_,rfl⟩:=List.mem_map.1 hx;exact rng_blob _
theorem saysB_bv {b c:B} (h:berr c=0) (hr:rngB c) (hs:SaysB (bv c) b):b=c:=by
  obtain ⟨_,_,h3,_,_,_⟩:=berr_ok h
  have hq:=berr_seq h
  obtain ⟨e1,e2,e3,e4,e5,e6⟩:=hs
  obtain ⟨bq,bp,br,bs,bl⟩:=b
  obtain ⟨cq,cp,cr,cs,cl⟩:=c
  simp only at e1 e2 e3 e4 e5 e6 h3 hq
  rw [u64_i64 cq (by omega)] at e1
  subst e1 e2 e3
  have e7:bs=cs:=by
    rw [e4,List.map_map]
    exact (List.map_congr_left (fun x _=>rfl)).trans (List.map_id cs)
  have e8:bl=cl:=by
    apply List.ext_getElem?
    intro i
    rw [List.length_map] at e5
    by_cases hi:i<cl.length
    · have h1:=List.getElem?_eq_getElem hi
      have h2:=List.getElem?_eq_getElem (l:=bl) (i:=i) (by omega)
      have hm:cl[i]∈cl:=List.getElem_mem hi
      have:=e6 i (blob (rtext cl[i])) bl[i] (by rw [List.getElem?_map,h1];rfl) h2
      rw [h1,h2,says_rev (h3 _ hm) (hr _ hm) this]
    · rw [List.getElem?_eq_none (by omega),List.getElem?_eq_none (by omega)]
  rw [e7,e8]
theorem is_small {s:ByteArray} {v:V} (h:Bn.Is s v):∀x∈v.5,x.5.length≤1048576:=by
  obtain ⟨k,b,n,t,l,f⟩:=v
  have hc:=(Vl.right_form Bn.u8 h.2.2.2).2.2.2.2.2.2.1
  intro x hx
  have:∀l:List V,Vl.checkL Bn.u8 1 l=0→∀x∈l,Vl.check Bn.u8 1 x=0:=by
    intro l
    induction l with
    | nil=>intro _ x hx;cases hx
    | cons y l ih =>
      intro h x hx
      rw [Vl.checkL] at h
      split at h
      · rename_i h1;exact absurd h h1
      · rename_i h1
        rcases List.mem_cons.1 hx with rfl | hx
        · omega
        · exact ih h x hx
  have hx0:=this l hc x hx
  obtain ⟨k,b,n,t,l,f⟩:=x
  have:=(Bn.alone_sizes hx0).2.1
  show l.length≤_
  omega
end Jn
end Go.Proofs.YtggnfejjcgbebaaGreatDoor
