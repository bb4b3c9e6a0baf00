/- Several texts, joined: BinVS, BinPV -/
import Derived.Test.YtggnfejjcgbebaaGreatDoorJFM
/- The variables of the cursor's value; what it hands back. -/
namespace Go.Proofs.YtggnfejjcgbebaaGreatDoor
open Go.RowKit
open Vl (V)
structure VS (w0 W:World) (c B:Nat):Prop where
  keep:Curw c w0 W
  cl:c<w0.heap.size
  hB:B=w0.heap.size
  box:W.heap[B]?=some (.cells #[.pointer (some ⟨c,0,none⟩)] 166 (0,0))
  res:Z6 W (B+1)
theorem VS.call {w0 W W':World} {c B:Nat} (h:VS w0 W c B) (k:Curw c W W'):VS w0 W' c B:=by
  have a1:=h.cl
  have a2:=h.hB
  have a3:=h.res.1
  exact ⟨h.keep.trans k,h.cl,h.hB,(k.block B (by omega) (by omega)).trans h.box,h.res.keep k.size (k.block _ (by omega) (by omega))⟩
theorem VS.start (w:World) (c:Nat) (hc:c<w.heap.size):VS w ((w.alloc (.cells #[.pointer (some ⟨c,0,none⟩)] 166)).alloc (.cells #[.int .u8 0,.bool false,.int .i64 0,.string ⟨#[]⟩,.slice none 0 0,.slice none 0 0] 32)) c w.heap.size:=by
  refine ⟨Curw.of ((below_new _ _).trans ((below_new _ _).mono (by simp))),hc,rfl,?_,by simp,?_⟩
  · rw [Below.heap_alloc _ _ _ (by simp)];exact heap_alloc_new w _
  · have:=heap_alloc_new (w.alloc (.cells #[.pointer (some ⟨c,0,none⟩)] 166)) (.cells #[.int .u8 0,.bool false,.int .i64 0,.string ⟨#[]⟩,.slice none 0 0,.slice none 0 0] 32)
    simpa using this
def Gave (s:ByteArray) (c:Nat) (w:World) (e:Ending) (w':World):Prop:=∃x xv s' bad',e=.returned xv∧Curw c w w'∧RepA w' (fun g=>w.heap.size≤g∧g<w'.heap.size) x xv∧Cur c s' bad' w'∧PV s x s' bad'
theorem VS.fin {w0 W:World} {c B:Nat} {s s':ByteArray} {bad':Bool} {x:V} {d0 d1 d2 d3 d4 d5:Value} (h:VS w0 W c B) (hr:RepA W (fun g=>B+1<g∧g<W.heap.size) x (.agg #[d0,d1,d2,d3,d4,d5])) (hc:Cur c s' bad' W) (hp:PV s x s' bad') :
    (W.setCells (B+1) 0 [d0,d1,d2,d3,d4,d5]).heap[B+1]?=some (.cells #[d0,d1,d2,d3,d4,d5] 32 (0,0))∧Gave s c w0 (.returned (.agg #[d0,d1,d2,d3,d4,d5])) (W.setCells (B+1) 0 [d0,d1,d2,d3,d4,d5]):=by
  have a1:=h.cl
  have a2:=h.hB
  have hst:(W.setCells (B+1) 0 [d0,d1,d2,d3,d4,d5]).heap[B+1]?=some (.cells #[d0,d1,d2,d3,d4,d5] 32 (0,0)):=Z6.put h.res _ _ _ _ _ _
  have k6:∀k,k≠B+1→(W.setCells (B+1) 0 [d0,d1,d2,d3,d4,d5]).heap[k]?=W.heap[k]?:=fun k hk=>setCells_block hk _
  have s6:(W.setCells (B+1) 0 [d0,d1,d2,d3,d4,d5]).heap.size=W.heap.size:=size_setCellsV' _ _ _ _
  have b6:Below 0 W (W.setCells (B+1) 0 [d0,d1,d2,d3,d4,d5]):=below_setCellsV (Nat.zero_le _) _ _ (Below.refl 0 W)
  obtain ⟨w6,hw6⟩:∃w6,w6=W.setCells (B+1) 0 [d0,d1,d2,d3,d4,d5]:=⟨_,rfl⟩
  rw [←hw6] at hst k6 s6 b6 ⊢
  clear hw6
  have hk:=h.keep.size
  refine ⟨hst,x,_,s',bad',rfl,⟨b6.os.trans h.keep.os,b6.tape.trans h.keep.tape,b6.output.trans h.keep.output,by omega,fun k hk1 hkc=>(k6 k (by omega)).trans (h.keep.block k hk1 hkc)⟩,?_,⟨by rw [s6];exact hc.lt,(k6 c (by omega)).trans hc.row⟩,hp⟩
  exact repA_stays (fun g hg=>k6 g (by omega)) (fun g hg=>⟨by omega,by omega⟩) x _ hr
theorem repA_flat (W:World) (A:Nat→Prop) (k:Nat) (b:Bool) (n:Int) (s:ByteArray) (hk:k<256) (hn:-9223372036854775808≤n∧n<9223372036854775808) (hs:s.size≤maxLen):RepA W A ⟨k,b,n,s,[],[]⟩ (.agg #[.int .u8 (k:Int),.bool b,.int .i64 n,.string s,.slice none 0 0,.slice none 0 0]):=by
  rw [RepA]
  exact ⟨none,0,none,0,rfl,hk,hn,hs,by simp,by simp,fun h=>by simp at h,fun h=>by simp at h⟩
theorem VS.list {w0 W:World} {c B v:Nat} {lv:Value} {l:List V} (h:LSv w0 W c B v lv l) (hB:B=w0.heap.size):VS w0 W c B:=⟨h.keep,h.cl,hB,h.box,h.res⟩
theorem VS.struct {w0 W:World} {c B v:Nat} {lv:Value} {l:List (ByteArray × V)} (h:FSt w0 W c B v lv l) (hB:B=w0.heap.size):VS w0 W c B:=⟨h.keep,h.cl,hB,h.box,h.res⟩
theorem LSv.rep {w0 W:World} {c B v:Nat} {lv:Value} {l:List V} (h:LSv w0 W c B v lv l) (hl:l.length≤65):∃ao lc,lv=.slice ao l.length lc∧RepA W (fun g=>B+1<g∧g<W.heap.size) ⟨5,false,0,⟨#[]⟩,l,[]⟩ (.agg #[.int .u8 5,.bool false,.int .i64 0,.string ⟨#[]⟩,lv,.slice none 0 0]):=by
  obtain ⟨cs,h1,h2⟩:=h.parts
  have a3:=h.hv
  have hm:l.length≤maxLen:=by unfold maxLen;omega
  by_cases hp:0<l.length
  · obtain ⟨g,cap,rfl,hb,hgl,ho,hc⟩:=own_row hp h1
    refine ⟨some ⟨g,0,none⟩,cap,rfl,?_⟩
    rw [RepA]
    refine ⟨some ⟨g,0,none⟩,cap,none,0,rfl,by omega,by omega,by decide,hm,by simp,fun _=>⟨g,0,rfl,⟨by omega,hgl⟩,EL.lies l cs 0 (EL.stays (fun _ _=>rfl) (fun k hk=>⟨by omega,hk.2.2⟩) l cs h2) (fun j u hu=>by rw [Nat.zero_add];exact hc j u hu)⟩,fun h=>by simp at h⟩
  · have hl0:l=[]:=List.eq_nil_of_length_eq_zero (by omega)
    subst hl0
    obtain ⟨ao,lc,rfl⟩:∃ao lc,lv=.slice ao 0 lc:=by
      rcases h1.2 with ⟨e,_⟩ | ⟨g,cap,cur,e,_⟩
      · exact ⟨none,0,e⟩
      · exact ⟨some ⟨g,0,none⟩,cap,e⟩
    refine ⟨ao,lc,rfl,?_⟩
    rw [RepA]
    exact ⟨ao,lc,none,0,rfl,by omega,by omega,by decide,hm,by simp,fun h=>absurd h hp,fun h=>by simp at h⟩
theorem FSt.rep {w0 W:World} {c B v:Nat} {lv:Value} {l:List (ByteArray × V)} (h:FSt w0 W c B v lv l) (hl:l.length≤65):∃ao lc,lv=.slice ao l.length lc∧RepA W (fun g=>B+1<g∧g<W.heap.size) ⟨6,false,0,⟨#[]⟩,[],l⟩ (.agg #[.int .u8 6,.bool false,.int .i64 0,.string ⟨#[]⟩,.slice none 0 0,lv]):=by
  obtain ⟨cs,h1,h2⟩:=h.parts
  have a3:=h.hv
  have hm:l.length≤maxLen:=by unfold maxLen;omega
  by_cases hp:0<l.length
  · obtain ⟨g,cap,rfl,hb,hgl,ho,hc⟩:=own_row hp h1
    refine ⟨some ⟨g,0,none⟩,cap,rfl,?_⟩
    rw [RepA]
    refine ⟨none,0,some ⟨g,0,none⟩,cap,rfl,by omega,by omega,by decide,by simp,hm,fun h=>by simp at h,fun _=>⟨g,0,rfl,⟨by omega,hgl⟩,EF.lies l cs 0 (EF.stays (fun _ _=>rfl) (fun k hk=>⟨by omega,hk.2.2⟩) l cs h2) (fun j u hu=>by rw [Nat.zero_add];exact hc j u hu),own_free h1⟩⟩
  · have hl0:l=[]:=List.eq_nil_of_length_eq_zero (by omega)
    subst hl0
    obtain ⟨ao,lc,rfl⟩:∃ao lc,lv=.slice ao 0 lc:=by
      rcases h1.2 with ⟨e,_⟩ | ⟨g,cap,cur,e,_⟩
      · exact ⟨none,0,e⟩
      · exact ⟨some ⟨g,0,none⟩,cap,e⟩
    refine ⟨ao,lc,rfl,?_⟩
    rw [RepA]
    exact ⟨none,0,ao,lc,rfl,by omega,by omega,by decide,by simp,hm,fun h=>by simp at h,fun h=>absurd h hp⟩
theorem LSv.start {w0 W W':World} {c B v:Nat} (h:VS w0 W c B) (hv:v=W.heap.size) (hs:W'.heap.size=v+1) (hb:Below W.heap.size W W') (hr:W'.heap[v]?=some (.cells #[.int .u8 5,.bool false,.int .i64 0,.string ⟨#[]⟩,.slice none 0 0,.slice none 0 0] 32 (0,0))):LSv w0 W' c B v (.slice none 0 0) []:=by
  have a3:=h.res.1
  have h':=h.call (Curw.of hb)
  exact ⟨h'.keep,h'.cl,by rw [h.hB];exact Nat.le_refl _,by omega,h'.box,h'.res,⟨by omega,hr⟩,[],World.ownsRow_nil _ _ _ _,rfl⟩
theorem FSt.start {w0 W W':World} {c B v:Nat} (h:VS w0 W c B) (hv:v=W.heap.size) (hs:W'.heap.size=v+1) (hb:Below W.heap.size W W') (hr:W'.heap[v]?=some (.cells #[.int .u8 6,.bool false,.int .i64 0,.string ⟨#[]⟩,.slice none 0 0,.slice none 0 0] 32 (0,0))):FSt w0 W' c B v (.slice none 0 0) []:=by
  have a3:=h.res.1
  have h':=h.call (Curw.of hb)
  exact ⟨h'.keep,h'.cl,by rw [h.hB];exact Nat.le_refl _,by omega,h'.box,h'.res,⟨by omega,hr⟩,[],World.ownsRow_nil _ _ _ _,rfl⟩
end Go.Proofs.YtggnfejjcgbebaaGreatDoor
/- What kinds of values say of what was read. -/
namespace Go.Proofs.YtggnfejjcgbebaaGreatDoor
open Go.RowKit
open Vl (V)
namespace Bn
theorem fit_flat {k:Nat} {b:Bool} {n:Int} {s:ByteArray} (hk:k≤4) (hb:k≠1→b=false) (hn:k≠2→n=0) (hs:k≠3→k≠4→s=⟨#[]⟩) (hr:-9223372036854775808≤n∧n≤9223372036854775807) (hz:s.size≤65536):fit ⟨k,b,n,s,[],[]⟩:=by
  rw [fit]
  exact ⟨by omega,hb,hn,hs,fun _=>rfl,fun _=>rfl,hr,hz,by simp,by simp,by rw [fitL];trivial,by rw [fitF];trivial⟩
theorem split1 {s:ByteArray} (h:s.size≠0):∃b,s.data.toList=b :: (s.extract 1 s.size).data.toList∧(s.extract 0 1).data.toList=[b]:=by
  rw [extract_drop,extract_take]
  have hl:s.data.toList.length≠0:=by rw [←Lib.size_eq];exact h
  match hd:s.data.toList,hl with
  | b :: r,_=>exact ⟨b,by simp,by simp⟩
end Bn
theorem PV.zero {s s1:ByteArray} {b:UInt8} (h:s.data.toList=b :: s1.data.toList) (hb:b.toNat=0):PV s ⟨0,false,0,⟨#[]⟩,[],[]⟩ s1 false:=by
  obtain rfl:b=0:=UInt8.toNat_inj.1 hb
  exact Or.inl ⟨rfl,Bn.fit_flat (by omega) (fun _=>rfl) (fun _=>rfl) (fun _ _=>rfl) (by omega) (by decide),by rw [h,Bn.bytes];rfl⟩
theorem PV.no {s s1:ByteArray} {b:UInt8} (h:s.data.toList=b :: s1.data.toList) (hb:b.toNat=1):PV s ⟨1,false,0,⟨#[]⟩,[],[]⟩ s1 false:=by
  obtain rfl:b=1:=UInt8.toNat_inj.1 hb
  exact Or.inl ⟨rfl,Bn.fit_flat (by omega) (fun _=>rfl) (fun _=>rfl) (fun _ _=>rfl) (by omega) (by decide),by rw [h,Bn.bytes];rfl⟩
theorem PV.yes {s s1:ByteArray} {b:UInt8} (h:s.data.toList=b :: s1.data.toList) (hb:b.toNat=2):PV s ⟨1,true,0,⟨#[]⟩,[],[]⟩ s1 false:=by
  obtain rfl:b=2:=UInt8.toNat_inj.1 hb
  exact Or.inl ⟨rfl,Bn.fit_flat (by omega) (fun h=>absurd rfl h) (fun _=>rfl) (fun _ _=>rfl) (by omega) (by decide),by rw [h,Bn.bytes];rfl⟩
theorem PV.int {s s1 s2:ByteArray} {b:UInt8} {b2:Bool} {n:Nat} (hn:n<18446744073709551616) (h:s.data.toList=b :: s1.data.toList) (hb:b.toNat=3)
    (k:(s1.data.toList=Bn.num n++s2.data.toList∧b2=false)∨(n=0∧s2=⟨#[]⟩∧b2=true∧Bn.noNum s1.data.toList)):PV s ⟨2,false,Bn.zag n,⟨#[]⟩,[],[]⟩ s2 b2:=by
  obtain rfl:b=3:=UInt8.toNat_inj.1 hb
  obtain ⟨z1,z2,z3⟩:=Bn.zag_fold hn
  rcases k with ⟨k1,k2⟩ | ⟨_,k1,k2,k3⟩
  · refine Or.inl ⟨k2,Bn.fit_flat (by omega) (fun _=>rfl) (fun h=>absurd rfl h) (fun _ _=>rfl) ⟨z2,z3⟩ (by decide),?_⟩
    rw [h,k1,Bn.bytes]
    simp only [show ¬(2:Nat)=0 by omega,show ¬(2:Nat)=1 by omega,if_false,if_true,z1]
    rfl
  · exact Or.inr ⟨k2,k1,by rw [h];exact Bn.noV_int k3⟩
theorem PV.text {s s1 s2 t:ByteArray} {b:UInt8} {b2:Bool} {q:Nat} (hq:q=3∨q=4) (ht:t.size≤65536) (h:s.data.toList=b :: s1.data.toList) (hb:b.toNat=q+1)
    (k:(s1.data.toList=Bn.text t++s2.data.toList∧b2=false)∨(s2=⟨#[]⟩∧b2=true∧Bn.noText s1.data.toList)):PV s ⟨q,false,0,t,[],[]⟩ s2 b2:=by
  rcases k with ⟨k1,k2⟩ | ⟨k1,k2,k3⟩
  · refine Or.inl ⟨k2,Bn.fit_flat (by omega) (fun _=>rfl) (fun _=>rfl) (fun h1 h2=>by omega) (by omega) ht,?_⟩
    rw [h,k1,Bn.bytes]
    rcases hq with rfl | rfl
    · obtain rfl:b=4:=UInt8.toNat_inj.1 hb
      rfl
    · obtain rfl:b=5:=UInt8.toNat_inj.1 hb
      rfl
  · exact Or.inr ⟨k2,k1,by rw [h];exact Bn.noV_text (by omega) k3⟩
theorem PV.list {s s1 s2:ByteArray} {b:UInt8} {b2:Bool} {l:List V} (h:s.data.toList=b :: s1.data.toList) (hb:b.toNat=6) (k:PL s1 l s2 b2):PV s ⟨5,false,0,⟨#[]⟩,l,[]⟩ s2 b2:=by
  obtain rfl:b=6:=UInt8.toNat_inj.1 hb
  rcases k with ⟨k1,k2,k3,k4⟩ | ⟨k1,k2,k3⟩
  · refine Or.inl ⟨k1,?_,?_⟩
    · rw [Bn.fit]
      exact ⟨by omega,fun _=>rfl,fun _=>rfl,fun _ _=>rfl,fun h=>absurd rfl h,fun _=>rfl,by omega,by decide,k3,by simp,k2,by rw [Bn.fitF];trivial⟩
    · rw [h,k4,Bn.bytes]
      simp
  · exact Or.inr ⟨k1,k2,by rw [h];exact k3⟩
theorem PV.struct {s s1 s2:ByteArray} {b:UInt8} {b2:Bool} {l:List (ByteArray × V)} (h:s.data.toList=b :: s1.data.toList) (hb:b.toNat=7) (k:QF s1 l s2 b2):PV s ⟨6,false,0,⟨#[]⟩,[],l⟩ s2 b2:=by
  obtain rfl:b=7:=UInt8.toNat_inj.1 hb
  rcases k with ⟨k1,k2,k3,k4⟩ | ⟨k1,k2,k3⟩
  · refine Or.inl ⟨k1,?_,?_⟩
    · rw [Bn.fit]
      exact ⟨by omega,fun _=>rfl,fun _=>rfl,fun _ _=>rfl,fun _=>rfl,fun h=>absurd rfl h,by omega,by decide,by simp,k3,by rw [Bn.fitL];trivial,k2⟩
    · rw [h,k4,Bn.bytes]
      simp
  · exact Or.inr ⟨k1,k2,by rw [h];exact k3⟩
end Go.Proofs.YtggnfejjcgbebaaGreatDoor
