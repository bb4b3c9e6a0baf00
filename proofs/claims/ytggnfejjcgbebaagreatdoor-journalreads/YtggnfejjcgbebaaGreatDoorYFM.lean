/- Several texts, joined: BinKS, BinPQ, BinN24, BinKR, BinV47, BinR21 -/
import Derived.Test.YtggnfejjcgbebaaGreatDoorJEM
import Derived.Test.YtggnfejjcgbebaaGreatDoorBinUM
import Derived.Test.YtggnfejjcgbebaaGreatDoorYCM
import Derived.Deep.RegionLawGrows
import Derived.Test.YtggnfejjcgbebaaGreatDoorYAM
import Derived.Test.YtggnfejjcgbebaaGreatDoorJRM
/- The document's reading of parts: its variables. -/
namespace Go.Proofs.YtggnfejjcgbebaaGreatDoor
open Go.RowKit
open Vl (V)
structure KS (w0 W:World) (lv:Value) (l:List V):Prop where
  below:Below w0.heap.size w0 W
  res:Z6 W w0.heap.size
  row:Row6 W (w0.heap.size+1) (.int .u8 5) (.bool false) (.int .i64 0) (.string ⟨#[]⟩) lv (.slice none 0 0)
  parts:∃cs,W.ownsRow (w0.heap.size+2) 32 6 lv l.length cs∧EL W (fun g=>w0.heap.size+2≤g∧some g≠lv.ownBlock∧g<W.heap.size) l cs
theorem KS.call {w0 W W':World} {lv:Value} {l:List V} (h:KS w0 W lv l) (hb:Below W.heap.size W W'):KS w0 W' lv l:=by
  obtain ⟨cs,h1,h2⟩:=h.parts
  exact ⟨h.below.trans (hb.mono h.below.size),h.res.call hb,h.row.call hb,cs,own_call h1 hb,EL.stays (fun g hg=>hb.block g hg.2.2) (fun g hg=>⟨hg.1,hg.2.1,Nat.lt_of_lt_of_le hg.2.2 hb.size⟩) _ _ h2⟩
set_option maxHeartbeats 2000000 in
theorem KS.next {w0 W w4 w5:World} {n lc:Nat} {la:Option Addr} {l:List V} {x:V} {d0 d1 d2 d3 d4 d5:Value} {gg cap:Nat} {cs:List Value}
    (h:KS w0 W (.slice la n lc) l) (hl:n=l.length) (ho:W.ownsRow (w0.heap.size+2) 32 6 (.slice la n lc) n cs) (he:EL W (fun g=>w0.heap.size+2≤g∧some g≠(Value.slice la n lc).ownBlock∧g<W.heap.size) l cs)
    (hr:RepA W (fun g=>w0.heap.size+2≤g∧some g≠(Value.slice la n lc).ownBlock∧g<W.heap.size) x (.agg #[d0,d1,d2,d3,d4,d5])) (h4:Below W.heap.size W w4) (hg:w4.grownBy w5 (Value.slice la n lc).ownBlock)
    (hn:w5.ownsRow (w0.heap.size+2) 32 6 (.slice (some ⟨gg,0,none⟩) (n+1) cap) (n+1) (cs++[d0,d1,d2,d3,d4,d5])) (hat:(Value.slice la n lc).ownBlock=some gg∨gg=w4.heap.size) :
    Row6 w5 (w0.heap.size+1) (.int .u8 5) (.bool false) (.int .i64 0) (.string ⟨#[]⟩) (.slice la n lc) (.slice none 0 0) ∧
    KS w0 (w5.setCell ⟨w0.heap.size+1,4,none⟩ (.slice (some ⟨gg,0,none⟩) (n+1) cap)) (.slice (some ⟨gg,0,none⟩) (n+1) cap) (l++[x]):=by
  have hlv:∀k,(Value.slice la n lc).ownBlock=some k→w0.heap.size+2≤k∧k<W.heap.size:=ho.lt
  have a1:=h.res.1
  have a2:=h.row.1
  have s4:=h4.size
  have s5:=hg.size
  have hb0:=h.below.size
  have hgb:w0.heap.size+2≤gg∧gg<w5.heap.size:=hn.lt gg rfl
  have hgn:∀k,k<w4.heap.size→some k≠(Value.slice la n lc).ownBlock→k≠gg:=fun k hk hne e=>by
    rcases hat with e2 | e2
    · exact hne (by rw [e,e2])
    · omega
  have st:∀k,k<W.heap.size→some k≠(Value.slice la n lc).ownBlock→w5.heap[k]?=W.heap[k]?:=fun k hk hne=>(hg.block k (by omega) hne).trans (h4.block k hk)
  have nb:∀k,k<w0.heap.size+2→some k≠(Value.slice la n lc).ownBlock:=fun k hk e=>by have:=(hlv k e.symm).1;omega
  have hrow:Row6 w5 (w0.heap.size+1) (.int .u8 5) (.bool false) (.int .i64 0) (.string ⟨#[]⟩) (.slice la n lc) (.slice none 0 0):=h.row.keep (by omega) (st _ a2 (nb _ (by omega)))
  obtain ⟨nv,hnv⟩:∃nv:Value,nv=.slice (some ⟨gg,0,none⟩) (n+1) cap:=⟨_,rfl⟩
  have hnb:nv.ownBlock=some gg:=by rw [hnv];rfl
  rw [←hnv] at hn ⊢
  have hend:∀k,k≠w0.heap.size+1→(w5.setCell ⟨w0.heap.size+1,4,none⟩ nv).heap[k]?=w5.heap[k]?:=fun k h2=>heap_setCell_other _ _ _ _ h2
  have hsz:(w5.setCell ⟨w0.heap.size+1,4,none⟩ nv).heap.size=w5.heap.size:=by simp
  have hbel:Below w0.heap.size w0 w5:=(h.below.trans (h4.mono hb0)).grown hg (by omega) (fun k hk=>by have:=(hlv k hk).1;omega)
  refine ⟨hrow,hbel.setCell (p:=⟨w0.heap.size+1,4,none⟩) (by show w0.heap.size≤w0.heap.size+1;omega) _,⟨by rw [hsz];omega,(hend _ (by omega)).trans ((st _ a1 (nb _ (by omega))).trans h.res.2)⟩,hrow.set4,cs++[d0,d1,d2,d3,d4,d5],?_,?_⟩
  · rw [List.length_append,List.length_singleton,←hl]
    exact own_set hn (fun e=>by rw [hnb] at e;injection e with e;omega)
  · refine EL.snoc ?_ _ _ ?_
    · refine repA_stays (fun k hk=>?_) (fun k hk=>?_) x _ hr
      · exact (hend k (by omega)).trans (st k hk.2.2 hk.2.1)
      · exact ⟨hk.1,fun e=>hgn k (by omega) hk.2.1 (by rw [hnb] at e;injection e),by rw [hsz];omega⟩
    · refine EL.stays (fun k hk=>?_) (fun k hk=>?_) _ _ he
      · exact (hend k (by omega)).trans (st k hk.2.2 hk.2.1)
      · exact ⟨hk.1,fun e=>hgn k (by omega) hk.2.1 (by rw [hnb] at e;injection e),by rw [hsz];omega⟩
structure KF (w0 W:World) (lv:Value) (l:List (ByteArray × V)):Prop where
  below:Below w0.heap.size w0 W
  res:Z6 W w0.heap.size
  row:Row6 W (w0.heap.size+1) (.int .u8 6) (.bool false) (.int .i64 0) (.string ⟨#[]⟩) (.slice none 0 0) lv
  parts:∃cs,W.ownsRow (w0.heap.size+2) 147 7 lv l.length cs∧EF W (fun g=>w0.heap.size+2≤g∧some g≠lv.ownBlock∧g<W.heap.size) l cs
theorem KF.call {w0 W W':World} {lv:Value} {l:List (ByteArray × V)} (h:KF w0 W lv l) (hb:Below W.heap.size W W'):KF w0 W' lv l:=by
  obtain ⟨cs,h1,h2⟩:=h.parts
  exact ⟨h.below.trans (hb.mono h.below.size),h.res.call hb,h.row.call hb,cs,own_call h1 hb,EF.stays (fun g hg=>hb.block g hg.2.2) (fun g hg=>⟨hg.1,hg.2.1,Nat.lt_of_lt_of_le hg.2.2 hb.size⟩) _ _ h2⟩
set_option maxHeartbeats 2000000 in
theorem KF.next {w0 W w4 w5:World} {n lc:Nat} {la:Option Addr} {l:List (ByteArray × V)} {m:ByteArray} (hm:m.size≤maxLen) {x:V} {d0 d1 d2 d3 d4 d5:Value} {gg cap:Nat} {cs:List Value}
    (h:KF w0 W (.slice la n lc) l) (hl:n=l.length) (ho:W.ownsRow (w0.heap.size+2) 147 7 (.slice la n lc) n cs) (he:EF W (fun g=>w0.heap.size+2≤g∧some g≠(Value.slice la n lc).ownBlock∧g<W.heap.size) l cs)
    (hr:RepA W (fun g=>w0.heap.size+2≤g∧some g≠(Value.slice la n lc).ownBlock∧g<W.heap.size) x (.agg #[d0,d1,d2,d3,d4,d5])) (h4:Below W.heap.size W w4) (hg:w4.grownBy w5 (Value.slice la n lc).ownBlock)
    (hn:w5.ownsRow (w0.heap.size+2) 147 7 (.slice (some ⟨gg,0,none⟩) (n+1) cap) (n+1) (cs++[.string m,d0,d1,d2,d3,d4,d5])) (hat:(Value.slice la n lc).ownBlock=some gg∨gg=w4.heap.size) :
    Row6 w5 (w0.heap.size+1) (.int .u8 6) (.bool false) (.int .i64 0) (.string ⟨#[]⟩) (.slice none 0 0) (.slice la n lc) ∧
    KF w0 (w5.setCell ⟨w0.heap.size+1,5,none⟩ (.slice (some ⟨gg,0,none⟩) (n+1) cap)) (.slice (some ⟨gg,0,none⟩) (n+1) cap) (l++[(m,x)]):=by
  have hlv:∀k,(Value.slice la n lc).ownBlock=some k→w0.heap.size+2≤k∧k<W.heap.size:=ho.lt
  have a1:=h.res.1
  have a2:=h.row.1
  have s4:=h4.size
  have s5:=hg.size
  have hb0:=h.below.size
  have hgb:w0.heap.size+2≤gg∧gg<w5.heap.size:=hn.lt gg rfl
  have hgn:∀k,k<w4.heap.size→some k≠(Value.slice la n lc).ownBlock→k≠gg:=fun k hk hne e=>by
    rcases hat with e2 | e2
    · exact hne (by rw [e,e2])
    · omega
  have st:∀k,k<W.heap.size→some k≠(Value.slice la n lc).ownBlock→w5.heap[k]?=W.heap[k]?:=fun k hk hne=>(hg.block k (by omega) hne).trans (h4.block k hk)
  have nb:∀k,k<w0.heap.size+2→some k≠(Value.slice la n lc).ownBlock:=fun k hk e=>by have:=(hlv k e.symm).1;omega
  have hrow:Row6 w5 (w0.heap.size+1) (.int .u8 6) (.bool false) (.int .i64 0) (.string ⟨#[]⟩) (.slice none 0 0) (.slice la n lc):=h.row.keep (by omega) (st _ a2 (nb _ (by omega)))
  obtain ⟨nv,hnv⟩:∃nv:Value,nv=.slice (some ⟨gg,0,none⟩) (n+1) cap:=⟨_,rfl⟩
  have hnb:nv.ownBlock=some gg:=by rw [hnv];rfl
  rw [←hnv] at hn ⊢
  have hend:∀k,k≠w0.heap.size+1→(w5.setCell ⟨w0.heap.size+1,5,none⟩ nv).heap[k]?=w5.heap[k]?:=fun k h2=>heap_setCell_other _ _ _ _ h2
  have hsz:(w5.setCell ⟨w0.heap.size+1,5,none⟩ nv).heap.size=w5.heap.size:=by simp
  have hbel:Below w0.heap.size w0 w5:=(h.below.trans (h4.mono hb0)).grown hg (by omega) (fun k hk=>by have:=(hlv k hk).1;omega)
  refine ⟨hrow,hbel.setCell (p:=⟨w0.heap.size+1,5,none⟩) (by show w0.heap.size≤w0.heap.size+1;omega) _,⟨by rw [hsz];omega,(hend _ (by omega)).trans ((st _ a1 (nb _ (by omega))).trans h.res.2)⟩,hrow.set5,cs++[.string m,d0,d1,d2,d3,d4,d5],?_,?_⟩
  · rw [List.length_append,List.length_singleton,←hl]
    exact own_set hn (fun e=>by rw [hnb] at e;injection e with e;omega)
  · refine EF.snoc hm ?_ _ _ ?_
    · refine repA_stays (fun k hk=>?_) (fun k hk=>?_) x _ hr
      · exact (hend k (by omega)).trans (st k hk.2.2 hk.2.1)
      · exact ⟨hk.1,fun e=>hgn k (by omega) hk.2.1 (by rw [hnb] at e;injection e),by rw [hsz];omega⟩
    · refine EF.stays (fun k hk=>?_) (fun k hk=>?_) _ _ he
      · exact (hend k (by omega)).trans (st k hk.2.2 hk.2.1)
      · exact ⟨hk.1,fun e=>hgn k (by omega) hk.2.1 (by rw [hnb] at e;injection e),by rw [hsz];omega⟩
namespace Bn
mutual
def dep:V→Nat
  | ⟨_,_,_,_,l,f⟩=>max (depL l) (depF f)
def depL:List V→Nat
  | []=>0
  | x :: r=>max (dep x+1) (depL r)
def depF:List (ByteArray × V)→Nat
  | []=>0
  | (_,x) :: r=>max (dep x+1) (depF r)
end
def noD (d:Nat) (r:List UInt8):Prop:=∀v q,fit v→d+dep v≤10→r≠bytes v++q
end Bn
end Go.Proofs.YtggnfejjcgbebaaGreatDoor
/- What the document's reading of a value says of it. -/
namespace Go.Proofs.YtggnfejjcgbebaaGreatDoor
open Go.RowKit
open Vl (V)
namespace Bn
def noLD (n d:Nat) (r:List UInt8):Prop:=∀l q,l.length=n→fitL l→d+depL l≤10→r≠bytesL l++q
def noFD (n d:Nat) (r:List UInt8):Prop:=∀l q,l.length=n→fitF l→d+depF l≤10→r≠bytesF l++q
theorem noD_of {d:Nat} {r:List UInt8} (h:noV r):noD d r:=fun v q hv _=>h v q hv
theorem noD_deep {d:Nat} {r:List UInt8} (h:10<d):noD d r:=fun v q _ hd _=>by omega
theorem noLD_now {n d:Nat} {r:List UInt8} (h:noD (d+1) r) (hn:1≤n):noLD n d r:=fun l q hl hf hd e=>by
  match l,hl,hf,hd,e with
  | [],hl,_,_,_=>simp at hl;omega
  | x :: l,_,hf,hd,e =>
    rw [fitL] at hf
    rw [depL] at hd
    rw [bytesL,List.append_assoc] at e
    exact h x _ hf.1 (by omega) e
theorem noFD_now {n d:Nat} {r:List UInt8} (h:noText r) (hn:1≤n):noFD n d r:=fun l q hl hf _ e=>by
  match l,hl,hf,e with
  | [],hl,_,_=>simp at hl;omega
  | (m,x) :: l,_,hf,e =>
    rw [fitF] at hf
    rw [bytesF,List.append_assoc] at e
    exact h m _ hf.1.1 e
theorem noFD_val {n d:Nat} {m:ByteArray} {r:List UInt8} (h:noD (d+1) r) (hn:1≤n):noFD n d (text m++r):=fun l q hl hf hd e=>by
  match l,hl,hf,hd,e with
  | [],hl,_,_,_=>simp at hl;omega
  | (p,x) :: l,_,hf,hd,e =>
    rw [fitF] at hf
    rw [depF] at hd
    rw [bytesF,List.append_assoc,List.append_assoc] at e
    obtain ⟨_,e2⟩:=text_app e
    exact h x _ hf.1.2 (by omega) e2
theorem noLD_app:∀(l:List V) (n d:Nat) (r:List UInt8),fitL l→noLD n d r→noLD (l.length+n) d (bytesL l++r)
  | [],n,d,r,_,h=>by simpa [bytesL] using h
  | x :: l,n,d,r,hx,h=>fun l' q hl hf hd e=>by
    rw [fitL] at hx
    match l',hl,hf,hd,e with
    | [],hl,_,_,_=>simp at hl;omega
    | y :: l',hl,hf,hd,e =>
      rw [fitL] at hf
      rw [depL] at hd
      rw [bytesL,bytesL,List.append_assoc,List.append_assoc] at e
      obtain ⟨_,e2⟩:=bytes_app x y _ _ hx.1 hf.1 e
      exact noLD_app l n d r hx.2 h l' q (by simp only [List.length_cons] at hl;omega) hf.2 (by omega) e2
theorem noFD_app:∀(l:List (ByteArray × V)) (n d:Nat) (r:List UInt8),fitF l→noFD n d r→noFD (l.length+n) d (bytesF l++r)
  | [],n,d,r,_,h=>by simpa [bytesF] using h
  | (m,x) :: l,n,d,r,hx,h=>fun l' q hl hf hd e=>by
    rw [fitF] at hx
    match l',hl,hf,hd,e with
    | [],hl,_,_,_=>simp at hl;omega
    | (p,y) :: l',hl,hf,hd,e =>
      rw [fitF] at hf
      rw [depF] at hd
      rw [bytesF,bytesF,List.append_assoc,List.append_assoc,List.append_assoc,List.append_assoc] at e
      obtain ⟨_,e1⟩:=text_app e
      obtain ⟨_,e2⟩:=bytes_app x y _ _ hx.1.2 hf.1.2 e1
      exact noFD_app l n d r hx.2 h l' q (by simp only [List.length_cons] at hl;omega) hf.2 (by omega) e2
theorem noD_list {m d:Nat} {r:List UInt8} (h:noLD m d r):noD d (6 :: (num m++r)):=by
  rintro ⟨k,bb,n,s,l,f⟩ q hv hd e
  have hk:=(hd_kind hv).1
  rw [bytes_hd _ hv,List.cons_append,List.cons.injEq] at e
  rw [←e.1] at hk
  have hk:k=5:=hk
  subst hk
  rw [dep] at hd
  have e2:=e.2
  rw [tl] at e2
  simp only [show ¬(5:Nat)≤1 by omega,show ¬(5:Nat)=2 by omega,show ¬((5:Nat)=3∨(5:Nat)=4) by omega,if_false,if_true,List.append_assoc] at e2
  rw [fit] at hv
  obtain ⟨e3,e4⟩:=num_app e2
  exact h l q e3.symm hv.2.2.2.2.2.2.2.2.2.2.1 (by omega) e4
theorem noD_struct {m d:Nat} {r:List UInt8} (h:noFD m d r):noD d (7 :: (num m++r)):=by
  rintro ⟨k,bb,n,s,l,f⟩ q hv hd e
  have hk:=(hd_kind hv).1
  rw [bytes_hd _ hv,List.cons_append,List.cons.injEq] at e
  rw [←e.1] at hk
  have hk:k=6:=hk
  subst hk
  rw [dep] at hd
  have e2:=e.2
  rw [tl] at e2
  simp only [show ¬(6:Nat)≤1 by omega,show ¬(6:Nat)=2 by omega,show ¬((6:Nat)=3∨(6:Nat)=4) by omega,show ¬(6:Nat)=5 by omega,if_false,List.append_assoc] at e2
  rw [fit] at hv
  obtain ⟨e3,e4⟩:=num_app e2
  exact h f q e3.symm hv.2.2.2.2.2.2.2.2.2.2.2 (by omega) e4
mutual
theorem dep_right:∀(t:V) (d:Nat),Vl.check u8 d t=0→d≤6→d+dep t≤6
  | ⟨k,b,n,s,l,f⟩,d,h,hd=>by
    obtain ⟨a1,a2,a3,a4,a5,a6,a7,a8⟩:=Vl.right_form u8 h
    have h0:Vl.alone u8 d ⟨k,b,n,s,l,f⟩=0:=by
      rw [Vl.check] at h
      by_cases e:Vl.alone u8 d ⟨k,b,n,s,l,f⟩=0
      · exact e
      · rw [if_pos e] at h;exact absurd h e
    rw [dep]
    by_cases hp:0<l.length∨0<f.length
    · have hd6:=Vl.alone_depth u8 h0 hp
      have h1:=depL_right l (d+1) a7 (by omega)
      have h2:=depF_right f (d+1) Option.none a8 (by omega)
      omega
    · obtain rfl:l=[]:=List.eq_nil_of_length_eq_zero (by omega)
      obtain rfl:f=[]:=List.eq_nil_of_length_eq_zero (by omega)
      rw [depL,depF];omega
theorem depL_right:∀(l:List V) (d:Nat),Vl.checkL u8 d l=0→d≤6→d+depL l≤7
  | [],d,_,hd=>by rw [depL];omega
  | x :: r,d,h,hd=>by
    rw [Vl.checkL] at h
    rw [depL]
    by_cases e:Vl.check u8 d x=0
    · rw [if_neg (by simp [e])] at h
      have h1:=dep_right x d e hd
      have h2:=depL_right r d h hd
      omega
    · rw [if_pos e] at h;exact absurd h e
theorem depF_right:∀(l:List (ByteArray × V)) (d:Nat) (p:Option ByteArray),Vl.checkF u8 d p l=0→d≤6→d+depF l≤7
  | [],d,_,_,hd=>by rw [depF];omega
  | (m,x) :: r,d,p,h,hd=>by
    rw [Vl.checkF] at h
    rw [depF]
    by_cases e0:Vl.nameErr u8 m=0
    · rw [if_neg (by simp [e0])] at h
      by_cases e1:Vl.notUp m p=true
      · rw [if_pos e1] at h;cases h
      · rw [if_neg e1] at h
        by_cases e:Vl.check u8 d x=0
        · rw [if_neg (by simp [e])] at h
          have h1:=dep_right x d e hd
          have h2:=depF_right r d (some m) h hd
          omega
        · rw [if_pos e] at h;exact absurd h e
    · rw [if_pos e0] at h;exact absurd h e0
end
end Bn
def PQ (d:Nat) (s:ByteArray) (x:V) (r:ByteArray) (ok:Bool):Prop:=(ok=true∧Bn.fit x∧s.data.toList=Bn.bytes x++r.data.toList)∨(ok=false∧Bn.noD d s.data.toList)
theorem PQ.good {d:Nat} {s:ByteArray} {x:V} {r:ByteArray} {b:Bool} (h:PV s x r b) (hb:b=false):PQ d s x r true:=by
  rcases h with ⟨_,h1,h2⟩ | ⟨h,_⟩
  · exact Or.inl ⟨rfl,h1,h2⟩
  · rw [hb] at h;cases h
def Gave47 (s:ByteArray) (d:Nat) (w:World) (e:Ending) (w':World):Prop:=Below w.heap.size w w'∧∃(x:V) (zk:Nat) (zb:Bool) (zn:Int) (zs:ByteArray) (za:Option Addr) (zl zc:Nat) (ta:Option Addr) (tl tc:Nat) (r:ByteArray) (ok:Bool),e=.returned (.tuple #[.agg #[.int .u8 (zk:Int),.bool zb,.int .i64 zn,.string zs,.slice za zl zc,.slice ta tl tc],.string r,.bool ok])∧(ok=true→RepA w' (fun g=>w.heap.size≤g∧g<w'.heap.size) x (.agg #[.int .u8 (zk:Int),.bool zb,.int .i64 zn,.string zs,.slice za zl zc,.slice ta tl tc]))∧PQ d s x r ok
theorem gave47 {w0 W:World} {d:Nat} {s r:ByteArray} {ok:Bool} {x:V} {zk:Nat} {zb:Bool} {zn:Int} {zs:ByteArray} {za:Option Addr} {zl zc:Nat} {ta:Option Addr} {tl tc:Nat} (hb:Below w0.heap.size w0 W) (hz:Z6 W w0.heap.size)
    (hr:ok=true→RepA W (fun g=>w0.heap.size<g∧g<W.heap.size) x (.agg #[.int .u8 (zk:Int),.bool zb,.int .i64 zn,.string zs,.slice za zl zc,.slice ta tl tc])) (hp:PQ d s x r ok) :
    (W.setCells w0.heap.size 0 [.int .u8 (zk:Int),.bool zb,.int .i64 zn,.string zs,.slice za zl zc,.slice ta tl tc]).heap[w0.heap.size]?=some (.cells #[.int .u8 (zk:Int),.bool zb,.int .i64 zn,.string zs,.slice za zl zc,.slice ta tl tc] 32 (0,0)) ∧
    Gave47 s d w0 (.returned (.tuple #[.agg #[.int .u8 (zk:Int),.bool zb,.int .i64 zn,.string zs,.slice za zl zc,.slice ta tl tc],.string r,.bool ok])) (W.setCells w0.heap.size 0 [.int .u8 (zk:Int),.bool zb,.int .i64 zn,.string zs,.slice za zl zc,.slice ta tl tc]):=by
  refine ⟨Z6.put hz _ _ _ _ _ _,below_setCellsV (Nat.le_refl _) _ _ hb,x,zk,zb,zn,zs,za,zl,zc,ta,tl,tc,r,ok,rfl,fun h=>?_,hp⟩
  rw [size_setCellsV']
  exact repA_stays (fun g hg=>setCells_block (by omega) _) (fun g hg=>⟨by omega,hg.2⟩) x _ (hr h)
theorem results_row_tmp2 {P:Program} {fn:Func} {p u1 u2:Tmp} {ty:TypeId} (h:fn.results=#[.cell p ty,.tmp u1,.tmp u2]) (tmps:Array Value) (w:World) (g:Nat) (t:TypeId) (cs:Array Value) (fr:Nat × Nat) (d:TypeDesc)
    (hp:tmps.getD p undef=.pointer (some ⟨g,0,none⟩)) (hg:w.heap[g]?=some (.cells cs t fr))
    (hu:P.underlying ty=some d) (hd:(match d with | .struct _ | .array _ _=>true | _=>false)=true) (hi:(P.info? ty).map (·.size)=some cs.size) :
    (results fn tmps).run P w=.ok (.tuple #[.agg cs,tmps.getD u1 undef,tmps.getD u2 undef]) w:=by
  have hl:=run_loadVar_row w g t ty cs fr d hg hu hd hi
  have hp':tmps[p]?.getD undef=.pointer (some ⟨g,0,none⟩):=by simpa using hp
  simp [results,h,hp',asAddr,hl]
end Go.Proofs.YtggnfejjcgbebaaGreatDoor
/- The document's ReadNumber, in two answers. -/
namespace Go.Proofs.YtggnfejjcgbebaaGreatDoor
open Go.RowKit
open Vl (V)
theorem num24_good {s:ByteArray} {n k:Nat} {r:List UInt8} (hn:n<18446744073709551616) (hr:s.data.toList=Bn.num n++r) (hk:k=(Bn.num n).length) (w:World) :
    Calls Tryz.prog 133 #[.string s] w fun e w'=>e=.returned (.tuple #[.int .u64 (n:Int),.int .i64 (k:Int),.int .i64 0])∧Below w.heap.size w w':=(rread24 s w).mono (fun e w' ⟨h1,h2⟩=>by
  refine ⟨?_,h2⟩
  rcases h1 with ⟨n',hn',hp',e'⟩ | ⟨hno,_⟩
  · obtain rfl:=Bn.num_prefix_eq hp' (hr ▸ List.prefix_append _ _)
    rw [e',hk]
  · exact absurd (hr ▸ List.prefix_append _ _) (hno n hn))
theorem num24_bad {s:ByteArray} (h:Bn.noNum s.data.toList) (w:World) :
    Calls Tryz.prog 133 #[.string s] w fun e w'=>e=.returned (.tuple #[.int .u64 0,.int .i64 0,.int .i64 11])∧Below w.heap.size w w':=(rread24 s w).mono (fun e w' ⟨h1,h2⟩=>by
  refine ⟨?_,h2⟩
  rcases h1 with ⟨n',hn',hp',e'⟩ | ⟨_,e'⟩
  · exact absurd hp' (h n' hn')
  · exact e')
theorem num_split (s:ByteArray):(∃(n k:Nat) (s2:ByteArray),n<18446744073709551616∧s.data.toList=Bn.num n++s2.data.toList∧k=(Bn.num n).length∧k≤s.size∧s2=s.extract k s.size)∨Bn.noNum s.data.toList:=by
  by_cases hnum:∃n,n<18446744073709551616∧Bn.num n <+: s.data.toList
  · obtain ⟨n,hn,r,hr⟩:=hnum
    have hsz:s.size=(Bn.num n).length+r.length:=by rw [Lib.size_eq,←hr,List.length_append]
    have hx:(s.extract (Bn.num n).length s.size).data.toList=r:=by
      rw [ByteArray.data_extract,Array.toList_extract,←hr,List.extract_eq_take_drop,List.drop_left,List.take_of_length_le (by omega)]
    exact Or.inl ⟨n,(Bn.num n).length,s.extract (Bn.num n).length s.size,hn,by rw [hx,hr],rfl,by omega,rfl⟩
  · exact Or.inr (fun n hn hp=>hnum ⟨n,hn,hp⟩)
end Go.Proofs.YtggnfejjcgbebaaGreatDoor
/- The document's reading of parts: where it begins and what it leaves. -/
namespace Go.Proofs.YtggnfejjcgbebaaGreatDoor
open Go.RowKit
open Vl (V)
theorem Row6.set0 {w:World} {g:Nat} {v v0 v1 v2 v3 v4 v5:Value} (h:Row6 w g v0 v1 v2 v3 v4 v5):Row6 (w.setCell ⟨g,0,none⟩ v) g v v1 v2 v3 v4 v5 :=
  ⟨by simp;exact h.1,heap_setCell_same w g 0 _ 32 v h.2⟩
theorem KS.start {w0 W:World} (hb:Below w0.heap.size w0 W) (hz:Z6 W w0.heap.size) (hy:Z6 W (w0.heap.size+1)):KS w0 (W.setCell ⟨w0.heap.size+1,0,none⟩ (.int .u8 5)) (.slice none 0 0) []:=by
  have r:=Row6.set0 (v:=.int .u8 5) hy
  exact ⟨hb.setCell (p:=⟨w0.heap.size+1,0,none⟩) (by show w0.heap.size≤w0.heap.size+1;omega) _,Z6.other hz _ _ _ (by omega),r,[],World.ownsRow_nil _ _ _ _,rfl⟩
theorem KF.start {w0 W:World} (hb:Below w0.heap.size w0 W) (hz:Z6 W w0.heap.size) (hy:Z6 W (w0.heap.size+1)):KF w0 ((W.setCell ⟨w0.heap.size+1,0,none⟩ (.int .u8 5)).setCell ⟨w0.heap.size+1,0,none⟩ (.int .u8 6)) (.slice none 0 0) []:=by
  have r:=Row6.set0 (v:=.int .u8 5) hy
  exact ⟨(hb.setCell (p:=⟨w0.heap.size+1,0,none⟩) (by show w0.heap.size≤w0.heap.size+1;omega) _).setCell (p:=⟨w0.heap.size+1,0,none⟩) (by show w0.heap.size≤w0.heap.size+1;omega) _,Z6.other (Z6.other hz _ _ _ (by omega)) _ _ _ (by omega),Row6.set0 r,[],World.ownsRow_nil _ _ _ _,rfl⟩
theorem KS.rep {w0 W:World} {lv:Value} {l:List V} (h:KS w0 W lv l) (hl:l.length≤65):∃ao lc,lv=.slice ao l.length lc∧RepA W (fun g=>w0.heap.size<g∧g<W.heap.size) ⟨5,false,0,⟨#[]⟩,l,[]⟩ (.agg #[.int .u8 5,.bool false,.int .i64 0,.string ⟨#[]⟩,lv,.slice none 0 0]):=by
  obtain ⟨cs,h1,h2⟩:=h.parts
  have hm:l.length≤maxLen:=by unfold maxLen;omega
  by_cases hp:0<l.length
  · obtain ⟨g,cap,rfl,hb,hgl,ho,hc⟩:=own_row hp h1
    refine ⟨some ⟨g,0,none⟩,cap,rfl,?_⟩
    rw [RepA]
    refine ⟨some ⟨g,0,none⟩,cap,none,0,rfl,by omega,by omega,by decide,hm,by simp,fun _=>⟨g,0,rfl,⟨by omega,hgl⟩,EL.lies l cs 0 (EL.stays (fun _ _=>rfl) (fun k hk=>⟨by omega,hk.2.2⟩) l cs h2) (fun j u hu=>by rw [Nat.zero_add];exact hc j u hu)⟩,fun h=>by simp at h⟩
  · have hl0:l=[]:=List.eq_nil_of_length_eq_zero (by omega)
    subst hl0
    obtain ⟨ao,lc,rfl⟩:∃ao lc,lv=.slice ao 0 lc:=by
      rcases h1.2 with ⟨e,_⟩ | ⟨g,cap,cur,e,_⟩
      · exact ⟨none,0,e⟩
      · exact ⟨some ⟨g,0,none⟩,cap,e⟩
    refine ⟨ao,lc,rfl,?_⟩
    rw [RepA]
    exact ⟨ao,lc,none,0,rfl,by omega,by omega,by decide,hm,by simp,fun h=>absurd h hp,fun h=>by simp at h⟩
theorem KF.rep {w0 W:World} {lv:Value} {l:List (ByteArray × V)} (h:KF w0 W lv l) (hl:l.length≤65):∃ao lc,lv=.slice ao l.length lc∧RepA W (fun g=>w0.heap.size<g∧g<W.heap.size) ⟨6,false,0,⟨#[]⟩,[],l⟩ (.agg #[.int .u8 6,.bool false,.int .i64 0,.string ⟨#[]⟩,.slice none 0 0,lv]):=by
  obtain ⟨cs,h1,h2⟩:=h.parts
  have hm:l.length≤maxLen:=by unfold maxLen;omega
  by_cases hp:0<l.length
  · obtain ⟨g,cap,rfl,hb,hgl,ho,hc⟩:=own_row hp h1
    refine ⟨some ⟨g,0,none⟩,cap,rfl,?_⟩
    rw [RepA]
    refine ⟨none,0,some ⟨g,0,none⟩,cap,rfl,by omega,by omega,by decide,by simp,hm,fun h=>by simp at h,fun _=>⟨g,0,rfl,⟨by omega,hgl⟩,EF.lies l cs 0 (EF.stays (fun _ _=>rfl) (fun k hk=>⟨by omega,hk.2.2⟩) l cs h2) (fun j u hu=>by rw [Nat.zero_add];exact hc j u hu),own_free h1⟩⟩
  · have hl0:l=[]:=List.eq_nil_of_length_eq_zero (by omega)
    subst hl0
    obtain ⟨ao,lc,rfl⟩:∃ao lc,lv=.slice ao 0 lc:=by
      rcases h1.2 with ⟨e,_⟩ | ⟨g,cap,cur,e,_⟩
      · exact ⟨none,0,e⟩
      · exact ⟨some ⟨g,0,none⟩,cap,e⟩
    refine ⟨ao,lc,rfl,?_⟩
    rw [RepA]
    exact ⟨none,0,ao,lc,rfl,by omega,by omega,by decide,by simp,hm,fun h=>by simp at h,fun h=>absurd h hp⟩
theorem Gave47.drew {s:ByteArray} {d:Nat} {w W:World} {e:Ending} (h:Gave47 s d w e W):Gave47 s d w e W.drew:=by
  obtain ⟨hb,x,zk,zb,zn,zs,za,zl,zc,ta,tl,tc,r,ok,h1,h2,h3⟩:=h
  exact ⟨hb.drew,x,zk,zb,zn,zs,za,zl,zc,ta,tl,tc,r,ok,h1,fun h=>repA_stays (w:=W) (w':=W.drew) (fun _ _=>rfl) (fun g hg=>hg) x _ (h2 h),h3⟩
theorem KS.form {w0 W:World} {lv:Value} {l:List V} (h:KS w0 W lv l):∃la lc,lv=.slice la l.length lc:=by
  obtain ⟨cs,h1,_⟩:=h.parts
  rcases h1.2 with ⟨e,e2⟩ | ⟨g,cap,cur,e,_⟩
  · exact ⟨none,0,by rw [e,e2]⟩
  · exact ⟨_,_,e⟩
theorem KF.form {w0 W:World} {lv:Value} {l:List (ByteArray × V)} (h:KF w0 W lv l):∃la lc,lv=.slice la l.length lc:=by
  obtain ⟨cs,h1,_⟩:=h.parts
  rcases h1.2 with ⟨e,e2⟩ | ⟨g,cap,cur,e,_⟩
  · exact ⟨none,0,by rw [e,e2]⟩
  · exact ⟨_,_,e⟩
end Go.Proofs.YtggnfejjcgbebaaGreatDoor
/- The document's reading of a value, walked, given what reading parts does. -/
namespace Go.Proofs.YtggnfejjcgbebaaGreatDoor
open Go.RowKit
open Vl (V)
set_option maxHeartbeats 8000000 in
set_option maxRecDepth 10000 in
theorem value47_one (s:ByteArray) (d:Nat) (hs:s.size≤65536) (hd:d≤11) (w:World) (IH:∀s1 W,s1.size<s.size→d≤10→Calls Tryz.prog 96 #[.string s1,.int .i64 ((d+1:Nat):Int)] W (Gave47 s1 (d+1) W)) :
    Calls Tryz.prog 96 #[.string s,.int .i64 (d:Int)] w (Gave47 s d w):=by
  obtain ⟨R,hR⟩:∃R,R=w.heap.size:=⟨_,rfl⟩
  have HR:Hid (R=w.heap.size):=hR
  obtain ⟨K,hK⟩:∃K,K=Gave47 s d w:=⟨_,rfl⟩
  have HK:Hid (K=Gave47 s d w):=hK
  rw [←hK]
  obtain ⟨w1,hw1⟩:∃w1,w1=w.alloc (.cells #[.int .u8 0,.bool false,.int .i64 0,.string ⟨#[]⟩,.slice none 0 0,.slice none 0 0] 32):=⟨_,rfl⟩
  have B1:Hid (Below w.heap.size w w1):=by show Below _ _ _;rw [hw1];exact below_new _ _
  have Z1:Hid (Z6 w1 R):=by show Z6 _ _;rw [hw1,hR];exact ⟨by simp,heap_alloc_new w _⟩
  have S1:Hid (w1.heap.size=R+1):=by show _=_;rw [hw1,hR];simp
  obtain ⟨q0,q1,q2,q3,q4,q5⟩:=Row6.cells Z1.out
  have fz:=Row6.free Z1.out
  by_cases h0:s.size=0
  · obtain rfl:=Vl.size_zero h0
    have HP:Hid (PQ d ⟨#[]⟩ ⟨0,false,0,⟨#[]⟩,[],[]⟩ ⟨#[]⟩ false):=Or.inr ⟨rfl,Bn.noD_of Bn.noV_nil⟩
    clear IH hK h0
    go_enter Tryz.func96,Tryz.ntmps96
    go_upto_region 1 with fail
    rw [←hR,←hw1]
    clear hR hw1
    go_wp2
    have F:=gave47 (w0:=w) (W:=w1) (zk:=0) (zb:=false) (zn:=0) (zs:=⟨#[]⟩) (za:=none) (zl:=0) (zc:=0) (ta:=none) (tl:=0) (tc:=0) B1.out (by rw [←HR.out];exact Z1.out) (fun h=>by cases h) HP.out
    rw [←HR.out] at F
    rw [sets6]
    exact bodyPost_ret (v:=.tuple #[.agg #[.int .u8 0,.bool false,.int .i64 0,.string ⟨#[]⟩,.slice none 0 0,.slice none 0 0],.string ⟨#[]⟩,.bool false]) ((results_row_tmp2 (fn:=Tryz.f96) (p:=4) (u1:=5) (u2:=6) (ty:=32) (by rfl) _ _ R 32 _ (0,0) _ (by rfl) F.1 Tryz.underlying32 rfl infoVal).trans (by rfl)) rfl (by rw [HK.out];exact F.2)
  · obtain ⟨b,hb,hf1⟩:=Bn.split1 h0
    obtain ⟨s1,hs1⟩:∃s1,s1=s.extract 1 s.size:=⟨_,rfl⟩
    rw [←hs1] at hb
    obtain ⟨bN,hbN⟩:∃bN,bN=b.toNat:=⟨_,rfl⟩
    have IX:∀wx,(Instr.index 9 (.string s) (.int .i64 0)).run Tryz.prog wx=.ok (.int .u8 (bN:Int)) wx:=fun wx=>by
      rw [Bn.index_byte s 0 (by omega) (by omega) wx,hb,hbN];rfl
    have HSB:Hid (s.data.toList=b :: s1.data.toList):=hb
    have HBN:Hid (bN=b.toNat):=hbN
    have hlt1:s1.size<s.size:=by rw [Lib.size_eq,Lib.size_eq,hb,List.length_cons];omega
    have hne2:¬s.toList=[]:=fun e=>by rw [Go.ByteArray.toList_eq,hb] at e;cases e
    have hne3:(s.toList==[])=false:=by simpa using hne2
    have hne4:s.toList.isEmpty=false:=by simpa using hne2
    have hb8:bN<256:=by rw [hbN];exact UInt8.toNat_lt b
    by_cases hbad:7<bN∨10<d
    · have HP:Hid (PQ d s ⟨0,false,0,⟨#[]⟩,[],[]⟩ ⟨#[]⟩ false):=by
        refine Or.inr ⟨rfl,?_⟩
        rcases hbad with h | h
        · rw [HSB.out];exact Bn.noD_of (Bn.noV_first (by rw [←HBN.out];omega))
        · exact Bn.noD_deep h
      by_cases h7:7<bN
      · have h7':(7:Int)<(bN:Int):=by omega
        clear IH hK h0 hb hf1 hs1 hbN hlt1 hbad
        go_enter Tryz.func96,Tryz.ntmps96
        go_upto_region 1 with fail
        rw [←hR,←hw1]
        clear hR hw1
        go_wp2
        have F:=gave47 (w0:=w) (W:=w1) (zk:=0) (zb:=false) (zn:=0) (zs:=⟨#[]⟩) (za:=none) (zl:=0) (zc:=0) (ta:=none) (tl:=0) (tc:=0) B1.out (by rw [←HR.out];exact Z1.out) (fun h=>by cases h) HP.out
        rw [←HR.out] at F
        rw [sets6]
        exact bodyPost_ret (v:=.tuple #[.agg #[.int .u8 0,.bool false,.int .i64 0,.string ⟨#[]⟩,.slice none 0 0,.slice none 0 0],.string ⟨#[]⟩,.bool false]) ((results_row_tmp2 (fn:=Tryz.f96) (p:=4) (u1:=5) (u2:=6) (ty:=32) (by rfl) _ _ R 32 _ (0,0) _ (by rfl) F.1 Tryz.underlying32 rfl infoVal).trans (by rfl)) rfl (by rw [HK.out];exact F.2)
      · have h7':¬(7:Int)<(bN:Int):=by omega
        have hd':(10:Int)<(d:Int):=by omega
        clear IH hK h0 hb hf1 hs1 hbN hlt1 hbad
        go_enter Tryz.func96,Tryz.ntmps96
        go_upto_region 1 with fail
        rw [←hR,←hw1]
        clear hR hw1
        go_wp2
        have F:=gave47 (w0:=w) (W:=w1) (zk:=0) (zb:=false) (zn:=0) (zs:=⟨#[]⟩) (za:=none) (zl:=0) (zc:=0) (ta:=none) (tl:=0) (tc:=0) B1.out (by rw [←HR.out];exact Z1.out) (fun h=>by cases h) HP.out
        rw [←HR.out] at F
        rw [sets6]
        exact bodyPost_ret (v:=.tuple #[.agg #[.int .u8 0,.bool false,.int .i64 0,.string ⟨#[]⟩,.slice none 0 0,.slice none 0 0],.string ⟨#[]⟩,.bool false]) ((results_row_tmp2 (fn:=Tryz.f96) (p:=4) (u1:=5) (u2:=6) (ty:=32) (by rfl) _ _ R 32 _ (0,0) _ (by rfl) F.1 Tryz.underlying32 rfl infoVal).trans (by rfl)) rfl (by rw [HK.out];exact F.2)
    · have h7':¬(7:Int)<(bN:Int):=by omega
      have hd':¬(10:Int)<(d:Int):=by omega
      have SL:∀wx,(Instr.slice 9 (.string s) (some (.int .i64 1)) none none).run Tryz.prog wx=.ok (.string s1) wx:=fun wx=>by
        rw [run_slice_string_from_if (P:=Tryz.prog) wx 9 s .i64 1 Tryz.underlying9,if_pos ⟨by omega,by omega⟩,hs1];rfl
      have D47:Hid (∀s2 W,s2.size≤s1.size→Calls Tryz.prog 96 #[.string s2,.int .i64 ((d+1:Nat):Int)] W (Gave47 s2 (d+1) W)):=fun s2 W h=>IH s2 W (by omega) (by omega)
      have HS1:Hid (s1.size≤65536):=by show _≤_;omega
      have HD10:Hid (d≤10):=by show _≤_;omega
      clear IH hK h0 hb hf1 hs1 hbN hlt1
      go_enter Tryz.func96,Tryz.ntmps96
      go_upto_region 1 with fail
      rw [←hR,←hw1]
      clear hR hw1
      go_upto_region 6 with fail
      obtain ⟨w2,hw2⟩:∃w2,w2=w1.alloc (.cells #[.int .u8 0,.bool false,.int .i64 0,.string ⟨#[]⟩,.slice none 0 0,.slice none 0 0] 32):=⟨_,rfl⟩
      have B2:Hid (Below w.heap.size w w2):=by show Below _ _ _;rw [hw2];exact B1.out.trans ((below_new _ _).mono B1.out.size)
      have Z2:Hid (Z6 w2 R):=by show Z6 _ _;rw [hw2];exact Z1.out.call (below_new _ _)
      have Y2:Hid (Z6 w2 (R+1)):=by show Z6 _ _;rw [hw2,←S1.out];exact ⟨by simp,heap_alloc_new w1 _⟩
      have S2:Hid (w2.heap.size=R+2):=by show _=_;rw [hw2];simp [S1.out]
      rw [←hw2,S1.out]
      clear hw2 q0 q1 q2 q3 q4 q5 fz IX SL
      obtain ⟨q0,q1,q2,q3,q4,q5⟩:=Row6.cells Z2.out
      obtain ⟨p0,p1,p2,p3,p4,p5⟩:=Row6.cells Y2.out
      have fz:=Row6.free Z2.out
      have fy:=Row6.free Y2.out
      have hcase:bN=0∨bN=1∨bN=2∨bN=3∨bN=4∨bN=5∨bN=6∨bN=7:=by omega
      clear hbad h7' hb8
      rcases hcase with rfl | rfl | rfl | rfl | rfl | rfl | rfl | rfl
      · have HP:Hid (PQ d s ⟨0,false,0,⟨#[]⟩,[],[]⟩ s1 true):=PQ.good (PV.zero HSB.out HBN.out.symm) rfl
        go_wp2
        have F:=gave47 (w0:=w) (W:=w2) (zk:=0) (zb:=false) (zn:=0) (zs:=⟨#[]⟩) (za:=none) (zl:=0) (zc:=0) (ta:=none) (tl:=0) (tc:=0) B2.out (by rw [←HR.out];exact Z2.out) (fun _=>repA_flat w2 _ 0 false 0 ⟨#[]⟩ (by omega) (by omega) (by decide)) HP.out
        rw [←HR.out] at F
        rw [sets6]
        exact bodyPost_ret (v:=.tuple #[.agg #[.int .u8 0,.bool false,.int .i64 0,.string ⟨#[]⟩,.slice none 0 0,.slice none 0 0],.string s1,.bool true]) ((results_row_tmp2 (fn:=Tryz.f96) (p:=4) (u1:=5) (u2:=6) (ty:=32) (by rfl) _ _ R 32 _ (0,0) _ (by rfl) F.1 Tryz.underlying32 rfl infoVal).trans (by rfl)) rfl (by rw [HK.out];exact F.2)
      · have HP:Hid (PQ d s ⟨1,false,0,⟨#[]⟩,[],[]⟩ s1 true):=PQ.good (PV.no HSB.out HBN.out.symm) rfl
        go_wp2
        have F:=gave47 (w0:=w) (W:=w2) (zk:=1) (zb:=false) (zn:=0) (zs:=⟨#[]⟩) (za:=none) (zl:=0) (zc:=0) (ta:=none) (tl:=0) (tc:=0) B2.out (by rw [←HR.out];exact Z2.out) (fun _=>repA_flat w2 _ 1 false 0 ⟨#[]⟩ (by omega) (by omega) (by decide)) HP.out
        rw [←HR.out] at F
        rw [sets6]
        exact bodyPost_ret (v:=.tuple #[.agg #[.int .u8 1,.bool false,.int .i64 0,.string ⟨#[]⟩,.slice none 0 0,.slice none 0 0],.string s1,.bool true]) ((results_row_tmp2 (fn:=Tryz.f96) (p:=4) (u1:=5) (u2:=6) (ty:=32) (by rfl) _ _ R 32 _ (0,0) _ (by rfl) F.1 Tryz.underlying32 rfl infoVal).trans (by rfl)) rfl (by rw [HK.out];exact F.2)
      · have HP:Hid (PQ d s ⟨1,true,0,⟨#[]⟩,[],[]⟩ s1 true):=PQ.good (PV.yes HSB.out HBN.out.symm) rfl
        go_wp2
        have F:=gave47 (w0:=w) (W:=w2) (zk:=1) (zb:=true) (zn:=0) (zs:=⟨#[]⟩) (za:=none) (zl:=0) (zc:=0) (ta:=none) (tl:=0) (tc:=0) B2.out (by rw [←HR.out];exact Z2.out) (fun _=>repA_flat w2 _ 1 true 0 ⟨#[]⟩ (by omega) (by omega) (by decide)) HP.out
        rw [←HR.out] at F
        rw [sets6]
        exact bodyPost_ret (v:=.tuple #[.agg #[.int .u8 1,.bool true,.int .i64 0,.string ⟨#[]⟩,.slice none 0 0,.slice none 0 0],.string s1,.bool true]) ((results_row_tmp2 (fn:=Tryz.f96) (p:=4) (u1:=5) (u2:=6) (ty:=32) (by rfl) _ _ R 32 _ (0,0) _ (by rfl) F.1 Tryz.underlying32 rfl infoVal).trans (by rfl)) rfl (by rw [HK.out];exact F.2)
      · rcases num_split s1 with ⟨n,k,s2,hn,hs2,hk,hks,hse⟩ | hno
        · have HP:Hid (PQ d s ⟨2,false,Bn.zag n,⟨#[]⟩,[],[]⟩ s2 true):=PQ.good (PV.int hn HSB.out HBN.out.symm (Or.inl ⟨hs2,rfl⟩)) rfl
          have D24:Hid (∀W,Calls Tryz.prog 133 #[.string s1] W fun e w'=>e=.returned (.tuple #[.int .u64 (n:Int),.int .i64 (k:Int),.int .i64 0])∧Below W.heap.size W w'):=fun W=>num24_good hn hs2 hk W
          have HN:Hid (n<18446744073709551616):=hn
          have SL:∀wx,(Instr.slice 9 (.string s1) (some (.int .i64 (k:Int))) none none).run Tryz.prog wx=.ok (.string s2) wx:=fun wx=>by
            rw [run_slice_string_from_if (P:=Tryz.prog) wx 9 s1 .i64 (k:Int) Tryz.underlying9,if_pos ⟨by omega,by omega⟩,hse];rfl
          clear hn hs2 hk hks hse q0 q1 q2 q3 q4 q5 p0 p1 p2 p3 p4 p5 fz fy
          go_upto_region 16 with (first
            | (go_at_call 133;refine (D24.out _).mono ?_;rintro e w3 ⟨rfl,k1⟩
               have B3:Hid (Below w.heap.size w w3):=B2.out.trans (k1.mono B2.out.size)
               have Z3:Hid (Z6 w3 R):=Z2.out.call k1
               have Y3:Hid (Z6 w3 (R+1)):=Y2.out.call k1
               obtain ⟨q0,q1,q2,q3,q4,q5⟩:=Row6.cells Z3.out
               obtain ⟨p0,p1,p2,p3,p4,p5⟩:=Row6.cells Y3.out
               have fz:=Row6.free Z3.out
               have fy:=Row6.free Y3.out
               clear k1))
          go_region_law (first
            | (go_simp;go_at_call 134;refine (zag87 n HN.out _).mono ?_;rintro e w4 ⟨rfl,rfl⟩))
          go_wp2
          change bodyPost Tryz.prog Tryz.f96 K Exit.ret (Act.put (Act.put _ (some 5) (.string s2)) (some 6) (.bool true)) _
          simp only [Act.put,List.setIfInBounds_toArray,List.set_cons_succ,List.set_cons_zero]
          have hz:=(Bn.zag_fold HN.out).2
          have F:=gave47 (w0:=w) (W:=w3) (zk:=2) (zb:=false) (zn:=(Bn.zag n)) (zs:=⟨#[]⟩) (za:=none) (zl:=0) (zc:=0) (ta:=none) (tl:=0) (tc:=0) B3.out (by rw [←HR.out];exact Z3.out) (fun _=>repA_flat w3 _ 2 false (Bn.zag n) ⟨#[]⟩ (by omega) (by omega) (by decide)) HP.out
          rw [←HR.out] at F
          rw [sets6]
          obtain ⟨wf,hwf⟩:∃wf,wf=w3.setCells R 0 [.int .u8 2,.bool false,.int .i64 (Bn.zag n),.string ⟨#[]⟩,.slice none 0 0,.slice none 0 0]:=⟨_,rfl⟩
          have F0:wf.heap[R]?=some (.cells #[.int .u8 2,.bool false,.int .i64 (Bn.zag n),.string ⟨#[]⟩,.slice none 0 0,.slice none 0 0] 32 (0,0))∧Gave47 s d w (.returned (.tuple #[.agg #[.int .u8 2,.bool false,.int .i64 (Bn.zag n),.string ⟨#[]⟩,.slice none 0 0,.slice none 0 0],.string s2,.bool true])) wf:=by rw [hwf];exact F
          rw [←hwf]
          have F1:wf.drew.heap[R]?=_:=F0.1
          exact bodyPost_ret (v:=.tuple #[.agg #[.int .u8 2,.bool false,.int .i64 (Bn.zag n),.string ⟨#[]⟩,.slice none 0 0,.slice none 0 0],.string s2,.bool true]) ((results_row_tmp2 (fn:=Tryz.f96) (p:=4) (u1:=5) (u2:=6) (ty:=32) (by rfl) _ _ R 32 _ (0,0) _ (by rfl) F1 Tryz.underlying32 rfl infoVal).trans (by rfl)) rfl (by rw [HK.out];exact F0.2.drew)
        · have HP:Hid (PQ d s ⟨0,false,0,⟨#[]⟩,[],[]⟩ ⟨#[]⟩ false):=Or.inr ⟨rfl,by rw [HSB.out,show b=3 from UInt8.toNat_inj.1 HBN.out.symm];exact Bn.noD_of (Bn.noV_int hno)⟩
          have D24:Hid (∀W,Calls Tryz.prog 133 #[.string s1] W fun e w'=>e=.returned (.tuple #[.int .u64 0,.int .i64 0,.int .i64 11])∧Below W.heap.size W w'):=fun W=>num24_bad hno W
          clear hno q0 q1 q2 q3 q4 q5 p0 p1 p2 p3 p4 p5 fz fy
          go_wp2_with (first
            | (go_at_call 133;refine (D24.out _).mono ?_;rintro e w3 ⟨rfl,k1⟩
               have B3:Hid (Below w.heap.size w w3):=B2.out.trans (k1.mono B2.out.size)
               have Z3:Hid (Z6 w3 R):=Z2.out.call k1
               have Y3:Hid (Z6 w3 (R+1)):=Y2.out.call k1
               obtain ⟨q0,q1,q2,q3,q4,q5⟩:=Row6.cells Z3.out
               obtain ⟨p0,p1,p2,p3,p4,p5⟩:=Row6.cells Y3.out
               have fz:=Row6.free Z3.out
               have fy:=Row6.free Y3.out
               clear k1))
          have F:=gave47 (w0:=w) (W:=w3) (zk:=0) (zb:=false) (zn:=0) (zs:=⟨#[]⟩) (za:=none) (zl:=0) (zc:=0) (ta:=none) (tl:=0) (tc:=0) B3.out (by rw [←HR.out];exact Z3.out) (fun h=>by cases h) HP.out
          rw [←HR.out] at F
          rw [sets6]
          exact bodyPost_ret (v:=.tuple #[.agg #[.int .u8 0,.bool false,.int .i64 0,.string ⟨#[]⟩,.slice none 0 0,.slice none 0 0],.string ⟨#[]⟩,.bool false]) ((results_row_tmp2 (fn:=Tryz.f96) (p:=4) (u1:=5) (u2:=6) (ty:=32) (by rfl) _ _ R 32 _ (0,0) _ (by rfl) F.1 Tryz.underlying32 rfl infoVal).trans (by rfl)) rfl (by rw [HK.out];exact F.2)
      · have D88:Hid (∀W,Calls Tryz.prog 135 #[.string s1] W fun e w'=>Below W.heap.size W w'∧∃(t r:ByteArray) (ok:Bool),e=.returned (.tuple #[.string t,.string r,.bool ok])∧t.size≤65536∧PQ d s ⟨3,false,0,t,[],[]⟩ r ok):=fun W=>(bytes88 s1 HS1.out W).mono (fun e w' ⟨h1,t,r,ok,h2,h3,h4⟩=>⟨h1,t,r,ok,h2,h3,by
          rcases h4 with ⟨rfl,h5⟩ | ⟨rfl,h5⟩
          · exact PQ.good (PV.text (by omega) h3 HSB.out HBN.out.symm (Or.inl ⟨h5,rfl⟩)) rfl
          · exact Or.inr ⟨rfl,by rw [HSB.out];exact Bn.noD_of (Bn.noV_text (by have:=HBN.out;omega) h5)⟩⟩)
        clear q0 q1 q2 q3 q4 q5 p0 p1 p2 p3 p4 p5 fz fy
        go_wp2_with (first
          | (go_at_call 135;refine (D88.out _).mono ?_;rintro e w3 ⟨k1,t,r,ok,rfl,k2,k3⟩
             have B3:Hid (Below w.heap.size w w3):=B2.out.trans (k1.mono B2.out.size)
             have Z3:Hid (Z6 w3 R):=Z2.out.call k1
             have HT:Hid (t.size≤65536):=k2
             have HP:Hid (PQ d s ⟨3,false,0,t,[],[]⟩ r ok):=k3
             obtain ⟨q0,q1,q2,q3,q4,q5⟩:=Row6.cells Z3.out
             have fz:=Row6.free Z3.out
             clear k1 k2 k3))
        have F:=gave47 (w0:=w) (W:=w3) (zk:=3) (zb:=false) (zn:=0) (zs:=t) (za:=none) (zl:=0) (zc:=0) (ta:=none) (tl:=0) (tc:=0) B3.out (by rw [←HR.out];exact Z3.out) (fun _=>repA_flat w3 _ 3 false 0 t (by omega) (by omega) (by have:=HT.out;unfold maxLen;omega)) HP.out
        rw [←HR.out] at F
        rw [sets6]
        exact bodyPost_ret (v:=.tuple #[.agg #[.int .u8 3,.bool false,.int .i64 0,.string t,.slice none 0 0,.slice none 0 0],.string r,.bool ok]) ((results_row_tmp2 (fn:=Tryz.f96) (p:=4) (u1:=5) (u2:=6) (ty:=32) (by rfl) _ _ R 32 _ (0,0) _ (by rfl) F.1 Tryz.underlying32 rfl infoVal).trans (by rfl)) rfl (by rw [HK.out];exact F.2)
      · have D88:Hid (∀W,Calls Tryz.prog 135 #[.string s1] W fun e w'=>Below W.heap.size W w'∧∃(t r:ByteArray) (ok:Bool),e=.returned (.tuple #[.string t,.string r,.bool ok])∧t.size≤65536∧PQ d s ⟨4,false,0,t,[],[]⟩ r ok):=fun W=>(bytes88 s1 HS1.out W).mono (fun e w' ⟨h1,t,r,ok,h2,h3,h4⟩=>⟨h1,t,r,ok,h2,h3,by
          rcases h4 with ⟨rfl,h5⟩ | ⟨rfl,h5⟩
          · exact PQ.good (PV.text (by omega) h3 HSB.out HBN.out.symm (Or.inl ⟨h5,rfl⟩)) rfl
          · exact Or.inr ⟨rfl,by rw [HSB.out];exact Bn.noD_of (Bn.noV_text (by have:=HBN.out;omega) h5)⟩⟩)
        clear q0 q1 q2 q3 q4 q5 p0 p1 p2 p3 p4 p5 fz fy
        go_wp2_with (first
          | (go_at_call 135;refine (D88.out _).mono ?_;rintro e w3 ⟨k1,t,r,ok,rfl,k2,k3⟩
             have B3:Hid (Below w.heap.size w w3):=B2.out.trans (k1.mono B2.out.size)
             have Z3:Hid (Z6 w3 R):=Z2.out.call k1
             have HT:Hid (t.size≤65536):=k2
             have HP:Hid (PQ d s ⟨4,false,0,t,[],[]⟩ r ok):=k3
             obtain ⟨q0,q1,q2,q3,q4,q5⟩:=Row6.cells Z3.out
             have fz:=Row6.free Z3.out
             clear k1 k2 k3))
        have F:=gave47 (w0:=w) (W:=w3) (zk:=4) (zb:=false) (zn:=0) (zs:=t) (za:=none) (zl:=0) (zc:=0) (ta:=none) (tl:=0) (tc:=0) B3.out (by rw [←HR.out];exact Z3.out) (fun _=>repA_flat w3 _ 4 false 0 t (by omega) (by omega) (by have:=HT.out;unfold maxLen;omega)) HP.out
        rw [←HR.out] at F
        rw [sets6]
        exact bodyPost_ret (v:=.tuple #[.agg #[.int .u8 4,.bool false,.int .i64 0,.string t,.slice none 0 0,.slice none 0 0],.string r,.bool ok]) ((results_row_tmp2 (fn:=Tryz.f96) (p:=4) (u1:=5) (u2:=6) (ty:=32) (by rfl) _ _ R 32 _ (0,0) _ (by rfl) F.1 Tryz.underlying32 rfl infoVal).trans (by rfl)) rfl (by rw [HK.out];exact F.2)
      · rcases num_split s1 with ⟨n,k,s2,hn,hs2,hk,hks,hse⟩ | hno
        · have D24:Hid (∀W,Calls Tryz.prog 133 #[.string s1] W fun e w'=>e=.returned (.tuple #[.int .u64 (n:Int),.int .i64 (k:Int),.int .i64 0])∧Below W.heap.size W w'):=fun W=>num24_good hn hs2 hk W
          have SL:∀wx,(Instr.slice 9 (.string s1) (some (.int .i64 (k:Int))) none none).run Tryz.prog wx=.ok (.string s2) wx:=fun wx=>by
            rw [run_slice_string_from_if (P:=Tryz.prog) wx 9 s1 .i64 (k:Int) Tryz.underlying9,if_pos ⟨by omega,by omega⟩,hse];rfl
          have HS2:Hid (s1.data.toList=Bn.num n++s2.data.toList):=hs2
          have HSS:Hid (s2.size≤s1.size):=by show _≤_;rw [Lib.size_eq,Lib.size_eq,hs2,List.length_append];omega
          clear hn hs2 hk hks hse q0 q1 q2 q3 q4 q5 p0 p1 p2 p3 p4 p5 fz fy
          by_cases hbig:64<n
          · have HP:Hid (PQ d s ⟨0,false,0,⟨#[]⟩,[],[]⟩ ⟨#[]⟩ false):=Or.inr ⟨rfl,by rw [HSB.out,show b=6 from UInt8.toNat_inj.1 HBN.out.symm,HS2.out];exact Bn.noD_of (Bn.noV_list (fun h=>absurd h (by omega)))⟩
            have hbig':(64:Int)<(n:Int):=by omega
            go_wp2_with (first
            | (go_at_call 133;refine (D24.out _).mono ?_;rintro e w3 ⟨rfl,k1⟩
               have B3:Hid (Below w.heap.size w w3):=B2.out.trans (k1.mono B2.out.size)
               have Z3:Hid (Z6 w3 R):=Z2.out.call k1
               have Y3:Hid (Z6 w3 (R+1)):=Y2.out.call k1
               obtain ⟨q0,q1,q2,q3,q4,q5⟩:=Row6.cells Z3.out
               obtain ⟨p0,p1,p2,p3,p4,p5⟩:=Row6.cells Y3.out
               have fz:=Row6.free Z3.out
               have fy:=Row6.free Y3.out
               clear k1))
            have F:=gave47 (w0:=w) (W:=w3) (zk:=0) (zb:=false) (zn:=0) (zs:=⟨#[]⟩) (za:=none) (zl:=0) (zc:=0) (ta:=none) (tl:=0) (tc:=0) B3.out (by rw [←HR.out];exact Z3.out) (fun h=>by cases h) HP.out
            rw [←HR.out] at F
            rw [sets6]
            exact bodyPost_ret (v:=.tuple #[.agg #[.int .u8 0,.bool false,.int .i64 0,.string ⟨#[]⟩,.slice none 0 0,.slice none 0 0],.string ⟨#[]⟩,.bool false]) ((results_row_tmp2 (fn:=Tryz.f96) (p:=4) (u1:=5) (u2:=6) (ty:=32) (by rfl) _ _ R 32 _ (0,0) _ (by rfl) F.1 Tryz.underlying32 rfl infoVal).trans (by rfl)) rfl (by rw [HK.out];exact F.2)
          · have hbig':¬(64:Int)<(n:Int):=by omega
            have HNO:Hid (∀(l:List V) (S:ByteArray),Bn.fitL l→l.length<n→s2.data.toList=Bn.bytesL l++S.data.toList→(∀m,1≤m→Bn.noLD m d S.data.toList)→Bn.noD d s.data.toList):=fun l S hl hlt he hno=>by
              rw [HSB.out,show b=6 from UInt8.toNat_inj.1 HBN.out.symm,HS2.out]
              refine Bn.noD_list ?_
              rw [he,show n=l.length+(n - l.length) by omega]
              exact Bn.noLD_app l _ d _ hl (hno _ (by omega))
            go_upto_region 28 with (first
            | (go_at_call 133;refine (D24.out _).mono ?_;rintro e w3 ⟨rfl,k1⟩
               have B3:Hid (Below w.heap.size w w3):=B2.out.trans (k1.mono B2.out.size)
               have Z3:Hid (Z6 w3 R):=Z2.out.call k1
               have Y3:Hid (Z6 w3 (R+1)):=Y2.out.call k1
               obtain ⟨q0,q1,q2,q3,q4,q5⟩:=Row6.cells Z3.out
               obtain ⟨p0,p1,p2,p3,p4,p5⟩:=Row6.cells Y3.out
               have fz:=Row6.free Z3.out
               have fy:=Row6.free Y3.out
               clear k1))
            obtain ⟨w4,hw4⟩:∃w4,w4=w3.setCell ⟨R+1,0,none⟩ (.int .u8 5):=⟨_,rfl⟩
            have K4:Hid (KS w w4 (.slice none 0 0) []):=by show KS _ _ _ _;rw [hw4,HR.out];exact KS.start B3.out (by rw [←HR.out];exact Z3.out) (by rw [←HR.out];exact Y3.out)
            rw [←hw4]
            clear hw4 q0 q1 q2 q3 q4 q5 p0 p1 p2 p3 p4 p5 fz fy SL D24
            go_wp2
            go_loopw [0,18] (fun sv i wr=>∃(j:Nat) (S:ByteArray) (lv:Value) (l:List V),j≤n∧i=.int .u64 j∧sv=.string S∧l.length=j∧Bn.fitL l∧s2.data.toList=Bn.bytesL l++S.data.toList∧KS w wr lv l) (fun _ i _=>n - (intOf i).toNat)
            case atStart=>exact ⟨0,s2,_,[],Nat.zero_le _,rfl,rfl,rfl,by rw [Bn.fitL];trivial,by rw [Bn.bytesL];rfl,K4.out⟩
            case round =>
              obtain ⟨j,S,lv,l,hj,rfl,rfl,hlen,hfit,hS,hK4⟩:=hrel
              obtain ⟨la,lc,rfl⟩:=hK4.form
              rw [hlen] at hK4
              have KK:Hid (KS w wr (.slice la j lc) l):=hK4
              have HLE:Hid (l.length=j):=hlen
              have HFI:Hid (Bn.fitL l):=hfit
              have HBS:Hid (s2.data.toList=Bn.bytesL l++S.data.toList):=hS
              have HSZ:Hid (S.size≤s1.size):=by
                show _≤_
                have h1:=congrArg List.length hS
                rw [List.length_append,←Lib.size_eq,←Lib.size_eq] at h1
                have:=HSS.out
                omega
              clear hK4 hlen hfit hS K4
              by_cases hlt:j<n
              · have hlt':(j:Int)<(n:Int):=by omega
                have KR:Hid (Row6 wr (R+1) (.int .u8 5) (.bool false) (.int .i64 0) (.string ⟨#[]⟩) (.slice la j lc) (.slice none 0 0)):=by show Row6 _ _ _ _ _ _ _ _;rw [HR.out];exact KK.out.row
                obtain ⟨p0,p1,p2,p3,p4,p5⟩:=KR.out.cells
                go_upto_region 37 with (first
                  | (go_at_call 96;refine (D47.out S _ HSZ.out).mono ?_;rintro e w5 ⟨k1,x,zk,zb,zn,zs,za,zl,zc,ta,tl,tc,r,ok,rfl,k2,k3⟩
                     have K5:Hid (KS w w5 (.slice la j lc) l):=KK.out.call k1
                     have B5:Hid (Below wr.heap.size wr w5):=k1
                     have HX:Hid (ok=true→RepA w5 (fun g=>wr.heap.size≤g∧g<w5.heap.size) x (.agg #[.int .u8 (zk:Int),.bool zb,.int .i64 zn,.string zs,.slice za zl zc,.slice ta tl tc])):=k2
                     have HQ:Hid (PQ (d+1) S x r ok):=k3
                     clear k1 k2 k3))
                obtain ⟨w6,hw6⟩:∃w6,w6=w5.alloc (.cells #[.int .u8 (zk:Int),.bool zb,.int .i64 zn,.string zs,.slice za zl zc,.slice ta tl tc] 32):=⟨_,rfl⟩
                obtain ⟨D,hD⟩:∃D,D=w5.heap.size:=⟨_,rfl⟩
                have hb6:Below w5.heap.size w5 w6:=by rw [hw6];exact below_new _ _
                have B6:Hid (Below w5.heap.size w5 w6):=hb6
                have K6:Hid (KS w w6 (.slice la j lc) l):=K5.out.call hb6
                have X6:Hid (Row6 w6 D (.int .u8 (zk:Int)) (.bool zb) (.int .i64 zn) (.string zs) (.slice za zl zc) (.slice ta tl tc)):=by show Row6 _ _ _ _ _ _ _ _;rw [hw6,hD];exact ⟨by simp,heap_alloc_new w5 _⟩
                have KR6:Hid (Row6 w6 (R+1) (.int .u8 5) (.bool false) (.int .i64 0) (.string ⟨#[]⟩) (.slice la j lc) (.slice none 0 0)):=by show Row6 _ _ _ _ _ _ _ _;rw [HR.out];exact K6.out.row
                have KZ6:Hid (Z6 w6 R):=by show Z6 _ _;rw [HR.out];exact K6.out.res
                rw [←hw6,←hD]
                clear hw6 hD hb6 p0 p1 p2 p3 p4 p5
                obtain ⟨p0,p1,p2,p3,p4,p5⟩:=KR6.out.cells
                obtain ⟨q0,q1,q2,q3,q4,q5⟩:=Row6.cells KZ6.out
                obtain ⟨x0,x1,x2,x3,x4,x5⟩:=X6.out.cells
                have fz:=Row6.free KZ6.out
                have fy:=Row6.free KR6.out
                rcases HQ.out with ⟨rfl,hfx,hbx⟩ | ⟨rfl,hno⟩
                · have HFX:Hid (Bn.fit x):=hfx
                  have HBX:Hid (S.data.toList=Bn.bytes x++r.data.toList):=hbx
                  obtain ⟨cs,hown,hel⟩:=K6.out.parts
                  rw [HLE.out] at hown
                  have HOWN:Hid (w6.ownsRow (w.heap.size+2) 32 6 (.slice la j lc) j cs):=hown
                  have HEL:Hid (EL w6 (fun g=>w.heap.size+2≤g∧some g≠(Value.slice la j lc).ownBlock∧g<w6.heap.size) l cs):=hel
                  have HR6:Hid (RepA w6 (fun g=>w.heap.size+2≤g∧some g≠(Value.slice la j lc).ownBlock∧g<w6.heap.size) x (.agg #[.int .u8 (zk:Int),.bool zb,.int .i64 zn,.string zs,.slice za zl zc,.slice ta tl tc])):=by
                    obtain ⟨cs0,hown0,-⟩:=KK.out.parts
                    have a1:=KK.out.row.1
                    have a2:=B6.out.size
                    refine repA_stays (fun g hg=>B6.out.block g hg.2) (fun g hg=>⟨by omega,fun e=>?_,by omega⟩) x _ (HX.out rfl)
                    have:=(hown0.lt g e.symm).2
                    omega
                  have fit63:Hid (j+1≤maxLen):=by show _≤_;unfold maxLen;omega
                  have fit47:Hid ((j+1)*80≤140737488355328):=by show _≤_;omega
                  have HGL:Hid (w.heap.size+2≤w6.heap.size):=K6.out.row.1
                  obtain ⟨i0,hi,hz0,hz1,hz2⟩:=info_parts info26'
                  clear hown hel hfx hbx KK
                  go_wp2_with (first | (at_builtin;refine wpList_append_lies _ rfl _ _ 29 rfl (w.heap.size+2) 32 i0 _ 6 80 Tryz.underlying29 hi hz0 hz1 hz2 rfl (by decide) (.slice la j lc) j cs (by rfl) (HOWN.out.alloc _) ⟨w6.heap.size,0,none⟩ 1 1 [.int .u8 (zk:Int),.bool zb,.int .i64 zn,.string zs,.slice za zl zc,.slice ta tl tc] (by rfl) (by rfl) (World.news_of_block (heap_alloc_new w6 _)) (by simp [Value.oneCell']) (by omega) fit63.out fit47.out (by have:=HGL.out;simp;omega) (w6.heap.size+1) (by simp) ?_))
                  intro gg cap w7 hown7 hgrow hat hglt
                  have N7:=KS.next K6.out HLE.out.symm HOWN.out HEL.out HR6.out (below_new _ _) hgrow hown7 (by simpa using hat)
                  have K7:Hid _:=N7.2
                  have KR7:Hid (Row6 w7 (R+1) (.int .u8 5) (.bool false) (.int .i64 0) (.string ⟨#[]⟩) (.slice la j lc) (.slice none 0 0)):=by show Row6 _ _ _ _ _ _ _ _;rw [HR.out];exact N7.1
                  have fy7:=Row6.free KR7.out
                  obtain ⟨t0,t1,t2,t3,t4,t5⟩:=KR7.out.cells
                  clear N7 hown7 hgrow hat hglt p0 p1 p2 p3 p4 p5 q0 q1 q2 q3 q4 q5 x0 x1 x2 x3 x4 x5 fz fy
                  go_wp2
                  go_roundw
                  case rel =>
                    rw [HR.out]
                    exact ⟨j+1,r,_,_,by omega,by go_num,rfl,by rw [List.length_append,HLE.out];rfl,Bn.fitL_snoc l x HFI.out HFX.out,by rw [HBS.out,HBX.out,Bn.bytesL_snoc];simp,K7.out⟩
                  case measure=>simp [intOf];omega
                · have HP:Hid (PQ d s ⟨0,false,0,⟨#[]⟩,[],[]⟩ ⟨#[]⟩ false):=Or.inr ⟨rfl,HNO.out l S HFI.out (by rw [HLE.out];exact hlt) HBS.out (fun m hm=>Bn.noLD_now hno hm)⟩
                  clear hno
                  go_wp2
                  have F:=gave47 (w0:=w) (W:=w6) (zk:=5) (zb:=false) (zn:=0) (zs:=⟨#[]⟩) (za:=la) (zl:=j) (zc:=lc) (ta:=none) (tl:=0) (tc:=0) K6.out.below K6.out.res (fun h=>by cases h) HP.out
                  rw [←HR.out] at F
                  rw [sets6]
                  exact bodyPost_ret (v:=.tuple #[.agg #[.int .u8 5,.bool false,.int .i64 0,.string ⟨#[]⟩,.slice la j lc,.slice none 0 0],.string ⟨#[]⟩,.bool false]) ((results_row_tmp2 (fn:=Tryz.f96) (p:=4) (u1:=5) (u2:=6) (ty:=32) (by rfl) _ _ R 32 _ (0,0) _ (by rfl) F.1 Tryz.underlying32 rfl infoVal).trans (by rfl)) rfl (by rw [HK.out];exact F.2)
              · obtain rfl:j=n:=by omega
                have HP:Hid (PQ d s ⟨5,false,0,⟨#[]⟩,l,[]⟩ S true):=PQ.good (PV.list HSB.out HBN.out.symm (Or.inl ⟨rfl,HFI.out,by rw [HLE.out];omega,by rw [HS2.out,HBS.out,HLE.out]⟩)) rfl
                obtain ⟨ao,lc',-,hr⟩:=KK.out.rep (by rw [HLE.out];omega)
                have HRR:Hid (RepA wr (fun g=>w.heap.size<g∧g<wr.heap.size) ⟨5,false,0,⟨#[]⟩,l,[]⟩ (.agg #[.int .u8 5,.bool false,.int .i64 0,.string ⟨#[]⟩,.slice la j lc,.slice none 0 0])):=hr
                clear hr
                have KR:Hid (Row6 wr (R+1) (.int .u8 5) (.bool false) (.int .i64 0) (.string ⟨#[]⟩) (.slice la j lc) (.slice none 0 0)):=by show Row6 _ _ _ _ _ _ _ _;rw [HR.out];exact KK.out.row
                have KZ:Hid (Z6 wr R):=by show Z6 _ _;rw [HR.out];exact KK.out.res
                obtain ⟨p0,p1,p2,p3,p4,p5⟩:=KR.out.cells
                obtain ⟨q0,q1,q2,q3,q4,q5⟩:=Row6.cells KZ.out
                have fz:=Row6.free KZ.out
                go_wp2
                have F:=gave47 (w0:=w) (W:=wr) (zk:=5) (zb:=false) (zn:=0) (zs:=⟨#[]⟩) (za:=la) (zl:=j) (zc:=lc) (ta:=none) (tl:=0) (tc:=0) KK.out.below KK.out.res (fun _=>HRR.out) HP.out
                rw [←HR.out] at F
                rw [sets6]
                exact bodyPost_ret (v:=.tuple #[.agg #[.int .u8 5,.bool false,.int .i64 0,.string ⟨#[]⟩,.slice la j lc,.slice none 0 0],.string S,.bool true]) ((results_row_tmp2 (fn:=Tryz.f96) (p:=4) (u1:=5) (u2:=6) (ty:=32) (by rfl) _ _ R 32 _ (0,0) _ (by rfl) F.1 Tryz.underlying32 rfl infoVal).trans (by rfl)) rfl (by rw [HK.out];exact F.2)
        · have HP:Hid (PQ d s ⟨0,false,0,⟨#[]⟩,[],[]⟩ ⟨#[]⟩ false):=Or.inr ⟨rfl,by rw [HSB.out,show b=6 from UInt8.toNat_inj.1 HBN.out.symm];exact Bn.noD_of (Bn.noV_list_num hno)⟩
          have D24:Hid (∀W,Calls Tryz.prog 133 #[.string s1] W fun e w'=>e=.returned (.tuple #[.int .u64 0,.int .i64 0,.int .i64 11])∧Below W.heap.size W w'):=fun W=>num24_bad hno W
          clear hno q0 q1 q2 q3 q4 q5 p0 p1 p2 p3 p4 p5 fz fy
          go_wp2_with (first
            | (go_at_call 133;refine (D24.out _).mono ?_;rintro e w3 ⟨rfl,k1⟩
               have B3:Hid (Below w.heap.size w w3):=B2.out.trans (k1.mono B2.out.size)
               have Z3:Hid (Z6 w3 R):=Z2.out.call k1
               have Y3:Hid (Z6 w3 (R+1)):=Y2.out.call k1
               obtain ⟨q0,q1,q2,q3,q4,q5⟩:=Row6.cells Z3.out
               obtain ⟨p0,p1,p2,p3,p4,p5⟩:=Row6.cells Y3.out
               have fz:=Row6.free Z3.out
               have fy:=Row6.free Y3.out
               clear k1))
          have F:=gave47 (w0:=w) (W:=w3) (zk:=0) (zb:=false) (zn:=0) (zs:=⟨#[]⟩) (za:=none) (zl:=0) (zc:=0) (ta:=none) (tl:=0) (tc:=0) B3.out (by rw [←HR.out];exact Z3.out) (fun h=>by cases h) HP.out
          rw [←HR.out] at F
          rw [sets6]
          exact bodyPost_ret (v:=.tuple #[.agg #[.int .u8 0,.bool false,.int .i64 0,.string ⟨#[]⟩,.slice none 0 0,.slice none 0 0],.string ⟨#[]⟩,.bool false]) ((results_row_tmp2 (fn:=Tryz.f96) (p:=4) (u1:=5) (u2:=6) (ty:=32) (by rfl) _ _ R 32 _ (0,0) _ (by rfl) F.1 Tryz.underlying32 rfl infoVal).trans (by rfl)) rfl (by rw [HK.out];exact F.2)
      · rcases num_split s1 with ⟨n,k,s2,hn,hs2,hk,hks,hse⟩ | hno
        · have D24:Hid (∀W,Calls Tryz.prog 133 #[.string s1] W fun e w'=>e=.returned (.tuple #[.int .u64 (n:Int),.int .i64 (k:Int),.int .i64 0])∧Below W.heap.size W w'):=fun W=>num24_good hn hs2 hk W
          have SL:∀wx,(Instr.slice 9 (.string s1) (some (.int .i64 (k:Int))) none none).run Tryz.prog wx=.ok (.string s2) wx:=fun wx=>by
            rw [run_slice_string_from_if (P:=Tryz.prog) wx 9 s1 .i64 (k:Int) Tryz.underlying9,if_pos ⟨by omega,by omega⟩,hse];rfl
          have HS2:Hid (s1.data.toList=Bn.num n++s2.data.toList):=hs2
          have HSS:Hid (s2.size≤s1.size):=by show _≤_;rw [Lib.size_eq,Lib.size_eq,hs2,List.length_append];omega
          clear hn hs2 hk hks hse q0 q1 q2 q3 q4 q5 p0 p1 p2 p3 p4 p5 fz fy
          by_cases hbig:64<n
          · have HP:Hid (PQ d s ⟨0,false,0,⟨#[]⟩,[],[]⟩ ⟨#[]⟩ false):=Or.inr ⟨rfl,by rw [HSB.out,show b=7 from UInt8.toNat_inj.1 HBN.out.symm,HS2.out];exact Bn.noD_of (Bn.noV_struct (fun h=>absurd h (by omega)))⟩
            have hbig':(64:Int)<(n:Int):=by omega
            go_wp2_with (first
            | (go_at_call 133;refine (D24.out _).mono ?_;rintro e w3 ⟨rfl,k1⟩
               have B3:Hid (Below w.heap.size w w3):=B2.out.trans (k1.mono B2.out.size)
               have Z3:Hid (Z6 w3 R):=Z2.out.call k1
               have Y3:Hid (Z6 w3 (R+1)):=Y2.out.call k1
               obtain ⟨q0,q1,q2,q3,q4,q5⟩:=Row6.cells Z3.out
               obtain ⟨p0,p1,p2,p3,p4,p5⟩:=Row6.cells Y3.out
               have fz:=Row6.free Z3.out
               have fy:=Row6.free Y3.out
               clear k1))
            have F:=gave47 (w0:=w) (W:=w3) (zk:=0) (zb:=false) (zn:=0) (zs:=⟨#[]⟩) (za:=none) (zl:=0) (zc:=0) (ta:=none) (tl:=0) (tc:=0) B3.out (by rw [←HR.out];exact Z3.out) (fun h=>by cases h) HP.out
            rw [←HR.out] at F
            rw [sets6]
            exact bodyPost_ret (v:=.tuple #[.agg #[.int .u8 0,.bool false,.int .i64 0,.string ⟨#[]⟩,.slice none 0 0,.slice none 0 0],.string ⟨#[]⟩,.bool false]) ((results_row_tmp2 (fn:=Tryz.f96) (p:=4) (u1:=5) (u2:=6) (ty:=32) (by rfl) _ _ R 32 _ (0,0) _ (by rfl) F.1 Tryz.underlying32 rfl infoVal).trans (by rfl)) rfl (by rw [HK.out];exact F.2)
          · have hbig':¬(64:Int)<(n:Int):=by omega
            have HNO:Hid (∀(l:List (ByteArray × V)) (S:ByteArray),Bn.fitF l→l.length<n→s2.data.toList=Bn.bytesF l++S.data.toList→(∀m,1≤m→Bn.noFD m d S.data.toList)→Bn.noD d s.data.toList):=fun l S hl hlt he hno=>by
              rw [HSB.out,show b=7 from UInt8.toNat_inj.1 HBN.out.symm,HS2.out]
              refine Bn.noD_struct ?_
              rw [he,show n=l.length+(n - l.length) by omega]
              exact Bn.noFD_app l _ d _ hl (hno _ (by omega))
            go_upto_region 28 with (first
            | (go_at_call 133;refine (D24.out _).mono ?_;rintro e w3 ⟨rfl,k1⟩
               have B3:Hid (Below w.heap.size w w3):=B2.out.trans (k1.mono B2.out.size)
               have Z3:Hid (Z6 w3 R):=Z2.out.call k1
               have Y3:Hid (Z6 w3 (R+1)):=Y2.out.call k1
               obtain ⟨q0,q1,q2,q3,q4,q5⟩:=Row6.cells Z3.out
               obtain ⟨p0,p1,p2,p3,p4,p5⟩:=Row6.cells Y3.out
               have fz:=Row6.free Z3.out
               have fy:=Row6.free Y3.out
               clear k1))
            obtain ⟨w4,hw4⟩:∃w4,w4=(w3.setCell ⟨R+1,0,none⟩ (.int .u8 5)).setCell ⟨R+1,0,none⟩ (.int .u8 6):=⟨_,rfl⟩
            have K4:Hid (KF w w4 (.slice none 0 0) []):=by show KF _ _ _ _;rw [hw4,HR.out];exact KF.start B3.out (by rw [←HR.out];exact Z3.out) (by rw [←HR.out];exact Y3.out)
            rw [←hw4]
            clear hw4 q0 q1 q2 q3 q4 q5 p0 p1 p2 p3 p4 p5 fz fy SL D24
            go_wp2
            go_loopw [0,18] (fun sv i wr=>∃(j:Nat) (S:ByteArray) (lv:Value) (l:List (ByteArray × V)),j≤n∧i=.int .u64 j∧sv=.string S∧l.length=j∧Bn.fitF l∧s2.data.toList=Bn.bytesF l++S.data.toList∧KF w wr lv l) (fun _ i _=>n - (intOf i).toNat)
            case atStart=>exact ⟨0,s2,_,[],Nat.zero_le _,rfl,rfl,rfl,by rw [Bn.fitF];trivial,by rw [Bn.bytesF];rfl,K4.out⟩
            case round =>
              obtain ⟨j,S0,lv,l,hj,rfl,rfl,hlen,hfit,hS,hK4⟩:=hrel
              obtain ⟨la,lc,rfl⟩:=hK4.form
              rw [hlen] at hK4
              have KK:Hid (KF w wr (.slice la j lc) l):=hK4
              have HLE:Hid (l.length=j):=hlen
              have HFI:Hid (Bn.fitF l):=hfit
              have HBS:Hid (s2.data.toList=Bn.bytesF l++S0.data.toList):=hS
              have HSZ:Hid (S0.size≤s1.size):=by
                show _≤_
                have h1:=congrArg List.length hS
                rw [List.length_append,←Lib.size_eq,←Lib.size_eq] at h1
                have:=HSS.out
                omega
              clear hK4 hlen hfit hS K4
              by_cases hlt:j<n
              · have hlt':(j:Int)<(n:Int):=by omega
                have HS0:Hid (S0.size≤65536):=by have:=HSZ.out;have:=HS1.out;show _≤_;omega
                go_upto_region 34 with (first
                  | (go_at_call 135;refine (bytes88 S0 HS0.out _).mono ?_;rintro e wa ⟨k1,m,S,ok0,rfl,k2,k3⟩
                     have Ka:Hid (KF w wa (.slice la j lc) l):=KK.out.call k1
                     have HMS:Hid (m.size≤65536):=k2
                     have H88:Hid ((ok0=true∧S0.data.toList=Bn.text m++S.data.toList)∨(ok0=false∧Bn.noText S0.data.toList)):=k3
                     clear k1 k2 k3))
                rcases H88.out with ⟨rfl,h8⟩ | ⟨rfl,h8⟩
                · have HBM:Hid (S0.data.toList=Bn.text m++S.data.toList):=h8
                  have HSY:Hid (S.size≤s1.size):=by
                    show _≤_
                    have h1:=congrArg List.length h8
                    rw [List.length_append,←Lib.size_eq,←Lib.size_eq] at h1
                    have:=HSZ.out
                    omega
                  have HMM:Hid (m.size≤maxLen):=by have:=HMS.out;show _≤_;unfold maxLen;omega
                  clear h8
                  have KR:Hid (Row6 wa (R+1) (.int .u8 6) (.bool false) (.int .i64 0) (.string ⟨#[]⟩) (.slice none 0 0) (.slice la j lc)):=by show Row6 _ _ _ _ _ _ _ _;rw [HR.out];exact Ka.out.row
                  obtain ⟨p0,p1,p2,p3,p4,p5⟩:=KR.out.cells
                  go_upto_region 37 with (first
                    | (go_at_call 96;refine (D47.out S _ HSY.out).mono ?_;rintro e w5 ⟨k1,x,zk,zb,zn,zs,za,zl,zc,ta,tl,tc,r,ok,rfl,k2,k3⟩
                       have K5:Hid (KF w w5 (.slice la j lc) l):=Ka.out.call k1
                       have B5:Hid (Below wa.heap.size wa w5):=k1
                       have HX:Hid (ok=true→RepA w5 (fun g=>wa.heap.size≤g∧g<w5.heap.size) x (.agg #[.int .u8 (zk:Int),.bool zb,.int .i64 zn,.string zs,.slice za zl zc,.slice ta tl tc])):=k2
                       have HQ:Hid (PQ (d+1) S x r ok):=k3
                       clear k1 k2 k3))
                  obtain ⟨w6,hw6⟩:∃w6,w6=w5.alloc (.cells #[.int .u8 (zk:Int),.bool zb,.int .i64 zn,.string zs,.slice za zl zc,.slice ta tl tc] 32):=⟨_,rfl⟩
                  obtain ⟨D,hD⟩:∃D,D=w5.heap.size:=⟨_,rfl⟩
                  have hb6:Below w5.heap.size w5 w6:=by rw [hw6];exact below_new _ _
                  have B6:Hid (Below w5.heap.size w5 w6):=hb6
                  have K6:Hid (KF w w6 (.slice la j lc) l):=K5.out.call hb6
                  have X6:Hid (Row6 w6 D (.int .u8 (zk:Int)) (.bool zb) (.int .i64 zn) (.string zs) (.slice za zl zc) (.slice ta tl tc)):=by show Row6 _ _ _ _ _ _ _ _;rw [hw6,hD];exact ⟨by simp,heap_alloc_new w5 _⟩
                  have KR6:Hid (Row6 w6 (R+1) (.int .u8 6) (.bool false) (.int .i64 0) (.string ⟨#[]⟩) (.slice none 0 0) (.slice la j lc)):=by show Row6 _ _ _ _ _ _ _ _;rw [HR.out];exact K6.out.row
                  have KZ6:Hid (Z6 w6 R):=by show Z6 _ _;rw [HR.out];exact K6.out.res
                  rw [←hw6,←hD]
                  clear hw6 hD hb6 p0 p1 p2 p3 p4 p5
                  obtain ⟨p0,p1,p2,p3,p4,p5⟩:=KR6.out.cells
                  obtain ⟨q0,q1,q2,q3,q4,q5⟩:=Row6.cells KZ6.out
                  obtain ⟨x0,x1,x2,x3,x4,x5⟩:=X6.out.cells
                  have fz:=Row6.free KZ6.out
                  have fy:=Row6.free KR6.out
                  rcases HQ.out with ⟨rfl,hfx,hbx⟩ | ⟨rfl,hno⟩
                  · have HFX:Hid (Bn.fit x):=hfx
                    have HBX:Hid (S.data.toList=Bn.bytes x++r.data.toList):=hbx
                    obtain ⟨cs,hown,hel⟩:=K6.out.parts
                    rw [HLE.out] at hown
                    have HOWN:Hid (w6.ownsRow (w.heap.size+2) 147 7 (.slice la j lc) j cs):=hown
                    have HEL:Hid (EF w6 (fun g=>w.heap.size+2≤g∧some g≠(Value.slice la j lc).ownBlock∧g<w6.heap.size) l cs):=hel
                    have HR6:Hid (RepA w6 (fun g=>w.heap.size+2≤g∧some g≠(Value.slice la j lc).ownBlock∧g<w6.heap.size) x (.agg #[.int .u8 (zk:Int),.bool zb,.int .i64 zn,.string zs,.slice za zl zc,.slice ta tl tc])):=by
                      obtain ⟨cs0,hown0,-⟩:=Ka.out.parts
                      have a1:=Ka.out.row.1
                      have a2:=B6.out.size
                      refine repA_stays (fun g hg=>B6.out.block g hg.2) (fun g hg=>⟨by omega,fun e=>?_,by omega⟩) x _ (HX.out rfl)
                      have:=(hown0.lt g e.symm).2
                      omega
                    have fit63:Hid (j+1≤maxLen):=by show _≤_;unfold maxLen;omega
                    have fit47:Hid ((j+1)*96≤140737488355328):=by show _≤_;omega
                    have HGL:Hid (w.heap.size+2≤w6.heap.size):=K6.out.row.1
                    obtain ⟨i0,hi,hz0,hz1,hz2⟩:=info_parts info44'
                    clear hown hel hfx hbx Ka
                    go_wp2_with (first | (at_builtin;refine wpList_append_lies _ rfl _ _ 30 rfl (w.heap.size+2) 147 i0 _ 7 96 Tryz.underlying30 hi hz0 hz1 hz2 rfl (by decide) (.slice la j lc) j cs (by rfl) (HOWN.out.alloc _) ⟨w6.heap.size,0,none⟩ 1 1 [.string m,.int .u8 (zk:Int),.bool zb,.int .i64 zn,.string zs,.slice za zl zc,.slice ta tl tc] (by rfl) (by rfl) (World.news_of_block (heap_alloc_new w6 _)) (by simp [Value.oneCell']) (by omega) fit63.out fit47.out (by have:=HGL.out;simp;omega) (w6.heap.size+1) (by simp) ?_))
                    intro gg cap w7 hown7 hgrow hat hglt
                    have N7:=KF.next HMM.out K6.out HLE.out.symm HOWN.out HEL.out HR6.out (below_new _ _) hgrow hown7 (by simpa using hat)
                    have K7:Hid _:=N7.2
                    have KR7:Hid (Row6 w7 (R+1) (.int .u8 6) (.bool false) (.int .i64 0) (.string ⟨#[]⟩) (.slice none 0 0) (.slice la j lc)):=by show Row6 _ _ _ _ _ _ _ _;rw [HR.out];exact N7.1
                    have fy7:=Row6.free KR7.out
                    obtain ⟨t0,t1,t2,t3,t4,t5⟩:=KR7.out.cells
                    clear N7 hown7 hgrow hat hglt p0 p1 p2 p3 p4 p5 q0 q1 q2 q3 q4 q5 x0 x1 x2 x3 x4 x5 fz fy
                    go_wp2
                    go_roundw
                    case rel =>
                      rw [HR.out]
                      exact ⟨j+1,r,_,_,by omega,by go_num,rfl,by rw [List.length_append,HLE.out];rfl,Bn.fitF_snoc l m x HFI.out HMS.out HFX.out,by rw [HBS.out,HBM.out,HBX.out,Bn.bytesF_snoc];simp,K7.out⟩
                    case measure=>simp [intOf];omega
                  · have HP:Hid (PQ d s ⟨0,false,0,⟨#[]⟩,[],[]⟩ ⟨#[]⟩ false):=Or.inr ⟨rfl,HNO.out l S0 HFI.out (by rw [HLE.out];exact hlt) HBS.out (fun m1 hm=>by rw [HBM.out];exact Bn.noFD_val hno hm)⟩
                    clear hno
                    go_wp2
                    have F:=gave47 (w0:=w) (W:=w6) (zk:=6) (zb:=false) (zn:=0) (zs:=⟨#[]⟩) (za:=none) (zl:=0) (zc:=0) (ta:=la) (tl:=j) (tc:=lc) K6.out.below K6.out.res (fun h=>by cases h) HP.out
                    rw [←HR.out] at F
                    rw [sets6]
                    exact bodyPost_ret (v:=.tuple #[.agg #[.int .u8 6,.bool false,.int .i64 0,.string ⟨#[]⟩,.slice none 0 0,.slice la j lc],.string ⟨#[]⟩,.bool false]) ((results_row_tmp2 (fn:=Tryz.f96) (p:=4) (u1:=5) (u2:=6) (ty:=32) (by rfl) _ _ R 32 _ (0,0) _ (by rfl) F.1 Tryz.underlying32 rfl infoVal).trans (by rfl)) rfl (by rw [HK.out];exact F.2)
                · have HP:Hid (PQ d s ⟨0,false,0,⟨#[]⟩,[],[]⟩ ⟨#[]⟩ false):=Or.inr ⟨rfl,HNO.out l S0 HFI.out (by rw [HLE.out];exact hlt) HBS.out (fun m1 hm=>Bn.noFD_now h8 hm)⟩
                  clear h8
                  have KR:Hid (Row6 wa (R+1) (.int .u8 6) (.bool false) (.int .i64 0) (.string ⟨#[]⟩) (.slice none 0 0) (.slice la j lc)):=by show Row6 _ _ _ _ _ _ _ _;rw [HR.out];exact Ka.out.row
                  have KZ:Hid (Z6 wa R):=by show Z6 _ _;rw [HR.out];exact Ka.out.res
                  obtain ⟨p0,p1,p2,p3,p4,p5⟩:=KR.out.cells
                  obtain ⟨q0,q1,q2,q3,q4,q5⟩:=Row6.cells KZ.out
                  have fz:=Row6.free KZ.out
                  go_wp2
                  have F:=gave47 (w0:=w) (W:=wa) (zk:=6) (zb:=false) (zn:=0) (zs:=⟨#[]⟩) (za:=none) (zl:=0) (zc:=0) (ta:=la) (tl:=j) (tc:=lc) Ka.out.below Ka.out.res (fun h=>by cases h) HP.out
                  rw [←HR.out] at F
                  rw [sets6]
                  exact bodyPost_ret (v:=.tuple #[.agg #[.int .u8 6,.bool false,.int .i64 0,.string ⟨#[]⟩,.slice none 0 0,.slice la j lc],.string ⟨#[]⟩,.bool false]) ((results_row_tmp2 (fn:=Tryz.f96) (p:=4) (u1:=5) (u2:=6) (ty:=32) (by rfl) _ _ R 32 _ (0,0) _ (by rfl) F.1 Tryz.underlying32 rfl infoVal).trans (by rfl)) rfl (by rw [HK.out];exact F.2)
              · obtain rfl:j=n:=by omega
                have HP:Hid (PQ d s ⟨6,false,0,⟨#[]⟩,[],l⟩ S0 true):=PQ.good (PV.struct HSB.out HBN.out.symm (Or.inl ⟨rfl,HFI.out,by rw [HLE.out];omega,by rw [HS2.out,HBS.out,HLE.out]⟩)) rfl
                obtain ⟨ao,lc',-,hr⟩:=KK.out.rep (by rw [HLE.out];omega)
                have HRR:Hid (RepA wr (fun g=>w.heap.size<g∧g<wr.heap.size) ⟨6,false,0,⟨#[]⟩,[],l⟩ (.agg #[.int .u8 6,.bool false,.int .i64 0,.string ⟨#[]⟩,.slice none 0 0,.slice la j lc])):=hr
                clear hr
                have KR:Hid (Row6 wr (R+1) (.int .u8 6) (.bool false) (.int .i64 0) (.string ⟨#[]⟩) (.slice none 0 0) (.slice la j lc)):=by show Row6 _ _ _ _ _ _ _ _;rw [HR.out];exact KK.out.row
                have KZ:Hid (Z6 wr R):=by show Z6 _ _;rw [HR.out];exact KK.out.res
                obtain ⟨p0,p1,p2,p3,p4,p5⟩:=KR.out.cells
                obtain ⟨q0,q1,q2,q3,q4,q5⟩:=Row6.cells KZ.out
                have fz:=Row6.free KZ.out
                go_wp2
                have F:=gave47 (w0:=w) (W:=wr) (zk:=6) (zb:=false) (zn:=0) (zs:=⟨#[]⟩) (za:=none) (zl:=0) (zc:=0) (ta:=la) (tl:=j) (tc:=lc) KK.out.below KK.out.res (fun _=>HRR.out) HP.out
                rw [←HR.out] at F
                rw [sets6]
                exact bodyPost_ret (v:=.tuple #[.agg #[.int .u8 6,.bool false,.int .i64 0,.string ⟨#[]⟩,.slice none 0 0,.slice la j lc],.string S0,.bool true]) ((results_row_tmp2 (fn:=Tryz.f96) (p:=4) (u1:=5) (u2:=6) (ty:=32) (by rfl) _ _ R 32 _ (0,0) _ (by rfl) F.1 Tryz.underlying32 rfl infoVal).trans (by rfl)) rfl (by rw [HK.out];exact F.2)
        · have HP:Hid (PQ d s ⟨0,false,0,⟨#[]⟩,[],[]⟩ ⟨#[]⟩ false):=Or.inr ⟨rfl,by rw [HSB.out,show b=7 from UInt8.toNat_inj.1 HBN.out.symm];exact Bn.noD_of (Bn.noV_struct_num hno)⟩
          have D24:Hid (∀W,Calls Tryz.prog 133 #[.string s1] W fun e w'=>e=.returned (.tuple #[.int .u64 0,.int .i64 0,.int .i64 11])∧Below W.heap.size W w'):=fun W=>num24_bad hno W
          clear hno q0 q1 q2 q3 q4 q5 p0 p1 p2 p3 p4 p5 fz fy
          go_wp2_with (first
            | (go_at_call 133;refine (D24.out _).mono ?_;rintro e w3 ⟨rfl,k1⟩
               have B3:Hid (Below w.heap.size w w3):=B2.out.trans (k1.mono B2.out.size)
               have Z3:Hid (Z6 w3 R):=Z2.out.call k1
               have Y3:Hid (Z6 w3 (R+1)):=Y2.out.call k1
               obtain ⟨q0,q1,q2,q3,q4,q5⟩:=Row6.cells Z3.out
               obtain ⟨p0,p1,p2,p3,p4,p5⟩:=Row6.cells Y3.out
               have fz:=Row6.free Z3.out
               have fy:=Row6.free Y3.out
               clear k1))
          have F:=gave47 (w0:=w) (W:=w3) (zk:=0) (zb:=false) (zn:=0) (zs:=⟨#[]⟩) (za:=none) (zl:=0) (zc:=0) (ta:=none) (tl:=0) (tc:=0) B3.out (by rw [←HR.out];exact Z3.out) (fun h=>by cases h) HP.out
          rw [←HR.out] at F
          rw [sets6]
          exact bodyPost_ret (v:=.tuple #[.agg #[.int .u8 0,.bool false,.int .i64 0,.string ⟨#[]⟩,.slice none 0 0,.slice none 0 0],.string ⟨#[]⟩,.bool false]) ((results_row_tmp2 (fn:=Tryz.f96) (p:=4) (u1:=5) (u2:=6) (ty:=32) (by rfl) _ _ R 32 _ (0,0) _ (by rfl) F.1 Tryz.underlying32 rfl infoVal).trans (by rfl)) rfl (by rw [HK.out];exact F.2)
end Go.Proofs.YtggnfejjcgbebaaGreatDoor
/- The document's Read, walked. -/
namespace Go.Proofs.YtggnfejjcgbebaaGreatDoor
open Go.RowKit
open Vl (V)
theorem value47:∀(N:Nat) (s:ByteArray) (d:Nat),s.size≤N→s.size≤65536→d≤11→∀w:World,Calls Tryz.prog 96 #[.string s,.int .i64 (d:Int)] w (Gave47 s d w)
  | 0,s,d,h0,hs,hd,w=>value47_one s d hs hd w (fun s1 W h1 _=>by omega)
  | N+1,s,d,h0,hs,hd,w=>value47_one s d hs hd w (fun s1 W h1 h2=>value47 N s1 (d+1) (by omega) (by omega) (by omega) W)
set_option maxHeartbeats 8000000 in
set_option maxRecDepth 10000 in
theorem rread21 (s:ByteArray) (w:World):Calls Tryz.prog 60 #[.string s] w (ReadGave s w):=by
  obtain ⟨R,hR⟩:∃R,R=w.heap.size:=⟨_,rfl⟩
  obtain ⟨K,hK⟩:∃K,K=ReadGave s w:=⟨_,rfl⟩
  have HK:Hid (K=ReadGave s w):=hK
  rw [←hK]
  by_cases hlong:16384<s.size
  · have hli:(16384:Int)<(s.size:Int):=by omega
    have HNO:Hid (∀t,¬Bn.Is s t):=fun t h=>by have:=h.1;omega
    have HLE:Hid ((4:Int)=if 16384<s.size then 4 else 11):=by show _=_;rw [if_pos hlong]
    obtain ⟨w1,hw1⟩:∃w1,w1=w.alloc (.cells #[.int .u8 0,.bool false,.int .i64 0,.string ⟨#[]⟩,.slice none 0 0,.slice none 0 0] 32):=⟨_,rfl⟩
    have S1:Hid (RS w w1 (R+1)):=by
      show RS _ _ _
      rw [hw1,hR]
      exact ⟨below_new _ _,⟨by simp,heap_alloc_new w _⟩,rfl⟩
    clear hlong hK
    go_enter Tryz.func60,Tryz.ntmps60
    go_upto_region 1 with fail
    rw [←hw1,←hR]
    clear hw1
    have S1':=S1.out.res
    rw [←hR] at S1'
    obtain ⟨q0,q1,q2,q3,q4,q5⟩:=Row6.cells S1'
    have fz:=Row6.free S1'
    have HR:Hid (R=w.heap.size):=hR
    clear S1' hR
    go_wp2
    have F:=S1.out.no HNO.out HLE.out
    rw [←HR.out] at F
    rw [sets6]
    exact bodyPost_ret (v:=.tuple #[.agg #[.int .u8 0,.bool false,.int .i64 0,.string ⟨#[]⟩,.slice none 0 0,.slice none 0 0],.int .i64 4]) ((results_row_tmpV (fn:=Tryz.f60) (p:=2) (u:=3) (ty:=32) (by rfl) _ _ R 32 _ (0,0) _ (by rfl) F.1 Tryz.underlying32 rfl infoVal).trans (by rfl)) rfl (by rw [HK.out];exact F.2)
  · have hli:¬(16384:Int)<(s.size:Int):=by omega
    have HLE:Hid ((11:Int)=if 16384<s.size then 4 else 11):=by show _=_;rw [if_neg hlong]
    have HLS:Hid (s.size≤16384):=by show _≤_;omega
    obtain ⟨c,hc⟩:∃c,c=R+1:=⟨_,rfl⟩
    obtain ⟨w2,hw2⟩:∃w2,w2=w.alloc (.cells #[.int .u8 0,.bool false,.int .i64 0,.string ⟨#[]⟩,.slice none 0 0,.slice none 0 0] 32):=⟨_,rfl⟩
    have S2:Hid (RS w w2 c):=by
      show RS _ _ _
      rw [hw2,hc,hR]
      exact ⟨below_new _ _,⟨by simp,heap_alloc_new w _⟩,rfl⟩
    have C47:Hid (Calls Tryz.prog 96 #[.string s,.int .i64 0] w2 (Gave47 s 0 w2)):=value47 s.size s 0 (Nat.le_refl _) (by omega) (by omega) w2
    clear hlong hK
    go_enter Tryz.func60,Tryz.ntmps60
    go_upto_region 1 with fail
    rw [←hR,←hw2]
    have HR:Hid (R=w.heap.size):=hR
    have HC:Hid (c=R+1):=hc
    clear hw2 hR hc
    go_upto_region 4 with (first
      | (go_at_call 96;refine C47.out.mono ?_;rintro e w3 ⟨k3,x,zk,zb,zn,zs,za,zl,zc,ta,tl,tc,s',ok,rfl,h3,h5⟩
         have S3:Hid (RS w w3 c):=RS.call S2.out (Curw.of k3)
         have H3:Hid (ok=true→RepA w3 (fun g=>w2.heap.size≤g∧g<w3.heap.size) x (.agg #[.int .u8 (zk:Int),.bool zb,.int .i64 zn,.string zs,.slice za zl zc,.slice ta tl tc])):=h3
         have H5:Hid (PQ 0 s x s' ok):=h5
         clear k3 h3 h5))
    obtain ⟨v,hv⟩:∃v,v=w3.heap.size:=⟨_,rfl⟩
    obtain ⟨w4,hw4⟩:∃w4,w4=w3.alloc (.cells #[.int .u8 (zk:Int),.bool zb,.int .i64 zn,.string zs,.slice za zl zc,.slice ta tl tc] 32):=⟨_,rfl⟩
    have hb4:Below w3.heap.size w3 w4:=by rw [hw4];exact below_new _ _
    have S4:Hid (RS w w4 c):=S3.out.call (Curw.of hb4)
    have R4:Hid (Row6 w4 v (.int .u8 (zk:Int)) (.bool zb) (.int .i64 zn) (.string zs) (.slice za zl zc) (.slice ta tl tc)):=by
      show Row6 _ _ _ _ _ _ _ _
      rw [hw4,hv];exact ⟨by simp,heap_alloc_new w3 _⟩
    have HX:Hid (ok=true→RepA w4 (fun g=>w.heap.size<g∧g<w4.heap.size) x (.agg #[.int .u8 (zk:Int),.bool zb,.int .i64 zn,.string zs,.slice za zl zc,.slice ta tl tc])):=by
      intro hok
      have a1:=S2.out.below.size
      have a2:=S2.out.res.1
      have a3:=hb4.size
      exact repA_stays (fun g hg=>hb4.block g hg.2) (fun g hg=>⟨by omega,by omega⟩) x _ (H3.out hok)
    rw [←hv,←hw4]
    clear hw4 hv hb4 S3 H3 C47 S2
    have S4':=S4.out.res
    rw [←HR.out] at S4'
    obtain ⟨q0,q1,q2,q3,q4,q5⟩:=Row6.cells S4'
    have fz:=Row6.free S4'
    clear S4'
    obtain ⟨p0,p1,p2,p3,p4,p5⟩:=R4.out.cells
    cases ok with
    | false =>
      have HNO:Hid (∀t,¬Bn.Is s t):=fun t h=>by
        rcases H5.out with ⟨e,_⟩ | ⟨_,e⟩
        · cases e
        · exact e t [] h.2.1 (by have:=Bn.dep_right t 0 h.2.2.2 (by omega);omega) (by rw [List.append_nil];exact h.2.2.1)
      clear H5
      go_wp2
      have F:=S4.out.no HNO.out HLE.out
      rw [←HR.out] at F
      rw [sets6]
      exact bodyPost_ret (v:=.tuple #[.agg #[.int .u8 0,.bool false,.int .i64 0,.string ⟨#[]⟩,.slice none 0 0,.slice none 0 0],.int .i64 11]) ((results_row_tmpV (fn:=Tryz.f60) (p:=2) (u:=3) (ty:=32) (by rfl) _ _ R 32 _ (0,0) _ (by rfl) F.1 Tryz.underlying32 rfl infoVal).trans (by rfl)) rfl (by rw [HK.out];exact F.2)
    | true =>
      have hfit:Bn.fit x∧s.data.toList=Bn.bytes x++s'.data.toList:=by
        rcases H5.out with ⟨_,e⟩ | ⟨e,_⟩
        · exact e
        · cases e
      by_cases he:s'=⟨#[]⟩
      · subst he
        have HIS:Hid (∀t,Bn.Is s t→t=x):=fun t h=>by
          have e:Bn.bytes t++[]=Bn.bytes x++[]:=by rw [List.append_nil,←h.2.2.1];exact hfit.2
          exact (Bn.bytes_app t x [] [] h.2.1 hfit.1 e).1
        have HI:Hid (Vl.check Bn.u8 0 x=0→Bn.Is s x):=fun h=>⟨HLS.out,hfit.1,by rw [hfit.2];exact List.append_nil _,h⟩
        obtain ⟨k,hk⟩:∃k,k=Vl.check Bn.u8 0 x:=⟨_,rfl⟩
        have C44:Hid (Calls Tryz.prog 78 #[.agg #[.int .u8 (zk:Int),.bool zb,.int .i64 zn,.string zs,.slice za zl zc,.slice ta tl tc]] w4 fun e w'=>e=.returned (.int .i64 (k:Int))∧Below w4.heap.size w4 w'):=by
          rw [hk]
          exact rcheck19 x w4 w4.heap.size _ (Nat.le_refl _) (repA_rep (fun g hg=>hg.2) x _ (HX.out rfl))
        by_cases hk0:k=0
        · have HIX:Hid (Bn.Is s x):=HI.out (by rw [←hk];exact hk0)
          subst hk0
          clear hk H5 hfit HI HIS
          go_wp2_with (first
            | (go_at_call 78;refine C44.out.mono ?_;rintro e w5 ⟨rfl,hb5⟩
               have S5:Hid (RS w w5 c):=S4.out.call (Curw.of hb5)
               have HX5:Hid (RepA w5 (fun g=>w.heap.size<g∧g<w5.heap.size) x (.agg #[.int .u8 (zk:Int),.bool zb,.int .i64 zn,.string zs,.slice za zl zc,.slice ta tl tc])):=repA_stays (fun g hg=>hb5.block g hg.2) (fun g hg=>⟨hg.1,Nat.lt_of_lt_of_le hg.2 hb5.size⟩) x _ (HX.out rfl)
               obtain ⟨p0,p1,p2,p3,p4,p5⟩:=(R4.out.call hb5).cells
               have S5':=S5.out.res
               rw [←HR.out] at S5'
               obtain ⟨q0,q1,q2,q3,q4,q5⟩:=Row6.cells S5'
               have fz:=Row6.free S5'
               clear S5' hb5))
          have F:=S5.out.ok HIX.out HX5.out
          rw [←HR.out] at F
          rw [sets6]
          exact bodyPost_ret (v:=.tuple #[.agg #[.int .u8 (zk:Int),.bool zb,.int .i64 zn,.string zs,.slice za zl zc,.slice ta tl tc],.int .i64 0]) ((results_row_tmpV (fn:=Tryz.f60) (p:=2) (u:=3) (ty:=32) (by rfl) _ _ R 32 _ (0,0) _ (by rfl) F.1 Tryz.underlying32 rfl infoVal).trans (by rfl)) rfl (by rw [HK.out];exact F.2)
        · have HNO:Hid (∀t,¬Bn.Is s t):=fun t h=>by
            obtain rfl:=HIS.out t h
            exact hk0 (by rw [hk];exact h.2.2.2)
          have hk1:¬(k:Int)=0:=by omega
          clear hk H5 hfit HI HIS hk0
          go_wp2_with (first
            | (go_at_call 78;refine C44.out.mono ?_;rintro e w5 ⟨rfl,hb5⟩
               have S5:Hid (RS w w5 c):=S4.out.call (Curw.of hb5)
               have S5':=S5.out.res
               rw [←HR.out] at S5'
               obtain ⟨q0,q1,q2,q3,q4,q5⟩:=Row6.cells S5'
               have fz:=Row6.free S5'
               clear S5' hb5))
          have F:=S5.out.no HNO.out HLE.out
          rw [←HR.out] at F
          rw [sets6]
          exact bodyPost_ret (v:=.tuple #[.agg #[.int .u8 0,.bool false,.int .i64 0,.string ⟨#[]⟩,.slice none 0 0,.slice none 0 0],.int .i64 11]) ((results_row_tmpV (fn:=Tryz.f60) (p:=2) (u:=3) (ty:=32) (by rfl) _ _ R 32 _ (0,0) _ (by rfl) F.1 Tryz.underlying32 rfl infoVal).trans (by rfl)) rfl (by rw [HK.out];exact F.2)
      · have HNO:Hid (∀t,¬Bn.Is s t):=fun t h=>by
          have e:Bn.bytes t++[]=Bn.bytes x++s'.data.toList:=by rw [List.append_nil,←h.2.2.1];exact hfit.2
          exact he (Bn.data_ext ((Bn.bytes_app t x [] _ h.2.1 hfit.1 e).2.symm))
        have hne:=Bn.neq he
        have hne2:¬s'.toList=[]:=fun e=>he (Bn.data_ext (by rw [←Go.ByteArray.toList_eq,e]))
        have hne3:(s'.toList==[])=false:=by simpa using hne2
        have hne4:s'.toList.isEmpty=false:=by simpa using hne2
        clear H5 hfit
        go_wp2
        have F:=S4.out.no HNO.out HLE.out
        rw [←HR.out] at F
        rw [sets6]
        exact bodyPost_ret (v:=.tuple #[.agg #[.int .u8 0,.bool false,.int .i64 0,.string ⟨#[]⟩,.slice none 0 0,.slice none 0 0],.int .i64 11]) ((results_row_tmpV (fn:=Tryz.f60) (p:=2) (u:=3) (ty:=32) (by rfl) _ _ R 32 _ (0,0) _ (by rfl) F.1 Tryz.underlying32 rfl infoVal).trans (by rfl)) rfl (by rw [HK.out];exact F.2)
end Go.Proofs.YtggnfejjcgbebaaGreatDoor
