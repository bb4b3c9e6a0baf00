/- Several texts, joined: MkM, MkA, MkU, MkUc, MkB -/
import Derived.Test.YtggnfejjcgbebaaGreatDoorJGM
import Derived.BigQuiet
/- Plain lists: roots of texts, the turns to a text, paths, growths, and what they show. -/
namespace Go.Proofs.YtggnfejjcgbebaaGreatDoor
namespace Mk
abbrev Bs:=List UInt8
theorem sum_length (t:Bs):(Sh.sum t).length=32:=Sh.fin_length _ _ _
def half (n:Nat):Nat:=2 ^ Nat.log2 (n - 1)
theorem half_pos (n:Nat):1≤half n:=Nat.one_le_two_pow
theorem half_lt {n:Nat} (h:2≤n):half n<n:=by
  have:=Nat.log2_self_le (n:=n - 1) (by omega)
  unfold half;omega
theorem half_of {n j:Nat} (h1:2 ^ j<n) (h2:n≤2 ^ (j+1)):half n=2 ^ j:=by
  have hp:1≤2 ^ j:=Nat.one_le_two_pow
  have e:Nat.log2 (n - 1)=j:=(Nat.log2_eq_iff (by omega)).2 ⟨by omega,by omega⟩
  rw [half,e]
def leafT (s:Bs):Bs:=0 :: s
def leaf (s:Bs):Bs:=Sh.sum (leafT s)
def nodeT (a b:Bs):Bs:=1 :: (a++b)
def node (a b:Bs):Bs:=Sh.sum (nodeT a b)
theorem leaf_length (s:Bs):(leaf s).length=32:=sum_length _
theorem node_length (a b:Bs):(node a b).length=32:=sum_length _
def root (l:List Bs):Bs :=
  if _h:2≤l.length then node (root (l.take (half l.length))) (root (l.drop (half l.length)))
  else match l with
    | []=>Sh.sum []
    | s :: _=>leaf s
termination_by l.length
decreasing_by
  · have:=half_lt _h;rw [List.length_take];omega
  · have:=half_pos l.length;rw [List.length_drop];omega
theorem root_two {l:List Bs} (h:2≤l.length):root l=node (root (l.take (half l.length))) (root (l.drop (half l.length))):=by
  rw [root,dif_pos h]
theorem root_one (s:Bs):root [s]=leaf s:=by rw [root,dif_neg (by simp)]
theorem root_none:root []=Sh.sum []:=by rw [root,dif_neg (by simp)]
theorem root_length (l:List Bs):(root l).length=32:=by
  by_cases h:2≤l.length
  · rw [root_two h];exact node_length _ _
  · match l,h with
    | [],_=>rw [root_none];exact sum_length _
    | [s],_=>rw [root_one];exact leaf_length _
    | _ :: _ :: _,h=>simp at h
def tw (e:Nat→Nat→Bool) (m n:Nat):List Bool :=
  if _h:n≤1 then [] else if e m n then [] else if m≤half n then true :: tw e m (half n) else false :: tw e (m - half n) (n - half n)
termination_by n
decreasing_by
  · exact half_lt (by omega)
  · have:=half_pos n;omega
def e1 (_m n:Nat):Bool:=n==1
def e2 (m n:Nat):Bool:=m==n
def aside (l:List Bs):List Bool→List Bs
  | []=>[]
  | true :: w=>root (l.drop (half l.length)) :: aside (l.take (half l.length)) w
  | false :: w=>root (l.take (half l.length)) :: aside (l.drop (half l.length)) w
def path (l:List Bs) (i:Nat):List Bs:=(aside l (tw e1 (i+1) l.length)).reverse
def jt (d p:Bs) (left:Bool):Bs:=if left then nodeT d p else nodeT p d
def joined (d p:Bs) (left:Bool):Bs:=Sh.sum (jt d p left)
def climb (d:Bs):List Bool→List Bs→Bs
  | b :: bs,p :: ps=>climb (joined d p b) bs ps
  | _,_=>d
def shows (r s:Bs) (i n:Nat) (p:List Bs):Bool :=
  decide (i<n) && decide (n≤1024) && decide (p.length=(tw e1 (i+1) n).length) && p.all (fun x=>x.length==32) && climb (leaf s) (tw e1 (i+1) n).reverse p==r
def was (d:Bs):List Bool→List Bs→Bs
  | b :: bs,p :: ps=>was (if b then d else node p d) bs ps
  | _,_=>d
end Mk
end Go.Proofs.YtggnfejjcgbebaaGreatDoor
/- The program's leaves and nodes: a text and its digest. -/
namespace Go.Proofs.YtggnfejjcgbebaaGreatDoor
open Go.RowKit
abbrev bs (l:List UInt8):ByteArray:=⟨l.toArray⟩
theorem bs_data (s:ByteArray):bs s.data.toList=s:=by cases s;simp [bs]
theorem data_bs (l:List UInt8):(bs l).data.toList=l:=rfl
theorem bs_size (l:List UInt8):(bs l).size=l.length:=by rw [Lib.size_eq]
theorem size_bytes (s:ByteArray):s.data.toList.length=s.size:=(Lib.size_eq s).symm
def Bx2 (w:World) (B t:Nat) (x0 x1:Value) (W:World):Prop:=W.heap[B]?=some (.cells #[x0,x1] t (0,0))∧B<W.heap.size∧w.heap.size≤B∧Below w.heap.size w W
theorem Bx2.start (w:World) (t:Nat) (x0 x1:Value):Bx2 w w.heap.size t x0 x1 (w.alloc (.cells #[x0,x1] t)):=⟨heap_alloc_new w _,by simp,Nat.le_refl _,(Below.refl _ _).alloc (Nat.le_refl _) _⟩
theorem Bx2.call {w W W':World} {B t:Nat} {x0 x1:Value} (h:Bx2 w B t x0 x1 W) (hb:Below W.heap.size W W'):Bx2 w B t x0 x1 W' :=
  ⟨(hb.block _ h.2.1).trans h.1,Nat.lt_of_lt_of_le h.2.1 hb.size,h.2.2.1,h.2.2.2.trans (hb.mono (by have:=h.2.1;have:=h.2.2.1;omega))⟩
theorem Bx2.cells {w W:World} {B t:Nat} {x0 x1:Value} (h:Bx2 w B t x0 x1 W):W.cell? ⟨B,0,none⟩=some x0∧W.cell? ⟨B,1,none⟩=some x1:=by
  refine ⟨?_,?_⟩<;>(rw [cell_of_row W _ _ _ t (0,0) h.1];rfl)
theorem Bx2.free {w W:World} {B t:Nat} {x0 x1:Value} (h:Bx2 w B t x0 x1 W):∀j,W.frozen? ⟨B,j,none⟩=false:=row_free h.1
theorem Bx2.set {w W:World} {B t:Nat} {x0 x1:Value} (h:Bx2 w B t x0 x1 W) (y0 y1:Value):Bx2 w B t y0 y1 ((W.setCell ⟨B,0,none⟩ y0).setCell ⟨B,1,none⟩ y1):=by
  obtain ⟨h0,k2,k3,k4⟩:=h
  have e:(W.setCell ⟨B,0,none⟩ y0).setCell ⟨B,1,none⟩ y1=W.setCells B 0 #[y0,y1].toList:=rfl
  rw [e]
  exact ⟨row_stored h0 _ rfl,by rw [size_setCells'];exact k2,k3,below_setCells k3 _ _ k4⟩
theorem info_made:(Tryz.prog.info? 178).map (·.size)=some 2:=by kernel_rfl
abbrev mdv (t:List UInt8):Value:=.agg #[.string (bs t),.string (bs (Sh.sum t))]
set_option maxHeartbeats 1000000 in
theorem digested_c (t:List UInt8) (ht:t.length≤1125899906842000) (w:World) (hK:HasK w) :
    Calls Tryz.prog 153 #[.string (bs t)] w fun e w'=>e=.returned (mdv t)∧Below w.heap.size w w':=by
  obtain ⟨s,hs⟩:∃s:ByteArray,s=bs t:=⟨_,rfl⟩
  obtain ⟨d,hd⟩:∃d:ByteArray,d=bs (Sh.sum t):=⟨_,rfl⟩
  have C:Hid (∀W,Below w.heap.size w W→Calls Tryz.prog 55 #[.string s] W fun e w'=>e=.returned (.string d)∧Below W.heap.size W w'):=fun W hW=>by
    have hsz:s.size≤1125899906842000:=by rw [hs,bs_size];exact ht
    have:=sum9 s hsz W (hK.below hK.1 hW)
    rw [hs] at this ⊢
    rw [hd]
    exact this
  show Calls Tryz.prog 153 #[.string (bs t)] w fun e w'=>e=.returned (.agg #[.string (bs t),.string (bs (Sh.sum t))])∧Below w.heap.size w w'
  rw [←hs,←hd]
  clear hs hd hK ht
  go_enter Tryz.func153,Tryz.ntmps153
  go_wp2_with fail
  refine (C.out _ ((Below.refl _ _).alloc (Nat.le_refl _) _)).mono ?_
  rintro e w1 ⟨rfl,hb1⟩
  have X:Hid (Bx2 w w.heap.size 178 (.string ⟨#[]⟩) (.string ⟨#[]⟩) w1):=(Bx2.start w _ _ _).call hb1
  obtain ⟨c0,c1⟩:=X.out.cells
  have fz:=X.out.free
  have lt:w.heap.size<w1.heap.size:=X.out.2.1
  clear hb1
  go_wp2
  have Y:=X.out.set (.string s) (.string d)
  exact bodyPost_ret (v:=.agg #[.string s,.string d]) (results_cell_row rfl _ _ w.heap.size 178 _ (0,0) _ rfl Y.1 Tryz.underlying178 rfl (by exact info_made)) rfl ⟨rfl,Y.2.2.2⟩
set_option maxHeartbeats 1000000 in
theorem leaf_c (s:ByteArray) (hs:s.size≤140737488355328) (w:World) (hK:HasK w) :
    Calls Tryz.prog 140 #[.string s] w fun e w'=>e=.returned (mdv (Mk.leafT s.data.toList))∧Below w.heap.size w w':=by
  obtain ⟨t,ht⟩:∃t:ByteArray,t=bs (Mk.leafT s.data.toList):=⟨_,rfl⟩
  obtain ⟨d,hd⟩:∃d:ByteArray,d=bs (Sh.sum (Mk.leafT s.data.toList)):=⟨_,rfl⟩
  have C:Hid (∀W,Below w.heap.size w W→Calls Tryz.prog 153 #[.string t] W fun e w'=>e=.returned (.agg #[.string t,.string d])∧Below W.heap.size W w'):=fun W hW=>by
    rw [ht,hd]
    exact digested_c _ (by simp [Mk.leafT];omega) W (hK.below hK.1 hW)
  have hadd:∀W,(Op.stringOp .add ⟨#[0]⟩ s).run Tryz.prog W=.ok (.string t) W:=fun W=>by
    rw [run_string_add_sum W ⟨#[0]⟩ s (by show 1+s.size≤_;omega),ht]
    congr 2
  show Calls Tryz.prog 140 #[.string s] w fun e w'=>e=.returned (.agg #[.string (bs (Mk.leafT s.data.toList)),.string (bs (Sh.sum (Mk.leafT s.data.toList)))])∧Below w.heap.size w w'
  rw [←ht,←hd]
  clear ht hd hK hs
  go_enter Tryz.func140,Tryz.ntmps140
  go_wp2_with fail
  refine (C.out _ ((Below.refl _ _).alloc (Nat.le_refl _) _)).mono ?_
  rintro e w1 ⟨rfl,hb1⟩
  have X:Hid (Bx2 w w.heap.size 178 (.string ⟨#[]⟩) (.string ⟨#[]⟩) w1):=(Bx2.start w _ _ _).call hb1
  obtain ⟨c0,c1⟩:=X.out.cells
  have fz:=X.out.free
  have lt:w.heap.size<w1.heap.size:=X.out.2.1
  clear hb1
  go_wp2
  have Y:=X.out.set (.string t) (.string d)
  exact bodyPost_ret (v:=.agg #[.string t,.string d]) (results_cell_row rfl _ _ w.heap.size 178 _ (0,0) _ rfl Y.1 Tryz.underlying178 rfl (by exact info_made)) rfl ⟨rfl,Y.2.2.2⟩
set_option maxHeartbeats 1000000 in
theorem node_c (a b:ByteArray) (ha:a.size≤140737488355328) (hb:b.size≤140737488355328) (w:World) (hK:HasK w) :
    Calls Tryz.prog 142 #[.string a,.string b] w fun e w'=>e=.returned (mdv (Mk.nodeT a.data.toList b.data.toList))∧Below w.heap.size w w':=by
  obtain ⟨t,ht⟩:∃t:ByteArray,t=bs (Mk.nodeT a.data.toList b.data.toList):=⟨_,rfl⟩
  obtain ⟨d,hd⟩:∃d:ByteArray,d=bs (Sh.sum (Mk.nodeT a.data.toList b.data.toList)):=⟨_,rfl⟩
  obtain ⟨x,hx⟩:∃x:ByteArray,x=⟨#[1]⟩++a:=⟨_,rfl⟩
  have hxs:x.size=1+a.size:=by rw [hx,ByteArray.size_append];rfl
  have C:Hid (∀W,Below w.heap.size w W→Calls Tryz.prog 153 #[.string t] W fun e w'=>e=.returned (.agg #[.string t,.string d])∧Below W.heap.size W w'):=fun W hW=>by
    rw [ht,hd]
    refine digested_c _ ?_ W (hK.below hK.1 hW)
    simp only [Mk.nodeT,List.length_cons,List.length_append,size_bytes]
    omega
  have hadd:∀W,(Op.stringOp .add ⟨#[1]⟩ a).run Tryz.prog W=.ok (.string x) W:=fun W=>by
    rw [run_string_add_sum W ⟨#[1]⟩ a (by show 1+a.size≤_;omega),hx]
  have hadd2:∀W,(Op.stringOp .add x b).run Tryz.prog W=.ok (.string t) W:=fun W=>by
    rw [run_string_add_sum W x b (by omega),ht,hx]
    congr 2
  show Calls Tryz.prog 142 #[.string a,.string b] w fun e w'=>e=.returned (.agg #[.string (bs (Mk.nodeT a.data.toList b.data.toList)),.string (bs (Sh.sum (Mk.nodeT a.data.toList b.data.toList)))])∧Below w.heap.size w w'
  rw [←ht,←hd]
  clear ht hd hK ha hb hx hxs
  go_enter Tryz.func142,Tryz.ntmps142
  go_wp2_with fail
  refine (C.out _ ((Below.refl _ _).alloc (Nat.le_refl _) _)).mono ?_
  rintro e w1 ⟨rfl,hb1⟩
  have X:Hid (Bx2 w w.heap.size 178 (.string ⟨#[]⟩) (.string ⟨#[]⟩) w1):=(Bx2.start w _ _ _).call hb1
  obtain ⟨c0,c1⟩:=X.out.cells
  have fz:=X.out.free
  have lt:w.heap.size<w1.heap.size:=X.out.2.1
  clear hb1
  go_wp2
  have Y:=X.out.set (.string t) (.string d)
  exact bodyPost_ret (v:=.agg #[.string t,.string d]) (results_cell_row rfl _ _ w.heap.size 178 _ (0,0) _ rfl Y.1 Tryz.underlying178 rfl (by exact info_made)) rfl ⟨rfl,Y.2.2.2⟩
end Go.Proofs.YtggnfejjcgbebaaGreatDoor
/- A region that draws its order, whose operations only read and whose callees turn nothing below a border: walked once. -/
namespace Go.Proofs.YtggnfejjcgbebaaGreatDoor
open Go.RowKit
structure BelowOf (B:Nat) (w:World) where
  W:World
  h:Below B w W
instance {B:Nat} {w:World}:Inhabited (BelowOf B w):=⟨⟨w,Below.refl _ _⟩⟩
theorem wp_region_below {P:Program} {id:Nat} {Q:Exit→Act→World→Prop} {a:Act} {w:World} {l:List Oper} (B:Nat) (w0:World) (hw:Below B w0 w) (hm:P.follows .mixedOrders=true) (hB:Region.lexB .any l.toArray=true)
    (h:wpQuiet P l.toArray (fun w'=>∃p:BelowOf B w0,w'=p.W) (fun a'=>∀w',(∃p:BelowOf B w0,w'=p.W)→Q .normal a' w') l a):(Code.region id l.toArray true).wp P Q a w :=
  wp_region_quiet (C:=fun w'=>∃p:BelowOf B w0,w'=p.W) hm hB ⟨⟨w.drew,hw.drew⟩,rfl⟩ (by simpa using h)
theorem below_call {P:Program} {f:FuncId} {args:Array Value} {B:Nat} {w:World} {v:Value} (p:BelowOf B w) (hB:B≤w.heap.size)
    (h:Calls P f args p.W fun e w'=>e=.returned v∧Below p.W.heap.size p.W w'):Calls P f args p.W fun e w''=>e=.returned v∧∃q:BelowOf B w,w''=q.W :=
  h.mono fun _ w' ⟨he,hb⟩=>⟨he,⟨w',p.h.trans (hb.mono (Nat.le_trans hB p.h.size))⟩,rfl⟩
theorem below_same {P:Program} {f:FuncId} {args:Array Value} {B:Nat} {w:World} {v:Value} (p:BelowOf B w)
    (h:Calls P f args p.W fun e w'=>e=.returned v∧w'=p.W):Calls P f args p.W fun e w''=>e=.returned v∧∃q:BelowOf B w,w''=q.W :=
  h.mono fun _ _ ⟨he,hb⟩=>⟨he,p,hb⟩
end Go.Proofs.YtggnfejjcgbebaaGreatDoor
/- A region that draws its order, walked once for all worlds of a kind. -/
namespace Go.Proofs.YtggnfejjcgbebaaGreatDoor
open Go.RowKit
end Go.Proofs.YtggnfejjcgbebaaGreatDoor
/- Rows of texts and of turns in memory; whether digests are as many as they must be. -/
namespace Go.Proofs.YtggnfejjcgbebaaGreatDoor
open Go.RowKit
def RowOf {α:Type} (enc:α→Value) (W:World) (H:Nat) (v:Value) (l:List α):Prop :=
  (l=[]∧∃a c,v=.slice a 0 c)∨∃b off c,v=.slice (some ⟨b,off,none⟩) l.length c∧b<H∧∀k x,l[k]?=some x→W.cell? ⟨b,off+k,none⟩=some (enc x)
theorem RowOf.stays {α:Type} {enc:α→Value} {W W':World} {H H':Nat} {v:Value} {l:List α} (h:RowOf enc W H v l) (hb:Below H' W W') (hH:H≤H'):RowOf enc W' H v l:=by
  rcases h with h | ⟨b,off,c,h1,h2,h3⟩
  · exact .inl h
  · exact .inr ⟨b,off,c,h1,h2,fun k x hk=>(hb.cell (p:=⟨b,off+k,none⟩) (by show b<H';omega)).trans (h3 k x hk)⟩
theorem RowOf.mono {α:Type} {enc:α→Value} {W:World} {H H':Nat} {v:Value} {l:List α} (h:RowOf enc W H v l) (hH:H≤H'):RowOf enc W H' v l:=by
  rcases h with h | ⟨b,off,c,h1,h2,h3⟩
  · exact .inl h
  · exact .inr ⟨b,off,c,h1,by omega,h3⟩
theorem RowOf.form {α:Type} {enc:α→Value} {W:World} {H:Nat} {v:Value} {l:List α} (h:RowOf enc W H v l):∃a c,v=.slice a l.length c:=by
  rcases h with ⟨rfl,a,c,rfl⟩ | ⟨b,off,c,h1,_⟩
  · exact ⟨_,_,rfl⟩
  · exact ⟨_,_,h1⟩
theorem RowOf.drew {α:Type} {enc:α→Value} {W:World} {H:Nat} {v:Value} {l:List α} (h:RowOf enc W H v l):RowOf enc W.drew H v l:=h.stays (Below.drew (Below.refl H _)) (Nat.le_refl _)
theorem RowOf.at {α:Type} {enc:α→Value} {W:World} {H:Nat} {a:Option Addr} {c n:Nat} {l:List α} (h:RowOf enc W H (.slice a n c) l) (hn:0<l.length) :
    ∃b off,a=some ⟨b,off,none⟩∧n=l.length∧b<H∧∀k x,l[k]?=some x→W.cell? ⟨b,off+k,none⟩=some (enc x):=by
  rcases h with ⟨rfl,_⟩ | ⟨b,off,c',h1,h2,h3⟩
  · simp at hn
  · injection h1 with e1 e2 e3
    exact ⟨b,off,e1,e2,h2,h3⟩
theorem RowOf.len {α:Type} {enc:α→Value} {W:World} {H:Nat} {a:Option Addr} {c n:Nat} {l:List α} (h:RowOf enc W H (.slice a n c) l):n=l.length:=by
  rcases h with ⟨rfl,a',c',h⟩ | ⟨b,off,c',h1,_⟩
  · injection h
  · injection h1
def encS (x:List UInt8):Value:=.string (bs x)
abbrev Sl:=RowOf encS
end Go.Proofs.YtggnfejjcgbebaaGreatDoor
