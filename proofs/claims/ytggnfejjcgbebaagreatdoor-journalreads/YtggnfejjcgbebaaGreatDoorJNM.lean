/- Several texts, joined: BinK, ShelfV -/
import Derived.Test.YtggnfejjcgbebaaGreatDoorRepAM
import Derived.Test.YtggnfejjcgbebaaGreatDoorShelf
import Derived.Deep.AppendLies
import Derived.Laws.ResultCell
import Derived.Shelf.LaysC
import Derived.Shelf.Unicode.ValidAny
import Derived.Test.YtggnfejjcgbebaaGreatDoorProg
/- Rows of six cells, parts that are appended one by one, a text cloned: what bin's texts want of the texts of value, without their walks. -/
namespace Go.Proofs.YtggnfejjcgbebaaGreatDoor
open Go.RowKit
open Vl (V)
set_option maxHeartbeats 1000000 in
theorem text50 (s:ByteArray) (w:World) (hs:s.size≤140737488351232):Calls Tryz.prog 77 #[.string s] w fun e w'=>e=.returned (.string s)∧Below w.heap.size w w':=by
  go_enter Tryz.func77,Tryz.ntmps77
  go_wp2_with (go_at_call 102;refine (Tryz.stringslite_Clone s _ (by omega)).mono ?_;rintro e w' ⟨rfl,hb⟩)
  go_ret
  exact ⟨rfl,hb⟩
theorem info26':(Tryz.prog.info? 32).map (fun i=>(i.zero,i.size,i.bytes))=some (some (.agg #[.int .u8 0,.bool false,.int .i64 0,.string ⟨#[]⟩,.slice none 0 0,.slice none 0 0]),6,80):=by kernel_rfl
theorem info44':(Tryz.prog.info? 147).map (fun i=>(i.zero,i.size,i.bytes))=some (some (.agg #[.string ⟨#[]⟩,.int .u8 0,.bool false,.int .i64 0,.string ⟨#[]⟩,.slice none 0 0,.slice none 0 0]),7,96):=by kernel_rfl
theorem info_parts {e:TypeId} {z:Value} {n b:Nat} (h:(Tryz.prog.info? e).map (fun i=>(i.zero,i.size,i.bytes))=some (some z,n,b)):∃i,Tryz.prog.info? e=some i∧i.zero=some z∧i.size=n∧i.bytes=b:=by
  cases hi:Tryz.prog.info? e with
  | none=>simp [hi] at h
  | some i =>
    rw [hi] at h
    simp only [Option.map_some,Option.some.injEq,Prod.mk.injEq] at h
    exact ⟨i,rfl,h.1,h.2.1,h.2.2⟩
def Row6 (w:World) (g:Nat) (v0 v1 v2 v3 v4 v5:Value):Prop:=g<w.heap.size∧w.heap[g]?=some (.cells #[v0,v1,v2,v3,v4,v5] 32 (0,0))
theorem Row6.call {w w':World} {g:Nat} {v0 v1 v2 v3 v4 v5:Value} (h:Row6 w g v0 v1 v2 v3 v4 v5) (hb:Below w.heap.size w w'):Row6 w' g v0 v1 v2 v3 v4 v5 :=
  ⟨Nat.lt_of_lt_of_le h.1 hb.size,(hb.block _ h.1).trans h.2⟩
theorem Row6.cells {w:World} {g:Nat} {v0 v1 v2 v3 v4 v5:Value} (h:Row6 w g v0 v1 v2 v3 v4 v5):w.cell? ⟨g,0,none⟩=some v0∧w.cell? ⟨g,1,none⟩=some v1∧w.cell? ⟨g,2,none⟩=some v2∧w.cell? ⟨g,3,none⟩=some v3∧w.cell? ⟨g,4,none⟩=some v4∧w.cell? ⟨g,5,none⟩=some v5:=by
  refine ⟨?_,?_,?_,?_,?_,?_⟩<;>(rw [cell_of_row _ _ _ _ _ _ h.2];rfl)
theorem Row6.free {w:World} {g:Nat} {v0 v1 v2 v3 v4 v5:Value} (h:Row6 w g v0 v1 v2 v3 v4 v5) (r:Nat):w.frozen? ⟨g,r,none⟩=false:=row_freeV h.2 r
theorem Row6.other {w:World} {g p o:Nat} {v v0 v1 v2 v3 v4 v5:Value} (h:Row6 w g v0 v1 v2 v3 v4 v5) (hg:g≠p):Row6 (w.setCell ⟨p,o,none⟩ v) g v0 v1 v2 v3 v4 v5 :=
  ⟨by simp;exact h.1,(heap_setCell_other _ _ _ _ hg).trans h.2⟩
theorem Row6.set4 {w:World} {g:Nat} {v v0 v1 v2 v3 v4 v5:Value} (h:Row6 w g v0 v1 v2 v3 v4 v5):Row6 (w.setCell ⟨g,4,none⟩ v) g v0 v1 v2 v3 v v5 :=
  ⟨by simp;exact h.1,heap_setCell_same w g 4 _ 32 v h.2⟩
theorem Row6.set5 {w:World} {g:Nat} {v v0 v1 v2 v3 v4 v5:Value} (h:Row6 w g v0 v1 v2 v3 v4 v5):Row6 (w.setCell ⟨g,5,none⟩ v) g v0 v1 v2 v3 v4 v :=
  ⟨by simp;exact h.1,heap_setCell_same w g 5 _ 32 v h.2⟩
def Z6 (w:World) (g:Nat):Prop:=Row6 w g (.int .u8 0) (.bool false) (.int .i64 0) (.string ⟨#[]⟩) (.slice none 0 0) (.slice none 0 0)
theorem Z6.call {w w':World} {g:Nat} (h:Z6 w g) (hb:Below w.heap.size w w'):Z6 w' g:=Row6.call h hb
theorem Z6.other {w:World} {g:Nat} (h:Z6 w g) (p o:Nat) (v:Value) (hg:g≠p):Z6 (w.setCell ⟨p,o,none⟩ v) g:=Row6.other h hg
theorem putAll6 (a0 a1 a2 a3 a4 a5 b0 b1 b2 b3 b4 b5:Value):putAll #[a0,a1,a2,a3,a4,a5] 0 [b0,b1,b2,b3,b4,b5]=#[b0,b1,b2,b3,b4,b5]:=by
  simp [putAll]
theorem Z6.put {w:World} {g:Nat} (h:Z6 w g) (b0 b1 b2 b3 b4 b5:Value):(w.setCells g 0 [b0,b1,b2,b3,b4,b5]).heap[g]?=some (.cells #[b0,b1,b2,b3,b4,b5] 32 (0,0)):=by
  rw [heap_setCells_put g 32 [b0,b1,b2,b3,b4,b5] 0 w _ h.2,putAll6]
theorem sets6 (W:World) (B:Nat) (v0 v1 v2 v3 v4 v5:Value):((((((W.setCell ⟨B,0,none⟩ v0).setCell ⟨B,1,none⟩ v1).setCell ⟨B,2,none⟩ v2).setCell ⟨B,3,none⟩ v3).setCell ⟨B,4,none⟩ v4).setCell ⟨B,5,none⟩ v5)=W.setCells B 0 [v0,v1,v2,v3,v4,v5]:=rfl
def EL (W:World) (A:Nat→Prop):List V→List Value→Prop
  | [],cs=>cs=[]
  | x :: r,cs=>∃c0 c1 c2 c3 c4 c5 cs',cs=c0 :: c1 :: c2 :: c3 :: c4 :: c5 :: cs'∧RepA W A x (.agg #[c0,c1,c2,c3,c4,c5])∧EL W A r cs'
def EF (W:World) (A:Nat→Prop):List (ByteArray × V)→List Value→Prop
  | [],cs=>cs=[]
  | (m,x) :: r,cs=>∃c0 c1 c2 c3 c4 c5 cs',cs=.string m :: c0 :: c1 :: c2 :: c3 :: c4 :: c5 :: cs'∧m.size≤maxLen∧RepA W A x (.agg #[c0,c1,c2,c3,c4,c5])∧EF W A r cs'
section
variable {W W':World} {A B:Nat→Prop}
theorem EL.stays (hb:∀g,A g→W'.heap[g]?=W.heap[g]?) (hK:∀g,A g→B g):∀(l:List V) (cs:List Value),EL W A l cs→EL W' B l cs
  | [],_,h=>h
  | x :: r,cs,h=>by
    obtain ⟨c0,c1,c2,c3,c4,c5,cs',e,h1,h2⟩:=h
    exact ⟨c0,c1,c2,c3,c4,c5,cs',e,repA_stays hb hK x _ h1,EL.stays hb hK r cs' h2⟩
theorem EF.stays (hb:∀g,A g→W'.heap[g]?=W.heap[g]?) (hK:∀g,A g→B g):∀(l:List (ByteArray × V)) (cs:List Value),EF W A l cs→EF W' B l cs
  | [],_,h=>h
  | (m,x) :: r,cs,h=>by
    obtain ⟨c0,c1,c2,c3,c4,c5,cs',e,h0,h1,h2⟩:=h
    exact ⟨c0,c1,c2,c3,c4,c5,cs',e,h0,repA_stays hb hK x _ h1,EF.stays hb hK r cs' h2⟩
theorem EL.snoc {x:V} {c0 c1 c2 c3 c4 c5:Value} (hx:RepA W A x (.agg #[c0,c1,c2,c3,c4,c5])):∀(l:List V) (cs:List Value),EL W A l cs→EL W A (l++[x]) (cs++[c0,c1,c2,c3,c4,c5])
  | [],cs,h=>by
    have h':cs=[]:=h
    subst h'
    exact ⟨c0,c1,c2,c3,c4,c5,[],rfl,hx,rfl⟩
  | y :: r,cs,h=>by
    obtain ⟨d0,d1,d2,d3,d4,d5,cs',rfl,h1,h2⟩:=h
    exact ⟨d0,d1,d2,d3,d4,d5,cs'++[c0,c1,c2,c3,c4,c5],rfl,h1,EL.snoc hx r cs' h2⟩
theorem EF.snoc {m:ByteArray} (hm:m.size≤maxLen) {x:V} {c0 c1 c2 c3 c4 c5:Value} (hx:RepA W A x (.agg #[c0,c1,c2,c3,c4,c5])):∀(l:List (ByteArray × V)) (cs:List Value),EF W A l cs→EF W A (l++[(m,x)]) (cs++[.string m,c0,c1,c2,c3,c4,c5])
  | [],cs,h=>by
    have h':cs=[]:=h
    subst h'
    exact ⟨c0,c1,c2,c3,c4,c5,[],rfl,hm,hx,rfl⟩
  | (n,y) :: r,cs,h=>by
    obtain ⟨d0,d1,d2,d3,d4,d5,cs',rfl,h0,h1,h2⟩:=h
    exact ⟨d0,d1,d2,d3,d4,d5,cs'++[.string m,c0,c1,c2,c3,c4,c5],rfl,h0,h1,EF.snoc hm hx r cs' h2⟩
theorem EL.lies {g:Nat}:∀(l:List V) (cs:List Value) (o:Nat),EL W A l cs→(∀j u,cs[j]?=some u→W.cell? ⟨g,o+j,none⟩=some u)→RepLA W A g o l
  | [],_,_,_,_=>by rw [RepLA];trivial
  | x :: r,cs,o,h,hc=>by
    obtain ⟨c0,c1,c2,c3,c4,c5,cs',rfl,h1,h2⟩:=h
    rw [RepLA]
    refine ⟨⟨c0,c1,c2,c3,c4,c5,⟨hc 0 _ rfl,hc 1 _ rfl,hc 2 _ rfl,hc 3 _ rfl,hc 4 _ rfl,hc 5 _ rfl⟩,h1⟩,EL.lies r cs' (o+6) h2 fun j u hu=>?_⟩
    have:=hc (j+6) u (by simpa using hu)
    rwa [show o+(j+6)=o+6+j by omega] at this
theorem EF.lies {g:Nat}:∀(l:List (ByteArray × V)) (cs:List Value) (o:Nat),EF W A l cs→(∀j u,cs[j]?=some u→W.cell? ⟨g,o+j,none⟩=some u)→RepFA W A g o l
  | [],_,_,_,_=>by rw [RepFA];trivial
  | (m,x) :: r,cs,o,h,hc=>by
    obtain ⟨c0,c1,c2,c3,c4,c5,cs',rfl,h0,h1,h2⟩:=h
    rw [RepFA]
    refine ⟨⟨hc 0 _ rfl,h0,c0,c1,c2,c3,c4,c5,⟨hc 1 _ rfl,hc 2 _ rfl,hc 3 _ rfl,hc 4 _ rfl,hc 5 _ rfl,hc 6 _ rfl⟩,h1⟩,EF.lies r cs' (o+7) h2 fun j u hu=>?_⟩
    have:=hc (j+7) u (by simpa using hu)
    rwa [show o+(j+7)=o+7+j by omega] at this
theorem own_row {W:World} {B n size:Nat} {t:TypeId} {v:Value} {L:List Value} (hn:0<n) (h:W.ownsRow B t size v n L):∃g cap,v=.slice (some ⟨g,0,none⟩) n cap∧B≤g∧g<W.heap.size∧v.ownBlock=some g∧∀(j:Nat) (u:Value),L[j]?=some u→W.cell? ⟨g,j,none⟩=some u:=by
  have hL:=h.1
  rcases h.2 with ⟨_,h1⟩ | ⟨g,cap,cur,rfl,hb,hrow,_,_,_,htk⟩
  · omega
  · refine ⟨g,cap,rfl,hb,(Array.getElem?_eq_some_iff.1 hrow).1,rfl,fun j u hu=>?_⟩
    rw [cell_of_row _ _ _ _ _ _ hrow]
    have hj:j<n*size:=by have:=(List.getElem?_eq_some_iff.1 hu).1;omega
    rw [←htk,List.getElem?_take_of_lt (by omega),Array.getElem?_toList] at hu
    exact hu
end
theorem own_free {W:World} {B n size g m c:Nat} {t:TypeId} {L:List Value} (h:W.ownsRow B t size (.slice (some ⟨g,0,none⟩) m c) n L) (r:Nat):W.frozen? ⟨g,r,none⟩=false:=by
  rcases h.2 with ⟨e,_⟩ | ⟨g',cap,cur,e,_,hrow,_⟩
  · cases e
  · cases e
    exact row_freeV hrow r
theorem own_call {W W':World} {B n size:Nat} {t:TypeId} {v:Value} {L:List Value} (h:W.ownsRow B t size v n L) (hb:Below W.heap.size W W'):W'.ownsRow B t size v n L:=by
  refine ⟨h.1,?_⟩
  rcases h.2 with h1 | ⟨g,cap,cur,e,h2,h3,h4⟩
  · exact Or.inl h1
  · exact Or.inr ⟨g,cap,cur,e,h2,(hb.block g (Array.getElem?_eq_some_iff.1 h3).1).trans h3,h4⟩
theorem own_set {W:World} {B n size p o:Nat} {u:Value} {t:TypeId} {v:Value} {L:List Value} (h:W.ownsRow B t size v n L) (hp:some p≠v.ownBlock):(W.setCell ⟨p,o,none⟩ u).ownsRow B t size v n L:=by
  refine ⟨h.1,?_⟩
  rcases h.2 with h1 | ⟨g,cap,cur,rfl,h2,h3,h4⟩
  · exact Or.inl h1
  · exact Or.inr ⟨g,cap,cur,rfl,h2,(heap_setCell_other _ _ _ _ (fun e=>hp (by rw [e];rfl))).trans h3,h4⟩
theorem results_row_tmpV {P:Program} {fn:Func} {p u:Tmp} {ty:TypeId} (h:fn.results=#[.cell p ty,.tmp u]) (tmps:Array Value) (w:World) (g:Nat) (t:TypeId) (cs:Array Value) (fr:Nat × Nat) (d:TypeDesc)
    (hp:tmps.getD p undef=.pointer (some ⟨g,0,none⟩)) (hg:w.heap[g]?=some (.cells cs t fr))
    (hu:P.underlying ty=some d) (hd:(match d with | .struct _ | .array _ _=>true | _=>false)=true) (hi:(P.info? ty).map (·.size)=some cs.size) :
    (results fn tmps).run P w=.ok (.tuple #[.agg cs,tmps.getD u undef]) w:=by
  rw [results_cell_tmp h,hp]
  simp [asAddr,run_loadVar_row w g t ty cs fr d hg hu hd hi]
end Go.Proofs.YtggnfejjcgbebaaGreatDoor
/- Whether a text is UTF-8: the library's contract, laid at this program. -/
namespace Go.Proofs
open Go.Shelf
def Tryz.laysValid_ren:Go.Shelf.Ren:=⟨fun | 196=>83 | 259=>109 | n=>n,fun | 9=>9 | 4=>4 | 3=>3 | 5=>5 | 12=>12 | 119=>150 | 0=>0 | 46=>105 | 139=>153 | 138=>152 | 53=>22 | n=>n,fun | 3=>0 | 4=>1 | n=>n⟩
theorem Tryz.laysValid:Go.Proofs.Lays.n196 Tryz.prog Tryz.laysValid_ren:={
  mixed:=by kernel_rfl
  f196:=Tryz.func83.trans (congrArg some (by kernel_rfl))
  f259:=Tryz.func109.trans (congrArg some (by kernel_rfl))
  t0:=Tryz.underlying0
  a0:=Tryz.isAgg0
  z0:=Tryz.sizeOf0
  v0:=Tryz.zeroValue0
  t3:=Tryz.underlying3
  a3:=Tryz.isAgg3
  z3:=Tryz.sizeOf3
  v3:=Tryz.zeroValue3
  t4:=Tryz.underlying4
  a4:=Tryz.isAgg4
  z4:=Tryz.sizeOf4
  v4:=Tryz.zeroValue4
  t5:=Tryz.underlying5
  a5:=Tryz.isAgg5
  z5:=Tryz.sizeOf5
  v5:=Tryz.zeroValue5
  t9:=Tryz.underlying9
  a9:=Tryz.isAgg9
  z9:=Tryz.sizeOf9
  v9:=Tryz.zeroValue9
  t12:=Tryz.underlying12
  a12:=Tryz.isAgg12
  z12:=Tryz.sizeOf12
  v12:=Tryz.zeroValue12
  t46:=Tryz.underlying105
  a46:=Tryz.isAgg105
  z46:=Tryz.sizeOf105
  v46:=Tryz.zeroValue105
  t53:=Tryz.underlying22
  a53:=Tryz.isAgg22
  z53:=Tryz.sizeOf22
  v53:=Tryz.zeroValue22
  t119:=Tryz.underlying150
  a119:=Tryz.isAgg150
  z119:=Tryz.sizeOf150
  t138:=Tryz.underlying152
  a138:=Tryz.isAgg152
  z138:=Tryz.sizeOf152
  v138:=Tryz.zeroValue152
  t139:=Tryz.underlying153
  a139:=Tryz.isAgg153
  z139:=Tryz.sizeOf153
  v139:=Tryz.zeroValue153
  g3:=by kernel_rfl
  g4:=by kernel_rfl }
end Go.Proofs
