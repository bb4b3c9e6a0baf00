/- Several texts, joined. -/
import Derived.Test.YtfhkaffakniioaaGreatDoorQ06M
import Derived.Test.YtfhkaffakniioaaGreatDoorLxKM
import Derived.BigQuiet
import Derived.Lib.ReplaceLaws
import Derived.Lib.SplitLaws
set_option maxHeartbeats 2000000
set_option maxRecDepth 100000
namespace Go.Proofs.YtfhkaffakniioaaGreatDoor
open Go.RowKit
structure Kp (F:Nat→Prop) (w w':World):Prop where
 os:w'.os=w.os
 tape:w'.tape=w.tape
 output:w'.output=w.output
 size:w.heap.size≤w'.heap.size
 block:∀k,k<w.heap.size→¬F k→w'.heap[k]?=w.heap[k]?
theorem Kp.of_below {F:Nat→Prop} {w w':World} (h:Below w.heap.size w w'):Kp F w w':=⟨h.os,h.tape,h.output,h.size,fun k hk _=>h.block k hk⟩
theorem Kp.trans {F G:Nat→Prop} {a b c:World} (h:Kp F a b) (k:Kp G b c) (hG:∀g,g<a.heap.size→G g→F g):Kp F a c :=
 ⟨k.os.trans h.os,k.tape.trans h.tape,k.output.trans h.output,Nat.le_trans h.size k.size,fun i hi hf=>(k.block i (Nat.lt_of_lt_of_le hi h.size) fun q=>hf (hG i hi q)).trans (h.block i hi hf)⟩
theorem Kp.below {F:Nat→Prop} {w w':World} {n:Nat} (h:Kp F w w') (hF:∀g,F g→n≤g) (hn:n≤w.heap.size):Below n w w' :=
 ⟨h.os,h.tape,h.output,h.size,fun k hk=>h.block k (by omega) fun q=>by have:=hF k q;omega⟩
theorem row_lt {w:World} {g:Nat} {o:Obj} (h:w.heap[g]?=some o):g<w.heap.size:=(Array.getElem?_eq_some_iff.1 h).1
namespace Ps
def sc (p:Sp):Array Value:=#[.int .u8 (p.kind:Int),.string (Lx.bs p.text),.int .i64 p.n]
def scs (l:List Sp):List Value:=l.flatMap fun p=>(sc p).toList
theorem scs_snoc (l:List Sp) (p:Sp):scs (l++[p])=scs l++[.int .u8 (p.kind:Int),.string (Lx.bs p.text),.int .i64 p.n]:=by simp[scs,sc]
def fits (t:Tk):Prop:=t.kind<256∧(-9223372036854775808≤t.n∧t.n≤9223372036854775807)∧t.text.length≤20000∧t.at'≤20000
def Tks (W:World) (base:Nat) (a:Option Addr) (l:List Tk):Prop:=∀(j:Nat) (t:Tk),l[j]?=some t→∃g o,a=some ⟨g,o,none⟩∧g<base∧W.cell? ⟨g,o+j*4,none⟩=some (.int .u8 (t.kind:Int))∧W.cell? ⟨g,o+j*4+1,none⟩=some (.string (Lx.bs t.text))∧W.cell? ⟨g,o+j*4+2,none⟩=some (.int .i64 t.n)∧W.cell? ⟨g,o+j*4+3,none⟩=some (.int .i64 (t.at':Int))
theorem Tks.stays {W W':World} {base:Nat} {a:Option Addr} {l:List Tk} (h:Tks W base a l) (hb:∀g,g<base→W'.heap[g]?=W.heap[g]?):Tks W' base a l:=fun j t ht=>by
 obtain⟨g,o,e,hg,h0,h1,h2,h3⟩:=h j t ht
 have cl:=fun r=>World.cell?_of_block (w:=W) (w':=W') (a:=⟨g,r,none⟩) (hb g hg)
 exact⟨g,o,e,hg,(cl _).trans h0,(cl _).trans h1,(cl _).trans h2,(cl _).trans h3⟩
theorem Tks.nil (W:World) (base:Nat) (a:Option Addr):Tks W base a []:=fun j t h=>by simp at h
theorem Tks.tail {W:World} {base g o:Nat} {t:Tk} {r:List Tk} (h:Tks W base (some ⟨g,o,none⟩) (t :: r)):Tks W base (some ⟨g,o+4,none⟩) r:=fun j t ht=>by
 obtain⟨g',o',e,hg,h0,h1,h2,h3⟩:=h (j+1) t (by simpa using ht)
 cases e
 have e1:o+(j+1)*4=o+4+j*4:=by omega
 rw[e1] at h0 h1 h2 h3
 exact⟨g,o+4,rfl,hg,h0,h1,h2,h3⟩
def pc (s:S) (ra:Option Addr) (rc:Nat) (sv:Value):Array Value:=#[.slice ra s.rest.length rc,.int .i64 (s.size:Int),.bool s.over,.int .i64 (s.why:Int),.int .i64 (s.pos:Int),.int .i64 (s.around:Int),sv]
structure PS (W0 W:World) (pb:Nat) (s:S) (sb:Option Nat):Prop where
 lt:W0.heap.size≤pb
 below:Below W0.heap.size W0 W
 ex:∃ra rc sv,W.heap[pb]?=some (.cells (pc s ra rc sv) 67 (0,0))∧Tks W W0.heap.size ra s.rest∧(s.rest.length≤rc∧rc≤9223372036854775807)∧W.ownsRow W0.heap.size 29 3 sv s.steps.length (scs s.steps)∧sv.ownBlock=sb∧sb≠some pb
 lim:s.steps.length+s.rest.length≤20000
 fit:∀t∈s.rest,fits t
 around:s.around≤16
 nums:s.size≤20000∧s.pos≤20000
def slenV:Value→Nat
 | .slice _ n _=>n
 | _=>0
def slen (W:World) (pb:Nat):Nat:=slenV ((W.cell? ⟨pb,6,none⟩).getD (.int .i64 0))
theorem slen_of {W W':World} {pb:Nat} (h:W'.heap[pb]?=W.heap[pb]?):slen W' pb=slen W pb:=by
 unfold slen
 rw[World.cell?_of_block (a:=⟨pb,6,none⟩) h]
theorem zcJ {W:World} {pb:Nat} {s:S} {ra:Option Addr} {rc:Nat} {sv:Value} (h:W.heap[pb]?=some (.cells (pc s ra rc sv) 67 (0,0))):slen W pb=slenV sv:=by
 unfold slen
 rw[cell_of_row _ _ _ _ _ _ h]
 rfl
def Stp (pb:Nat) (W:World) (sb:Option Nat) (W':World) (sb':Option Nat):Prop:=pb<W.heap.size→slen W pb≤slen W' pb∧((∀g,sb=some g→g<W.heap.size)→slen W' pb=slen W pb→sb'=sb∧∀g,sb=some g→W'.heap[g]?=W.heap[g]?)
theorem Stp.same {pb:Nat} {W W':World} {sb:Option Nat} (h:pb<W.heap.size→slen W' pb=slen W pb) (hg:∀g,sb=some g→g<W.heap.size→W'.heap[g]?=W.heap[g]?):Stp pb W sb W' sb:=fun h1=>⟨Nat.le_of_eq (h h1).symm,fun h2 _=>⟨rfl,fun g e=>hg g e (h2 g e)⟩⟩
theorem Stp.trans {pb:Nat} {W W1 W2:World} {sb sb1 sb2:Option Nat} (hs:W.heap.size≤W1.heap.size) (h:Stp pb W sb W1 sb1) (k:Stp pb W1 sb1 W2 sb2):Stp pb W sb W2 sb2:=fun h1=>by
 obtain⟨a1,a2⟩:=h h1
 obtain⟨b1,b2⟩:=k (Nat.lt_of_lt_of_le h1 hs)
 refine⟨Nat.le_trans a1 b1,fun h2 e=>?_⟩
 obtain⟨c1,c2⟩:=a2 h2 (by omega)
 obtain⟨d1,d2⟩:=b2 (fun g q=>Nat.lt_of_lt_of_le (h2 g (c1 ▸ q)) hs) (by omega)
 exact⟨d1.trans c1,fun g q=>(d2 g (c1.trans q)).trans (c2 g q)⟩
structure PCh (pb:Nat) (W:World) (sb:Option Nat) (W':World) (sb':Option Nat):Prop where
 kept:Kp (fun g=>g=pb∨sb=some g) W W'
 new:sb'=sb∨∃g,sb'=some g∧W.heap.size≤g
 stp:Stp pb W sb W' sb'
theorem PCh.refl (pb:Nat) (W:World) (sb:Option Nat):PCh pb W sb W sb:=⟨Kp.of_below (Below.refl _ _),.inl rfl,Stp.same (fun _=>rfl) fun _ _ _=>rfl⟩
theorem PCh.of_below {pb:Nat} {W W':World} {sb:Option Nat} (h:Below W.heap.size W W'):PCh pb W sb W' sb:=⟨Kp.of_below h,.inl rfl,Stp.same (fun hl=>slen_of (h.block pb hl)) fun g _ hl=>h.block g hl⟩
theorem PCh.trans {pb:Nat} {W W1 W2:World} {sb sb1 sb2:Option Nat} (h:PCh pb W sb W1 sb1) (k:PCh pb W1 sb1 W2 sb2):PCh pb W sb W2 sb2:=by
 refine⟨h.kept.trans k.kept fun g hg q=>?_,?_,h.stp.trans h.kept.size k.stp⟩
 ·rcases q with q | q
  ·exact .inl q
  ·rcases h.new with e | ⟨g',e,hg'⟩
   ·exact .inr (e ▸ q)
   ·rw[e] at q
    cases q
    omega
 ·rcases k.new with e | ⟨g,e,hg⟩
  ·rw[e];exact h.new
  ·exact .inr ⟨g,e,Nat.le_trans h.kept.size hg⟩
def PG (W0:World) (pb:Nat) (W:World) (sb:Option Nat) (s':S) (W':World):Prop:=∃sb',PS W0 W' pb s' sb'∧PCh pb W sb W' sb'
section
variable {W0:World} {pb:Nat} {W W' W1:World} {s s':S} {sb sb1:Option Nat}
theorem PS.blt (h:PS W0 W pb s sb):pb<W.heap.size:=by
 obtain⟨ra,rc,sv,h1,_⟩:=h.ex
 exact(Array.getElem?_eq_some_iff.1 h1).1
theorem PS.sblt (h:PS W0 W pb s sb):∀g,sb=some g→W0.heap.size≤g∧g<W.heap.size:=fun g hg=>by
 obtain⟨ra,rc,sv,h1,_,_,h4,h5,_⟩:=h.ex
 exact h4.lt g (h5.trans hg)
theorem PS.call (h:PS W0 W pb s sb) (hb:Below W.heap.size W W'):PS W0 W' pb s sb:=by
 obtain⟨ra,rc,sv,h1,h2,h3,h4,h5,h6⟩:=h.ex
 have hl:=h.blt
 exact⟨h.lt,h.below.trans (hb.mono (Nat.le_trans h.lt (Nat.le_of_lt hl))),⟨ra,rc,sv,(hb.block pb hl).trans h1,h2.stays fun g hg=>hb.block g (by have:=h.lt;omega),h3,zaT h4 hb,h5,h6⟩,h.lim,h.fit,h.around,h.nums⟩
theorem PS.set (h:PS W0 W pb s sb) {i:Nat} {v:Value} {s':S} (hs:s'.steps=s.steps) (hr:s'.rest=s.rest) (ha:s'.around≤16) (hn:s'.size≤20000∧s'.pos≤20000) (hc:∀ra rc sv,(pc s ra rc sv).setIfInBounds i v=pc s' ra rc sv):PS W0 (W.setCell ⟨pb,i,none⟩ v) pb s' sb∧PCh pb W sb (W.setCell ⟨pb,i,none⟩ v) sb:=by
 obtain⟨ra,rc,sv,h1,h2,h3,h4,h5,h6⟩:=h.ex
 have hl:=h.lt
 refine⟨⟨h.lt,h.below.setCell hl _,⟨ra,rc,sv,?_,?_,by rw[hr];exact h3,?_,h5,h6⟩,by rw[hs,hr];exact h.lim,by rw[hr];exact h.fit,ha,hn⟩,⟨⟨rfl,rfl,rfl,by simp,fun k _ hk=>heap_setCell_other _ _ _ _ fun e=>hk (.inl e)⟩,.inl rfl,Stp.same (fun _=>((zcJ (by rw[←hc ra rc sv];exact heap_setCell_same W pb i _ 67 v h1:(W.setCell ⟨pb,i,none⟩ v).heap[pb]?=some (.cells (pc s' ra rc sv) 67 (0,0)))).trans (zcJ h1).symm)) fun g e _=>heap_setCell_other _ _ _ _ fun q=>h6 (by rw[e];exact congrArg some q)⟩⟩
 ·rw[←hc ra rc sv]
  exact heap_setCell_same W pb i _ 67 v h1
 ·rw[hr]
  exact h2.stays fun g hg=>heap_setCell_other _ _ _ _ (by show g≠pb;omega)
 ·rw[hs]
  exact own_setL h4 (by rw[h5];exact fun e=>h6 e.symm)
theorem PS.setRest (h:PS W0 W pb s sb) {ra':Option Addr} {rc':Nat} {l:List Tk} (hl:l.length≤s.rest.length) (hf:∀t∈l,t∈s.rest) (ht:Tks W W0.heap.size ra' l) (hc:l.length≤rc'∧rc'≤9223372036854775807):PS W0 (W.setCell ⟨pb,0,none⟩ (.slice ra' l.length rc')) pb { s with rest:=l } sb∧PCh pb W sb (W.setCell ⟨pb,0,none⟩ (.slice ra' l.length rc')) sb:=by
 obtain⟨ra,rc,sv,h1,h2,h3,h4,h5,h6⟩:=h.ex
 have hlt:=h.lt
 refine⟨⟨h.lt,h.below.setCell hlt _,⟨ra',rc',sv,?_,ht.stays fun g hg=>heap_setCell_other _ _ _ _ (by show g≠pb;omega),hc,own_setL h4 (by rw[h5];exact fun e=>h6 e.symm),h5,h6⟩,?_,fun t q=>h.fit t (hf t q),h.around,h.nums⟩,⟨⟨rfl,rfl,rfl,by simp,fun k _ hk=>heap_setCell_other _ _ _ _ fun e=>hk (.inl e)⟩,.inl rfl,Stp.same (fun _=>((zcJ (by rw[heap_setCell_same W pb 0 _ 67 (.slice ra' l.length rc') h1];rfl:(W.setCell ⟨pb,0,none⟩ (.slice ra' l.length rc')).heap[pb]?=some (.cells (pc { s with rest:=l } ra' rc' sv) 67 (0,0)))).trans (zcJ h1).symm)) fun g e _=>heap_setCell_other _ _ _ _ fun q=>h6 (by rw[e];exact congrArg some q)⟩⟩
 ·have:=heap_setCell_same W pb 0 _ 67 (.slice ra' l.length rc') h1
  rw[this]
  rfl
 ·have:=h.lim
  show s.steps.length+l.length≤20000
  omega
theorem PS.cells (h:PS W0 W pb s sb):∃ra rc sv,Hid (Tks W W0.heap.size ra s.rest∧(s.rest.length≤rc∧rc≤9223372036854775807)∧W.ownsRow W0.heap.size 29 3 sv s.steps.length (scs s.steps)∧sv.ownBlock=sb)∧W.cell? ⟨pb,0,none⟩=some (.slice ra s.rest.length rc)∧W.cell? ⟨pb,1,none⟩=some (.int .i64 (s.size:Int))∧W.cell? ⟨pb,2,none⟩=some (.bool s.over)∧W.cell? ⟨pb,3,none⟩=some (.int .i64 (s.why:Int))∧W.cell? ⟨pb,4,none⟩=some (.int .i64 (s.pos:Int))∧W.cell? ⟨pb,5,none⟩=some (.int .i64 (s.around:Int))∧W.cell? ⟨pb,6,none⟩=some sv∧∀r,W.frozen? ⟨pb,r,none⟩=false:=by
 obtain⟨ra,rc,sv,h1,h2,h3,h4,h5,h6⟩:=h.ex
 have c:∀i v,(pc s ra rc sv)[i]?=some v→W.cell? ⟨pb,i,none⟩=some v:=fun i v hv=>by rw[cell_of_row _ _ _ _ _ _ h1];exact hv
 exact⟨ra,rc,sv,⟨h2,h3,h4,h5⟩,c 0 _ rfl,c 1 _ rfl,c 2 _ rfl,c 3 _ rfl,c 4 _ rfl,c 5 _ rfl,c 6 _ rfl,fun r=>by simp[World.frozen?,h1]⟩
theorem PG.refl (h:PS W0 W pb s sb):PG W0 pb W sb s W:=⟨sb,h,PCh.refl _ _ _⟩
theorem PG.call (h:PG W0 pb W sb s W1) (hb:Below W1.heap.size W1 W'):PG W0 pb W sb s W':=by
 obtain⟨sb1,h1,h2⟩:=h
 exact⟨sb1,h1.call hb,h2.trans (PCh.of_below hb)⟩
theorem PG.pre (h:PG W0 pb W1 sb s W') (hb:Below W.heap.size W W1):PG W0 pb W sb s W':=by
 obtain⟨sb1,h1,h2⟩:=h
 exact⟨sb1,h1,(PCh.of_below hb).trans h2⟩
end
theorem bnew (w:World) (o:Obj):Below w.heap.size w (w.alloc o):=(Below.refl _ _).alloc (Nat.le_refl _) _
theorem hidp {p:Prop} (h:p):Hid p:=h
end Ps
end Go.Proofs.YtfhkaffakniioaaGreatDoor
namespace Go.Proofs.YtfhkaffakniioaaGreatDoor
open Go.RowKit
structure BelowOf (B:Nat) (w:World) where
 W:World
 h:Below B w W
instance {B:Nat} {w:World}:Inhabited (BelowOf B w):=⟨⟨w,Below.refl _ _⟩⟩
theorem zaC {P:Program} {id:Nat} {Q:Exit→Act→World→Prop} {a:Act} {w:World} {l:List Oper} (B:Nat) (w0:World) (hw:Below B w0 w) (hm:P.follows .mixedOrders=true) (hB:Region.lexB .any l.toArray=true)
  (h:wpQuiet P l.toArray (fun w'=>∃p:BelowOf B w0,w'=p.W) (fun a'=>∀w',(∃p:BelowOf B w0,w'=p.W)→Q .normal a' w') l a):(Code.region id l.toArray true).wp P Q a w :=
 wp_region_quiet (C:=fun w'=>∃p:BelowOf B w0,w'=p.W) hm hB ⟨⟨w.drew,hw.drew⟩,rfl⟩ (by simpa using h)
theorem below_call {P:Program} {f:FuncId} {args:Array Value} {B:Nat} {w:World} {v:Value} (p:BelowOf B w) (hB:B≤w.heap.size)
  (h:Calls P f args p.W fun e w'=>e=.returned v∧Below p.W.heap.size p.W w'):Calls P f args p.W fun e w''=>e=.returned v∧∃q:BelowOf B w,w''=q.W :=
 h.mono fun _ w' ⟨he,hb⟩=>⟨he,⟨w',p.h.trans (hb.mono (Nat.le_trans hB p.h.size))⟩,rfl⟩
end Go.Proofs.YtfhkaffakniioaaGreatDoor
namespace Go.Proofs.YtfhkaffakniioaaGreatDoor
open Go.RowKit
namespace Ps
section
variable {W0:World} {pb:Nat} {W:World} {s:S} {sb:Option Nat}
theorem place_c (h:PS W0 W pb s sb):Calls Tryz.prog 111 #[.pointer (some ⟨pb,0,none⟩)] W fun e W'=>e=.returned (.int .i64 (place s:Int))∧W'=W:=by
 obtain⟨l,size,over,why,pos,around,steps⟩:=s
 obtain⟨ra,rc,sv,H,p0,p1,p2,p3,p4,p5,p6,pf⟩:=h.cells
 clear h p2 p3 p4 p5 p6 pf
 cases l with
 | nil =>
  replace p0:W.cell? ⟨pb,0,none⟩=some (.slice ra 0 rc):=p0
  replace p1:W.cell? ⟨pb,1,none⟩=some (.int .i64 (size:Int)):=p1
  go_enter Tryz.func111,Tryz.ntmps111
  go_wp2
  go_ret
  exact⟨rfl,rfl⟩
 | cons t r =>
  obtain⟨g,o,rfl,hg,t0,t1,t2,t3⟩:=H.out.1 0 t rfl
  rw[Nat.zero_mul,Nat.add_zero] at t3
  obtain⟨n,hn⟩:∃n,n=r.length+1:=⟨_,rfl⟩
  replace p0:W.cell? ⟨pb,0,none⟩=some (.slice (some ⟨g,o,none⟩) n rc):=by rw[hn];exact p0
  have q0:((n:Int)==0)=false:=by simp;omega
  have q1:(0:Int)<(n:Int):=by omega
  clear p1 t0 t1 t2 hn hg
  go_enter Tryz.func111,Tryz.ntmps111
  go_wp2
  go_ret
  exact⟨rfl,rfl⟩
theorem fail_c (h:PS W0 W pb s sb) (e:Nat):Calls Tryz.prog 77 #[.pointer (some ⟨pb,0,none⟩),.int .i64 (e:Int)] W fun en W'=>en=.returned (.tuple #[])∧PG W0 pb W sb (fail e s) W':=by
 have HP:Hid (PS W0 W pb s sb):=h
 have CP:Hid (Calls Tryz.prog 111 #[.pointer (some ⟨pb,0,none⟩)] W fun e W'=>e=.returned (.int .i64 (place s:Int))∧W'=W):=place_c h
 obtain⟨ra,rc,sv,H,p0,p1,p2,p3,p4,p5,p6,pf⟩:=h.cells
 have hlt:=h.blt
 obtain⟨pl,hpl⟩:∃pl,pl=place s:=⟨_,rfl⟩
 rw[←hpl] at CP
 have HPL:Hid (pl=place s∧pl≤20000):=by
  refine⟨hpl,?_⟩
  rw[hpl,place]
  split
  ·exact h.nums.1
  ·rename_i t r e
   exact(h.fit t (by rw[e];simp)).2.2.2
 clear H p1 p2 p5 p6 hpl
 by_cases hw:s.why=0
 ·have p3':W.cell? ⟨pb,3,none⟩=some (.int .i64 0):=by rw[p3,hw];rfl
  have HW:Hid (s.why=0):=hw
  have HG:Hid (PG W0 pb W sb (fail e s) (((W.setCell ⟨pb,3,none⟩ (.int .i64 (e:Int))).setCell ⟨pb,4,none⟩ (.int .i64 (pl:Int))).setCell ⟨pb,0,none⟩ (.slice none 0 0))):=by
   obtain⟨a1,a2⟩:=h.set (i:=3) (v:=.int .i64 (e:Int)) (s':={ s with why:=e }) rfl rfl h.around h.nums (fun _ _ _=>rfl)
   obtain⟨b1,b2⟩:=a1.set (i:=4) (v:=.int .i64 (pl:Int)) (s':={ s with why:=e,pos:=pl }) rfl rfl h.around ⟨h.nums.1,HPL.out.2⟩ (fun _ _ _=>rfl)
   obtain⟨c1,c2⟩:=b1.setRest (ra':=none) (rc':=0) (l:=[]) (Nat.zero_le _) (fun t q=>by cases q) (Tks.nil _ _ _) ⟨Nat.le_refl _,by omega⟩
   refine⟨sb,?_,(a2.trans b2).trans c2⟩
   have e1:fail e s={ s with why:=e,pos:=pl,rest:=[] }:=by
    rw[fail,if_pos HW.out,if_pos HW.out,HPL.out.1]
   rw[e1]
   exact c1
  clear p3 hw h
  go_enter Tryz.func77,Tryz.ntmps77
  go_wp2_with (go_at_call 111;refine(CP.out).mono ?_;rintro en w1 ⟨rfl,rfl⟩)
  exact bodyPost_end (results_none (by rfl) _ _ _) rfl ⟨rfl,HG.out⟩
 ·have q3:((s.why:Int)==0)=false:=by simp;omega
  have q3':¬((s.why:Int)=0):=by omega
  have HG:Hid (PG W0 pb W sb (fail e s) (W.setCell ⟨pb,0,none⟩ (.slice none 0 0))):=by
   obtain⟨c1,c2⟩:=h.setRest (ra':=none) (rc':=0) (l:=[]) (Nat.zero_le _) (fun t q=>by cases q) (Tks.nil _ _ _) ⟨Nat.le_refl _,by omega⟩
   refine⟨sb,?_,c2⟩
   have e1:fail e s={ s with rest:=[] }:=by rw[fail,if_neg hw,if_neg hw]
   rw[e1]
   exact c1
  clear hw h
  go_enter Tryz.func77,Tryz.ntmps77
  go_wp2
  exact bodyPost_end (results_none (by rfl) _ _ _) rfl ⟨rfl,HG.out⟩
def tv (t:Tk):Value:=.agg (Lx.tc t.kind t.text t.n t.at')
theorem token_c (h:PS W0 W pb s sb):Calls Tryz.prog 104 #[.pointer (some ⟨pb,0,none⟩)] W fun e W'=>e=.returned (tv (token s))∧Below W.heap.size W W':=by
 obtain⟨l,size,over,why,pos,around,steps⟩:=s
 obtain⟨ra,rc,sv,H,p0,p1,p2,p3,p4,p5,p6,pf⟩:=h.cells
 have hlt:=h.blt
 clear h p1 p2 p3 p4 p5 p6 pf
 cases l with
 | nil =>
  replace p0:W.cell? ⟨pb,0,none⟩=some (.slice ra 0 rc):=p0
  obtain⟨w2,hw2⟩:∃w2,w2=W.alloc (.cells #[.int .u8 0,.string ⟨#[]⟩,.int .i64 0,.int .i64 0] 92):=⟨_,rfl⟩
  have HE:Hid (w2.heap[W.heap.size]?=some (.cells #[.int .u8 0,.string ⟨#[]⟩,.int .i64 0,.int .i64 0] 92 (0,0))∧Below W.heap.size W w2∧w2=W.alloc (.cells #[.int .u8 0,.string ⟨#[]⟩,.int .i64 0,.int .i64 0] 92)):=⟨by rw[hw2];exact heap_alloc_new W _,by rw[hw2];exact bnew _ _,hw2⟩
  clear hw2
  go_enter Tryz.func104,Tryz.ntmps104
  go_wp2
  rw[←HE.out.2.2]
  exact bodyPost_ret (v:=tv zero) (results_cell_row rfl _ _ W.heap.size 92 #[.int .u8 0,.string ⟨#[]⟩,.int .i64 0,.int .i64 0] (0,0) _ rfl HE.out.1 Tryz.underlying92 rfl (by kernel_rfl)) rfl ⟨rfl,HE.out.2.1⟩
 | cons t r =>
  obtain⟨g,o,rfl,hg,t0,t1,t2,t3⟩:=H.out.1 0 t rfl
  rw[Nat.zero_mul,Nat.add_zero] at t0 t1 t2 t3
  obtain⟨n,hn⟩:∃n,n=r.length+1:=⟨_,rfl⟩
  replace p0:W.cell? ⟨pb,0,none⟩=some (.slice (some ⟨g,o,none⟩) n rc):=by rw[hn];exact p0
  have q0:((n:Int)==0)=false:=by simp;omega
  have q1:(0:Int)<(n:Int):=by omega
  have hgl:=block_lt_of_cell t0
  obtain⟨w2,hw2⟩:∃w2,w2=W.alloc (.cells #[.int .u8 (t.kind:Int),.string (Lx.bs t.text),.int .i64 t.n,.int .i64 (t.at':Int)] 92):=⟨_,rfl⟩
  have HE:Hid (w2.heap[W.heap.size]?=some (.cells #[.int .u8 (t.kind:Int),.string (Lx.bs t.text),.int .i64 t.n,.int .i64 (t.at':Int)] 92 (0,0))∧Below W.heap.size W w2∧w2=W.alloc (.cells #[.int .u8 (t.kind:Int),.string (Lx.bs t.text),.int .i64 t.n,.int .i64 (t.at':Int)] 92)):=⟨by rw[hw2];exact heap_alloc_new W _,by rw[hw2];exact bnew _ _,hw2⟩
  clear hw2 hn hg
  go_enter Tryz.func104,Tryz.ntmps104
  go_wp2
  rw[←HE.out.2.2]
  exact bodyPost_ret (v:=tv t) (results_cell_row rfl _ _ W.heap.size 92 #[.int .u8 (t.kind:Int),.string (Lx.bs t.text),.int .i64 t.n,.int .i64 (t.at':Int)] (0,0) _ rfl HE.out.1 Tryz.underlying92 rfl (by kernel_rfl)) rfl ⟨rfl,HE.out.2.1⟩
end
end Ps
end Go.Proofs.YtfhkaffakniioaaGreatDoor
namespace Go.Proofs.YtfhkaffakniioaaGreatDoor
open Go.RowKit
namespace Lx
def dbl:Bs→Bs
 | []=>[]
 | b :: r=>if b=39 then 39 :: 39 :: dbl r else b :: dbl r
theorem index_ne {b:UInt8} {l:Bs} (h:b≠39):Lib.index (b :: l) [39]=if Lib.index l [39]==-1 then -1 else Lib.index l [39]+1:=by
 rw[Lib.index,if_neg (by simp[List.isPrefixOf];exact fun e=>h e.symm)]
theorem replaceK_ne {b:UInt8} {l:Bs} (h:b≠39):∀k,Lib.replaceK [39] [39,39] k (b :: l)=b :: Lib.replaceK [39] [39,39] k l
 | 0=>rfl
 | k+1=>by
  have hg:=Lib.index_ge l [39]
  rw[Lib.replaceK,Lib.replaceK,index_ne h]
  by_cases hi:Lib.index l [39]==-1
  ·rw[if_pos hi,if_pos hi];rfl
  ·rw[if_neg hi,if_neg hi]
   rw[beq_iff_eq] at hi
   rw[if_neg (by rw[beq_iff_eq];omega)]
   obtain⟨i,hi2⟩:∃i:Nat,Lib.index l [39]=(i:Int):=⟨(Lib.index l [39]).toNat,by omega⟩
   rw[hi2,show((i:Int)+1).toNat=i+1 by omega,Int.toNat_natCast]
   rfl
theorem replaceK_eq (l:Bs) (k:Nat):Lib.replaceK [39] [39,39] (k+1) (39 :: l)=39 :: 39 :: Lib.replaceK [39] [39,39] k l:=by
 have e:Lib.index (39 :: l) [39]=0:=by rw[Lib.index,if_pos (by simp[List.isPrefixOf])]
 rw[Lib.replaceK,e]
 rfl
theorem zcP:∀(l:Bs) (k:Nat),l.count 39≤k→Lib.replaceK [39] [39,39] k l=dbl l
 | [],k,_=>by
  cases k with
  | zero=>rfl
  | succ k=>rw[Lib.replaceK,if_pos (by rfl)];rfl
 | b :: r,k,h=>by
  by_cases hb:b=39
  ·subst hb
   rw[List.count_cons_self] at h
   obtain⟨k',rfl⟩:∃k',k=k'+1:=⟨k - 1,by omega⟩
   rw[replaceK_eq,dbl,if_pos rfl,zcP r k' (by omega)]
  ·rw[List.count_cons_of_ne hb] at h
   rw[replaceK_ne hb,dbl,if_neg hb,zcP r k h]
theorem replaceAll_dbl (t:Bs):Lib.replaceAll t [39] [39,39]=dbl t:=by
 rw[Lib.replaceAll,Lib.replace,if_neg (by decide),Lib.replaceNum,if_pos (.inl (by decide)),Lib.count_one]
 exact zcP t _ (Nat.le_refl _)
theorem dbl_len:∀t:Bs,(dbl t).length≤2*t.length
 | []=>Nat.le_refl _
 | b :: r=>by
  have:=dbl_len r
  rw[dbl]
  split<;>simp<;>omega
def wr (k:Nat) (t:Bs) (n:Int):Bs:=if k=3 then Lib.itoa n else if k=4 then [39]++dbl t++[39] else t
theorem cat3 (a b c:Bs):((bs a)++(bs b))++(bs c)=bs (a++b++c):=by
 apply ByteArray.ext
 simp[bs,ByteArray.data_append]
end Lx
def TB (W:World) (Q:Nat) (k:Nat) (t:Lx.Bs) (n a:Int):Prop:=W.heap[Q]?=some (.cells #[.int .u8 (k:Int),.string (Lx.bs t),.int .i64 n,.int .i64 a] 92 (0,0))
theorem TB.call {W W':World} {Q k:Nat} {t:Lx.Bs} {n a:Int} (h:TB W Q k t n a) (hb:Below W.heap.size W W'):TB W' Q k t n a:=(hb.block _ (Array.getElem?_eq_some_iff.1 h).1).trans h
theorem TB.cells {W:World} {Q k:Nat} {t:Lx.Bs} {n a:Int} (h:TB W Q k t n a):W.cell? ⟨Q,0,none⟩=some (.int .u8 (k:Int))∧W.cell? ⟨Q,1,none⟩=some (.string (Lx.bs t))∧W.cell? ⟨Q,2,none⟩=some (.int .i64 n)∧W.cell? ⟨Q,3,none⟩=some (.int .i64 a):=by
 refine⟨?_,?_,?_,?_⟩<;>(rw[cell_of_row _ _ _ _ _ _ h];rfl)
theorem written_c (k:Nat) (t:Lx.Bs) (n a:Int) (ht:t.length≤1024) (hn:-9223372036854775808≤n∧n≤9223372036854775807) (w:World) (hL:HasL w):Calls Tryz.prog 115 #[.agg #[.int .u8 (k:Int),.string (Lx.bs t),.int .i64 n,.int .i64 a]] w fun e w'=>e=.returned (.string (Lx.bs (Lx.wr k t n)))∧Below w.heap.size w w':=by
 obtain⟨w1,hw1⟩:∃w1,w1=w.alloc (.cells #[.int .u8 (k:Int),.string (Lx.bs t),.int .i64 n,.int .i64 a] 92):=⟨_,rfl⟩
 have hb1:Below w.heap.size w w1:=by rw[hw1];exact(Below.refl _ _).alloc (Nat.le_refl _) _
 have X1:Hid (TB w1 w.heap.size k t n a∧Below w.heap.size w w1):=⟨by rw[hw1];exact heap_alloc_new w _,hb1⟩
 have CF:Hid (Calls Tryz.prog 80 #[.int .i64 n,.int .i64 10] w1 fun e w'=>e=.returned (.string (Lx.bs (Lib.itoa n)))∧Below w1.heap.size w1 w'):=format_c n hn.1 hn.2 w1 (hL.stays hb1)
 obtain⟨R,hR⟩:∃R,R=Lx.bs (Lx.dbl t):=⟨_,rfl⟩
 have hRs:(R.size:Int)≤4096:=by have:=Lx.dbl_len t;rw[hR,Lx.bs_size];omega
 have CR:Hid (Calls Tryz.prog 144 #[.string (Lx.bs t),.string { data:=#[39] },.string { data:=#[39,39] }] w1 fun e w'=>e=.returned (.string R)∧Below w1.heap.size w1 w'):=by
  obtain⟨m,hm⟩:=(hL.stays hb1).mx
  have hsz:=Lx.bs_size t
  have hc:=Lib.countB_mul_le { data:=#[39] } (by decide) _ (Lx.bs t) (Nat.le_refl _)
  have h:=Tryz.strings_ReplaceAll (Lx.bs t) { data:=#[39] } { data:=#[39,39] } m w1 (by omega) hm (by decide) (by
   have e1:({ data:=#[39] }:ByteArray).size=1:=rfl
   have e2:({ data:=#[39,39] }:ByteArray).size=2:=rfl
   rw[e1] at hc
   rw[e2]
   omega)
  rw[Lx.bs_data] at h
  rw[hR,←Lx.replaceAll_dbl]
  exact h
 have HCAT:Hid (({ data:=#[39] }:ByteArray)++R++{ data:=#[39] }=Lx.bs ([39]++Lx.dbl t++[39])):=by
  rw[hR];exact Lx.cat3 [39] _ [39]
 clear hb1 hR hL hn ht
 go_enter Tryz.func115,Tryz.ntmps115
 go_upto_region 1 with fail
 rw[←hw1]
 clear hw1
 obtain⟨p0,p1,p2,p3⟩:=X1.out.1.cells
 have HB1:Hid (Below w.heap.size w w1):=X1.out.2
 by_cases h3:k=3
 ·subst h3
  have q3:(((3:Nat):Int)==3)=true:=rfl
  have HR:Hid (Lx.wr 3 t n=Lib.itoa n):=by show _=_;rw[Lx.wr,if_pos rfl]
  go_wp2_with fail
  refine Calls.mono CF.out ?_
  rintro e w2 ⟨rfl,hb2⟩
  have HF:=HB1.out.trans (hb2.mono HB1.out.size)
  clear hb2
  go_wp2
  go_ret
  exact⟨by rw[HR.out];rfl,HF⟩
 ·have q3:((k:Int)==3)=false:=by rw[beq_eq_false_iff_ne];omega
  by_cases h4:k=4
  ·subst h4
   have HR:Hid (Lx.wr 4 t n=[39]++Lx.dbl t++[39]):=by show _=_;rw[Lx.wr,if_neg (by decide),if_pos rfl]
   go_wp2_with fail
   refine Calls.mono CR.out ?_
   rintro e w2 ⟨rfl,hb2⟩
   have HF:=HB1.out.trans (hb2.mono HB1.out.size)
   clear hb2
   have e1:(({ data:=#[39] }:ByteArray).size:Int)=1:=rfl
   have e2:(({ data:=#[39] }++R:ByteArray).size:Int)=1+(R.size:Int):=by rw[ByteArray.size_append];show((1+R.size:Nat):Int)=_;omega
   go_wp2
   all_goals first
    |(exfalso;simp at *;omega)
    |(go_ret;exact⟨by rw[HR.out,←HCAT.out];rfl,HF⟩)
  ·have q4:((k:Int)==4)=false:=by rw[beq_eq_false_iff_ne];omega
   have HR:Hid (Lx.wr k t n=t):=by show _=_;rw[Lx.wr,if_neg h3,if_neg h4]
   have HF:=HB1.out
   go_wp2
   go_ret
   exact⟨by rw[HR.out];rfl,HF⟩
end Go.Proofs.YtfhkaffakniioaaGreatDoor
