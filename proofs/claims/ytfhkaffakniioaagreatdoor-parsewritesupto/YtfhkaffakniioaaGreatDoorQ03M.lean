/- Several texts, joined. -/
import Derived.Test.YtfhkaffakniioaaGreatDoorQ02M
import Derived.Test.YtfhkaffakniioaaGreatDoorQ01M
import Derived.Shelf.Strings.SlTrimAscii
import Derived.Laws.ResultCell
set_option maxHeartbeats 2000000
set_option maxRecDepth 100000
namespace Go.Proofs.YtfhkaffakniioaaGreatDoor
open Go.RowKit
theorem sizeBld:(Tryz.prog.info? 73).map (·.size)=some 2:=by kernel_rfl
theorem liesBld:liesAt Tryz.prog Tryz.prog.depth 73 (2 / Tryz.prog.cellsOf 73) 0 73 1=true:=by kernel_rfl
theorem zdQ:(Tryz.prog.info? 5).map (fun i=>(i.zero,i.size,i.bytes))=some (some (.int .u8 0),1,1):=by kernel_rfl
theorem ccUsed_c (b:Nat) (w:World) (h0:w.cell? ⟨b,0,none⟩=some (.pointer (some ⟨b,0,none⟩))) :
  Calls Tryz.prog 78 #[.pointer (some ⟨b,0,none⟩)] w fun e w'=>e=.returned (.tuple #[])∧w'=w:=by
 obtain⟨j,hj,_⟩:=Option.map_eq_some_iff.1 sizeBld
 go_enter Tryz.func78,Tryz.ntmps78
 go_wp2
 rw[Lib.run_neq_ptr_same w _ Tryz.underlying70 hj]
 go_wp2
 go_end0
 exact⟨rfl,rfl⟩
theorem ccFresh_c (b:Nat) (w:World) (h0:w.cell? ⟨b,0,none⟩=some (.pointer none)) (hsh:w.shape? b=some (73,2)) (hfz:w.frozen? ⟨b,0,none⟩=false) :
  Calls Tryz.prog 78 #[.pointer (some ⟨b,0,none⟩)] w fun e w'=>e=.returned (.tuple #[])∧w'=w.setCell ⟨b,0,none⟩ (.pointer (some ⟨b,0,none⟩)):=by
 obtain⟨j,hj,hjs⟩:=Option.map_eq_some_iff.1 sizeBld
 go_enter Tryz.func78,Tryz.ntmps78
 go_wp2
 rw[Lib.run_to_unsafe w ⟨b,0,none⟩ Tryz.underlying70 Tryz.underlying127 hj (by rw[hjs];decide) hsh (Nat.zero_lt_succ 1)]
 simp only[Result.andThen]
 rw[Oper.upon_value]
 go_wp2
 rw[run_callFunc_extern Tryz.func112 (by kernel_rfl) (by kernel_rfl) (by kernel_rfl) (e:=Extern.AbiNoEscape.same) (by kernel_rfl)]
 rw[Lib.run_noEscape]
 simp only[Result.andThen]
 rw[Oper.upon_value]
 go_wp2
 rw[Lib.run_from_unsafe w ⟨b,0,none⟩ Tryz.underlying127 Tryz.underlying70 hj hsh liesBld]
 simp only[Result.andThen]
 rw[Oper.upon_value]
 go_wp2
 go_end0
 exact⟨rfl,rfl⟩
theorem cc_c (B b:Nat) (bs:List Value) (w:World) (h:Lib.IsBuilder 73 5 B b bs w) :
  Calls Tryz.prog 78 #[.pointer (some ⟨b,0,none⟩)] w fun e w'=>e=.returned (.tuple #[])∧Lib.BuilderAt 73 5 B b (.pointer (some ⟨b,0,none⟩)) bs w'∧Below B w w':=by
 rcases h with h | h
 ·refine(ccFresh_c b w h.cell0 h.shape h.frozen0).mono ?_
  rintro e w' ⟨rfl,rfl⟩
  exact⟨rfl,h.used _,(Below.refl B w).setCell (p:=⟨b,0,none⟩) h.1 _⟩
 ·refine(ccUsed_c b w h.cell0).mono ?_
  rintro e w' ⟨rfl,rfl⟩
  exact⟨rfl,h,Below.refl B _⟩
theorem writeByte_c (B b:Nat) (bs:List Value) (c:Int) (w:World) (h:Lib.IsBuilder 73 5 B b bs w) (hlen:bs.length+1≤140737488355328) (hBw:B≤w.heap.size) :
  Calls Tryz.prog 129 #[.pointer (some ⟨b,0,none⟩),.int .u8 c] w fun e w'=>e=.returned .nilIface∧Lib.BuilderAt 73 5 B b (.pointer (some ⟨b,0,none⟩)) (bs++[.int .u8 c]) w'∧Below B w w':=by
 obtain⟨i0,hi,hz0,hz1,hz2⟩:=Go.info_parts zdQ
 have C:Hid (Calls Tryz.prog 78 #[.pointer (some ⟨b,0,none⟩)] w fun e w'=>e=.returned (.tuple #[])∧Lib.BuilderAt 73 5 B b (.pointer (some ⟨b,0,none⟩)) bs w'∧Below B w w'):=cc_c B b bs w h
 clear h
 go_enter Tryz.func129,Tryz.ntmps129
 go_wp2_with fail
 refine C.out.mono ?_
 rintro e w1 ⟨rfl,h1,hb1⟩
 obtain⟨hB,v,hbk,hown,hne⟩:=h1
 have c0:w1.cell? ⟨b,0,none⟩=some (.pointer (some ⟨b,0,none⟩)):=by rw[Lib.cell_of_heap hbk];rfl
 have c1:w1.cell? ⟨b,1,none⟩=some v:=by rw[Lib.cell_of_heap hbk];rfl
 go_wp2_with (at_builtin;refine wpList_append_own _ rfl _ _ 71 rfl B 5 i0 (.int .u8 0) 1 1 Tryz.underlying71 hi hz0 hz1 hz2 rfl (by decide) _ _ _ rfl (hown.alloc _) ⟨w1.heap.size,0,none⟩ 1 1 [.int .u8 c] rfl rfl ?c1 ?c2 ?c3 ?c4 ?c5 ?_)
 case c1 =>
  intro j u hj
  match j,hj with
  | 0,hj=>simp at hj;subst hj;simp[Addr.add]
 case c2=>intro u hu;simp at hu;subst hu;rfl
 case c3=>unfold maxLen;omega
 case c4=>omega
 case c5=>have:=hb1.size;simp;omega
 intro v' w2 hown' hgrow _
 have hlt:b<w1.heap.size:=(Array.getElem?_eq_some_iff.1 hbk).1
 have hb2:w2.heap[b]?=some (.cells #[.pointer (some ⟨b,0,none⟩),v] 73 (0,0)):=by
  rw[hgrow.block b (by simp;omega) (fun e=>hne e.symm),Lib.alloc_old w1 _ b hlt]
  exact hbk
 have d0:w2.cell? ⟨b,0,none⟩=some (.pointer (some ⟨b,0,none⟩)):=by rw[Lib.cell_of_heap hb2];rfl
 have d1:w2.cell? ⟨b,1,none⟩=some v:=by rw[Lib.cell_of_heap hb2];rfl
 have f1:w2.frozen? ⟨b,1,none⟩=false:=Lib.frozen_of_heap hb2 1
 obtain⟨g,cap,rfl⟩:∃g cap,v'=.slice (some ⟨g,0,none⟩) (bs.length+1) cap:=by
  rcases hown'.2 with ⟨_,h0⟩ | ⟨g,cap,cur,hv,_⟩
  ·omega
  ·exact⟨g,cap,hv⟩
 go_wp2
 go_ret
 refine⟨rfl,?_,?_⟩
 ·exact Lib.BuilderAt.put (T:=73) (e:=5) hB hb2 (bs':=bs++[.int .u8 c]) (by simpa using hown') (by decide)
 ·exact((hb1.alloc (by have:=hb1.size;omega) _).grown hgrow (by have:=hb1.size;simp;omega) (fun k hk=>(hown.lt k hk).1)).setCell (p:=⟨b,1,none⟩) hB _
end Go.Proofs.YtfhkaffakniioaaGreatDoor
namespace Go.Proofs.YtfhkaffakniioaaGreatDoor
open Go.RowKit
structure HasL (w:World):Prop where
 utf:Lib.Utf8Tabs 0 1 w
 pow:Lib.TabIs Tryz.prog w "internal/strconv.uint64pow10" .u64 Lib.pow10Tab
 syn:∃ev,w.cell? ⟨5,0,none⟩=some ev∧(ev=.nilIface∨∃te pe,ev=.iface te pe)
 rng:∃ev,w.cell? ⟨6,0,none⟩=some ev∧(ev=.nilIface∨∃te pe,ev=.iface te pe)
 mx:∃m,w.cell? ⟨3,0,none⟩=some (.int .i64 m)
theorem Lx.lt_of_cell {w:World} {g o:Nat} {v:Value} (h:w.cell? ⟨g,o,none⟩=some v):g<w.heap.size:=by
 unfold World.cell? at h
 cases hh:w.heap[g]? with
 | none=>simp[hh] at h
 | some o=>exact(Array.getElem?_eq_some_iff.1 hh).1
theorem HasL.stays {w w':World} (h:HasL w) (hb:Below w.heap.size w w'):HasL w':=by
 have keep:∀(g o:Nat) (v:Value),w.cell? ⟨g,o,none⟩=some v→w'.cell? ⟨g,o,none⟩=some v:=fun g o v hv=>(hb.cell (p:=⟨g,o,none⟩) (Lx.lt_of_cell hv)).trans hv
 refine⟨⟨fun c hc=>keep _ _ _ (h.utf.1 c hc),fun i hi=>⟨keep _ _ _ (h.utf.2 i hi).1,keep _ _ _ (h.utf.2 i hi).2⟩⟩,?_,h.syn.imp fun ev e=>⟨keep _ _ _ e.1,e.2⟩,h.rng.imp fun ev e=>⟨keep _ _ _ e.1,e.2⟩,h.mx.imp fun m e=>keep _ _ _ e⟩
 have hp:=h.pow
 unfold Lib.TabIs World.var? at hp ⊢
 cases hg:Tryz.prog.globalNamed "internal/strconv.uint64pow10" with
 | none=>rw[hg] at hp;simp at hp
 | some g =>
  rw[hg] at hp
  simp only[Option.bind_some] at hp ⊢
  have hlt:g<w.heap.size:=by
   rcases Nat.lt_or_ge g w.heap.size with h1 | h1
   ·exact h1
   ·rw[Array.getElem?_eq_none h1] at hp
    simp at hp
  rw[hb.block g hlt]
  exact hp
namespace Lx
def bl:Bs→Nat
 | []=>0
 | b :: r=>if b=32∨b=9∨b=10∨b=13 then bl r+1 else 0
theorem bl_le:∀s:Bs,bl s≤s.length
 | []=>Nat.le_refl _
 | b :: r=>by
  rw[bl]
  split
  ·have:=bl_le r;simp;omega
  ·exact Nat.zero_le _
theorem trim_bl:∀s:Bs,Lib.trimLeftS s [32,9,10,13]=s.drop (bl s)
 | []=>rfl
 | b :: r=>by
  have ih:=trim_bl r
  unfold Lib.trimLeftS at ih ⊢
  rw[bl,List.dropWhile_cons]
  by_cases h:b=32∨b=9∨b=10∨b=13
  ·rw[if_pos h,if_pos (by simp;exact h),ih];rfl
  ·rw[if_neg h,if_neg (by simpa [not_or] using h)];rfl
end Lx
theorem info116:(Tryz.prog.info? 146).map (fun i=>(i.zero,i.size))=some (some (.agg (Array.replicate 256 (.bool false))),256):=by kernel_rfl
theorem trimLeft_c (l:Lx.Bs) (w:World):Calls Tryz.prog 101 #[.string (Lx.bs l),.string { data:=#[32,9,10,13] }] w fun e w'=>e=.returned (.string (Lx.bs (l.drop (Lx.bl l))))∧Below w.heap.size w w':=by
 have h:=Any.strings_TrimLeft_laid Tryz.lays161 info116 (Lx.bs l) { data:=#[32,9,10,13] } w (by decide) (ascii_of_all (by decide))
 rw[Lx.bs_data] at h
 refine Calls.mono h ?_
 rintro e w' ⟨rfl,hb⟩
 exact⟨by rw[←Lx.trim_bl];rfl,hb⟩
theorem behindBlanks_c (l:Lx.Bs) (at':Nat) (ha:at'≤l.length) (hl:l.length≤16384) (w:World):Calls Tryz.prog 68 #[.string (Lx.bs l),.int .i64 (at':Int)] w fun e w'=>e=.returned (.int .i64 ((at'+Lx.bl (l.drop at'):Nat):Int))∧Below w.heap.size w w':=by
 have hsl:=fun wx=>Lx.slice_from l (at':Int) at' rfl ha wx
 obtain⟨s,hs⟩:∃s,s=Lx.bs l:=⟨_,rfl⟩
 obtain⟨s1,hs1⟩:∃s1,s1=Lx.bs (l.drop at'):=⟨_,rfl⟩
 obtain⟨s2,hs2⟩:∃s2,s2=Lx.bs ((l.drop at').drop (Lx.bl (l.drop at'))):=⟨_,rfl⟩
 have C:Hid (Calls Tryz.prog 101 #[.string s1,.string { data:=#[32,9,10,13] }] w fun e w'=>e=.returned (.string s2)∧Below w.heap.size w w'):=by rw[hs1,hs2];exact trimLeft_c _ w
 have hz:wrap64 ((s.size:Int) - (s2.size:Int))=((at'+Lx.bl (l.drop at'):Nat):Int):=by
  have h1:=Lx.bl_le (l.drop at')
  rw[List.length_drop] at h1
  rw[hs,hs2,Lx.bs_size,Lx.bs_size,List.length_drop,List.length_drop]
  unfold wrap64
  omega
 rw[←hs,←hs1] at hsl
 rw[←hs]
 clear hs hs1 hs2
 go_enter Tryz.func68,Tryz.ntmps68
 go_wp2_with fail
 refine C.out.mono ?_
 rintro e w1 ⟨rfl,hb1⟩
 go_wp2
 go_ret
 exact⟨by rw[←hz];rfl,hb1⟩
end Go.Proofs.YtfhkaffakniioaaGreatDoor
namespace Go.Proofs.YtfhkaffakniioaaGreatDoor
open Go.RowKit
theorem infoTok:(Tryz.prog.info? 92).map (·.size)=some 4:=by kernel_rfl
theorem zbJ {P:Program} {fn:Func} {p u v:Tmp} {ty:TypeId} (h:fn.results=#[.cell p ty,.tmp u,.tmp v]) (tmps:Array Value) (w:World) (g:Nat) (t:TypeId) (cs:Array Value) (fr:Nat × Nat) (d:TypeDesc)
  (hp:tmps.getD p undef=.pointer (some ⟨g,0,none⟩)) (hg:w.heap[g]?=some (.cells cs t fr))
  (hu:P.underlying ty=some d) (hd:(match d with | .struct _ | .array _ _=>true | _=>false)=true) (hi:(P.info? ty).map (·.size)=some cs.size) :
  (results fn tmps).run P w=.ok (.tuple #[.agg cs,tmps.getD u undef,tmps.getD v undef]) w:=by
 have h1:(results fn tmps).run P w=((asAddr (tmps.getD p undef)).run P w).andThen fun a w₁=>((loadVar ty a).run P w₁).andThen fun x w₂=>.ok (.tuple #[x,tmps.getD u undef,tmps.getD v undef]) w₂:=by
  simp only[results,h]
  simp[Sem.run_bind,Result.andThen]
 rw[h1,hp]
 simp[asAddr,run_loadVar_row w g t ty cs fr d hg hu hd hi]
namespace Lx
structure R where
 err:Nat
 kind:Nat
 text:Bs
 n:Int
 size:Nat
def no (e:Nat):R:=⟨e,0,[],0,0⟩
def word (l:Bs):R:=if isKey (l.take (wsz l)) then ⟨0,2,great (l.take (wsz l)),0,wsz l⟩ else if 64<wsz l then no 13 else ⟨0,1,l.take (wsz l),0,wsz l⟩
def numOf (d:Bs):Option Int:=match Lib.parseIntB 64 d with
 | .ok v=>if Lib.itoa v=d then some v else none
 | _=>none
def numb (l:Bs):R:=match numOf (l.take (wsz l)) with
 | some v=>⟨0,3,[],v,wsz l⟩
 | none=>no 13
def tok (t:Bs) (n:Nat):R:=if 1024<t.length then no 4 else if Lib.validD t=false then no 9 else ⟨0,4,t,0,n⟩
def quo:Bs→Option (Bs × Nat)
 | []=>none
 | 39 :: 39 :: r=>(quo r).map fun x=>(39 :: x.1,x.2+2)
 | 39 :: _=>some ([],1)
 | b :: r=>(quo r).map fun x=>(b :: x.1,x.2+1)
def text (l:Bs):R:=match quo (l.drop 1) with
 | some (t,n)=>tok t (n+1)
 | none=>no 13
def sign (l:Bs):R:=⟨0,5,l.take (sgn l),0,sgn l⟩
def tc (k:Nat) (t:Bs) (n:Int) (a:Nat):Array Value:=#[.int .u8 (k:Int),.string (bs t),.int .i64 n,.int .i64 (a:Int)]
def gave (r:R):Ending:=.returned (.tuple #[.agg (tc r.kind r.text r.n 0),.int .i64 (r.size:Int),.int .i64 (r.err:Int)])
end Lx
def T4 (w W:World):Prop:=Below w.heap.size w W∧W.heap[w.heap.size]?=some (.cells #[.int .u8 0,.string ⟨#[]⟩,.int .i64 0,.int .i64 0] 92 (0,0))
theorem T4.call {w W W':World} (h:T4 w W) (hb:Below W.heap.size W W'):T4 w W':=⟨h.1.trans (hb.mono h.1.size),(hb.block _ (Array.getElem?_eq_some_iff.1 h.2).1).trans h.2⟩
theorem T4.start (w:World):T4 w (w.alloc (.cells #[.int .u8 0,.string ⟨#[]⟩,.int .i64 0,.int .i64 0] 92)):=⟨(Below.refl _ _).alloc (Nat.le_refl _) _,heap_alloc_new w _⟩
theorem T4.cells {w W:World} (h:T4 w W):W.cell? ⟨w.heap.size,0,none⟩=some (.int .u8 0)∧W.cell? ⟨w.heap.size,1,none⟩=some (.string ⟨#[]⟩)∧W.cell? ⟨w.heap.size,2,none⟩=some (.int .i64 0)∧W.cell? ⟨w.heap.size,3,none⟩=some (.int .i64 0)∧∀r,W.frozen? ⟨w.heap.size,r,none⟩=false:=by
 refine⟨?_,?_,?_,?_,fun r=>?_⟩
 ·rw[cell_of_row _ _ _ _ _ _ h.2];rfl
 ·rw[cell_of_row _ _ _ _ _ _ h.2];rfl
 ·rw[cell_of_row _ _ _ _ _ _ h.2];rfl
 ·rw[cell_of_row _ _ _ _ _ _ h.2];rfl
 ·exact Lib.frozen_of_heap h.2 r
theorem T4.put {w W:World} (h:T4 w W) (a0 a1 a2 a3:Value):(W.setCells w.heap.size 0 [a0,a1,a2,a3]).heap[w.heap.size]?=some (.cells #[a0,a1,a2,a3] 92 (0,0))∧Below w.heap.size w (W.setCells w.heap.size 0 [a0,a1,a2,a3]):=by
 have e:W.setCells w.heap.size 0 [a0,a1,a2,a3]=((((W.setCell ⟨w.heap.size,0,none⟩ a0).setCell ⟨w.heap.size,1,none⟩ a1).setCell ⟨w.heap.size,2,none⟩ a2).setCell ⟨w.heap.size,3,none⟩ a3):=rfl
 rw[e]
 refine⟨?_,(((h.1.setCell (Nat.le_refl _) _).setCell (Nat.le_refl _) _).setCell (Nat.le_refl _) _).setCell (Nat.le_refl _) _⟩
 have h1:=heap_setCell_same W _ 0 _ 92 a0 h.2
 have h2:=heap_setCell_same _ _ 1 _ 92 a1 h1
 have h3:=heap_setCell_same _ _ 2 _ 92 a2 h2
 have h4:=heap_setCell_same _ _ 3 _ 92 a3 h3
 exact h4
theorem zaZ {fn:Func} {p u v:Tmp} {w W:World} {tmps:Array Value} {r:Lx.R} (hr:fn.results=#[.cell p 92,.tmp u,.tmp v]) (h:T4 w W) (hp:tmps.getD p undef=.pointer (some ⟨w.heap.size,0,none⟩)) (hu:tmps.getD u undef=.int .i64 (r.size:Int)) (hv:tmps.getD v undef=.int .i64 (r.err:Int)) :
  bodyPost Tryz.prog fn (fun e w'=>e=Lx.gave r∧Below w.heap.size w w') .ret ⟨tmps,[]⟩ ((((W.setCell ⟨w.heap.size,0,none⟩ (.int .u8 (r.kind:Int))).setCell ⟨w.heap.size,1,none⟩ (.string (Lx.bs r.text))).setCell ⟨w.heap.size,2,none⟩ (.int .i64 r.n)).setCell ⟨w.heap.size,3,none⟩ (.int .i64 0)):=by
 obtain⟨HA,HB⟩:=h.put (.int .u8 (r.kind:Int)) (.string (Lx.bs r.text)) (.int .i64 r.n) (.int .i64 0)
 refine bodyPost_ret (zbJ hr tmps _ w.heap.size 92 _ (0,0) _ hp HA Tryz.underlying92 rfl infoTok) rfl ⟨?_,HB⟩
 rw[hu,hv]
 rfl
theorem textToken_c (t:Lx.Bs) (n:Nat) (ht:t.length≤16384) (w:World) (hL:HasL w):Calls Tryz.prog 128 #[.string (Lx.bs t),.int .i64 (n:Int)] w fun e w'=>e=Lx.gave (Lx.tok t n)∧Below w.heap.size w w':=by
 obtain⟨w1,hw1⟩:∃w1,w1=w.alloc (.cells #[.int .u8 0,.string ⟨#[]⟩,.int .i64 0,.int .i64 0] 92):=⟨_,rfl⟩
 have X1:Hid (T4 w w1):=by rw[hw1];exact T4.start w
 obtain⟨s,hs⟩:∃s,s=Lx.bs t:=⟨_,rfl⟩
 obtain⟨u,hu⟩:∃u,u=Lib.validD t:=⟨_,rfl⟩
 have hsz:(s.size:Int)=(t.length:Int):=by rw[hs,Lx.bs_size]
 have CV:Hid (Calls Tryz.prog 57 #[.string s] w1 fun e w'=>e=.returned (.bool u)∧Below w1.heap.size w1 w'):=by
  have h:=Any.utf8_ValidString Tryz.laysValid s w1 (by omega) (hL.stays (X1.out.1)).utf
  rw[hs,Lx.bs_data,←hu] at h
  rw[hs]
  exact h
 have HU:Hid (u=Lib.validD t):=hu
 have HS:Hid (s=Lx.bs t):=hs
 rw[←hs]
 clear hs hu
 go_enter Tryz.func128,Tryz.ntmps128
 go_upto_region 1 with fail
 rw[←hw1]
 clear hw1
 by_cases h1:1024<t.length
 ·have q1:(1024:Int)<(s.size:Int):=by omega
  have HR:Hid (Lx.tok t n=Lx.no 4):=by show _=_;rw[Lx.tok,if_pos h1]
  obtain⟨p0,p1,p2,p3,fz⟩:=X1.out.cells
  go_wp2
  rw[HR.out]
  exact zaZ (r:=Lx.no 4) rfl X1.out rfl rfl rfl
 ·have q1:¬(1024:Int)<(s.size:Int):=by omega
  go_wp2_with fail
  refine CV.out.mono ?_
  rintro e w2 ⟨rfl,hb2⟩
  have X2:Hid (T4 w w2):=X1.out.call hb2
  obtain⟨p0,p1,p2,p3,fz⟩:=X2.out.cells
  clear hb2 X1 CV
  cases u with
  | false =>
   have HR:Hid (Lx.tok t n=Lx.no 9):=by show _=_;rw[Lx.tok,if_neg h1,if_pos HU.out.symm]
   go_wp2
   rw[HR.out]
   exact zaZ (r:=Lx.no 9) rfl X2.out rfl rfl rfl
  | true =>
   have HR:Hid (Lx.tok t n=⟨0,4,t,0,n⟩):=by show _=_;rw[Lx.tok,if_neg h1,if_neg (by rw[←HU.out];decide)]
   go_wp2
   rw[HR.out,HS.out]
   exact zaZ (r:=⟨0,4,t,0,n⟩) rfl X2.out rfl rfl rfl
end Go.Proofs.YtfhkaffakniioaaGreatDoor
