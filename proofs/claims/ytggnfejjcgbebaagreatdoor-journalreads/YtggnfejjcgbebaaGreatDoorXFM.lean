/- Several texts, joined: JnOpen, JnBo -/
import Derived.Test.YtggnfejjcgbebaaGreatDoorJKM
import Derived.Test.YtggnfejjcgbebaaGreatDoorQHM
import Derived.SliceStrings
import Derived.Test.YtggnfejjcgbebaaGreatDoorQEM
/- A block that is handed in. -/
namespace Go.Proofs.YtggnfejjcgbebaaGreatDoor
open Go.ChangeShapes Go.WideShapes Go.ChangeAt Go.RowKit
open Go.ChangeMaps (open_string shut_string)
open Vl (V)
theorem cellsU:Tryz.prog.cellsOf 22=1:=by kernel_rfl
theorem nat_u64 {z:Int} (h:(Lit.int .u64 z).wf=true):∃n:Nat,z=(n:Int)∧n<18446744073709551616:=by
  have h1:0≤z∧z≤18446744073709551615:=by
    simp only [Lit.wf,IntKind.min,IntKind.max,IntKind.signed,IntKind.bits,Bool.and_eq_true] at h
    simpa using h
  exact ⟨z.toNat,by omega,by omega⟩
end Go.Proofs.YtggnfejjcgbebaaGreatDoor
/- A revision, a number and a head as arguments, opened. -/
namespace Go.Proofs.YtggnfejjcgbebaaGreatDoor
open Go.ChangeShapes Go.WideShapes Go.ChangeAt Go.RowKit
open Vl (V)
set_option maxRecDepth 100000 in
theorem open_head {H:Type} {enc:TypeId × Value→H} {W:World} {r:Reach} {b0 base:Nat} {sp:Nat→Bool} {held:Bool} {v:Value} {d:DataW H} {p:List MemPlace}
    (hv:Value.okWide Tryz.prog W r b0 41 v) (h:DataW.Trod enc Tryz.prog W base sp held 41 v d p):∃(sq:Nat) (pv rt:ByteArray) (rn:Nat) (st:ByteArray),v=.agg #[.int .u64 (sq:Int),.string pv,.string rt,.int .u64 (rn:Int),.string st]∧sq<18446744073709551616∧pv.size≤maxLen∧rt.size≤maxLen∧rn<18446744073709551616∧st.size≤maxLen:=by
  obtain ⟨cs,rfl,hsz⟩:=okWide_struct Tryz.underlying41 hv
  obtain ⟨fuel,hf⟩:=h
  obtain ⟨xs,n,hn,_,hl,hxl,hf⟩:=DataW.trod_struct Tryz.underlying41 hf
  have hcl:cs.toList.length=5:=hsz.trans (by kernel_rfl)
  obtain ⟨c0,c1,c2,c3,c4,hcs⟩:=Jn.list5 hcl
  have e:cs=#[c0,c1,c2,c3,c4]:=by rw [←Array.toArray_toList (xs:=cs),hcs]
  subst e
  have f0:DataW.trod enc Tryz.prog W base sp held n 22 (([c0,c1,c2,c3,c4].drop 0).take (Tryz.prog.cellsOf 22))=xs[0]?:=hf 0 _ rfl
  have f1:DataW.trod enc Tryz.prog W base sp held n 9 (([c0,c1,c2,c3,c4].drop 1).take (Tryz.prog.cellsOf 9))=xs[1]?:=hf 1 _ rfl
  have f2:DataW.trod enc Tryz.prog W base sp held n 9 (([c0,c1,c2,c3,c4].drop 2).take (Tryz.prog.cellsOf 9))=xs[2]?:=hf 2 _ rfl
  have f3:DataW.trod enc Tryz.prog W base sp held n 22 (([c0,c1,c2,c3,c4].drop 3).take (Tryz.prog.cellsOf 22))=xs[3]?:=hf 3 _ rfl
  have f4:DataW.trod enc Tryz.prog W base sp held n 9 (([c0,c1,c2,c3,c4].drop 4).take (Tryz.prog.cellsOf 9))=xs[4]?:=hf 4 _ rfl
  have get:∀i,i<5→∃y,xs[i]?=some y:=fun i hi=>⟨_,List.getElem?_eq_getElem (by rw [hxl];exact hi)⟩
  obtain ⟨y0,e0⟩:=get 0 (by omega)
  obtain ⟨y1,e1⟩:=get 1 (by omega)
  obtain ⟨y2,e2⟩:=get 2 (by omega)
  obtain ⟨y3,e3⟩:=get 3 (by omega)
  obtain ⟨y4,e4⟩:=get 4 (by omega)
  rw [e0,cellsU] at f0
  rw [e1,cells9] at f1
  rw [e2,cells9] at f2
  rw [e3,cellsU] at f3
  rw [e4,cells9] at f4
  simp only [List.drop_zero,List.drop_succ_cons,List.take_succ_cons,List.take_zero] at f0 f1 f2 f3 f4
  obtain ⟨q,hq,_,wq⟩:=DataW.trod_int Tryz.underlying22 f0
  obtain ⟨s1,hs1,_,ws1⟩:=DataW.trod_string Tryz.underlying9 f1
  obtain ⟨s2,hs2,_,ws2⟩:=DataW.trod_string Tryz.underlying9 f2
  obtain ⟨q3,hq3,_,wq3⟩:=DataW.trod_int Tryz.underlying22 f3
  obtain ⟨s4,hs4,_,ws4⟩:=DataW.trod_string Tryz.underlying9 f4
  simp only [List.cons.injEq,and_true] at hq hs1 hs2 hq3 hs4
  obtain ⟨qn,rfl,hq2⟩:=nat_u64 wq
  obtain ⟨qm,rfl,hq4⟩:=nat_u64 wq3
  subst hq hs1 hs2 hq3 hs4
  exact ⟨qn,s1,s2,qm,s4,rfl,hq2,ws1,ws2,hq4,ws4⟩
end Go.Proofs.YtggnfejjcgbebaaGreatDoor
