/- JournalReads: any bytes are read as a block, as blocks in a row, any head has the text and the digest, as the document says: for whatever text and head the form lets in. -/
import Derived.Test.YtggnfejjcgbebaaGreatDoorYHM
import Derived.Test.YtggnfejjcgbebaaGreatDoorXFM
import Derived.Test.YtggnfejjcgbebaaGreatDoorJKM
namespace Go.Proofs.YtggnfejjcgbebaaGreatDoor
open Go.ChangeShapes Go.WideShapes Go.ChangeAt Go.RowKit
open Go.ChangeMaps (open_string shut_string)
open Vl (V)
namespace journalReadsx
set_option maxRecDepth 100000 in
theorem contract (H:Type) (enc:TypeId × Value→H) (W:World) (base:Nat) (args:Array Value) (ds gs:List (DataW H)) (before:List MemPlace)
    (hval:∀(j:Nat) t v,Tryz.f4.params[j]?=some t→args[j]?=some v→Value.okWide Tryz.prog W .any base t v)
    (hW:DataW.Whole enc Tryz.prog Tryz.f4.params.toList Rows.journalReadsSpec.vars false W args.toList ds gs before) (hsz0:(DataW.weightsEach Tryz.prog (Tryz.f4.params.toList++(OpenSpec.ofChange Rows.journalReadsSpec).bare.plain.varTypes Tryz.prog) (ds++gs)).all (·≤reachBytes)=true) (hL:laidMetH Tryz.prog Rows.journalReadsRow.laid W) :
    Calls Tryz.prog 4 args W fun e W'=>∃v,e=.returned v∧Rows.journalReadsSpec.post enc Tryz.prog Tryz.f4 false true false false W args v W':=by
  have hW':=hW
  obtain ⟨p,q,hA0,hV,rfl,hfz,hnd⟩:=hW
  have hA:DataW.TrodAll enc Tryz.prog W 0 (fun _=>true) true Tryz.f4.params.toList args.toList ds p:=hA0
  have hsz:(DataW.weightsEach Tryz.prog (Tryz.f4.params.toList++[]) (ds++gs)).all (·≤reachBytes)=true:=hsz0
  rw [Tryz.params4] at hA hval hsz
  obtain ⟨v0,vs0,d0,ds0,p0,q0,hargs,rfl,rfl,h0,r0⟩:=trodAll_cons hA
  obtain ⟨v1,vs1,d1,ds1,p1,q1,rfl,rfl,rfl,h1,r1⟩:=trodAll_cons r0
  obtain ⟨rfl,rfl,rfl⟩:=trodAll_nil r1
  obtain rfl:args=#[v0,v1]:=by cases args;simp_all
  obtain ⟨rfl,rfl⟩:=trodVars_none hV
  have k0:=h0
  obtain ⟨s0,rfl,rfl,rfl,_⟩:=open_string Tryz.underlying9 (hval 0 9 v0 rfl rfl) h0
  have hs0:s0.size≤140737488351232:=by
    have:=sized_string hsz (j:=0) (t:=9) rfl rfl
    rw [Lib.size_eq];exact this
  have hlt0:∀x∈([]:List MemPlace),x.block<W.heap.size:=fun x hx=>by cases hx
  have k1:=h1
  have hlt1:∀x∈p1,x.block<W.heap.size:=fun x hx=>by
    have:=hW'.lt x (by simp [hx])
    simpa using this
  obtain ⟨sq1,pv1,rt1,rn1,st1,rfl,hh1⟩:=open_head (hval 1 41 v1 rfl rfl) h1
  have hM:=met_of (L:=Rows.journalReadsRow.laid) (by kernel_rfl) hL
  have hK:HasK W:=hasK_in hM (by rw [←constants_is];simp [Rows.journalReadsRow])
  have hU:Bn.HasU W:=hasU_of hM (by simp [Rows.journalReadsRow]) (by simp [Rows.journalReadsRow])
  have main:Calls Tryz.prog 4 #[.string s0,.agg #[.int .u64 (sq1:Int),.string pv1,.string rt1,.int .u64 (rn1:Int),.string st1]] W fun e w'=>e=.returned (.bool true)∧Below W.heap.size W w':=reads_c s0 hs0 sq1 pv1 rt1 rn1 st1 hh1 W hU hK
  refine main.mono fun e W' ⟨he,hg⟩=>?_
  subst he
  exact ⟨_,rfl,law_post hW' hg rfl rfl rfl rfl rfl (trodAll_cons_mk (Below.trod laidOut (by kernel_rfl) (of_decide_eq_true (by kernel_rfl)) k0 hg hlt0) (trodAll_cons_mk (Below.trod laidOut (by kernel_rfl) (of_decide_eq_true (by kernel_rfl)) k1 hg hlt1) trodAll_mk0))⟩
theorem laid_met (os:Os):laidMet Tryz.prog Rows.journalReadsRow.laid ((World.laidAll Tryz.prog os Rows.journalReadsRow.laid).forCall (fun _ _=>0) ⟨#[],#[.string .empty,.agg #[.int .u64 0,.string .empty,.string .empty,.int .u64 0,.string .empty]],[]⟩).memory :=
  laidMet_laidAll _ (by kernel_rfl) (by kernel_rfl)
theorem reads (os:Os) {H:Type} (enc:TypeId × Value→H):∃places,DataW.whole enc Tryz.prog ((World.laidAll Tryz.prog os Rows.journalReadsRow.laid).forCall (fun _ _=>0) ⟨#[],#[.string .empty,.agg #[.int .u64 0,.string .empty,.string .empty,.int .u64 0,.string .empty]],[]⟩).memory Tryz.f4.params.toList Rows.journalReadsSpec.vars false (#[.string .empty,.agg #[.int .u64 0,.string .empty,.string .empty,.int .u64 0,.string .empty]]:Array Value).toList 8=some ([.lit (.string []),.agg [.lit (.int .u64 0),.lit (.string []),.lit (.string []),.lit (.int .u64 0),.lit (.string [])]],[],places) :=
  ⟨[],by kernel_rfl⟩
set_option maxRecDepth 100000 in
theorem lifted (os:Os) (started:os.Started) (H:Type) (enc:TypeId × Value→H) (F:Stop.Interp) :
    ReturnsInHanded {} Tryz.checked os 4 .any ((OpenSpec.ofChange Rows.journalReadsSpec).preRow enc Tryz.prog Tryz.f4 Rows.journalReadsRow.domain false Rows.journalReadsRow.laid) (((OpenSpec.ofChange Rows.journalReadsSpec).at F).post enc Tryz.prog Tryz.f4 false true false false):=by
  obtain ⟨places,hx⟩:=reads os enc
  refine returnsInHanded_of_row (C:=Tryz.checked) (s:=OpenSpec.ofChange Rows.journalReadsSpec) own started (by kernel_rfl) Tryz.func4
    (witness_row_atRef (enc:=enc) (C:=Tryz.checked) false (World.laidAll Tryz.prog os Rows.journalReadsRow.laid) #[.string .empty,.agg #[.int .u64 0,.string .empty,.string .empty,.int .u64 0,.string .empty]] (World.laidAll_os _ _ _) (by kernel_rfl) (by kernel_rfl) (by kernel_rfl)
      (OpenSpec.preRow_of_cond 8 hx (by kernel_rfl) (fun k hk=>by cases hk) (by kernel_rfl) (laid_met os))) ?_
  intro W base args ds gs before hval hW _ _ hsz hL _ _
  exact contract H enc W base args ds gs before hval hW hsz hL
theorem said:Rows.JournalReadsSaid :=
  OpenClaim.holds_of_cond 4 Tryz.f4 rfl rfl rfl rfl rfl rfl rfl ⟨rfl,rfl,rfl,rfl,rfl⟩ rfl rfl rfl rfl rfl (by kernel_rfl) Tryz.func4 (by kernel_rfl)
    (of_decide_eq_true (by kernel_rfl)) (by unfold Func.isWrapper;first | (rw [if_pos (by decide +kernel)];kernel_rfl) | (rw [if_neg (by decide +kernel)];exact ⟨rfl,rfl⟩))
    (fun os started H enc _ F=>by rw [OpenClaim.pre_eq_preRow];exact lifted os started H enc F)
theorem plain (f:FuncId) (fn:Func) (hf:Tryz.pinned.checked.prog.funcNamed "codicil/codicillaw06.JournalReads"=some f) (hfn:Tryz.pinned.checked.prog.funcs[f]?=some fn) :
    false=Tryz.pinned.checked.prog.looks []∧∀(j:Nat) t,fn.params[j]?=some t→Tryz.pinned.checked.prog.wantsStandIn t=false:=by
  obtain rfl:f=4:=Option.some.inj ((show Tryz.prog.funcNamed "codicil/codicillaw06.JournalReads"=some 4 by kernel_rfl).symm.trans hf) |>.symm
  obtain rfl:fn=Tryz.f4:=(Option.some.inj (Tryz.func4.symm.trans hfn)).symm
  refine ⟨by kernel_rfl,fun j t ht=>?_⟩
  rw [Tryz.params4] at ht
  have hm:t=9∨t=41:=by simpa [or_comm,or_left_comm,or_assoc] using Array.mem_of_getElem? ht
  rcases hm with rfl | rfl
  · exact (show Tryz.prog.wantsStandIn 9=false by kernel_rfl)
  · exact (show Tryz.prog.wantsStandIn 41=false by kernel_rfl)
theorem card:Rows.JournalReadsCardSaid :=
  Claim7.holds_tied_plain_at .later [] _ _ _ _ said (fun _ h=>by cases h) (by kernel_rfl) (fun _ h=>by cases h) journalReads_row_tie rfl ⟨rfl,rfl⟩ (by kernel_rfl) rfl plain (by kernel_rfl)
end journalReadsx
theorem journalReads_card:Rows.JournalReadsCardSaid:=journalReadsx.card
end Go.Proofs.YtggnfejjcgbebaaGreatDoor
