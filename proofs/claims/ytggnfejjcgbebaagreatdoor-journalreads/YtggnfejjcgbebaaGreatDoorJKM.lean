/- Several texts, joined: VOpen, KOpen -/
import Derived.Test.YtggnfejjcgbebaaGreatDoorBinUM
import Derived.Test.YtggnfejjcgbebaaGreatDoorCards
import Derived.Test.YtggnfejjcgbebaaGreatDoorTie
import Derived.ProofKit
import Derived.OpenShut
import Derived.Deep.Slices
import Derived.Deep.DeepHandedRow
import Derived.SizedLaws
import Derived.Lib.LaidU8T
import Derived.Lay
import Derived.Deep.DeepWitnessRowRef
import Derived.Test.YtggnfejjcgbebaaGreatDoorJGM
import Derived.Lib.LaidTab
/- A value handed in, opened: whatever reads as a value lies as one. -/
namespace Go.Proofs.YtggnfejjcgbebaaGreatDoor
open Go.ChangeShapes Go.WideShapes Go.ChangeAt Go.RowKit
open Vl (V)
theorem cells9:Tryz.prog.cellsOf 9=1:=by kernel_rfl
theorem u8x:U8Extra Tryz.prog Tryz.laysValid_ren:=⟨by kernel_rfl,by kernel_rfl,by kernel_rfl,by kernel_rfl,by kernel_rfl,by kernel_rfl,by kernel_rfl⟩
theorem first_is:Rows.laid_unicode_utf8_first=Lib.firstData:=by kernel_rfl
theorem accept_is:(Rows.laid_unicode_utf8_acceptRanges:DataW Unit)=Lib.acceptData:=by kernel_rfl
theorem own:ownKnob Tryz.prog.godebug=none:=by kernel_rfl
theorem laidOut:laidOutB Tryz.prog=true:=by kernel_rfl
theorem law_post {H:Type} {enc:TypeId × Value→H} {f:Func} {sp:ChangeSpec} {W W':World} {args:Array Value} {ds gs:List (DataW H)} {before pa:List MemPlace}
    (hW:DataW.Whole enc Tryz.prog f.params.toList sp.vars false W args.toList ds gs before) (hb:Below W.heap.size W W')
    (hres:f.resultTypes=#[4]) (hfr:(sp.fn H (ds++gs)).results=[.lit (.bool true)]) (hfa:(sp.fn H (ds++gs)).args=ds) (hfv:sp.vars=[]) (hfv2:(sp.fn H (ds++gs)).vars=[])
    (hargs:DataW.TrodAll enc Tryz.prog W' 0 (fun b=>decide (b<W.heap.size)) true f.params.toList args.toList ds pa) :
    sp.post enc Tryz.prog f false true false false W args (.bool true) W':=by
  refine ⟨ds,gs,before,[],pa,[],hW,?_,?_,?_,hb.frame _,fun h=>by cases h⟩
  · rw [hres,hfr]
    exact trodAll_cons_mk (shut_bool Tryz.underlying4 _) trodAll_mk0
  · rw [hfa];exact hargs
  · rw [hfv,hfv2];rfl
theorem hasU_of {W:World} {L:List (String × DataW Unit)} (h:laidMet Tryz.prog L W) (h1:("unicode/utf8.first",Rows.laid_unicode_utf8_first)∈L) (h2:("unicode/utf8.acceptRanges",(Rows.laid_unicode_utf8_acceptRanges:DataW Unit))∈L):Bn.HasU W:=by
  have r1:Lib.VarReads Tryz.prog W "unicode/utf8.first" Rows.laid_unicode_utf8_first:=Lib.laidMet.reads h h1
  have r2:Lib.VarReads Tryz.prog W "unicode/utf8.acceptRanges" Rows.laid_unicode_utf8_acceptRanges:=Lib.laidMet.reads h h2
  rw [first_is] at r1
  rw [accept_is] at r2
  exact ⟨utf8Tabs_of_readsT (U8Types.of196 Tryz.laysValid) u8x r1 r2⟩
theorem met_of {W:World} {L:List (String × DataW Unit)} (hn:(L.filter fun x=>x.2.handleName?.isSome)=[]) (h:laidMetH Tryz.prog L W):laidMet Tryz.prog L W:=by
  unfold laidMetH at h
  rw [hn] at h
  exact h
end Go.Proofs.YtggnfejjcgbebaaGreatDoor
/- The table of constants, out of what a row lists. -/
namespace Go.Proofs.YtggnfejjcgbebaaGreatDoor
open Go.ChangeShapes Go.WideShapes Go.ChangeAt Go.RowKit
theorem gTab:Tryz.prog.globalNamed "codicil/sha.constants"=some 2:=by kernel_rfl
theorem gTabType:(Tryz.prog.globals[2]?).map (·.type)=some 163:=by kernel_rfl
theorem cells50:Tryz.prog.cellsOf 163=64:=by kernel_rfl
theorem cells25:Tryz.prog.cellsOf 99=1:=by kernel_rfl
def KI:List Int:=[1116352408,1899447441,3049323471,3921009573,961987163,1508970993,2453635748,2870763221,3624381080,310598401,607225278,1426881987,1925078388,2162078206,2614888103,3248222580,3835390401,4022224774,264347078,604807628,770255983,1249150122,1555081692,1996064986,2554220882,2821834349,2952996808,3210313671,3336571891,3584528711,113926993,338241895,666307205,773529912,1294757372,1396182291,1695183700,1986661051,2177026350,2456956037,2730485921,2820302411,3259730800,3345764771,3516065817,3600352804,4094571909,275423344,430227734,506948616,659060556,883997877,958139571,1322822218,1537002063,1747873779,1955562222,2024104815,2227730452,2361852424,2428436474,2756734187,3204031479,3329325298]
theorem KI_eq:∀i,i<64→KI.getD i 0=((Sh.K.getD i 0:Nat):Int):=by decide
theorem hasK_in {W:World} {L:List (String × DataW Unit)} (h:laidMet Tryz.prog L W) (h1:("codicil/sha.constants",Lib.tabData .u32 KI)∈L):HasK W:=by
  obtain ⟨g,t,cs,fuel,p,hg,hty,hvar,hd⟩:=Lib.laidMet.reads h h1
  obtain rfl:=Option.some.inj (gTab.symm.trans hg)
  obtain rfl:=Option.some.inj (gTabType.symm.trans hty)
  have t:Lib.TabIs Tryz.prog W "codicil/sha.constants" .u32 KI:=by
    unfold Lib.TabIs
    rw [hvar,←Lib.cells_of_tab Tryz.underlying163 Tryz.underlying99 cells25 cells50 hd]
  refine ⟨?_,fun i hi=>?_⟩
  · have:=t.cell gTab 0 (by decide)
    unfold World.cell? at this
    cases hh:W.heap[2]? with
    | none=>simp [hh] at this
    | some o=>exact (Array.getElem?_eq_some_iff.1 hh).1
  · rw [t.cell gTab i hi,KI_eq i hi]
theorem constants_is:(Rows.laid_codicil_sha_constants:DataW Unit)=Lib.tabData .u32 KI:=by kernel_rfl
end Go.Proofs.YtggnfejjcgbebaaGreatDoor
