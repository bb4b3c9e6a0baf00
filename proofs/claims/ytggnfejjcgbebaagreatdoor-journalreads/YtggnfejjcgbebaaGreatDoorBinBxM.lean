/- What is written is read as it was; what is read is written as it was. -/
import Derived.Test.YtggnfejjcgbebaaGreatDoorJRM
import Derived.Test.YtggnfejjcgbebaaGreatDoorJSM
namespace Go.Proofs.YtggnfejjcgbebaaGreatDoor
open Go.RowKit
open Vl (V)
theorem Bn.Is.wrote {s:ByteArray} {u:V} (hu:Bn.Is s u):Bn.werr u=0∧Bn.wtext u=s:=by
  have hl:¬16384<(Bn.bytes u).length:=by rw [←hu.2.2.1,←Lib.size_eq];have:=hu.1;omega
  obtain ⟨h1,h2⟩:=Bn.werr_ok hu.2.2.2 hl
  refine ⟨h1,?_⟩
  rw [h2]
  exact Bn.data_ext (by rw [hu.2.2.1])
theorem Bn.is_wrote {t:V} (hf:Bn.rng t) (h:Bn.werr t=0):Bn.Is (Bn.wtext t) t:=by
  have hc:Vl.check Bn.u8 0 t=0:=Decidable.byContradiction fun hn=>by
    have:=(Bn.werr_why hn).1
    omega
  have hl:¬16384<(Bn.bytes t).length:=fun hn=>by
    have:=(Bn.werr_long hc hn).1
    omega
  have e:=(Bn.werr_ok hc hl).2
  have e2:(Bn.wtext t).data.toList=Bn.bytes t:=by rw [e]
  refine ⟨?_,Bn.fit_of Bn.u8 0 t hc hf,e2,hc⟩
  rw [Lib.size_eq,e2]
  omega
structure OB (w0 W:World) (B:Nat) (t:V) (a0 a1 a2 a3 a4 a5:Value):Prop where
  below:Below w0.heap.size w0 W
  row:Row6 W B a0 a1 a2 a3 a4 a5
  rep:Rep W w0.heap.size t (.agg #[a0,a1,a2,a3,a4,a5])
theorem OB.call {w0 W W':World} {B:Nat} {t:V} {a0 a1 a2 a3 a4 a5:Value} (h:OB w0 W B t a0 a1 a2 a3 a4 a5) (b:Below W.heap.size W W'):OB w0 W' B t a0 a1 a2 a3 a4 a5 :=
  ⟨h.below.trans (b.mono h.below.size),h.row.call b,rep_stays (b.mono h.below.size) (Nat.le_refl _) t _ h.rep⟩
theorem OB.start (w:World) (t:V) (a0 a1 a2 a3 a4 a5:Value) (hr:Rep w w.heap.size t (.agg #[a0,a1,a2,a3,a4,a5])):OB w (w.alloc (.cells #[a0,a1,a2,a3,a4,a5] 32)) w.heap.size t a0 a1 a2 a3 a4 a5 :=
  ⟨below_new _ _,⟨by simp,heap_alloc_new w _⟩,rep_stays (below_new _ _) (Nat.le_refl _) t _ hr⟩
end Go.Proofs.YtggnfejjcgbebaaGreatDoor
