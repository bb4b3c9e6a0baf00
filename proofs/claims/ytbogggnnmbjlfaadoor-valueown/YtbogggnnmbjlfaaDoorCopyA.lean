/- The document's Copy, whatever the value. -/
import Derived.Test.YtbogggnnmbjlfaaDoorCopy
namespace Go.Proofs.YtbogggnnmbjlfaaDoor
open Go.RowKit
open Vl (V)
/-- Copy, whatever the value -/
theorem copy9 : ∀ (N : Nat) (t : V), Vl.count t ≤ N → Vl.small t → ∀ (w : World) (H : Nat) (v : Value), H ≤ w.heap.size → Rep w H t v → Calls Tryd.prog 9 #[v] w fun e w' => ∃ v', e = .returned v' ∧ Below w.heap.size w w' ∧ RepA w' (fun g => w.heap.size ≤ g ∧ g < w'.heap.size) t v' := by
  intro N
  induction N with
  | zero => intro t ht; obtain ⟨k, b, n, s, l, f⟩ := t; rw [Vl.count] at ht; omega
  | succ N ih =>
    rintro ⟨k, b, n, s, l, f⟩ ht hs w H v hH hr
    rw [Rep] at hr
    obtain ⟨ao, lc, fo, fc, rfl, h2, h3, h4, h5, h6, h7, h8⟩ := hr
    rw [Vl.small] at hs
    refine copy9_one k b n s l f hs.2.1 hs.2.2.1 ⟨h2, h3, h4, h5, h6⟩ w H hH ao lc fo fc h7 h8 (fun x hx W va hW hr => ?_) (fun x hx W va hW hr => ?_)
    · obtain ⟨q, hq⟩ := List.getElem?_of_mem hx
      exact ih x (by have := Vl.count_partL (k := k) (b := b) (n := n) (s := s) (f := f) hq; omega) (Vl.smallL_mem l x hs.2.2.2.1 hx) W H va hW hr
    · obtain ⟨q, hq⟩ := List.getElem?_of_mem hx
      exact ih x.2 (by have := Vl.count_partF (k := k) (b := b) (n := n) (s := s) (l := l) (m := x.1) (x := x.2) hq; omega) (Vl.smallF_mem f x hs.2.2.2.2 hx).2 W H va hW hr
end Go.Proofs.YtbogggnnmbjlfaaDoor
