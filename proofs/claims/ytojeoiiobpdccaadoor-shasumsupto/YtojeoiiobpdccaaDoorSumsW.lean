/- The law ShaSums, walked: it answers true whatever the text. -/
import Derived.Test.YtojeoiiobpdccaaDoorTurnsW
import Derived.Test.YtojeoiiobpdccaaDoorRefTop
import Derived.Test.YtojeoiiobpdccaaDoorRefHex
namespace Go.Proofs.YtojeoiiobpdccaaDoor
open Go.RowKit
set_option maxHeartbeats 2000000 in
theorem sums3 (t : ByteArray) (ht : t.size ≤ 1048576) (w : World) (hK : HasK w) :
    Calls Tryd.prog 3 #[.string t] w fun e w' => e = .returned (.bool true) ∧ Below w.heap.size w w' := by
  obtain ⟨d, hd⟩ : ∃ d : ByteArray, d = ⟨(Sh.sum t.data.toList).toArray⟩ := ⟨_, rfl⟩
  obtain ⟨x, hx⟩ : ∃ x : ByteArray, x = ⟨(Sh.hexOf t.data.toList).toArray⟩ := ⟨_, rfl⟩
  have c9 : ∀ W, HasK W → Calls Tryd.prog 9 #[.string t] W fun e w' => e = .returned (.string d) ∧ Below W.heap.size W w' := fun W hW => by rw [hd]; exact sum9 t (by omega) W hW
  have c10 : ∀ W, Calls Tryd.prog 10 #[.string t] W fun e w' => e = .returned (.string d) ∧ Below W.heap.size W w' := fun W => by rw [hd]; exact sum10 t (by omega) W
  have c11 : ∀ W, Calls Tryd.prog 11 #[.string t] W fun e w' => e = .returned (.string x) ∧ Below W.heap.size W w' := fun W => by rw [hx]; exact hex11 t (by omega) W
  have c12 : ∀ W, Calls Tryd.prog 12 #[.string t] W fun e w' => e = .returned (.string x) ∧ Below W.heap.size W w' := fun W => by rw [hx]; exact hex12 t (by omega) W
  have C9 : Hid (∀ W, _ → _) := c9
  have C10 : Hid (∀ W, _) := c10
  have C11 : Hid (∀ W, _) := c11
  have C12 : Hid (∀ W, _) := c12
  have HK : Hid (HasK w) := hK
  have hB : 0 < w.heap.size := hK.1
  clear c9 c10 c11 c12 hK hd hx
  go_enter Tryd.func3, Tryd.ntmps3
  go_wp2_with fail
  refine (lives8 _ HK.out).mono ?_
  rintro e w1 ⟨rfl, hb1⟩
  have B1 : Hid (Below w.heap.size w w1) := hb1
  clear hb1
  go_wp2_with fail
  refine (C9.out _ (HK.out.below hB B1.out)).mono ?_
  rintro e w2 ⟨rfl, hb2⟩
  have B2 : Hid (Below w.heap.size w w2) := B1.out.trans (hb2.mono B1.out.size)
  clear hb2
  go_wp2_with fail
  refine (C10.out _).mono ?_
  rintro e w3 ⟨rfl, hb3⟩
  have B3 : Hid (Below w.heap.size w w3) := B2.out.trans (hb3.mono B2.out.size)
  clear hb3
  go_wp2_with fail
  refine (C11.out _).mono ?_
  rintro e w4 ⟨rfl, hb4⟩
  have B4 : Hid (Below w.heap.size w w4) := B3.out.trans (hb4.mono B3.out.size)
  clear hb4
  go_wp2_with fail
  refine (C12.out _).mono ?_
  rintro e w5 ⟨rfl, hb5⟩
  have B5 : Hid (Below w.heap.size w w5) := B4.out.trans (hb5.mono B4.out.size)
  clear hb5
  go_wp2
  go_ret
  exact ⟨rfl, B5.out⟩
end Go.Proofs.YtojeoiiobpdccaaDoor
