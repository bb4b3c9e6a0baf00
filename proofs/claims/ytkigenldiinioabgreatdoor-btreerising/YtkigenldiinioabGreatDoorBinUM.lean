/- The library's tables of UTF-8, and value.Check. -/
import Derived.Test.YtkigenldiinioabGreatDoorCheckWM
import Derived.Test.YtkigenldiinioabGreatDoorRepAM
import Derived.Test.YtkigenldiinioabGreatDoorShelfV
namespace Go.Proofs.YtkigenldiinioabGreatDoor
open Go.RowKit
open Vl (V)
namespace Bn
theorem lt_of_cell {w : World} {g o : Nat} {v : Value} (h : w.cell? ⟨g, o, none⟩ = some v) : g < w.heap.size := by
  unfold World.cell? at h
  cases hh : w.heap[g]? with
  | none => simp [hh] at h
  | some o => exact (Array.getElem?_eq_some_iff.1 hh).1
/-- the library's tables lie as they are laid -/
structure HasU (w : World) : Prop where
  utf : Lib.Utf8Tabs 0 1 w
theorem HasU.stays {w w' : World} (h : HasU w) (hb : Below w.heap.size w w') : HasU w' := by
  have keep : ∀ (g o : Nat) (v : Value), w.cell? ⟨g, o, none⟩ = some v → w'.cell? ⟨g, o, none⟩ = some v := fun g o v hv => (hb.cell (p := ⟨g, o, none⟩) (lt_of_cell hv)).trans hv
  exact ⟨⟨fun c hc => keep _ _ _ (h.utf.1 c hc), fun i hi => ⟨keep _ _ _ (h.utf.2 i hi).1, keep _ _ _ (h.utf.2 i hi).2⟩⟩⟩
/-- whether a text is UTF-8 -/
def u8 (s : ByteArray) : Bool := Lib.validD s.data.toList
theorem hasU : Utf u8 HasU where
  stays := fun _ _ h hb => h.stays hb
  says := fun s w hs hT => Any.utf8_ValidString Tryz.laysValid s w (by unfold maxLen at hs; omega) hT.utf
end Bn
set_option maxHeartbeats 1000000 in
theorem check27 (t : V) (w : World) (hT : Bn.HasU w) (H : Nat) (v : Value) (hH : H ≤ w.heap.size) (hR : Rep w H t v) :
    Calls Tryz.prog 19 #[v] w fun e w' => e = .returned (.int .i64 ((Vl.check Bn.u8 0 t : Nat) : Int)) ∧ Below w.heap.size w w' := by
  obtain ⟨xk, xb, xn, xs, xa, xl, xc, ya, yl, yc, hv⟩ := repV_form hR
  subst hv
  have C30 : Hid (∀ W, Below w.heap.size w W → Calls Tryz.prog 41 #[.agg #[.int .u8 (xk : Int), .bool xb, .int .i64 xn, .string xs, .slice xa xl xc, .slice ya yl yc], .int .i64 0] W fun e w' => e = .returned (.int .i64 ((Vl.check Bn.u8 0 t : Nat) : Int)) ∧ Below W.heap.size W w') := fun W hW =>
    check30 Bn.hasU _ t (Nat.le_refl _) 0 (by omega) W H _ (hT.stays hW) (by have := hW.size; omega) (rep_stays (hW.mono hH) (Nat.le_refl _) t _ hR)
  clear hR
  go_enter Tryz.func19, Tryz.ntmps19
  go_wp2_with fail
  refine (C30.out _ (below_new _ _)).mono ?_
  rintro e w2 ⟨rfl, hb2⟩
  go_wp2
  exact ⟨rfl, _, results_tmp (by rfl) _ _ _, rfl, (below_new _ _).trans (hb2.mono (below_new _ _).size)⟩
end Go.Proofs.YtkigenldiinioabGreatDoor
