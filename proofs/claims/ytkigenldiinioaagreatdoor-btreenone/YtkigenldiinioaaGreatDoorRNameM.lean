/- The document's Name and Check's door, walked over whatever its Utf answers. -/
import Derived.Test.YtkigenldiinioaaGreatDoorGBM
namespace Go.Proofs.YtkigenldiinioaaGreatDoor
open Go.RowKit
open Vl (V)
/-- what the document's Utf answers of texts within the limit: u -/
def RUtf (u : ByteArray → Bool) : Prop :=
  ∀ (s : ByteArray) (w : World), s.size ≤ 1024 → Calls Tryz.prog 59 #[.string s] w fun e w' => e = .returned (.bool (u s)) ∧ Below w.heap.size w w'
set_option maxHeartbeats 4000000 in
set_option maxRecDepth 100000 in
theorem rname60 {u : ByteArray → Bool} (hU : RUtf u) (m : ByteArray) (hm : m.size ≤ maxLen) (w : World) :
    Calls Tryz.prog 60 #[.string m] w fun e w' => e = .returned (.int .i64 ((Vl.nameErr u m : Nat) : Int)) ∧ Below w.heap.size w w' := by
  obtain ⟨q, hq⟩ : ∃ q, q = u m := ⟨_, rfl⟩
  have C59 : Hid (m.size ≤ 1024 → Calls Tryz.prog 59 #[.string m] w fun e w' => e = .returned (.bool q) ∧ Below w.heap.size w w') := fun h => by rw [hq]; exact hU m w h
  obtain ⟨r, hr⟩ : ∃ r, r = Vl.nameErr u m := ⟨_, rfl⟩
  have HR : Hid (r = if m.size = 0 ∨ 1024 < m.size then 4 else if q = false then 9 else 0) := by
    show _ = _
    rw [hr, Vl.nameErr, hq]
  have HML : Hid (m.size ≤ 9223372036854775807) := maxLen_lt hm
  rw [← hr]
  clear hr hq hm hU
  by_cases h0 : m.size = 0
  · have h1 : m.toList = [] := (str_nil m).2 h0
    have h2 : r = 4 := by rw [HR.out, if_pos (Or.inl h0)]
    subst h2
    clear h0
    go_enter Tryz.func60, Tryz.ntmps60
    go_wp2
    exact ⟨rfl, _, results_tmp (by rfl) _ _ _, rfl, Below.refl _ _⟩
  · have h1 : ¬ m.toList = [] := fun h => h0 ((str_nil m).1 h)
    by_cases h3 : 1024 < m.size
    · have h2 : r = 4 := by rw [HR.out, if_pos (Or.inr h3)]
      subst h2
      have h4 := HML.out
      go_enter Tryz.func60, Tryz.ntmps60
      go_wp2
      exact ⟨rfl, _, results_tmp (by rfl) _ _ _, rfl, Below.refl _ _⟩
    · have h2 : r = if q = false then 9 else 0 := by rw [HR.out, if_neg (by omega)]
      have h4 : m.size ≤ 1024 := by omega
      have h5 : m.toList.isEmpty = false := by simpa using h1
      have h6 : decide ((1024 : Int) < (m.size : Int)) = false := by simp; omega
      cases q
      · subst h2
        go_enter Tryz.func60, Tryz.ntmps60
        go_wp2_with (go_at_call 59; refine (C59.out h4).mono ?_; rintro e w3 ⟨rfl, hb3⟩)
        exact ⟨rfl, _, results_tmp (by rfl) _ _ _, rfl, hb3⟩
      · subst h2
        go_enter Tryz.func60, Tryz.ntmps60
        go_wp2_with (go_at_call 59; refine (C59.out h4).mono ?_; rintro e w3 ⟨rfl, hb3⟩)
        exact ⟨rfl, _, results_tmp (by rfl) _ _ _, rfl, hb3⟩
end Go.Proofs.YtkigenldiinioaaGreatDoor
