/- Keyword, walked. -/
import Derived.Test.YtdejnphiejkglaaGreatDoorLxB
namespace Go.Proofs.YtdejnphiejkglaaGreatDoor
open Go.RowKit
theorem Lx.kws_contains (x : List UInt8) : Lx.kws.contains x = ((x == [65, 76, 76]) || (x == [65, 78, 68]) || (x == [65, 83]) || (x == [66, 89]) || (x == [67, 82, 69, 65, 84, 69]) || (x == [68, 69, 76, 69, 84, 69]) || (x == [68, 69, 83, 67]) || (x == [70, 65, 76, 83, 69]) || (x == [70, 82, 79, 77]) || (x == [72, 73, 83, 84, 79, 82, 89]) || (x == [73, 78]) || (x == [73, 78, 68, 69, 88]) || (x == [73, 78, 83, 69, 82, 84]) || (x == [73, 78, 84, 79]) || (x == [73, 83]) || (x == [78, 79, 84]) || (x == [78, 85, 76, 76]) || (x == [79, 78]) || (x == [79, 82]) || (x == [79, 82, 68, 69, 82]) || (x == [83, 69, 76, 69, 67, 84]) || (x == [83, 69, 84]) || (x == [84, 65, 66, 76, 69]) || (x == [84, 82, 85, 69]) || (x == [85, 80, 68, 65, 84, 69]) || (x == [87, 72, 69, 82, 69])) := by
  simp only [Lx.kws, List.contains_cons, List.contains_nil, Bool.or_false, Bool.or_assoc]
theorem Lx.key_long {s : List UInt8} (h : ¬ s.length ≤ 7) : Lx.isKey s = false := by
  rw [Lx.isKey, decide_eq_false h]; rfl
set_option maxHeartbeats 4000000 in
theorem keyword_c (s : ByteArray) (w : World) : Calls Tryz.prog 10 #[.string s] w fun e w' => e = .returned (.bool (Lx.isKey s.data.toList)) ∧ Below w.heap.size w w' := by
  by_cases h7 : s.size ≤ 7
  · obtain ⟨G, hG⟩ : ∃ G : ByteArray, G = ⟨(Lx.great s.data.toList).toArray⟩ := ⟨_, rfl⟩
    have CG : Hid (Calls Tryz.prog 21 #[.string s] w fun e w' => e = .returned (.string G) ∧ Below w.heap.size w w') := by rw [hG]; exact great_c s (by omega) w
    have HKEY : Hid (Lx.isKey s.data.toList = ((G.toList == [65, 76, 76]) || (G.toList == [65, 78, 68]) || (G.toList == [65, 83]) || (G.toList == [66, 89]) || (G.toList == [67, 82, 69, 65, 84, 69]) || (G.toList == [68, 69, 76, 69, 84, 69]) || (G.toList == [68, 69, 83, 67]) || (G.toList == [70, 65, 76, 83, 69]) || (G.toList == [70, 82, 79, 77]) || (G.toList == [72, 73, 83, 84, 79, 82, 89]) || (G.toList == [73, 78]) || (G.toList == [73, 78, 68, 69, 88]) || (G.toList == [73, 78, 83, 69, 82, 84]) || (G.toList == [73, 78, 84, 79]) || (G.toList == [73, 83]) || (G.toList == [78, 79, 84]) || (G.toList == [78, 85, 76, 76]) || (G.toList == [79, 78]) || (G.toList == [79, 82]) || (G.toList == [79, 82, 68, 69, 82]) || (G.toList == [83, 69, 76, 69, 67, 84]) || (G.toList == [83, 69, 84]) || (G.toList == [84, 65, 66, 76, 69]) || (G.toList == [84, 82, 85, 69]) || (G.toList == [85, 80, 68, 65, 84, 69]) || (G.toList == [87, 72, 69, 82, 69]))) := by
      show _ = _
      rw [Lx.isKey, ← Lib.size_eq, decide_eq_true h7, Bool.true_and, Lx.kws_contains, Go.ByteArray.toList_eq, hG]
    clear hG
    have q7 : ¬ (7 : Int) < (s.size : Int) := by omega
    go_enter Tryz.func10, Tryz.ntmps10
    go_wp2_with fail
    refine CG.out.mono ?_
    rintro e w1 ⟨rfl, hb1⟩
    have HB1 : Hid (Below w.heap.size w w1) := hb1
    clear hb1 CG h7 q7
    go_wp2_with fail
    all_goals first
      | (exfalso; clear HKEY; simp_all; done)
      | (go_ret; exact ⟨by rw [HKEY.out]; simp [*], HB1.out⟩)
  · have q7 : (7 : Int) < (s.size : Int) := by omega
    have HK : Hid (Lx.isKey s.data.toList = false) := Lx.key_long (by rw [← Lib.size_eq]; exact h7)
    go_enter Tryz.func10, Tryz.ntmps10
    go_wp2
    go_ret
    exact ⟨by rw [HK.out]; rfl, Below.refl _ _⟩
end Go.Proofs.YtdejnphiejkglaaGreatDoor
