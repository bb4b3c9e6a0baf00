/- The document's Compare, walked at texts. -/
import Derived.Test.YtcgkoogdgagddaaDoorRCmp
import Derived.Test.YtcgkoogdgagddaaDoorCheckM
namespace Go.Proofs.YtcgkoogdgagddaaDoor
open Go.RowKit
open Vl (V)
namespace Vl
theorem bytes_lt : ∀ a b : List UInt8, Op.bytesLess a b = decide (Lib.compareBytes a b < 0)
  | [], [] => by simp [Op.bytesLess, Lib.compareBytes]
  | [], _ :: _ => by simp [Op.bytesLess, Lib.compareBytes]
  | _ :: _, [] => by simp [Op.bytesLess, Lib.compareBytes]
  | x :: r, y :: q => by
    have ih := bytes_lt r q
    rw [Lib.compareBytes, Op.bytesLess]
    by_cases h1 : x < y
    · simp [h1]
    · by_cases h2 : y < x
      · have h3 : ¬ x = y := fun e => by subst e; exact h1 h2
        simp [h1, h2, h3]
      · have e : x = y := UInt8.le_antisymm (UInt8.not_lt.1 h2) (UInt8.not_lt.1 h1)
        subst e
        simp [h1, ih]
theorem str_lt (m p : ByteArray) : Op.bytesLess m.toList p.toList = decide (cmpS m p < 0) := by
  rw [Go.ByteArray.toList_eq, Go.ByteArray.toList_eq, bytes_lt]; rfl
theorem cmpS_way (m p : ByteArray) : cmpS m p = -1 ∨ cmpS m p = 0 ∨ cmpS m p = 1 := by
  unfold cmpS
  generalize m.data.toList = a
  generalize p.data.toList = b
  induction a generalizing b with
  | nil => cases b <;> simp [Lib.compareBytes]
  | cons x r ih =>
    cases b with
    | nil => simp [Lib.compareBytes]
    | cons y q =>
      rw [Lib.compareBytes]
      by_cases h1 : x < y
      · simp [h1]
      · by_cases h2 : y < x
        · simp [h1, h2]
        · simp only [h1, h2, if_false]
          exact ih q
end Vl
set_option maxHeartbeats 4000000 in
set_option maxRecDepth 100000 in
theorem rcompare20_text (k : Nat) (hk : k = 3 ∨ k = 4) (b : Bool) (n : Int) (s : ByteArray) (la fa : Value) (b2 : Bool) (n2 : Int) (s2 : ByteArray) (la2 fa2 : Value) (w : World) :
    Calls Tryd.prog 20 #[.agg #[.int .u8 (k : Int), .bool b, .int .i64 n, .string s, la, fa], .agg #[.int .u8 (k : Int), .bool b2, .int .i64 n2, .string s2, la2, fa2]] w fun e w' => e = .returned (.int .i64 (Vl.cmpS s s2)) ∧ Below w.heap.size w w' := by
  have hlt := Vl.str_lt s s2
  have hle := Vl.str_le s s2
  rcases Vl.cmpS_way s s2 with h | h | h
  · rw [h] at hlt hle ⊢
    have e1 : Op.bytesLess s.toList s2.toList = true := by rw [hlt]; rfl
    have e2 : (Op.bytesLess s.toList s2.toList || s.toList == s2.toList) = true := by rw [hle]; rfl
    clear hlt hle h
    rcases hk with rfl | rfl
    all_goals
      go_enter Tryd.func20, Tryd.ntmps20
      go_wp2_with (go_at_call 43; refine (rorder43 true false _).mono ?_; rintro e w' ⟨rfl, rfl⟩)
      go_ret
      exact ⟨rfl, below_new2 _ _ _⟩
  · rw [h] at hlt hle ⊢
    have e1 : Op.bytesLess s.toList s2.toList = false := by rw [hlt]; rfl
    have e2 : (s.toList == s2.toList) = true := by rw [e1, Bool.false_or] at hle; rw [hle]; rfl
    clear hlt hle h
    rcases hk with rfl | rfl
    all_goals
      go_enter Tryd.func20, Tryd.ntmps20
      go_wp2_with (go_at_call 43; refine (rorder43 false false _).mono ?_; rintro e w' ⟨rfl, rfl⟩)
      go_ret
      exact ⟨rfl, below_new2 _ _ _⟩
  · rw [h] at hlt hle ⊢
    have e1 : Op.bytesLess s.toList s2.toList = false := by rw [hlt]; rfl
    have e2 : (s.toList == s2.toList) = false := by rw [e1, Bool.false_or] at hle; rw [hle]; rfl
    clear hlt hle h
    rcases hk with rfl | rfl
    all_goals
      go_enter Tryd.func20, Tryd.ntmps20
      go_wp2_with (go_at_call 43; refine (rorder43 false true _).mono ?_; rintro e w' ⟨rfl, rfl⟩)
      go_ret
      exact ⟨rfl, below_new2 _ _ _⟩
end Go.Proofs.YtcgkoogdgagddaaDoor
