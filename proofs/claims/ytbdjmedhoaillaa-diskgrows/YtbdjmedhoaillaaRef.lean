/- The document's refuses and Do, walked. -/
import Derived.Test.YtbdjmedhoaillaaDo
namespace Go.Proofs.Ytbdjmedhoaillaa
open Go.RowKit
/-- what is left of Do's variables while the disk's is written: the answer -/
structure RB (w W : World) : Prop where
  below : Below w.heap.size w W
  res : Box W (w.heap.size + 2) #[.string ⟨#[]⟩, .int .i64 0, .int .i64 0, .bool false, .int .i64 0] 24
theorem DS.rb {w W : World} {s t : ByteArray} {y c f z k : Int} {dn : Bool} (h : DS w W s t y c f z k dn) : RB w W := ⟨h.below, h.res⟩
theorem RB.set {w W : World} (h : RB w W) (i : Nat) (v : Value) : RB w (W.setCell ⟨w.heap.size, i, none⟩ v) :=
  ⟨h.below.setCell (Nat.le_refl _) _, by simp; exact h.res.1, (heap_setCell_other _ _ _ _ (by simp)).trans h.res.2⟩
set_option maxHeartbeats 1000000 in
theorem ref22_1_no (s t : ByteArray) (y c f z : Int) (dn : Bool) (w : World) (hs : (s.size : Int) ≤ c) (hc : c ≤ 262144) (h : c - s.size < t.size) :
    Calls Try.prog 22 #[.agg #[.string s, .int .i64 y, .int .i64 c, .bool dn, .int .i64 f], .agg #[.int .u8 1, .string t, .int .i64 z]] w fun e w' => e = .returned (.int .i64 8) ∧ Below w.heap.size w w' := by
  go_enter Try.func22, Try.ntmps22
  go_wp2
  go_ret
  exact ⟨rfl, below2 w _ _⟩
set_option maxHeartbeats 1000000 in
theorem ref22_1_yes (s t : ByteArray) (y c f z : Int) (dn : Bool) (w : World) (hs : (s.size : Int) ≤ c) (hc : c ≤ 262144) (h : t.size ≤ c - s.size) :
    Calls Try.prog 22 #[.agg #[.string s, .int .i64 y, .int .i64 c, .bool dn, .int .i64 f], .agg #[.int .u8 1, .string t, .int .i64 z]] w fun e w' => e = .returned (.int .i64 0) ∧ Below w.heap.size w w' := by
  go_enter Try.func22, Try.ntmps22
  go_wp2
  go_ret
  exact ⟨rfl, below2 w _ _⟩
set_option maxHeartbeats 1000000 in
theorem ref22_2 (s t : ByteArray) (y c f z : Int) (dn : Bool) (w : World) :
    Calls Try.prog 22 #[.agg #[.string s, .int .i64 y, .int .i64 c, .bool dn, .int .i64 f], .agg #[.int .u8 2, .string t, .int .i64 z]] w fun e w' => e = .returned (.int .i64 0) ∧ Below w.heap.size w w' := by
  go_enter Try.func22, Try.ntmps22
  go_wp2
  go_ret
  exact ⟨rfl, below2 w _ _⟩
set_option maxHeartbeats 1000000 in
theorem ref22_3_low (s t : ByteArray) (y c f z : Int) (dn : Bool) (w : World) (h : z < 0) :
    Calls Try.prog 22 #[.agg #[.string s, .int .i64 y, .int .i64 c, .bool dn, .int .i64 f], .agg #[.int .u8 3, .string t, .int .i64 z]] w fun e w' => e = .returned (.int .i64 2) ∧ Below w.heap.size w w' := by
  go_enter Try.func22, Try.ntmps22
  go_wp2
  go_ret
  exact ⟨rfl, below2 w _ _⟩
set_option maxHeartbeats 1000000 in
theorem ref22_3_high (s t : ByteArray) (y c f z : Int) (dn : Bool) (w : World) (h : 0 ≤ z) (h2 : (s.size : Int) < z) :
    Calls Try.prog 22 #[.agg #[.string s, .int .i64 y, .int .i64 c, .bool dn, .int .i64 f], .agg #[.int .u8 3, .string t, .int .i64 z]] w fun e w' => e = .returned (.int .i64 2) ∧ Below w.heap.size w w' := by
  go_enter Try.func22, Try.ntmps22
  go_wp2
  go_ret
  exact ⟨rfl, below2 w _ _⟩
set_option maxHeartbeats 1000000 in
theorem ref22_3_yes (s t : ByteArray) (y c f z : Int) (dn : Bool) (w : World) (h : 0 ≤ z) (h2 : z ≤ s.size) :
    Calls Try.prog 22 #[.agg #[.string s, .int .i64 y, .int .i64 c, .bool dn, .int .i64 f], .agg #[.int .u8 3, .string t, .int .i64 z]] w fun e w' => e = .returned (.int .i64 0) ∧ Below w.heap.size w w' := by
  go_enter Try.func22, Try.ntmps22
  go_wp2
  go_ret
  exact ⟨rfl, below2 w _ _⟩
end Go.Proofs.Ytbdjmedhoaillaa
