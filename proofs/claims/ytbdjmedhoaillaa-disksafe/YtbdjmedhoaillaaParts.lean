/- The three changes, and the disk whose power goes, walked. -/
import Derived.Test.YtbdjmedhoaillaaBase
namespace Go.Proofs.Ytbdjmedhoaillaa
open Go.RowKit
theorem below4 (w : World) (a b c d : Obj) : Below w.heap.size w ((((w.alloc a).alloc b).alloc c).alloc d) := ((((Below.refl _ _).alloc (Nat.le_refl _) _).alloc (by simp) _).alloc (by simp; omega) _).alloc (by simp; omega) _
theorem below3 (w : World) (a b c : Obj) : Below w.heap.size w (((w.alloc a).alloc b).alloc c) := (((Below.refl _ _).alloc (Nat.le_refl _) _).alloc (by simp) _).alloc (by simp; omega) _
set_option maxHeartbeats 1000000 in
theorem sync27 (s t : ByteArray) (y c f z k : Int) (dn : Bool) (w : World) :
    Calls Try.prog 27 #[.agg #[.string s, .int .i64 y, .int .i64 c, .bool dn, .int .i64 f, .int .u8 k, .string t, .int .i64 z]] w fun e w' => e = .returned (.tuple #[.agg #[.string s, .int .i64 s.size, .int .i64 c, .bool dn, .int .i64 f], .int .i64 0]) ∧ Below w.heap.size w w' := by
  go_enter Try.func27, Try.ntmps27
  go_wp2
  exact bodyPost_ret (v := .tuple #[.agg #[.string s, .int .i64 s.size, .int .i64 c, .bool dn, .int .i64 f], .int .i64 0]) (by simp [results, Try.results27, go_sem]) rfl ⟨rfl, below3 w _ _ _⟩
set_option maxHeartbeats 1000000 in
theorem write26_no (s t : ByteArray) (y c f z k : Int) (dn : Bool) (w : World) (hs : (s.size : Int) ≤ c) (hc : c ≤ 262144) (h : c - s.size < t.size) :
    Calls Try.prog 26 #[.agg #[.string s, .int .i64 y, .int .i64 c, .bool dn, .int .i64 f, .int .u8 k, .string t, .int .i64 z]] w fun e w' => e = .returned (.tuple #[.agg #[.string ⟨#[]⟩, .int .i64 0, .int .i64 0, .bool false, .int .i64 0], .int .i64 8]) ∧ Below w.heap.size w w' := by
  go_enter Try.func26, Try.ntmps26
  go_wp2
  exact bodyPost_ret (v := .tuple #[.agg #[.string ⟨#[]⟩, .int .i64 0, .int .i64 0, .bool false, .int .i64 0], .int .i64 8]) (by simp [results, Try.results26, go_sem]) rfl ⟨rfl, below3 w _ _ _⟩
set_option maxHeartbeats 1000000 in
theorem write26_yes (s t : ByteArray) (y c f z k : Int) (dn : Bool) (w : World) (hs : (s.size : Int) ≤ c) (hc : c ≤ 262144) (h : t.size ≤ c - s.size) :
    Calls Try.prog 26 #[.agg #[.string s, .int .i64 y, .int .i64 c, .bool dn, .int .i64 f, .int .u8 k, .string t, .int .i64 z]] w fun e w' => e = .returned (.tuple #[.agg #[.string (s ++ t), .int .i64 y, .int .i64 c, .bool dn, .int .i64 f], .int .i64 0]) ∧ Below w.heap.size w w' := by
  go_enter Try.func26, Try.ntmps26
  go_wp2
  exact bodyPost_ret (v := .tuple #[.agg #[.string (s ++ t), .int .i64 y, .int .i64 c, .bool dn, .int .i64 f], .int .i64 0]) (by simp [results, Try.results26, go_sem]) rfl ⟨rfl, below3 w _ _ _⟩
set_option maxHeartbeats 1000000 in
theorem cut28_low (s t : ByteArray) (y c f z k : Int) (dn : Bool) (w : World) (h : z < 0) :
    Calls Try.prog 28 #[.agg #[.string s, .int .i64 y, .int .i64 c, .bool dn, .int .i64 f, .int .u8 k, .string t, .int .i64 z]] w fun e w' => e = .returned (.tuple #[.agg #[.string ⟨#[]⟩, .int .i64 0, .int .i64 0, .bool false, .int .i64 0], .int .i64 2]) ∧ Below w.heap.size w w' := by
  go_enter Try.func28, Try.ntmps28
  go_wp2
  go_region
  go_wp2
  exact bodyPost_ret (v := .tuple #[.agg #[.string ⟨#[]⟩, .int .i64 0, .int .i64 0, .bool false, .int .i64 0], .int .i64 2]) (by simp [results, Try.results28, go_sem]) rfl ⟨rfl, (below3 w _ _ _).drew⟩
set_option maxHeartbeats 1000000 in
theorem cut28_high (s t : ByteArray) (y c f z k : Int) (dn : Bool) (w : World) (h : 0 ≤ z) (h2 : (s.size : Int) < z) :
    Calls Try.prog 28 #[.agg #[.string s, .int .i64 y, .int .i64 c, .bool dn, .int .i64 f, .int .u8 k, .string t, .int .i64 z]] w fun e w' => e = .returned (.tuple #[.agg #[.string ⟨#[]⟩, .int .i64 0, .int .i64 0, .bool false, .int .i64 0], .int .i64 2]) ∧ Below w.heap.size w w' := by
  go_enter Try.func28, Try.ntmps28
  go_wp2
  go_region
  go_wp2
  exact bodyPost_ret (v := .tuple #[.agg #[.string ⟨#[]⟩, .int .i64 0, .int .i64 0, .bool false, .int .i64 0], .int .i64 2]) (by simp [results, Try.results28, go_sem]) rfl ⟨rfl, (below3 w _ _ _).drew⟩
set_option maxHeartbeats 1000000 in
theorem cut28_yes (s t : ByteArray) (y c f z k : Int) (dn : Bool) (w : World) (h : 0 ≤ z) (h2 : z ≤ s.size) :
    Calls Try.prog 28 #[.agg #[.string s, .int .i64 y, .int .i64 c, .bool dn, .int .i64 f, .int .u8 k, .string t, .int .i64 z]] w fun e w' => e = .returned (.tuple #[.agg #[.string (s.extract 0 z.toNat), .int .i64 z, .int .i64 c, .bool dn, .int .i64 f], .int .i64 0]) ∧ Below w.heap.size w w' := by
  go_enter Try.func28, Try.ntmps28
  go_wp2
  go_region
  go_wp2
  exact bodyPost_ret (v := .tuple #[.agg #[.string (s.extract 0 z.toNat), .int .i64 z, .int .i64 c, .bool dn, .int .i64 f], .int .i64 0]) (by simp [results, Try.results28, go_sem]) rfl ⟨rfl, (below3 w _ _ _).drew⟩
set_option maxHeartbeats 1000000 in
theorem broken24_yes (s t x : ByteArray) (y c f z y' c' f' : Int) (dn dn' : Bool) (w : World) :
    Calls Try.prog 24 #[.agg #[.string s, .int .i64 y, .int .i64 c, .bool dn, .int .i64 f, .int .u8 1, .string t, .int .i64 z], .agg #[.string x, .int .i64 y', .int .i64 c', .bool dn', .int .i64 f']] w fun e w' => e = .returned (.agg #[.string x, .int .i64 y, .int .i64 c, .bool true, .int .i64 f]) ∧ Below w.heap.size w w' := by
  go_enter Try.func24, Try.ntmps24
  go_wp2
  exact bodyPost_ret (v := .agg #[.string x, .int .i64 y, .int .i64 c, .bool true, .int .i64 f]) (by simp [results, Try.results24, go_sem]) rfl ⟨rfl, below4 w _ _ _ _⟩
set_option maxHeartbeats 1000000 in
theorem broken24_no (s t x : ByteArray) (y c f z k y' c' f' : Int) (dn dn' : Bool) (w : World) (h : (k == 1) = false) :
    Calls Try.prog 24 #[.agg #[.string s, .int .i64 y, .int .i64 c, .bool dn, .int .i64 f, .int .u8 k, .string t, .int .i64 z], .agg #[.string x, .int .i64 y', .int .i64 c', .bool dn', .int .i64 f']] w fun e w' => e = .returned (.agg #[.string s, .int .i64 y, .int .i64 c, .bool true, .int .i64 f]) ∧ Below w.heap.size w w' := by
  go_enter Try.func24, Try.ntmps24
  go_wp2
  exact bodyPost_ret (v := .agg #[.string s, .int .i64 y, .int .i64 c, .bool true, .int .i64 f]) (by simp [results, Try.results24, go_sem]) rfl ⟨rfl, below4 w _ _ _ _⟩
end Go.Proofs.Ytbdjmedhoaillaa
