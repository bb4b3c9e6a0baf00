/- The reference's small parts: its constants, its words ahead of all bytes, its test of a state. -/
import Derived.Test.YthheebnmdfggnaaDoorShState
namespace Go.Proofs.YthheebnmdfggnaaDoor
open Go.RowKit
set_option maxRecDepth 10000 in
theorem k33 (w : World) : Calls Tryd.prog 87 #[] w fun e w' => e = .returned (.slice (some ⟨w.heap.size, 0, none⟩) 64 64) ∧ w' = w.alloc (.cells (Sh.arr Sh.K) 59) := by
  go_enter Tryd.func87, Tryd.ntmps87
  go_wp2
  go_ret
  exact ⟨rfl, rfl⟩
theorem start18 (s0 : Sh.S8) (h : Hid (s0 = Sh.S0)) (w : World) :
    Calls Tryd.prog 53 #[] w fun e w' => e = .returned (.agg #[.int .u32 s0.a, .int .u32 s0.b, .int .u32 s0.c, .int .u32 s0.d, .int .u32 s0.e, .int .u32 s0.f, .int .u32 s0.g, .int .u32 s0.h, .int .u64 0, .string ⟨#[]⟩]) ∧ Below w.heap.size w w' := by
  have e : (.agg #[.int .u32 s0.a, .int .u32 s0.b, .int .u32 s0.c, .int .u32 s0.d, .int .u32 s0.e, .int .u32 s0.f, .int .u32 s0.g, .int .u32 s0.h, .int .u64 0, .string ⟨#[]⟩] : Value) =
      .agg #[.int .u32 1779033703, .int .u32 3144134277, .int .u32 1013904242, .int .u32 2773480762, .int .u32 1359893119, .int .u32 2600822924, .int .u32 528734635, .int .u32 1541459225, .int .u64 0, .string ⟨#[]⟩] := by
    rw [h.out]
    rfl
  rw [e]
  clear e
  go_enter Tryd.func53, Tryd.ntmps53
  go_wp2
  exact bodyPost_ret (v := .agg #[.int .u32 1779033703, .int .u32 3144134277, .int .u32 1013904242, .int .u32 2773480762, .int .u32 1359893119, .int .u32 2600822924, .int .u32 528734635, .int .u32 1541459225, .int .u64 0, .string ⟨#[]⟩]) (by simp [results, Tryd.results53, go_sem]) rfl ⟨rfl, (Below.refl _ _).alloc (Nat.le_refl _) _⟩
set_option maxHeartbeats 1000000 in
theorem right24 (s : Sh.S8) (c : Nat) (r : ByteArray) (hc : c < 18446744073709551616) (hr : r.size ≤ 9223372036854775807) (w : World) :
    Calls Tryd.prog 75 #[.agg #[.int .u32 s.a, .int .u32 s.b, .int .u32 s.c, .int .u32 s.d, .int .u32 s.e, .int .u32 s.f, .int .u32 s.g, .int .u32 s.h, .int .u64 c, .string r]] w fun e w' => e = .returned (.bool (Sh.rightB c r.size)) ∧ Below w.heap.size w w' := by
  by_cases h1 : c < 1152921504606846976
  · have h1' : (c : Int) < 1152921504606846976 := by omega
    by_cases h4 : r.size < 64
    · have h4' : (r.size : Int) < 64 := by omega
      by_cases h2 : r.size = c % 64
      · have e : Sh.rightB c r.size = true := by simp [Sh.rightB, h1, h2]
        rw [e]
        have h3 : ((r.size : Int) == (c : Int) % 64) = true := by rw [beq_iff_eq]; omega
        clear e h1 h2 h4
        go_enter Tryd.func75, Tryd.ntmps75
        go_wp2
        go_ret
        exact ⟨rfl, (Below.refl _ _).alloc (Nat.le_refl _) _⟩
      · have e : Sh.rightB c r.size = false := by simp [Sh.rightB, h2]
        rw [e]
        have h3 : ((r.size : Int) == (c : Int) % 64) = false := by rw [beq_eq_false_iff_ne]; omega
        clear e h1 h2 h4
        go_enter Tryd.func75, Tryd.ntmps75
        go_wp2
        go_ret
        exact ⟨rfl, (Below.refl _ _).alloc (Nat.le_refl _) _⟩
    · have e : Sh.rightB c r.size = false := by
        have : ¬ r.size = c % 64 := by omega
        simp [Sh.rightB, this]
      rw [e]
      have h4' : ¬ (r.size : Int) < 64 := by omega
      have h4'' : decide ((r.size : Int) < 64) = false := by simpa using h4'
      clear e h1 h4
      go_enter Tryd.func75, Tryd.ntmps75
      go_wp2
      go_ret
      exact ⟨rfl, (Below.refl _ _).alloc (Nat.le_refl _) _⟩
  · have e : Sh.rightB c r.size = false := by simp [Sh.rightB, h1]
    rw [e]
    have h1' : ¬ (c : Int) < 1152921504606846976 := by omega
    have h1'' : decide ((c : Int) < 1152921504606846976) = false := by simpa using h1'
    clear e h1
    go_enter Tryd.func75, Tryd.ntmps75
    go_wp2
    go_ret
    exact ⟨rfl, (Below.refl _ _).alloc (Nat.le_refl _) _⟩
end Go.Proofs.YthheebnmdfggnaaDoor
