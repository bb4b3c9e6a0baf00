/- The law ShaStates, walked: it answers true whatever the state and the text. -/
import Derived.Test.YtojeoiiobpdccaaDoorGrowsAll
import Derived.Test.YtojeoiiobpdccaaDoorRefTop
namespace Go.Proofs.YtojeoiiobpdccaaDoor
open Go.RowKit
set_option maxHeartbeats 4000000 in
theorem states4 (t : ByteArray) (s y : Sh.S8) (c cy : Nat) (r ry d : ByteArray) (e1 e2 : Int)
    (C13 : Hid (∀ W, HasK W → Calls Tryd.prog 13 #[.agg #[.int .u32 s.a, .int .u32 s.b, .int .u32 s.c, .int .u32 s.d, .int .u32 s.e, .int .u32 s.f, .int .u32 s.g, .int .u32 s.h, .int .u64 c, .string r], .string t] W fun e w' => e = .returned (.tuple #[.agg #[.int .u32 y.a, .int .u32 y.b, .int .u32 y.c, .int .u32 y.d, .int .u32 y.e, .int .u32 y.f, .int .u32 y.g, .int .u32 y.h, .int .u64 cy, .string ry], .int .i64 e1]) ∧ Below W.heap.size W w'))
    (C14 : Hid (∀ W, Calls Tryd.prog 14 #[.agg #[.int .u32 s.a, .int .u32 s.b, .int .u32 s.c, .int .u32 s.d, .int .u32 s.e, .int .u32 s.f, .int .u32 s.g, .int .u32 s.h, .int .u64 c, .string r], .string t] W fun e w' => e = .returned (.tuple #[.agg #[.int .u32 y.a, .int .u32 y.b, .int .u32 y.c, .int .u32 y.d, .int .u32 y.e, .int .u32 y.f, .int .u32 y.g, .int .u32 y.h, .int .u64 cy, .string ry], .int .i64 e1]) ∧ Below W.heap.size W w'))
    (C15 : Hid (∀ W, HasK W → Calls Tryd.prog 15 #[.agg #[.int .u32 s.a, .int .u32 s.b, .int .u32 s.c, .int .u32 s.d, .int .u32 s.e, .int .u32 s.f, .int .u32 s.g, .int .u32 s.h, .int .u64 c, .string r]] W fun e w' => e = .returned (.tuple #[.string d, .int .i64 e2]) ∧ Below W.heap.size W w'))
    (C16 : Hid (∀ W, Calls Tryd.prog 16 #[.agg #[.int .u32 s.a, .int .u32 s.b, .int .u32 s.c, .int .u32 s.d, .int .u32 s.e, .int .u32 s.f, .int .u32 s.g, .int .u32 s.h, .int .u64 c, .string r]] W fun e w' => e = .returned (.tuple #[.string d, .int .i64 e2]) ∧ Below W.heap.size W w')) (w : World) (hK : HasK w) :
    Calls Tryd.prog 4 #[.agg #[.int .u32 s.a, .int .u32 s.b, .int .u32 s.c, .int .u32 s.d, .int .u32 s.e, .int .u32 s.f, .int .u32 s.g, .int .u32 s.h, .int .u64 c, .string r], .string t] w fun e w' => e = .returned (.bool true) ∧ Below w.heap.size w w' := by
  have HK : Hid (HasK w) := hK
  have hB : 0 < w.heap.size := hK.1
  clear hK
  go_enter Tryd.func4, Tryd.ntmps4
  go_wp2_with fail
  have X0 : Hid (XI w (w.alloc (.cells #[.int .u32 s.a, .int .u32 s.b, .int .u32 s.c, .int .u32 s.d, .int .u32 s.e, .int .u32 s.f, .int .u32 s.g, .int .u32 s.h, .int .u64 c, .string r] 29)) s c r) := XI.start w s c r
  refine (C13.out _ (HK.out.below hB X0.out.2.2)).mono ?_
  rintro e w1 ⟨rfl, hb1⟩
  have X1 : Hid (XI w w1 s c r) := X0.out.call hb1
  clear hb1 X0
  obtain ⟨d0, d1, d2, d3, d4, d5, d6, d7, d8, d9⟩ := X1.out.cells
  have lt1 : w.heap.size < w1.heap.size := by have := X1.out.2.1; omega
  have Y1 : Hid (XI w (w1.alloc (.cells #[.int .u32 y.a, .int .u32 y.b, .int .u32 y.c, .int .u32 y.d, .int .u32 y.e, .int .u32 y.f, .int .u32 y.g, .int .u32 y.h, .int .u64 cy, .string ry] 29)) s c r) := X1.out.alloc _
  have ya : (w1.alloc (.cells #[.int .u32 y.a, .int .u32 y.b, .int .u32 y.c, .int .u32 y.d, .int .u32 y.e, .int .u32 y.f, .int .u32 y.g, .int .u32 y.h, .int .u64 cy, .string ry] 29)).heap[w1.heap.size]? = some (.cells #[.int .u32 y.a, .int .u32 y.b, .int .u32 y.c, .int .u32 y.d, .int .u32 y.e, .int .u32 y.f, .int .u32 y.g, .int .u32 y.h, .int .u64 cy, .string ry] 29 (0, 0)) := heap_alloc_new w1 _
  have YA : Hid (_ = _) := ya
  clear ya
  go_wp2_with fail
  refine (C14.out _).mono ?_
  rintro e w2 ⟨rfl, hb2⟩
  have X2 : Hid (XI w w2 s c r) := Y1.out.call hb2
  have YA2 : Hid (w2.heap[w1.heap.size]? = some (.cells #[.int .u32 y.a, .int .u32 y.b, .int .u32 y.c, .int .u32 y.d, .int .u32 y.e, .int .u32 y.f, .int .u32 y.g, .int .u32 y.h, .int .u64 cy, .string ry] 29 (0, 0))) := (hb2.block _ (by simp)).trans YA.out
  have lt12 : w1.heap.size < w2.heap.size := by have := hb2.size; simp at this; omega
  clear hb2 X1 Y1 YA d0 d1 d2 d3 d4 d5 d6 d7 d8 d9
  obtain ⟨d0, d1, d2, d3, d4, d5, d6, d7, d8, d9⟩ := X2.out.cells
  have lt2 : w.heap.size < w2.heap.size := by omega
  have Y2 : Hid (XI w (w2.alloc (.cells #[.int .u32 y.a, .int .u32 y.b, .int .u32 y.c, .int .u32 y.d, .int .u32 y.e, .int .u32 y.f, .int .u32 y.g, .int .u32 y.h, .int .u64 cy, .string ry] 29)) s c r) := X2.out.alloc _
  go_wp2_with fail
  refine (C15.out _ (HK.out.below hB Y2.out.2.2)).mono ?_
  rintro e w3 ⟨rfl, hb3⟩
  have X3 : Hid (XI w w3 s c r) := Y2.out.call hb3
  have YA3 : Hid (w3.heap[w1.heap.size]? = some (.cells #[.int .u32 y.a, .int .u32 y.b, .int .u32 y.c, .int .u32 y.d, .int .u32 y.e, .int .u32 y.f, .int .u32 y.g, .int .u32 y.h, .int .u64 cy, .string ry] 29 (0, 0))) := (hb3.block _ (by simp; omega)).trans ((Below.heap_alloc _ _ _ lt12).trans YA2.out)
  have YB3 : Hid (w3.heap[w2.heap.size]? = some (.cells #[.int .u32 y.a, .int .u32 y.b, .int .u32 y.c, .int .u32 y.d, .int .u32 y.e, .int .u32 y.f, .int .u32 y.g, .int .u32 y.h, .int .u64 cy, .string ry] 29 (0, 0))) := (hb3.block _ (by simp)).trans (heap_alloc_new w2 _)
  have lt23 : w2.heap.size < w3.heap.size := by have := hb3.size; simp at this; omega
  clear hb3 X2 Y2 YA2 d0 d1 d2 d3 d4 d5 d6 d7 d8 d9
  obtain ⟨d0, d1, d2, d3, d4, d5, d6, d7, d8, d9⟩ := X3.out.cells
  go_wp2_with fail
  refine (C16.out _).mono ?_
  rintro e w4 ⟨rfl, hb4⟩
  have X4 : Hid (XI w w4 s c r) := X3.out.call hb4
  have YA4 : Hid (w4.heap[w1.heap.size]? = some (.cells #[.int .u32 y.a, .int .u32 y.b, .int .u32 y.c, .int .u32 y.d, .int .u32 y.e, .int .u32 y.f, .int .u32 y.g, .int .u32 y.h, .int .u64 cy, .string ry] 29 (0, 0))) := (hb4.block _ (by omega)).trans YA3.out
  have YB4 : Hid (w4.heap[w2.heap.size]? = some (.cells #[.int .u32 y.a, .int .u32 y.b, .int .u32 y.c, .int .u32 y.d, .int .u32 y.e, .int .u32 y.f, .int .u32 y.g, .int .u32 y.h, .int .u64 cy, .string ry] 29 (0, 0))) := (hb4.block _ (by omega)).trans YB3.out
  have lt24 : w2.heap.size < w4.heap.size := by have := hb4.size; omega
  clear hb4 X3 YA3 YB3 d0 d1 d2 d3 d4 d5 d6 d7 d8 d9
  go_wp2_with fail
  refine (lives8 _ (HK.out.below hB X4.out.2.2)).mono ?_
  rintro e w5 ⟨rfl, hb5⟩
  have X5 : Hid (XI w w5 s c r) := X4.out.call hb5
  have YA5 : Hid (w5.heap[w1.heap.size]? = some (.cells #[.int .u32 y.a, .int .u32 y.b, .int .u32 y.c, .int .u32 y.d, .int .u32 y.e, .int .u32 y.f, .int .u32 y.g, .int .u32 y.h, .int .u64 cy, .string ry] 29 (0, 0))) := (hb5.block _ (by omega)).trans YA4.out
  have YB5 : Hid (w5.heap[w2.heap.size]? = some (.cells #[.int .u32 y.a, .int .u32 y.b, .int .u32 y.c, .int .u32 y.d, .int .u32 y.e, .int .u32 y.f, .int .u32 y.g, .int .u32 y.h, .int .u64 cy, .string ry] 29 (0, 0))) := (hb5.block _ (by omega)).trans YB4.out
  have lt25 : w2.heap.size < w5.heap.size := by have := hb5.size; omega
  clear hb5 X4 YA4 YB4 lt24
  go_wp2_with fail
  obtain ⟨s0, hs0⟩ : ∃ s0, s0 = Sh.S0 := ⟨_, rfl⟩
  have HS0 : Hid (s0 = Sh.S0) := hs0
  clear hs0
  refine (start17 s0 HS0 _).mono ?_
  rintro e w6 ⟨rfl, hb6⟩
  have X6 : Hid (XI w w6 s c r) := X5.out.call hb6
  have YA6 : Hid (w6.heap[w1.heap.size]? = some (.cells #[.int .u32 y.a, .int .u32 y.b, .int .u32 y.c, .int .u32 y.d, .int .u32 y.e, .int .u32 y.f, .int .u32 y.g, .int .u32 y.h, .int .u64 cy, .string ry] 29 (0, 0))) := (hb6.block _ (by omega)).trans YA5.out
  have YB6 : Hid (w6.heap[w2.heap.size]? = some (.cells #[.int .u32 y.a, .int .u32 y.b, .int .u32 y.c, .int .u32 y.d, .int .u32 y.e, .int .u32 y.f, .int .u32 y.g, .int .u32 y.h, .int .u64 cy, .string ry] 29 (0, 0))) := (hb6.block _ (by omega)).trans YB5.out
  have lt26 : w2.heap.size < w6.heap.size := by have := hb6.size; omega
  clear hb6 X5 YA5 YB5 lt25
  go_wp2_with fail
  refine (start18 s0 HS0 _).mono ?_
  rintro e w7 ⟨rfl, hb7⟩
  have X7 : Hid (XI w w7 s c r) := X6.out.call hb7
  have ya7 : w7.heap[w1.heap.size]? = some (.cells #[.int .u32 y.a, .int .u32 y.b, .int .u32 y.c, .int .u32 y.d, .int .u32 y.e, .int .u32 y.f, .int .u32 y.g, .int .u32 y.h, .int .u64 cy, .string ry] 29 (0, 0)) := (hb7.block _ (by omega)).trans YA6.out
  have yb7 : w7.heap[w2.heap.size]? = some (.cells #[.int .u32 y.a, .int .u32 y.b, .int .u32 y.c, .int .u32 y.d, .int .u32 y.e, .int .u32 y.f, .int .u32 y.g, .int .u32 y.h, .int .u64 cy, .string ry] 29 (0, 0)) := (hb7.block _ (by omega)).trans YB6.out
  clear hb7 X6 YA6 YB6 lt26
  have p0 : w7.cell? ⟨w1.heap.size, 0, none⟩ = some (.int .u32 (y.a : Int)) := by rw [cell_of_row w7 _ _ _ 29 (0, 0) ya7]; rfl
  have p1 : w7.cell? ⟨w1.heap.size, 1, none⟩ = some (.int .u32 (y.b : Int)) := by rw [cell_of_row w7 _ _ _ 29 (0, 0) ya7]; rfl
  have p2 : w7.cell? ⟨w1.heap.size, 2, none⟩ = some (.int .u32 (y.c : Int)) := by rw [cell_of_row w7 _ _ _ 29 (0, 0) ya7]; rfl
  have p3 : w7.cell? ⟨w1.heap.size, 3, none⟩ = some (.int .u32 (y.d : Int)) := by rw [cell_of_row w7 _ _ _ 29 (0, 0) ya7]; rfl
  have p4 : w7.cell? ⟨w1.heap.size, 4, none⟩ = some (.int .u32 (y.e : Int)) := by rw [cell_of_row w7 _ _ _ 29 (0, 0) ya7]; rfl
  have p5 : w7.cell? ⟨w1.heap.size, 5, none⟩ = some (.int .u32 (y.f : Int)) := by rw [cell_of_row w7 _ _ _ 29 (0, 0) ya7]; rfl
  have p6 : w7.cell? ⟨w1.heap.size, 6, none⟩ = some (.int .u32 (y.g : Int)) := by rw [cell_of_row w7 _ _ _ 29 (0, 0) ya7]; rfl
  have p7 : w7.cell? ⟨w1.heap.size, 7, none⟩ = some (.int .u32 (y.h : Int)) := by rw [cell_of_row w7 _ _ _ 29 (0, 0) ya7]; rfl
  have p8 : w7.cell? ⟨w1.heap.size, 8, none⟩ = some (.int .u64 (cy : Int)) := by rw [cell_of_row w7 _ _ _ 29 (0, 0) ya7]; rfl
  have p9 : w7.cell? ⟨w1.heap.size, 9, none⟩ = some (.string ry) := by rw [cell_of_row w7 _ _ _ 29 (0, 0) ya7]; rfl
  have q0 : w7.cell? ⟨w2.heap.size, 0, none⟩ = some (.int .u32 (y.a : Int)) := by rw [cell_of_row w7 _ _ _ 29 (0, 0) yb7]; rfl
  have q1 : w7.cell? ⟨w2.heap.size, 1, none⟩ = some (.int .u32 (y.b : Int)) := by rw [cell_of_row w7 _ _ _ 29 (0, 0) yb7]; rfl
  have q2 : w7.cell? ⟨w2.heap.size, 2, none⟩ = some (.int .u32 (y.c : Int)) := by rw [cell_of_row w7 _ _ _ 29 (0, 0) yb7]; rfl
  have q3 : w7.cell? ⟨w2.heap.size, 3, none⟩ = some (.int .u32 (y.d : Int)) := by rw [cell_of_row w7 _ _ _ 29 (0, 0) yb7]; rfl
  have q4 : w7.cell? ⟨w2.heap.size, 4, none⟩ = some (.int .u32 (y.e : Int)) := by rw [cell_of_row w7 _ _ _ 29 (0, 0) yb7]; rfl
  have q5 : w7.cell? ⟨w2.heap.size, 5, none⟩ = some (.int .u32 (y.f : Int)) := by rw [cell_of_row w7 _ _ _ 29 (0, 0) yb7]; rfl
  have q6 : w7.cell? ⟨w2.heap.size, 6, none⟩ = some (.int .u32 (y.g : Int)) := by rw [cell_of_row w7 _ _ _ 29 (0, 0) yb7]; rfl
  have q7 : w7.cell? ⟨w2.heap.size, 7, none⟩ = some (.int .u32 (y.h : Int)) := by rw [cell_of_row w7 _ _ _ 29 (0, 0) yb7]; rfl
  have q8 : w7.cell? ⟨w2.heap.size, 8, none⟩ = some (.int .u64 (cy : Int)) := by rw [cell_of_row w7 _ _ _ 29 (0, 0) yb7]; rfl
  have q9 : w7.cell? ⟨w2.heap.size, 9, none⟩ = some (.string ry) := by rw [cell_of_row w7 _ _ _ 29 (0, 0) yb7]; rfl
  clear ya7 yb7
  have heq := eq26 y.a y.b y.c y.d y.e y.f y.g y.h
  have heq0 := eq26 s0.a s0.b s0.c s0.d s0.e s0.f s0.g s0.h
  go_wp2
  go_ret
  exact ⟨rfl, X7.out.2.2⟩
end Go.Proofs.YtojeoiiobpdccaaDoor
