/- The law ShaGrows, walked: it answers true whatever the state and the two texts. -/
import Derived.Test.YtojeoiiobpdccaaDoorEq
import Derived.Deep.QuietTactic
import Derived.BigQuiet
namespace Go.Proofs.YtojeoiiobpdccaaDoor
open Go.RowKit
set_option maxHeartbeats 2000000 in
theorem grows7_first (a b ab : ByteArray) (s y z v : Sh.S8) (c cy cz cv : Nat) (r ry rz rv : ByteArray) (e1 e2 e3 : Int) (h1 : (e1 != 0) = true) (h3 : (e3 != 0) = true)
    (hadd : Hid (∀ W, (Op.stringOp .add a b).run Tryd.prog W = .ok (.string ab) W))
    (C1 : Hid (∀ W, HasK W → Calls Tryd.prog 13 #[.agg #[.int .u32 s.a, .int .u32 s.b, .int .u32 s.c, .int .u32 s.d, .int .u32 s.e, .int .u32 s.f, .int .u32 s.g, .int .u32 s.h, .int .u64 c, .string r], .string a] W fun e w' => e = .returned (.tuple #[.agg #[.int .u32 y.a, .int .u32 y.b, .int .u32 y.c, .int .u32 y.d, .int .u32 y.e, .int .u32 y.f, .int .u32 y.g, .int .u32 y.h, .int .u64 cy, .string ry], .int .i64 e1]) ∧ Below W.heap.size W w'))
    (C2 : Hid (∀ W, HasK W → Calls Tryd.prog 13 #[.agg #[.int .u32 y.a, .int .u32 y.b, .int .u32 y.c, .int .u32 y.d, .int .u32 y.e, .int .u32 y.f, .int .u32 y.g, .int .u32 y.h, .int .u64 cy, .string ry], .string b] W fun e w' => e = .returned (.tuple #[.agg #[.int .u32 z.a, .int .u32 z.b, .int .u32 z.c, .int .u32 z.d, .int .u32 z.e, .int .u32 z.f, .int .u32 z.g, .int .u32 z.h, .int .u64 cz, .string rz], .int .i64 e2]) ∧ Below W.heap.size W w'))
    (C3 : Hid (∀ W, HasK W → Calls Tryd.prog 13 #[.agg #[.int .u32 s.a, .int .u32 s.b, .int .u32 s.c, .int .u32 s.d, .int .u32 s.e, .int .u32 s.f, .int .u32 s.g, .int .u32 s.h, .int .u64 c, .string r], .string ab] W fun e w' => e = .returned (.tuple #[.agg #[.int .u32 v.a, .int .u32 v.b, .int .u32 v.c, .int .u32 v.d, .int .u32 v.e, .int .u32 v.f, .int .u32 v.g, .int .u32 v.h, .int .u64 cv, .string rv], .int .i64 e3]) ∧ Below W.heap.size W w')) (w : World) (hK : HasK w) :
    Calls Tryd.prog 7 #[.agg #[.int .u32 s.a, .int .u32 s.b, .int .u32 s.c, .int .u32 s.d, .int .u32 s.e, .int .u32 s.f, .int .u32 s.g, .int .u32 s.h, .int .u64 c, .string r], .string a, .string b] w fun e w' => e = .returned (.bool true) ∧ Below w.heap.size w w' := by
  have HK : Hid (HasK w) := hK
  have hB : 0 < w.heap.size := hK.1
  have ha := hadd.out
  clear hK hadd
  go_enter Tryd.func7, Tryd.ntmps7
  go_wp2_with fail
  have X0 : Hid (XI w (w.alloc (.cells #[.int .u32 s.a, .int .u32 s.b, .int .u32 s.c, .int .u32 s.d, .int .u32 s.e, .int .u32 s.f, .int .u32 s.g, .int .u32 s.h, .int .u64 c, .string r] 29)) s c r) := XI.start w s c r
  refine (lives8 _ (HK.out.below hB X0.out.2.2)).mono ?_
  rintro e w1 ⟨rfl, hb1⟩
  have X1 : Hid (XI w w1 s c r) := X0.out.call hb1
  clear hb1 X0
  obtain ⟨d0, d1, d2, d3, d4, d5, d6, d7, d8, d9⟩ := X1.out.cells
  go_wp2_with fail
  refine (C1.out _ (HK.out.below hB X1.out.2.2)).mono ?_
  rintro e w2 ⟨rfl, hb2⟩
  have X2 : Hid (XI w w2 s c r) := X1.out.call hb2
  clear hb2 X1 d0 d1 d2 d3 d4 d5 d6 d7 d8 d9
  go_wp2_with fail
  have Y2 : Hid (XI w (w2.alloc (.cells #[.int .u32 y.a, .int .u32 y.b, .int .u32 y.c, .int .u32 y.d, .int .u32 y.e, .int .u32 y.f, .int .u32 y.g, .int .u32 y.h, .int .u64 cy, .string ry] 29)) s c r) := X2.out.alloc _
  refine (C2.out _ (HK.out.below hB Y2.out.2.2)).mono ?_
  rintro e w3 ⟨rfl, hb3⟩
  have X3 : Hid (XI w w3 s c r) := Y2.out.call hb3
  clear hb3 X2 Y2
  have lt3 : w.heap.size < w3.heap.size := by have := X3.out.2.1; omega
  have Y3 : Hid (XI w (w3.alloc (.cells #[.int .u32 z.a, .int .u32 z.b, .int .u32 z.c, .int .u32 z.d, .int .u32 z.e, .int .u32 z.f, .int .u32 z.g, .int .u32 z.h, .int .u64 cz, .string rz] 29)) s c r) := X3.out.alloc _
  obtain ⟨d0, d1, d2, d3, d4, d5, d6, d7, d8, d9⟩ := X3.out.cells
  go_wp2_with fail
  refine (C3.out _ (HK.out.below hB Y3.out.2.2)).mono ?_
  rintro e w4 ⟨rfl, hb4⟩
  have X4 : Hid (XI w w4 s c r) := Y3.out.call hb4
  clear hb4 X3 Y3 d0 d1 d2 d3 d4 d5 d6 d7 d8 d9 lt3
  go_wp2
  go_ret
  exact ⟨rfl, X4.out.2.2.alloc (by have := X4.out.2.1; omega) _⟩
set_option maxHeartbeats 2000000 in
theorem grows7_second (a b ab : ByteArray) (s y z v : Sh.S8) (c cy cz cv : Nat) (r ry rz rv : ByteArray) (e2 e3 : Int) (h2 : (e2 != 0) = true) (h3 : (e3 != 0) = true)
    (hadd : Hid (∀ W, (Op.stringOp .add a b).run Tryd.prog W = .ok (.string ab) W))
    (C1 : Hid (∀ W, HasK W → Calls Tryd.prog 13 #[.agg #[.int .u32 s.a, .int .u32 s.b, .int .u32 s.c, .int .u32 s.d, .int .u32 s.e, .int .u32 s.f, .int .u32 s.g, .int .u32 s.h, .int .u64 c, .string r], .string a] W fun e w' => e = .returned (.tuple #[.agg #[.int .u32 y.a, .int .u32 y.b, .int .u32 y.c, .int .u32 y.d, .int .u32 y.e, .int .u32 y.f, .int .u32 y.g, .int .u32 y.h, .int .u64 cy, .string ry], .int .i64 0]) ∧ Below W.heap.size W w'))
    (C2 : Hid (∀ W, HasK W → Calls Tryd.prog 13 #[.agg #[.int .u32 y.a, .int .u32 y.b, .int .u32 y.c, .int .u32 y.d, .int .u32 y.e, .int .u32 y.f, .int .u32 y.g, .int .u32 y.h, .int .u64 cy, .string ry], .string b] W fun e w' => e = .returned (.tuple #[.agg #[.int .u32 z.a, .int .u32 z.b, .int .u32 z.c, .int .u32 z.d, .int .u32 z.e, .int .u32 z.f, .int .u32 z.g, .int .u32 z.h, .int .u64 cz, .string rz], .int .i64 e2]) ∧ Below W.heap.size W w'))
    (C3 : Hid (∀ W, HasK W → Calls Tryd.prog 13 #[.agg #[.int .u32 s.a, .int .u32 s.b, .int .u32 s.c, .int .u32 s.d, .int .u32 s.e, .int .u32 s.f, .int .u32 s.g, .int .u32 s.h, .int .u64 c, .string r], .string ab] W fun e w' => e = .returned (.tuple #[.agg #[.int .u32 v.a, .int .u32 v.b, .int .u32 v.c, .int .u32 v.d, .int .u32 v.e, .int .u32 v.f, .int .u32 v.g, .int .u32 v.h, .int .u64 cv, .string rv], .int .i64 e3]) ∧ Below W.heap.size W w')) (w : World) (hK : HasK w) :
    Calls Tryd.prog 7 #[.agg #[.int .u32 s.a, .int .u32 s.b, .int .u32 s.c, .int .u32 s.d, .int .u32 s.e, .int .u32 s.f, .int .u32 s.g, .int .u32 s.h, .int .u64 c, .string r], .string a, .string b] w fun e w' => e = .returned (.bool true) ∧ Below w.heap.size w w' := by
  have HK : Hid (HasK w) := hK
  have hB : 0 < w.heap.size := hK.1
  have ha := hadd.out
  clear hK hadd
  go_enter Tryd.func7, Tryd.ntmps7
  go_wp2_with fail
  have X0 : Hid (XI w (w.alloc (.cells #[.int .u32 s.a, .int .u32 s.b, .int .u32 s.c, .int .u32 s.d, .int .u32 s.e, .int .u32 s.f, .int .u32 s.g, .int .u32 s.h, .int .u64 c, .string r] 29)) s c r) := XI.start w s c r
  refine (lives8 _ (HK.out.below hB X0.out.2.2)).mono ?_
  rintro e w1 ⟨rfl, hb1⟩
  have X1 : Hid (XI w w1 s c r) := X0.out.call hb1
  clear hb1 X0
  obtain ⟨d0, d1, d2, d3, d4, d5, d6, d7, d8, d9⟩ := X1.out.cells
  go_wp2_with fail
  refine (C1.out _ (HK.out.below hB X1.out.2.2)).mono ?_
  rintro e w2 ⟨rfl, hb2⟩
  have X2 : Hid (XI w w2 s c r) := X1.out.call hb2
  clear hb2 X1 d0 d1 d2 d3 d4 d5 d6 d7 d8 d9
  go_wp2_with fail
  have Y2 : Hid (XI w (w2.alloc (.cells #[.int .u32 y.a, .int .u32 y.b, .int .u32 y.c, .int .u32 y.d, .int .u32 y.e, .int .u32 y.f, .int .u32 y.g, .int .u32 y.h, .int .u64 cy, .string ry] 29)) s c r) := X2.out.alloc _
  refine (C2.out _ (HK.out.below hB Y2.out.2.2)).mono ?_
  rintro e w3 ⟨rfl, hb3⟩
  have X3 : Hid (XI w w3 s c r) := Y2.out.call hb3
  clear hb3 X2 Y2
  have lt3 : w.heap.size < w3.heap.size := by have := X3.out.2.1; omega
  have Y3 : Hid (XI w (w3.alloc (.cells #[.int .u32 z.a, .int .u32 z.b, .int .u32 z.c, .int .u32 z.d, .int .u32 z.e, .int .u32 z.f, .int .u32 z.g, .int .u32 z.h, .int .u64 cz, .string rz] 29)) s c r) := X3.out.alloc _
  obtain ⟨d0, d1, d2, d3, d4, d5, d6, d7, d8, d9⟩ := X3.out.cells
  go_wp2_with fail
  refine (C3.out _ (HK.out.below hB Y3.out.2.2)).mono ?_
  rintro e w4 ⟨rfl, hb4⟩
  have X4 : Hid (XI w w4 s c r) := Y3.out.call hb4
  clear hb4 X3 Y3 d0 d1 d2 d3 d4 d5 d6 d7 d8 d9 lt3
  go_wp2
  go_ret
  exact ⟨rfl, X4.out.2.2.alloc (by have := X4.out.2.1; omega) _⟩
set_option maxHeartbeats 2000000 in
theorem grows7_ok (a b ab ra rab : ByteArray) (s y z : Sh.S8) (c cy cz : Nat) (r ry rz : ByteArray) (hlen : rz.size ≤ rab.size) (hbig : rab.size ≤ 1125899906842624) (hrz : Hid (rab.extract (rab.size - rz.size) rab.size = rz))
    (hadd2 : Hid (∀ W, (Op.stringOp .add r a).run Tryd.prog W = .ok (.string ra) W)) (hadd3 : Hid (∀ W, (Op.stringOp .add ra b).run Tryd.prog W = .ok (.string rab) W))
    (hadd : Hid (∀ W, (Op.stringOp .add a b).run Tryd.prog W = .ok (.string ab) W))
    (C1 : Hid (∀ W, HasK W → Calls Tryd.prog 13 #[.agg #[.int .u32 s.a, .int .u32 s.b, .int .u32 s.c, .int .u32 s.d, .int .u32 s.e, .int .u32 s.f, .int .u32 s.g, .int .u32 s.h, .int .u64 c, .string r], .string a] W fun e w' => e = .returned (.tuple #[.agg #[.int .u32 y.a, .int .u32 y.b, .int .u32 y.c, .int .u32 y.d, .int .u32 y.e, .int .u32 y.f, .int .u32 y.g, .int .u32 y.h, .int .u64 cy, .string ry], .int .i64 0]) ∧ Below W.heap.size W w'))
    (C2 : Hid (∀ W, HasK W → Calls Tryd.prog 13 #[.agg #[.int .u32 y.a, .int .u32 y.b, .int .u32 y.c, .int .u32 y.d, .int .u32 y.e, .int .u32 y.f, .int .u32 y.g, .int .u32 y.h, .int .u64 cy, .string ry], .string b] W fun e w' => e = .returned (.tuple #[.agg #[.int .u32 z.a, .int .u32 z.b, .int .u32 z.c, .int .u32 z.d, .int .u32 z.e, .int .u32 z.f, .int .u32 z.g, .int .u32 z.h, .int .u64 cz, .string rz], .int .i64 0]) ∧ Below W.heap.size W w'))
    (C3 : Hid (∀ W, HasK W → Calls Tryd.prog 13 #[.agg #[.int .u32 s.a, .int .u32 s.b, .int .u32 s.c, .int .u32 s.d, .int .u32 s.e, .int .u32 s.f, .int .u32 s.g, .int .u32 s.h, .int .u64 c, .string r], .string ab] W fun e w' => e = .returned (.tuple #[.agg #[.int .u32 z.a, .int .u32 z.b, .int .u32 z.c, .int .u32 z.d, .int .u32 z.e, .int .u32 z.f, .int .u32 z.g, .int .u32 z.h, .int .u64 cz, .string rz], .int .i64 0]) ∧ Below W.heap.size W w')) (w : World) (hK : HasK w) :
    Calls Tryd.prog 7 #[.agg #[.int .u32 s.a, .int .u32 s.b, .int .u32 s.c, .int .u32 s.d, .int .u32 s.e, .int .u32 s.f, .int .u32 s.g, .int .u32 s.h, .int .u64 c, .string r], .string a, .string b] w fun e w' => e = .returned (.bool true) ∧ Below w.heap.size w w' := by
  have HK : Hid (HasK w) := hK
  have hB : 0 < w.heap.size := hK.1
  have ha := hadd.out
  clear hK hadd
  go_enter Tryd.func7, Tryd.ntmps7
  go_wp2_with fail
  have X0 : Hid (XI w (w.alloc (.cells #[.int .u32 s.a, .int .u32 s.b, .int .u32 s.c, .int .u32 s.d, .int .u32 s.e, .int .u32 s.f, .int .u32 s.g, .int .u32 s.h, .int .u64 c, .string r] 29)) s c r) := XI.start w s c r
  refine (lives8 _ (HK.out.below hB X0.out.2.2)).mono ?_
  rintro e w1 ⟨rfl, hb1⟩
  have X1 : Hid (XI w w1 s c r) := X0.out.call hb1
  clear hb1 X0
  obtain ⟨d0, d1, d2, d3, d4, d5, d6, d7, d8, d9⟩ := X1.out.cells
  go_wp2_with fail
  refine (C1.out _ (HK.out.below hB X1.out.2.2)).mono ?_
  rintro e w2 ⟨rfl, hb2⟩
  have X2 : Hid (XI w w2 s c r) := X1.out.call hb2
  clear hb2 X1 d0 d1 d2 d3 d4 d5 d6 d7 d8 d9
  go_wp2_with fail
  have Y2 : Hid (XI w (w2.alloc (.cells #[.int .u32 y.a, .int .u32 y.b, .int .u32 y.c, .int .u32 y.d, .int .u32 y.e, .int .u32 y.f, .int .u32 y.g, .int .u32 y.h, .int .u64 cy, .string ry] 29)) s c r) := X2.out.alloc _
  refine (C2.out _ (HK.out.below hB Y2.out.2.2)).mono ?_
  rintro e w3 ⟨rfl, hb3⟩
  have X3 : Hid (XI w w3 s c r) := Y2.out.call hb3
  clear hb3 X2 Y2
  have lt3 : w.heap.size < w3.heap.size := by have := X3.out.2.1; omega
  have Y3 : Hid (XI w (w3.alloc (.cells #[.int .u32 z.a, .int .u32 z.b, .int .u32 z.c, .int .u32 z.d, .int .u32 z.e, .int .u32 z.f, .int .u32 z.g, .int .u32 z.h, .int .u64 cz, .string rz] 29)) s c r) := X3.out.alloc _
  obtain ⟨d0, d1, d2, d3, d4, d5, d6, d7, d8, d9⟩ := X3.out.cells
  go_wp2_with fail
  refine (C3.out _ (HK.out.below hB Y3.out.2.2)).mono ?_
  rintro e w4 ⟨rfl, hb4⟩
  have X4 : Hid (XI w w4 s c r) := Y3.out.call hb4
  have hz4 : w4.heap[w3.heap.size]? = some (.cells #[.int .u32 z.a, .int .u32 z.b, .int .u32 z.c, .int .u32 z.d, .int .u32 z.e, .int .u32 z.f, .int .u32 z.g, .int .u32 z.h, .int .u64 cz, .string rz] 29 (0, 0)) := (hb4.block _ (by simp)).trans (heap_alloc_new w3 _)
  have lt4 : w3.heap.size < w4.heap.size := by have := hb4.size; simp at this; omega
  have ltB : w.heap.size < w4.heap.size := by have := X4.out.2.1; omega
  clear hb4 X3 Y3 d0 d1 d2 d3 d4 d5 d6 d7 d8 d9 lt3
  obtain ⟨_, _, _, _, _, _, _, _, _, d9⟩ := X4.out.cells
  have z0 : w4.cell? ⟨w3.heap.size, 0, none⟩ = some (.int .u32 (z.a : Int)) := by rw [cell_of_row w4 _ _ _ 29 (0, 0) hz4]; rfl
  have z1 : w4.cell? ⟨w3.heap.size, 1, none⟩ = some (.int .u32 (z.b : Int)) := by rw [cell_of_row w4 _ _ _ 29 (0, 0) hz4]; rfl
  have z2 : w4.cell? ⟨w3.heap.size, 2, none⟩ = some (.int .u32 (z.c : Int)) := by rw [cell_of_row w4 _ _ _ 29 (0, 0) hz4]; rfl
  have z3 : w4.cell? ⟨w3.heap.size, 3, none⟩ = some (.int .u32 (z.d : Int)) := by rw [cell_of_row w4 _ _ _ 29 (0, 0) hz4]; rfl
  have z4 : w4.cell? ⟨w3.heap.size, 4, none⟩ = some (.int .u32 (z.e : Int)) := by rw [cell_of_row w4 _ _ _ 29 (0, 0) hz4]; rfl
  have z5 : w4.cell? ⟨w3.heap.size, 5, none⟩ = some (.int .u32 (z.f : Int)) := by rw [cell_of_row w4 _ _ _ 29 (0, 0) hz4]; rfl
  have z6 : w4.cell? ⟨w3.heap.size, 6, none⟩ = some (.int .u32 (z.g : Int)) := by rw [cell_of_row w4 _ _ _ 29 (0, 0) hz4]; rfl
  have z7 : w4.cell? ⟨w3.heap.size, 7, none⟩ = some (.int .u32 (z.h : Int)) := by rw [cell_of_row w4 _ _ _ 29 (0, 0) hz4]; rfl
  have z8 : w4.cell? ⟨w3.heap.size, 8, none⟩ = some (.int .u64 (cz : Int)) := by rw [cell_of_row w4 _ _ _ 29 (0, 0) hz4]; rfl
  have z9 : w4.cell? ⟨w3.heap.size, 9, none⟩ = some (.string rz) := by rw [cell_of_row w4 _ _ _ 29 (0, 0) hz4]; rfl
  clear hz4
  have hr1 := hadd2.out
  have hr2 := hadd3.out
  have hwr : IntKind.i64.wrap ((rab.size : Int) - (rz.size : Int)) = (rab.size : Int) - (rz.size : Int) := by rw [IntKind.wrap_i64]; omega
  have hle : ((rz.size : Int) ≤ (rab.size : Int)) := by omega
  have hsl : ∀ wx, (Instr.slice 9 (.string rab) (some (.int .i64 ((rab.size : Int) - (rz.size : Int)))) none none).run Tryd.prog wx = .ok (.string rz) wx := fun wx => by
    rw [run_slice_string_l (P := Tryd.prog) wx 9 rab Tryd.underlying9 .i64 ((rab.size : Int) - (rz.size : Int)) (by omega) (by omega), show ((rab.size : Int) - (rz.size : Int)).toNat = rab.size - rz.size by omega, hrz.out]
  have heq := eq26 z.a z.b z.c z.d z.e z.f z.g z.h
  go_wp2
  go_quiet (fail)
  go_wp2
  go_ret
  exact ⟨rfl, below_drewN' (X4.out.2.2.alloc (by omega) _)⟩
end Go.Proofs.YtojeoiiobpdccaaDoor
