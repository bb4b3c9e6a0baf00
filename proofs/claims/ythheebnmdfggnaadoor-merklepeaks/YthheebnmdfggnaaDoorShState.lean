/- The boxes of a state and of a result behind it. -/
import Derived.Test.YthheebnmdfggnaaDoorShSum
namespace Go.Proofs.YthheebnmdfggnaaDoor
open Go.RowKit
def XI (w W : World) (s : Sh.S8) (c : Nat) (r : ByteArray) : Prop :=
  W.heap[w.heap.size]? = some (.cells #[.int .u32 s.a, .int .u32 s.b, .int .u32 s.c, .int .u32 s.d, .int .u32 s.e, .int .u32 s.f, .int .u32 s.g, .int .u32 s.h, .int .u64 c, .string r] 87 (0, 0)) ∧ w.heap.size + 1 ≤ W.heap.size ∧ Below w.heap.size w W
theorem XI.start (w : World) (s : Sh.S8) (c : Nat) (r : ByteArray) : XI w (w.alloc (.cells #[.int .u32 s.a, .int .u32 s.b, .int .u32 s.c, .int .u32 s.d, .int .u32 s.e, .int .u32 s.f, .int .u32 s.g, .int .u32 s.h, .int .u64 c, .string r] 87)) s c r :=
  ⟨heap_alloc_new w _, by simp, (Below.refl _ w).alloc (Nat.le_refl _) _⟩
theorem XI.alloc {w W : World} {s : Sh.S8} {c : Nat} {r : ByteArray} (h : XI w W s c r) (o : Obj) : XI w (W.alloc o) s c r :=
  ⟨(Below.heap_alloc _ _ _ (by have := h.2.1; omega)).trans h.1, by simp; have := h.2.1; omega, h.2.2.alloc (by have := h.2.1; omega) _⟩
theorem XI.call {w wr w1 : World} {s : Sh.S8} {c : Nat} {r : ByteArray} (h : XI w wr s c r) (hb : Below wr.heap.size wr w1) : XI w w1 s c r := by
  obtain ⟨h1, h3, h4⟩ := h
  exact ⟨(hb.block _ (by omega)).trans h1, Nat.le_trans h3 hb.size, h4.trans (hb.mono (by omega))⟩
theorem XI.cells {w W : World} {s : Sh.S8} {c : Nat} {r : ByteArray} (h : XI w W s c r) :
    W.cell? ⟨w.heap.size, 0, none⟩ = some (.int .u32 (s.a : Int)) ∧ W.cell? ⟨w.heap.size, 1, none⟩ = some (.int .u32 (s.b : Int)) ∧ W.cell? ⟨w.heap.size, 2, none⟩ = some (.int .u32 (s.c : Int)) ∧ W.cell? ⟨w.heap.size, 3, none⟩ = some (.int .u32 (s.d : Int)) ∧
    W.cell? ⟨w.heap.size, 4, none⟩ = some (.int .u32 (s.e : Int)) ∧ W.cell? ⟨w.heap.size, 5, none⟩ = some (.int .u32 (s.f : Int)) ∧ W.cell? ⟨w.heap.size, 6, none⟩ = some (.int .u32 (s.g : Int)) ∧ W.cell? ⟨w.heap.size, 7, none⟩ = some (.int .u32 (s.h : Int)) ∧
    W.cell? ⟨w.heap.size, 8, none⟩ = some (.int .u64 (c : Int)) ∧ W.cell? ⟨w.heap.size, 9, none⟩ = some (.string r) := by
  obtain ⟨h1, _, _⟩ := h
  refine ⟨?_, ?_, ?_, ?_, ?_, ?_, ?_, ?_, ?_, ?_⟩ <;> (rw [cell_of_row W _ _ _ 87 (0, 0) h1]; rfl)
def AI (w W : World) (s : Sh.S8) (c : Nat) (r : ByteArray) : Prop :=
  XI w W s c r ∧ W.heap[w.heap.size + 1]? = some (.cells #[.int .u32 0, .int .u32 0, .int .u32 0, .int .u32 0, .int .u32 0, .int .u32 0, .int .u32 0, .int .u32 0, .int .u64 0, .string ⟨#[]⟩] 87 (0, 0)) ∧ w.heap.size + 2 ≤ W.heap.size
theorem AI.start (w : World) (s : Sh.S8) (c : Nat) (r : ByteArray) : AI w ((w.alloc (.cells #[.int .u32 s.a, .int .u32 s.b, .int .u32 s.c, .int .u32 s.d, .int .u32 s.e, .int .u32 s.f, .int .u32 s.g, .int .u32 s.h, .int .u64 c, .string r] 87)).alloc (.cells #[.int .u32 0, .int .u32 0, .int .u32 0, .int .u32 0, .int .u32 0, .int .u32 0, .int .u32 0, .int .u32 0, .int .u64 0, .string ⟨#[]⟩] 87)) s c r := by
  refine ⟨(XI.start w s c r).alloc _, ?_, by simp⟩
  have := heap_alloc_new (w.alloc (.cells #[.int .u32 s.a, .int .u32 s.b, .int .u32 s.c, .int .u32 s.d, .int .u32 s.e, .int .u32 s.f, .int .u32 s.g, .int .u32 s.h, .int .u64 c, .string r] 87)) (.cells #[.int .u32 0, .int .u32 0, .int .u32 0, .int .u32 0, .int .u32 0, .int .u32 0, .int .u32 0, .int .u32 0, .int .u64 0, .string ⟨#[]⟩] 87)
  rw [World.size_alloc] at this
  exact this
theorem AI.call {w wr w1 : World} {s : Sh.S8} {c : Nat} {r : ByteArray} (h : AI w wr s c r) (hb : Below wr.heap.size wr w1) : AI w w1 s c r := by
  obtain ⟨h1, h2, h3⟩ := h
  exact ⟨h1.call hb, (hb.block _ (by omega)).trans h2, Nat.le_trans h3 hb.size⟩
theorem AI.out {w W : World} {s : Sh.S8} {c : Nat} {r : ByteArray} (h : AI w W s c r) :
    W.cell? ⟨w.heap.size + 1, 0, none⟩ = some (.int .u32 0) ∧ W.cell? ⟨w.heap.size + 1, 1, none⟩ = some (.int .u32 0) ∧ W.cell? ⟨w.heap.size + 1, 2, none⟩ = some (.int .u32 0) ∧ W.cell? ⟨w.heap.size + 1, 3, none⟩ = some (.int .u32 0) ∧
    W.cell? ⟨w.heap.size + 1, 4, none⟩ = some (.int .u32 0) ∧ W.cell? ⟨w.heap.size + 1, 5, none⟩ = some (.int .u32 0) ∧ W.cell? ⟨w.heap.size + 1, 6, none⟩ = some (.int .u32 0) ∧ W.cell? ⟨w.heap.size + 1, 7, none⟩ = some (.int .u32 0) ∧
    W.cell? ⟨w.heap.size + 1, 8, none⟩ = some (.int .u64 0) ∧ W.cell? ⟨w.heap.size + 1, 9, none⟩ = some (.string ⟨#[]⟩) := by
  obtain ⟨_, h1, _⟩ := h
  refine ⟨?_, ?_, ?_, ?_, ?_, ?_, ?_, ?_, ?_, ?_⟩ <;> (rw [cell_of_row W _ _ _ 87 (0, 0) h1]; rfl)
theorem AI.kept {w W : World} {s : Sh.S8} {c : Nat} {r : ByteArray} (h : AI w W s c r) (x0 x1 x2 x3 x4 x5 x6 x7 x8 x9 : Value) :
    Below w.heap.size w ((((((((((W.setCell ⟨w.heap.size + 1, 0, none⟩ x0).setCell ⟨w.heap.size + 1, 1, none⟩ x1).setCell ⟨w.heap.size + 1, 2, none⟩ x2).setCell ⟨w.heap.size + 1, 3, none⟩ x3).setCell ⟨w.heap.size + 1, 4, none⟩ x4).setCell ⟨w.heap.size + 1, 5, none⟩ x5).setCell ⟨w.heap.size + 1, 6, none⟩ x6).setCell ⟨w.heap.size + 1, 7, none⟩ x7).setCell ⟨w.heap.size + 1, 8, none⟩ x8).setCell ⟨w.heap.size + 1, 9, none⟩ x9) := by
  have hl : w.heap.size ≤ w.heap.size + 1 := Nat.le_succ _
  exact (((((((((h.1.2.2.setCell (p := ⟨w.heap.size + 1, 0, none⟩) hl x0).setCell (p := ⟨w.heap.size + 1, 1, none⟩) hl x1).setCell (p := ⟨w.heap.size + 1, 2, none⟩) hl x2).setCell (p := ⟨w.heap.size + 1, 3, none⟩) hl x3).setCell (p := ⟨w.heap.size + 1, 4, none⟩) hl x4).setCell (p := ⟨w.heap.size + 1, 5, none⟩) hl x5).setCell (p := ⟨w.heap.size + 1, 6, none⟩) hl x6).setCell (p := ⟨w.heap.size + 1, 7, none⟩) hl x7).setCell (p := ⟨w.heap.size + 1, 8, none⟩) hl x8).setCell (p := ⟨w.heap.size + 1, 9, none⟩) hl x9
end Go.Proofs.YthheebnmdfggnaaDoor
