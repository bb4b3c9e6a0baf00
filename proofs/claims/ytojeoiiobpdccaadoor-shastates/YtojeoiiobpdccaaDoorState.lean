/- What sha.right, sha.End and sha.Add answer. -/
import Derived.Test.YtojeoiiobpdccaaDoorClone
namespace Go.Proofs.YtojeoiiobpdccaaDoor
open Go.RowKit
namespace Sh
/-- a state is right -/
def rightB (c n : Nat) : Bool := decide (c < 1152921504606846976) && (n == c % 64)
end Sh
set_option maxHeartbeats 1000000 in
theorem right22 (s : Sh.S8) (c : Nat) (r : ByteArray) (hc : c < 18446744073709551616) (hr : r.size ≤ 9223372036854775807) (w : World) :
    Calls Tryd.prog 22 #[.agg #[.int .u32 s.a, .int .u32 s.b, .int .u32 s.c, .int .u32 s.d, .int .u32 s.e, .int .u32 s.f, .int .u32 s.g, .int .u32 s.h, .int .u64 c, .string r]] w fun e w' => e = .returned (.bool (Sh.rightB c r.size)) ∧ Below w.heap.size w w' := by
  by_cases h1 : c < 1152921504606846976
  · by_cases h2 : r.size = c % 64
    · have e : Sh.rightB c r.size = true := by simp [Sh.rightB, h1, h2]
      rw [e]
      have h3 : ((r.size : Int) == (c : Int) % 64) = true := by rw [beq_iff_eq]; omega
      have h1' : (c : Int) < 1152921504606846976 := by omega
      clear e h1 h2
      go_enter Tryd.func22, Tryd.ntmps22
      go_wp2
      go_ret
      exact ⟨rfl, (Below.refl _ _).alloc (Nat.le_refl _) _⟩
    · have e : Sh.rightB c r.size = false := by simp [Sh.rightB, h2]
      rw [e]
      have h3 : ((r.size : Int) == (c : Int) % 64) = false := by rw [beq_eq_false_iff_ne]; omega
      have h1' : (c : Int) < 1152921504606846976 := by omega
      clear e h1 h2
      go_enter Tryd.func22, Tryd.ntmps22
      go_wp2
      go_ret
      exact ⟨rfl, (Below.refl _ _).alloc (Nat.le_refl _) _⟩
  · have e : Sh.rightB c r.size = false := by simp [Sh.rightB, h1]
    rw [e]
    have h1' : ¬ (c : Int) < 1152921504606846976 := by omega
    have h1'' : decide ((c : Int) < 1152921504606846976) = false := by simpa using h1'
    clear e h1
    go_enter Tryd.func22, Tryd.ntmps22
    go_wp2
    go_ret
    exact ⟨rfl, (Below.refl _ _).alloc (Nat.le_refl _) _⟩
set_option maxHeartbeats 1000000 in
theorem end15_no (s : Sh.S8) (c : Nat) (r : ByteArray) (hc : c < 18446744073709551616) (hr : r.size ≤ 9223372036854775807) (hno : Sh.rightB c r.size = false) (w : World) :
    Calls Tryd.prog 15 #[.agg #[.int .u32 s.a, .int .u32 s.b, .int .u32 s.c, .int .u32 s.d, .int .u32 s.e, .int .u32 s.f, .int .u32 s.g, .int .u32 s.h, .int .u64 c, .string r]] w fun e w' => e = .returned (.tuple #[.string ⟨#[]⟩, .int .i64 6]) ∧ Below w.heap.size w w' := by
  have HN : Hid (Sh.rightB c r.size = false) := hno
  clear hno
  go_enter Tryd.func15, Tryd.ntmps15
  go_wp2_with fail
  refine (right22 s c r hc (by omega) _).mono ?_
  rw [HN.out]
  rintro e w1 ⟨rfl, hb1⟩
  have B1 : Hid (Below w.heap.size w w1) := ((Below.refl _ w).alloc (Nat.le_refl _) _).trans (hb1.mono (by simp))
  clear hb1
  go_wp2
  go_ret2
  exact ⟨rfl, B1.out⟩
/-- the box of a state -/
def XI (w W : World) (s : Sh.S8) (c : Nat) (r : ByteArray) : Prop :=
  W.heap[w.heap.size]? = some (.cells #[.int .u32 s.a, .int .u32 s.b, .int .u32 s.c, .int .u32 s.d, .int .u32 s.e, .int .u32 s.f, .int .u32 s.g, .int .u32 s.h, .int .u64 c, .string r] 29 (0, 0)) ∧ w.heap.size + 1 ≤ W.heap.size ∧ Below w.heap.size w W
theorem XI.start (w : World) (s : Sh.S8) (c : Nat) (r : ByteArray) : XI w (w.alloc (.cells #[.int .u32 s.a, .int .u32 s.b, .int .u32 s.c, .int .u32 s.d, .int .u32 s.e, .int .u32 s.f, .int .u32 s.g, .int .u32 s.h, .int .u64 c, .string r] 29)) s c r :=
  ⟨heap_alloc_new w _, by simp, (Below.refl _ w).alloc (Nat.le_refl _) _⟩
theorem XI.alloc {w W : World} {s : Sh.S8} {c : Nat} {r : ByteArray} (h : XI w W s c r) (o : Obj) : XI w (W.alloc o) s c r :=
  ⟨(Below.heap_alloc _ _ _ (by have := h.2.1; omega)).trans h.1, by simp; have := h.2.1; omega, h.2.2.alloc (by have := h.2.1; omega) _⟩
theorem XI.call {w wr w1 : World} {s : Sh.S8} {c : Nat} {r : ByteArray} (h : XI w wr s c r) (hb : Below wr.heap.size wr w1) : XI w w1 s c r := by
  obtain ⟨h1, h3, h4⟩ := h
  exact ⟨(hb.block _ (by omega)).trans h1, Nat.le_trans h3 hb.size, h4.trans (hb.mono (by omega))⟩
theorem XI.cells {w W : World} {s : Sh.S8} {c : Nat} {r : ByteArray} (h : XI w W s c r) :
    W.cell? ⟨w.heap.size, 0, none⟩ = some (.int .u32 (s.a : Int)) ∧ W.cell? ⟨w.heap.size, 1, none⟩ = some (.int .u32 (s.b : Int)) ∧ W.cell? ⟨w.heap.size, 2, none⟩ = some (.int .u32 (s.c : Int)) ∧ W.cell? ⟨w.heap.size, 3, none⟩ = some (.int .u32 (s.d : Int)) ∧
    W.cell? ⟨w.heap.size, 4, none⟩ = some (.int .u32 (s.e : Int)) ∧ W.cell? ⟨w.heap.size, 5, none⟩ = some (.int .u32 (s.f : Int)) ∧ W.cell? ⟨w.heap.size, 6, none⟩ = some (.int .u32 (s.g : Int)) ∧ W.cell? ⟨w.heap.size, 7, none⟩ = some (.int .u32 (s.h : Int)) ∧
    W.cell? ⟨w.heap.size, 8, none⟩ = some (.int .u64 (c : Int)) ∧ W.cell? ⟨w.heap.size, 9, none⟩ = some (.string r) := by
  obtain ⟨h1, _, _⟩ := h
  refine ⟨?_, ?_, ?_, ?_, ?_, ?_, ?_, ?_, ?_, ?_⟩ <;> (rw [cell_of_row W _ _ _ 29 (0, 0) h1]; rfl)
set_option maxHeartbeats 1000000 in
theorem end15_yes (s : Sh.S8) (hs : s.ok) (c : Nat) (r : ByteArray) (hc : c < 1152921504606846976) (hr : r.size ≤ 1125899906842000) (hyes : Sh.rightB c r.size = true) (w : World) (hK : HasK w) :
    Calls Tryd.prog 15 #[.agg #[.int .u32 s.a, .int .u32 s.b, .int .u32 s.c, .int .u32 s.d, .int .u32 s.e, .int .u32 s.f, .int .u32 s.g, .int .u32 s.h, .int .u64 c, .string r]] w fun e w' => e = .returned (.tuple #[.string ⟨(Sh.fin s r.data.toList c).toArray⟩, .int .i64 0]) ∧ Below w.heap.size w w' := by
  have HN : Hid (Sh.rightB c r.size = true) := hyes
  obtain ⟨d, hd⟩ : ∃ d : ByteArray, d = ⟨(Sh.fin s r.data.toList c).toArray⟩ := ⟨_, rfl⟩
  rw [← hd]
  have HD : Hid (d = ⟨(Sh.fin s r.data.toList c).toArray⟩) := hd
  have HK : Hid (HasK w) := hK
  have hB : 0 < w.heap.size := hK.1
  have HS : Hid s.ok := hs
  clear hyes hd hK hs
  go_enter Tryd.func15, Tryd.ntmps15
  go_wp2_with fail
  refine (right22 s c r (by omega) (by omega) _).mono ?_
  rw [HN.out]
  rintro e w1 ⟨rfl, hb1⟩
  have X1 : Hid (XI w w1 s c r) := (XI.start w s c r).call (by exact hb1)
  obtain ⟨d0, d1, d2, d3, d4, d5, d6, d7, d8, d9⟩ := X1.out.cells
  clear hb1
  go_wp2_with fail
  refine (finish19' s HS.out r hr c _ rfl hc d HD _ (HK.out.below hB X1.out.2.2)).mono ?_
  rintro e w2 ⟨rfl, hb2⟩
  have X2 : Hid (XI w w2 s c r) := X1.out.call hb2
  clear hb2 d0 d1 d2 d3 d4 d5 d6 d7 d8 d9
  go_wp2
  go_ret2
  exact ⟨rfl, X2.out.2.2⟩
end Go.Proofs.YtojeoiiobpdccaaDoor
