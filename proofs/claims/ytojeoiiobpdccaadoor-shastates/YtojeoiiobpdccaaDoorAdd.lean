/- What sha.Add answers: the state behind a further piece, or why there is none. -/
import Derived.Test.YtojeoiiobpdccaaDoorState
namespace Go.Proofs.YtojeoiiobpdccaaDoor
open Go.RowKit
/-- the box of a state and the result behind it -/
def AI (w W : World) (s : Sh.S8) (c : Nat) (r : ByteArray) : Prop :=
  XI w W s c r ∧ W.heap[w.heap.size + 1]? = some (.cells #[.int .u32 0, .int .u32 0, .int .u32 0, .int .u32 0, .int .u32 0, .int .u32 0, .int .u32 0, .int .u32 0, .int .u64 0, .string ⟨#[]⟩] 29 (0, 0)) ∧ w.heap.size + 2 ≤ W.heap.size
theorem AI.start (w : World) (s : Sh.S8) (c : Nat) (r : ByteArray) : AI w ((w.alloc (.cells #[.int .u32 s.a, .int .u32 s.b, .int .u32 s.c, .int .u32 s.d, .int .u32 s.e, .int .u32 s.f, .int .u32 s.g, .int .u32 s.h, .int .u64 c, .string r] 29)).alloc (.cells #[.int .u32 0, .int .u32 0, .int .u32 0, .int .u32 0, .int .u32 0, .int .u32 0, .int .u32 0, .int .u32 0, .int .u64 0, .string ⟨#[]⟩] 29)) s c r := by
  refine ⟨(XI.start w s c r).alloc _, ?_, by simp⟩
  have := heap_alloc_new (w.alloc (.cells #[.int .u32 s.a, .int .u32 s.b, .int .u32 s.c, .int .u32 s.d, .int .u32 s.e, .int .u32 s.f, .int .u32 s.g, .int .u32 s.h, .int .u64 c, .string r] 29)) (.cells #[.int .u32 0, .int .u32 0, .int .u32 0, .int .u32 0, .int .u32 0, .int .u32 0, .int .u32 0, .int .u32 0, .int .u64 0, .string ⟨#[]⟩] 29)
  rw [World.size_alloc] at this
  exact this
theorem AI.call {w wr w1 : World} {s : Sh.S8} {c : Nat} {r : ByteArray} (h : AI w wr s c r) (hb : Below wr.heap.size wr w1) : AI w w1 s c r := by
  obtain ⟨h1, h2, h3⟩ := h
  exact ⟨h1.call hb, (hb.block _ (by omega)).trans h2, Nat.le_trans h3 hb.size⟩
theorem AI.out {w W : World} {s : Sh.S8} {c : Nat} {r : ByteArray} (h : AI w W s c r) :
    W.cell? ⟨w.heap.size + 1, 0, none⟩ = some (.int .u32 0) ∧ W.cell? ⟨w.heap.size + 1, 1, none⟩ = some (.int .u32 0) ∧ W.cell? ⟨w.heap.size + 1, 2, none⟩ = some (.int .u32 0) ∧ W.cell? ⟨w.heap.size + 1, 3, none⟩ = some (.int .u32 0) ∧
    W.cell? ⟨w.heap.size + 1, 4, none⟩ = some (.int .u32 0) ∧ W.cell? ⟨w.heap.size + 1, 5, none⟩ = some (.int .u32 0) ∧ W.cell? ⟨w.heap.size + 1, 6, none⟩ = some (.int .u32 0) ∧ W.cell? ⟨w.heap.size + 1, 7, none⟩ = some (.int .u32 0) ∧
    W.cell? ⟨w.heap.size + 1, 8, none⟩ = some (.int .u64 0) ∧ W.cell? ⟨w.heap.size + 1, 9, none⟩ = some (.string ⟨#[]⟩) := by
  obtain ⟨_, h1, _⟩ := h
  refine ⟨?_, ?_, ?_, ?_, ?_, ?_, ?_, ?_, ?_, ?_⟩ <;> (rw [cell_of_row W _ _ _ 29 (0, 0) h1]; rfl)
/-- a result stored: nothing below has turned -/
theorem AI.kept {w W : World} {s : Sh.S8} {c : Nat} {r : ByteArray} (h : AI w W s c r) (x0 x1 x2 x3 x4 x5 x6 x7 x8 x9 : Value) :
    Below w.heap.size w ((((((((((W.setCell ⟨w.heap.size + 1, 0, none⟩ x0).setCell ⟨w.heap.size + 1, 1, none⟩ x1).setCell ⟨w.heap.size + 1, 2, none⟩ x2).setCell ⟨w.heap.size + 1, 3, none⟩ x3).setCell ⟨w.heap.size + 1, 4, none⟩ x4).setCell ⟨w.heap.size + 1, 5, none⟩ x5).setCell ⟨w.heap.size + 1, 6, none⟩ x6).setCell ⟨w.heap.size + 1, 7, none⟩ x7).setCell ⟨w.heap.size + 1, 8, none⟩ x8).setCell ⟨w.heap.size + 1, 9, none⟩ x9) := by
  have hl : w.heap.size ≤ w.heap.size + 1 := Nat.le_succ _
  exact (((((((((h.1.2.2.setCell (p := ⟨w.heap.size + 1, 0, none⟩) hl x0).setCell (p := ⟨w.heap.size + 1, 1, none⟩) hl x1).setCell (p := ⟨w.heap.size + 1, 2, none⟩) hl x2).setCell (p := ⟨w.heap.size + 1, 3, none⟩) hl x3).setCell (p := ⟨w.heap.size + 1, 4, none⟩) hl x4).setCell (p := ⟨w.heap.size + 1, 5, none⟩) hl x5).setCell (p := ⟨w.heap.size + 1, 6, none⟩) hl x6).setCell (p := ⟨w.heap.size + 1, 7, none⟩) hl x7).setCell (p := ⟨w.heap.size + 1, 8, none⟩) hl x8).setCell (p := ⟨w.heap.size + 1, 9, none⟩) hl x9
set_option maxHeartbeats 1000000 in
theorem add13_no (s : Sh.S8) (c : Nat) (r t : ByteArray) (hc : c < 18446744073709551616) (hr : r.size ≤ 9223372036854775807) (hno : Sh.rightB c r.size = false) (w : World) :
    Calls Tryd.prog 13 #[.agg #[.int .u32 s.a, .int .u32 s.b, .int .u32 s.c, .int .u32 s.d, .int .u32 s.e, .int .u32 s.f, .int .u32 s.g, .int .u32 s.h, .int .u64 c, .string r], .string t] w
      fun e w' => e = .returned (.tuple #[.agg #[.int .u32 0, .int .u32 0, .int .u32 0, .int .u32 0, .int .u32 0, .int .u32 0, .int .u32 0, .int .u32 0, .int .u64 0, .string ⟨#[]⟩], .int .i64 6]) ∧ Below w.heap.size w w' := by
  have HN : Hid (Sh.rightB c r.size = false) := hno
  clear hno
  go_enter Tryd.func13, Tryd.ntmps13
  go_wp2_with fail
  refine (right22 s c r hc (by omega) _).mono ?_
  rw [HN.out]
  rintro e w1 ⟨rfl, hb1⟩
  have A1 : Hid (AI w w1 s c r) := (AI.start w s c r).call (by exact hb1)
  obtain ⟨o0, o1, o2, o3, o4, o5, o6, o7, o8, o9⟩ := A1.out.out
  have fz : ∀ j, w1.frozen? ⟨w.heap.size + 1, j, none⟩ = false := row_free A1.out.2.1
  clear hb1
  go_wp2
  refine bodyPost_ret (v := .tuple #[.agg #[.int .u32 0, .int .u32 0, .int .u32 0, .int .u32 0, .int .u32 0, .int .u32 0, .int .u32 0, .int .u32 0, .int .u64 0, .string ⟨#[]⟩], .int .i64 6]) (by simp [results, Tryd.results13, go_sem, o0, o1, o2, o3, o4, o5, o6, o7, o8, o9]) rfl ⟨rfl, ?_⟩
  exact A1.out.kept _ _ _ _ _ _ _ _ _ _
set_option maxHeartbeats 1000000 in
theorem add13_range (s : Sh.S8) (c : Nat) (r t : ByteArray) (hc : c < 1152921504606846976) (hr : r.size ≤ 9223372036854775807) (ht : t.size ≤ 1125899906842000) (hyes : Sh.rightB c r.size = true) (hbig : 1152921504606846976 ≤ c + t.size) (w : World) :
    Calls Tryd.prog 13 #[.agg #[.int .u32 s.a, .int .u32 s.b, .int .u32 s.c, .int .u32 s.d, .int .u32 s.e, .int .u32 s.f, .int .u32 s.g, .int .u32 s.h, .int .u64 c, .string r], .string t] w
      fun e w' => e = .returned (.tuple #[.agg #[.int .u32 0, .int .u32 0, .int .u32 0, .int .u32 0, .int .u32 0, .int .u32 0, .int .u32 0, .int .u32 0, .int .u64 0, .string ⟨#[]⟩], .int .i64 2]) ∧ Below w.heap.size w w' := by
  have HN : Hid (Sh.rightB c r.size = true) := hyes
  have hbig' : (1152921504606846976 : Int) ≤ (c : Int) + (t.size : Int) := by omega
  clear hyes
  go_enter Tryd.func13, Tryd.ntmps13
  go_wp2_with fail
  refine (right22 s c r (by omega) (by omega) _).mono ?_
  rw [HN.out]
  rintro e w1 ⟨rfl, hb1⟩
  have A1 : Hid (AI w w1 s c r) := (AI.start w s c r).call (by exact hb1)
  obtain ⟨d0, d1, d2, d3, d4, d5, d6, d7, d8, d9⟩ := A1.out.1.cells
  obtain ⟨o0, o1, o2, o3, o4, o5, o6, o7, o8, o9⟩ := A1.out.out
  have fz : ∀ j, w1.frozen? ⟨w.heap.size + 1, j, none⟩ = false := row_free A1.out.2.1
  clear hb1 d0 d1 d2 d3 d4 d5 d6 d7 d9
  go_wp2
  refine bodyPost_ret (v := .tuple #[.agg #[.int .u32 0, .int .u32 0, .int .u32 0, .int .u32 0, .int .u32 0, .int .u32 0, .int .u32 0, .int .u32 0, .int .u64 0, .string ⟨#[]⟩], .int .i64 2]) (by simp [results, Tryd.results13, go_sem, o0, o1, o2, o3, o4, o5, o6, o7, o8, o9]) rfl ⟨rfl, ?_⟩
  exact A1.out.kept _ _ _ _ _ _ _ _ _ _

namespace Sh
/-- the piece behind the rest -/
def both (r t : List UInt8) : List UInt8 := r ++ t
end Sh
set_option maxRecDepth 20000 in
set_option maxHeartbeats 2000000 in
theorem add13_yes (s m : Sh.S8) (hs : s.ok) (c n : Nat) (r t q : ByteArray) (hc : c < 1152921504606846976) (hr : r.size ≤ 64) (ht : t.size ≤ 1125899906840000) (hyes : Sh.rightB c r.size = true) (hn : Hid (n = c + t.size)) (hsm : n < 1152921504606846976)
    (hm : Hid (m = Sh.chgAll s (r.data.toList ++ t.data.toList))) (hq : Hid (q = ⟨(Sh.restOf (r.data.toList ++ t.data.toList)).toArray⟩)) (w : World) (hK : HasK w) :
    Calls Tryd.prog 13 #[.agg #[.int .u32 s.a, .int .u32 s.b, .int .u32 s.c, .int .u32 s.d, .int .u32 s.e, .int .u32 s.f, .int .u32 s.g, .int .u32 s.h, .int .u64 c, .string r], .string t] w
      fun e w' => e = .returned (.tuple #[.agg #[.int .u32 m.a, .int .u32 m.b, .int .u32 m.c, .int .u32 m.d, .int .u32 m.e, .int .u32 m.f, .int .u32 m.g, .int .u32 m.h, .int .u64 (n : Int), .string q], .int .i64 0]) ∧ Below w.heap.size w w' := by
  have HN : Hid (Sh.rightB c r.size = true) := hyes
  have hcs : (c : Int) + (t.size : Int) = (n : Int) := by have := hn.out; omega
  have hsm' : ¬ (1152921504606846976 : Int) ≤ (n : Int) := by omega
  have hsm'' : decide ((1152921504606846976 : Int) ≤ (n : Int)) = false := decide_eq_false hsm'
  obtain ⟨rt, hrt⟩ : ∃ rt, rt = r ++ t := ⟨_, rfl⟩
  have hrl : rt.data.toList = r.data.toList ++ t.data.toList := by rw [hrt]; simp
  have hrs : rt.size = r.size + t.size := by rw [Lib.size_eq, hrl, List.length_append, ← Lib.size_eq, ← Lib.size_eq]
  have hrs' : rt.size ≤ 1125899906842000 := by omega
  have hadd : ∀ W, (Op.stringOp .add r t).run Tryd.prog W = .ok (.string rt) W := fun W => by rw [hrt]; exact run_string_add_sum W r t (by omega)
  have HQ : Hid (rt.extract (rt.size - rt.size % 64) rt.size = q) := by
    show _ = _
    rw [hq.out, Lib.extract_eq, hrl, Sh.restOf]
    rw [List.take_of_length_le (by rw [List.length_drop, ← hrl, ← Lib.size_eq]; exact Nat.le_refl _), ← hrl, ← Lib.size_eq]
  have hqs : q.size ≤ 64 := by
    rw [← HQ.out, Lib.size_eq, Lib.extract_data, List.length_take, List.length_drop, ← Lib.size_eq]; omega
  have HM : Hid (m = Sh.chgAll s rt.data.toList) := by show _ = _; rw [hrl]; exact hm.out
  have HK : Hid (HasK w) := hK
  have HS : Hid s.ok := hs
  have hB : 0 < w.heap.size := hK.1
  clear hyes hrt hrl hrs hK hs hm hq
  go_enter Tryd.func13, Tryd.ntmps13
  go_wp2_with fail
  refine (right22 s c r (by omega) (by omega) _).mono ?_
  rw [HN.out]
  rintro e w1 ⟨rfl, hb1⟩
  have A1 : Hid (AI w w1 s c r) := (AI.start w s c r).call (by exact hb1)
  obtain ⟨d0, d1, d2, d3, d4, d5, d6, d7, d8, d9⟩ := A1.out.1.cells
  clear hb1 d0 d1 d2 d3 d4 d5 d6 d7
  go_wp2_with fail
  rw [HQ.out]
  refine (clone23 q (by omega) _).mono ?_
  rintro e w2 ⟨rfl, hb2⟩
  have A2 : Hid (AI w w2 s c r) := A1.out.call hb2
  clear hb2 d8 d9
  obtain ⟨d0, d1, d2, d3, d4, d5, d6, d7, d8, d9⟩ := A2.out.1.cells
  clear d8 d9
  go_wp2_with fail
  refine (change20' s m HS.out rt (by omega) HM _ (HK.out.below hB A2.out.1.2.2)).mono ?_
  rintro e w3 ⟨rfl, hb3⟩
  have A3 : Hid (AI w w3 s c r) := A2.out.call hb3
  clear hb3 d0 d1 d2 d3 d4 d5 d6 d7
  obtain ⟨o0, o1, o2, o3, o4, o5, o6, o7, o8, o9⟩ := A3.out.out
  have fz : ∀ j, w3.frozen? ⟨w.heap.size + 1, j, none⟩ = false := row_free A3.out.2.1
  go_wp2
  refine bodyPost_ret (v := .tuple #[.agg #[.int .u32 m.a, .int .u32 m.b, .int .u32 m.c, .int .u32 m.d, .int .u32 m.e, .int .u32 m.f, .int .u32 m.g, .int .u32 m.h, .int .u64 (n : Int), .string q], .int .i64 0]) (by simp [results, Tryd.results13, go_sem, o0, o1, o2, o3, o4, o5, o6, o7, o8, o9]) rfl ⟨rfl, ?_⟩
  exact A3.out.kept _ _ _ _ _ _ _ _ _ _
end Go.Proofs.YtojeoiiobpdccaaDoor
