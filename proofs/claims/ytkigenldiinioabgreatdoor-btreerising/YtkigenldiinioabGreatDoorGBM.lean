/- Several texts, joined: Strange, Alone, CheckM -/
import Derived.Test.YtkigenldiinioabGreatDoorGAM
import Derived.Laws.Cover1
/- strange, walked: whether a field that the value's kind has not is not zero. -/
namespace Go.Proofs.YtkigenldiinioabGreatDoor
open Go.RowKit
open Vl (V)
theorem str_nil (s : ByteArray) : s.toList = [] ↔ s.size = 0 := by
  rw [Go.ByteArray.toList_eq, ← List.length_eq_zero_iff]
  rfl
set_option maxHeartbeats 4000000 in
set_option maxRecDepth 100000 in
theorem strange63 (k : Nat) (b : Bool) (n : Int) (s : ByteArray) (l : List V) (f : List (ByteArray × V)) (ao : Option Addr) (ac : Nat) (fo : Option Addr) (fc : Nat) (w : World) :
    Calls Tryz.prog 76 #[.agg #[.int .u8 (k : Int), .bool b, .int .i64 n, .string s, .slice ao l.length ac, .slice fo f.length fc]] w fun e w' => e = .returned (.bool (Vl.strange ⟨k, b, n, s, l, f⟩)) ∧ Below w.heap.size w w' := by
  obtain ⟨ll, hll⟩ : ∃ n, n = l.length := ⟨_, rfl⟩
  obtain ⟨fl, hfl⟩ : ∃ n, n = f.length := ⟨_, rfl⟩
  obtain ⟨r, hr⟩ : ∃ r, r = Vl.strange ⟨k, b, n, s, l, f⟩ := ⟨_, rfl⟩
  have HR : Hid (r = ((b && decide (k ≠ 1)) || (decide (n ≠ 0) && decide (k ≠ 2)) || (decide (s.size ≠ 0) && decide (k ≠ 3) && decide (k ≠ 4)) || (decide (0 < ll) && decide (k ≠ 5)) || (decide (0 < fl) && decide (k ≠ 6)))) := by
    show _ = _
    rw [hr, Vl.strange, hll, hfl]
  rw [← hr, ← hll, ← hfl]
  clear hr hll hfl
  go_enter Tryz.func76, Tryz.ntmps76
  go_wp2
  all_goals
    refine ⟨rfl, _, results_tmp (by rfl) _ _ _, ?_, below_new _ _⟩
    refine congrArg (fun z => Ending.returned (Value.bool z)) (Eq.symm ?_)
    rw [HR.out]
    try simp only [str_nil] at *
    first
      | (simp_all; done)
      | (simp_all; omega)
      | (by_cases h6 : k = 6 <;> simp_all <;> omega)
end Go.Proofs.YtkigenldiinioabGreatDoor
/- checkAlone and checkName, walked over whatever the library answers of a text's being UTF-8. -/
namespace Go.Proofs.YtkigenldiinioabGreatDoor
open Go.RowKit
open Vl (V)
/-- what the library answers of texts: u, in worlds in which its tables lie (T); new blocks leave these alone -/
structure Utf (u : ByteArray → Bool) (T : World → Prop) : Prop where
  stays : ∀ w w' : World, T w → Below w.heap.size w w' → T w'
  says : ∀ (s : ByteArray) (w : World), s.size ≤ maxLen → T w → Calls Tryz.prog 77 #[.string s] w fun e w' => e = .returned (.bool (u s)) ∧ Below w.heap.size w w'
set_option maxHeartbeats 4000000 in
set_option maxRecDepth 100000 in
theorem name49 {u : ByteArray → Bool} {T : World → Prop} (hU : Utf u T) (m : ByteArray) (hm : m.size ≤ maxLen) (w : World) (hT : T w) :
    Calls Tryz.prog 63 #[.string m] w fun e w' => e = .returned (.int .i64 ((Vl.nameErr u m : Nat) : Int)) ∧ Below w.heap.size w w' := by
  obtain ⟨q, hq⟩ : ∃ q, q = u m := ⟨_, rfl⟩
  have C64 : Hid (Calls Tryz.prog 77 #[.string m] w fun e w' => e = .returned (.bool q) ∧ Below w.heap.size w w') := by rw [hq]; exact hU.says m w hm hT
  obtain ⟨r, hr⟩ : ∃ r, r = Vl.nameErr u m := ⟨_, rfl⟩
  have HR : Hid (r = if m.size = 0 ∨ 1024 < m.size then 4 else if q = false then 9 else 0) := by
    show _ = _
    rw [hr, Vl.nameErr, hq]
  have HML : Hid (m.size ≤ 9223372036854775807) := maxLen_lt hm
  rw [← hr]
  clear hr hq hm hT hU
  by_cases h0 : m.size = 0
  · have h1 : m.toList = [] := (str_nil m).2 h0
    have h2 : r = 4 := by rw [HR.out, if_pos (Or.inl h0)]
    subst h2
    clear h0
    go_enter Tryz.func63, Tryz.ntmps63
    go_wp2
    exact ⟨rfl, _, results_tmp (by rfl) _ _ _, rfl, Below.refl _ _⟩
  · have h1 : ¬ m.toList = [] := fun h => h0 ((str_nil m).1 h)
    by_cases h3 : 1024 < m.size
    · have h2 : r = 4 := by rw [HR.out, if_pos (Or.inr h3)]
      subst h2
      have h4 := HML.out
      go_enter Tryz.func63, Tryz.ntmps63
      go_wp2
      exact ⟨rfl, _, results_tmp (by rfl) _ _ _, rfl, Below.refl _ _⟩
    · have h2 : r = if q = false then 9 else 0 := by rw [HR.out, if_neg (by omega)]
      have h4 : m.size ≤ 1024 := by omega
      have h5 : m.toList.isEmpty = false := by simpa using h1
      have h6 : decide ((1024 : Int) < (m.size : Int)) = false := by simp; omega
      cases q
      · subst h2
        go_enter Tryz.func63, Tryz.ntmps63
        go_wp2_with (go_at_call 77; refine C64.out.mono ?_; rintro e w3 ⟨rfl, hb3⟩)
        exact ⟨rfl, _, results_tmp (by rfl) _ _ _, rfl, hb3⟩
      · subst h2
        go_enter Tryz.func63, Tryz.ntmps63
        go_wp2_with (go_at_call 77; refine C64.out.mono ?_; rintro e w3 ⟨rfl, hb3⟩)
        exact ⟨rfl, _, results_tmp (by rfl) _ _ _, rfl, hb3⟩
set_option maxHeartbeats 16000000 in
set_option maxRecDepth 100000 in
theorem alone48_five (k : Nat) (b : Bool) (n : Int) (s : ByteArray) (ao : Option Addr) (ll ac : Nat) (fo : Option Addr) (fl fc : Nat) (d : Nat) (w : World) (q st : Bool) (r : Nat)
    (C63 : Hid (∀ W, Calls Tryz.prog 76 #[.agg #[.int .u8 (k : Int), .bool b, .int .i64 n, .string s, .slice ao ll ac, .slice fo fl fc]] W fun e w' => e = .returned (.bool st) ∧ Below W.heap.size W w'))
    (hs : s.size ≤ 9223372036854775807) (hl : ll ≤ 9223372036854775807) (hf : fl ≤ 9223372036854775807) (hd : d ≤ 9223372036854775807)
    (HR : Hid (r = if 7 ≤ k ∨ st = true then 5 else if 1024 < s.size then 4 else if k = 3 ∧ q = false then 9 else if 64 < ll ∨ 64 < fl then 3 else if (k = 5 ∨ k = 6) ∧ 6 ≤ d then 10 else 0)) (hk : k = 5) :
    Calls Tryz.prog 62 #[.agg #[.int .u8 (k : Int), .bool b, .int .i64 n, .string s, .slice ao ll ac, .slice fo fl fc], .int .i64 (d : Int)] w fun e w' => e = .returned (.int .i64 (r : Int)) ∧ Below w.heap.size w w' := by
  subst hk
  go_enter Tryz.func62, Tryz.ntmps62
  go_wp2_with (first
    | (go_at_call 76; refine (C63.out _).mono ?_; rintro e w3 ⟨rfl, hb3⟩
       have q0 : w3.cell? ⟨w.heap.size, 0, none⟩ = some (.int .u8 5) := (hb3.cell (p := ⟨w.heap.size, 0, none⟩) (by simp)).trans (by rw [cell_of_row _ _ _ _ _ _ (heap_alloc_new w _)]; rfl)
       have q3 : w3.cell? ⟨w.heap.size, 3, none⟩ = some (.string s) := (hb3.cell (p := ⟨w.heap.size, 3, none⟩) (by simp)).trans (by rw [cell_of_row _ _ _ _ _ _ (heap_alloc_new w _)]; rfl)
       have q4 : w3.cell? ⟨w.heap.size, 4, none⟩ = some (.slice ao ll ac) := (hb3.cell (p := ⟨w.heap.size, 4, none⟩) (by simp)).trans (by rw [cell_of_row _ _ _ _ _ _ (heap_alloc_new w _)]; rfl)
       have q5 : w3.cell? ⟨w.heap.size, 5, none⟩ = some (.slice fo fl fc) := (hb3.cell (p := ⟨w.heap.size, 5, none⟩) (by simp)).trans (by rw [cell_of_row _ _ _ _ _ _ (heap_alloc_new w _)]; rfl)
       have HB3 : Hid (Below w.heap.size w w3) := (below_new _ _).trans (hb3.mono (below_new _ _).size)
       have HS3 : Hid (w.heap.size + 1 ≤ w3.heap.size) := by have := hb3.size; simp at this; exact this
       clear hb3))
  all_goals
    refine ⟨rfl, _, results_tmp (by rfl) _ _ _, ?_, ?_⟩
    · refine congrArg (fun z => Ending.returned (Value.int .i64 z)) (Eq.symm ?_)
      rw [HR.out]
      clear HR
      try clear q0 q3 q4 q5
      (repeat' split) <;> first | rfl | (exfalso; simp_all; done) | (exfalso; simp_all; omega)
    · first | exact HB3.out | exact below_new _ _
set_option maxHeartbeats 16000000 in
set_option maxRecDepth 100000 in
theorem alone48_six (k : Nat) (b : Bool) (n : Int) (s : ByteArray) (ao : Option Addr) (ll ac : Nat) (fo : Option Addr) (fl fc : Nat) (d : Nat) (w : World) (q st : Bool) (r : Nat)
    (C63 : Hid (∀ W, Calls Tryz.prog 76 #[.agg #[.int .u8 (k : Int), .bool b, .int .i64 n, .string s, .slice ao ll ac, .slice fo fl fc]] W fun e w' => e = .returned (.bool st) ∧ Below W.heap.size W w'))
    (hs : s.size ≤ 9223372036854775807) (hl : ll ≤ 9223372036854775807) (hf : fl ≤ 9223372036854775807) (hd : d ≤ 9223372036854775807)
    (HR : Hid (r = if 7 ≤ k ∨ st = true then 5 else if 1024 < s.size then 4 else if k = 3 ∧ q = false then 9 else if 64 < ll ∨ 64 < fl then 3 else if (k = 5 ∨ k = 6) ∧ 6 ≤ d then 10 else 0)) (hk : k = 6) :
    Calls Tryz.prog 62 #[.agg #[.int .u8 (k : Int), .bool b, .int .i64 n, .string s, .slice ao ll ac, .slice fo fl fc], .int .i64 (d : Int)] w fun e w' => e = .returned (.int .i64 (r : Int)) ∧ Below w.heap.size w w' := by
  subst hk
  go_enter Tryz.func62, Tryz.ntmps62
  go_wp2_with (first
    | (go_at_call 76; refine (C63.out _).mono ?_; rintro e w3 ⟨rfl, hb3⟩
       have q0 : w3.cell? ⟨w.heap.size, 0, none⟩ = some (.int .u8 6) := (hb3.cell (p := ⟨w.heap.size, 0, none⟩) (by simp)).trans (by rw [cell_of_row _ _ _ _ _ _ (heap_alloc_new w _)]; rfl)
       have q3 : w3.cell? ⟨w.heap.size, 3, none⟩ = some (.string s) := (hb3.cell (p := ⟨w.heap.size, 3, none⟩) (by simp)).trans (by rw [cell_of_row _ _ _ _ _ _ (heap_alloc_new w _)]; rfl)
       have q4 : w3.cell? ⟨w.heap.size, 4, none⟩ = some (.slice ao ll ac) := (hb3.cell (p := ⟨w.heap.size, 4, none⟩) (by simp)).trans (by rw [cell_of_row _ _ _ _ _ _ (heap_alloc_new w _)]; rfl)
       have q5 : w3.cell? ⟨w.heap.size, 5, none⟩ = some (.slice fo fl fc) := (hb3.cell (p := ⟨w.heap.size, 5, none⟩) (by simp)).trans (by rw [cell_of_row _ _ _ _ _ _ (heap_alloc_new w _)]; rfl)
       have HB3 : Hid (Below w.heap.size w w3) := (below_new _ _).trans (hb3.mono (below_new _ _).size)
       have HS3 : Hid (w.heap.size + 1 ≤ w3.heap.size) := by have := hb3.size; simp at this; exact this
       clear hb3))
  all_goals
    refine ⟨rfl, _, results_tmp (by rfl) _ _ _, ?_, ?_⟩
    · refine congrArg (fun z => Ending.returned (Value.int .i64 z)) (Eq.symm ?_)
      rw [HR.out]
      clear HR
      try clear q0 q3 q4 q5
      (repeat' split) <;> first | rfl | (exfalso; simp_all; done) | (exfalso; simp_all; omega)
    · first | exact HB3.out | exact below_new _ _
set_option maxHeartbeats 16000000 in
set_option maxRecDepth 100000 in
theorem alone48_three (k : Nat) (b : Bool) (n : Int) (s : ByteArray) (ao : Option Addr) (ll ac : Nat) (fo : Option Addr) (fl fc : Nat) (d : Nat) (w : World) (q st : Bool) (r : Nat)
    (C64 : Hid (∀ W, Below w.heap.size w W → Calls Tryz.prog 77 #[.string s] W fun e w' => e = .returned (.bool q) ∧ Below W.heap.size W w'))
    (C63 : Hid (∀ W, Calls Tryz.prog 76 #[.agg #[.int .u8 (k : Int), .bool b, .int .i64 n, .string s, .slice ao ll ac, .slice fo fl fc]] W fun e w' => e = .returned (.bool st) ∧ Below W.heap.size W w'))
    (hs : s.size ≤ 9223372036854775807) (hl : ll ≤ 9223372036854775807) (hf : fl ≤ 9223372036854775807)
    (HR : Hid (r = if 7 ≤ k ∨ st = true then 5 else if 1024 < s.size then 4 else if k = 3 ∧ q = false then 9 else if 64 < ll ∨ 64 < fl then 3 else if (k = 5 ∨ k = 6) ∧ 6 ≤ d then 10 else 0)) (hk : k = 3) :
    Calls Tryz.prog 62 #[.agg #[.int .u8 (k : Int), .bool b, .int .i64 n, .string s, .slice ao ll ac, .slice fo fl fc], .int .i64 (d : Int)] w fun e w' => e = .returned (.int .i64 (r : Int)) ∧ Below w.heap.size w w' := by
  subst hk
  go_enter Tryz.func62, Tryz.ntmps62
  go_wp2_with (first
    | (go_at_call 76; refine (C63.out _).mono ?_; rintro e w3 ⟨rfl, hb3⟩
       have q0 : w3.cell? ⟨w.heap.size, 0, none⟩ = some (.int .u8 3) := (hb3.cell (p := ⟨w.heap.size, 0, none⟩) (by simp)).trans (by rw [cell_of_row _ _ _ _ _ _ (heap_alloc_new w _)]; rfl)
       have q3 : w3.cell? ⟨w.heap.size, 3, none⟩ = some (.string s) := (hb3.cell (p := ⟨w.heap.size, 3, none⟩) (by simp)).trans (by rw [cell_of_row _ _ _ _ _ _ (heap_alloc_new w _)]; rfl)
       have q4 : w3.cell? ⟨w.heap.size, 4, none⟩ = some (.slice ao ll ac) := (hb3.cell (p := ⟨w.heap.size, 4, none⟩) (by simp)).trans (by rw [cell_of_row _ _ _ _ _ _ (heap_alloc_new w _)]; rfl)
       have q5 : w3.cell? ⟨w.heap.size, 5, none⟩ = some (.slice fo fl fc) := (hb3.cell (p := ⟨w.heap.size, 5, none⟩) (by simp)).trans (by rw [cell_of_row _ _ _ _ _ _ (heap_alloc_new w _)]; rfl)
       have HB3 : Hid (Below w.heap.size w w3) := (below_new _ _).trans (hb3.mono (below_new _ _).size)
       have HS3 : Hid (w.heap.size + 1 ≤ w3.heap.size) := by have := hb3.size; simp at this; exact this
       clear hb3)
    | (go_at_call 77; refine (C64.out _ HB3.out).mono ?_; rintro e w4 ⟨rfl, hb4⟩
       have p4 : w4.cell? ⟨w.heap.size, 4, none⟩ = some (.slice ao ll ac) := (hb4.cell (p := ⟨w.heap.size, 4, none⟩) HS3.out).trans q4
       have p5 : w4.cell? ⟨w.heap.size, 5, none⟩ = some (.slice fo fl fc) := (hb4.cell (p := ⟨w.heap.size, 5, none⟩) HS3.out).trans q5
       have HB4 : Hid (Below w.heap.size w w4) := HB3.out.trans (hb4.mono HB3.out.size)
       clear hb4))
  all_goals
    refine ⟨rfl, _, results_tmp (by rfl) _ _ _, ?_, ?_⟩
    · refine congrArg (fun z => Ending.returned (Value.int .i64 z)) (Eq.symm ?_)
      rw [HR.out]
      clear HR
      try clear p4 p5
      try clear q0 q3 q4 q5
      (repeat' split) <;> first | rfl | (exfalso; simp_all; done) | (exfalso; simp_all; omega)
    · first | exact HB4.out | exact HB3.out | exact below_new _ _
set_option maxHeartbeats 16000000 in
set_option maxRecDepth 100000 in
theorem alone48_else (k : Nat) (b : Bool) (n : Int) (s : ByteArray) (ao : Option Addr) (ll ac : Nat) (fo : Option Addr) (fl fc : Nat) (d : Nat) (w : World) (q st : Bool) (r : Nat)
    (C63 : Hid (∀ W, Calls Tryz.prog 76 #[.agg #[.int .u8 (k : Int), .bool b, .int .i64 n, .string s, .slice ao ll ac, .slice fo fl fc]] W fun e w' => e = .returned (.bool st) ∧ Below W.heap.size W w'))
    (hs : s.size ≤ 9223372036854775807) (hl : ll ≤ 9223372036854775807) (hf : fl ≤ 9223372036854775807)
    (HR : Hid (r = if 7 ≤ k ∨ st = true then 5 else if 1024 < s.size then 4 else if k = 3 ∧ q = false then 9 else if 64 < ll ∨ 64 < fl then 3 else if (k = 5 ∨ k = 6) ∧ 6 ≤ d then 10 else 0)) (hk3 : ¬ (k : Int) = 3) (hk5 : ¬ (k : Int) = 5) (hk6 : ¬ (k : Int) = 6) :
    Calls Tryz.prog 62 #[.agg #[.int .u8 (k : Int), .bool b, .int .i64 n, .string s, .slice ao ll ac, .slice fo fl fc], .int .i64 (d : Int)] w fun e w' => e = .returned (.int .i64 (r : Int)) ∧ Below w.heap.size w w' := by
  go_enter Tryz.func62, Tryz.ntmps62
  go_wp2_with (first
    | (go_at_call 76; refine (C63.out _).mono ?_; rintro e w3 ⟨rfl, hb3⟩
       have q0 : w3.cell? ⟨w.heap.size, 0, none⟩ = some (.int .u8 (k : Int)) := (hb3.cell (p := ⟨w.heap.size, 0, none⟩) (by simp)).trans (by rw [cell_of_row _ _ _ _ _ _ (heap_alloc_new w _)]; rfl)
       have q3 : w3.cell? ⟨w.heap.size, 3, none⟩ = some (.string s) := (hb3.cell (p := ⟨w.heap.size, 3, none⟩) (by simp)).trans (by rw [cell_of_row _ _ _ _ _ _ (heap_alloc_new w _)]; rfl)
       have q4 : w3.cell? ⟨w.heap.size, 4, none⟩ = some (.slice ao ll ac) := (hb3.cell (p := ⟨w.heap.size, 4, none⟩) (by simp)).trans (by rw [cell_of_row _ _ _ _ _ _ (heap_alloc_new w _)]; rfl)
       have q5 : w3.cell? ⟨w.heap.size, 5, none⟩ = some (.slice fo fl fc) := (hb3.cell (p := ⟨w.heap.size, 5, none⟩) (by simp)).trans (by rw [cell_of_row _ _ _ _ _ _ (heap_alloc_new w _)]; rfl)
       have HB3 : Hid (Below w.heap.size w w3) := (below_new _ _).trans (hb3.mono (below_new _ _).size)
       have HS3 : Hid (w.heap.size + 1 ≤ w3.heap.size) := by have := hb3.size; simp at this; exact this
       clear hb3))
  all_goals
    refine ⟨rfl, _, results_tmp (by rfl) _ _ _, ?_, ?_⟩
    · refine congrArg (fun z => Ending.returned (Value.int .i64 z)) (Eq.symm ?_)
      rw [HR.out]
      clear HR
      try clear q0 q3 q4 q5
      (repeat' split) <;> first | rfl | (exfalso; simp_all; done) | (exfalso; simp_all; omega)
    · first | exact HB3.out | exact below_new _ _
theorem alone48 {u : ByteArray → Bool} {T : World → Prop} (hU : Utf u T) (k : Nat) (b : Bool) (n : Int) (s : ByteArray) (l : List V) (f : List (ByteArray × V)) (ao : Option Addr) (ac : Nat) (fo : Option Addr) (fc : Nat) (d : Nat) (w : World) (hT : T w)
    (hs : s.size ≤ maxLen) (hl : l.length ≤ maxLen) (hf : f.length ≤ maxLen) (hd : d ≤ 9223372036854775807) :
    Calls Tryz.prog 62 #[.agg #[.int .u8 (k : Int), .bool b, .int .i64 n, .string s, .slice ao l.length ac, .slice fo f.length fc], .int .i64 (d : Int)] w fun e w' => e = .returned (.int .i64 ((Vl.alone u d ⟨k, b, n, s, l, f⟩ : Nat) : Int)) ∧ Below w.heap.size w w' := by
  have C64 : Hid (∀ W, Below w.heap.size w W → Calls Tryz.prog 77 #[.string s] W fun e w' => e = .returned (.bool (u s)) ∧ Below W.heap.size W w') := fun W hW => hU.says s W hs (hU.stays w W hT hW)
  have C63 : Hid (∀ W, Calls Tryz.prog 76 #[.agg #[.int .u8 (k : Int), .bool b, .int .i64 n, .string s, .slice ao l.length ac, .slice fo f.length fc]] W fun e w' => e = .returned (.bool (Vl.strange ⟨k, b, n, s, l, f⟩)) ∧ Below W.heap.size W w') := fun W => strange63 k b n s l f ao ac fo fc W
  have HR : Hid (Vl.alone u d ⟨k, b, n, s, l, f⟩ = if 7 ≤ k ∨ Vl.strange ⟨k, b, n, s, l, f⟩ = true then 5 else if 1024 < s.size then 4 else if k = 3 ∧ u s = false then 9 else if 64 < l.length ∨ 64 < f.length then 3 else if (k = 5 ∨ k = 6) ∧ 6 ≤ d then 10 else 0) := by
    show _ = _
    rw [Vl.alone]
  by_cases h5 : k = 5
  · exact alone48_five k b n s ao l.length ac fo f.length fc d w (u s) _ _ C63 (maxLen_lt hs) (maxLen_lt hl) (maxLen_lt hf) hd HR h5
  by_cases h6 : k = 6
  · exact alone48_six k b n s ao l.length ac fo f.length fc d w (u s) _ _ C63 (maxLen_lt hs) (maxLen_lt hl) (maxLen_lt hf) hd HR h6
  by_cases h3 : k = 3
  · exact alone48_three k b n s ao l.length ac fo f.length fc d w (u s) _ _ C64 C63 (maxLen_lt hs) (maxLen_lt hl) (maxLen_lt hf) HR h3
  · exact alone48_else k b n s ao l.length ac fo f.length fc d w (u s) _ _ C63 (maxLen_lt hs) (maxLen_lt hl) (maxLen_lt hf) HR (by omega) (by omega) (by omega)
end Go.Proofs.YtkigenldiinioabGreatDoor
/- Plain mathematics of check: the first part that is not right tells. -/
namespace Go.Proofs.YtkigenldiinioabGreatDoor
namespace Vl
theorem bytes_le : ∀ a b : List UInt8, (Op.bytesLess a b || a == b) = decide (Lib.compareBytes a b ≤ 0)
  | [], [] => rfl
  | [], _ :: _ => rfl
  | _ :: _, [] => rfl
  | x :: r, y :: q => by
    rw [Lib.compareBytes, Op.bytesLess]
    by_cases h1 : x < y
    · simp [h1]
    · by_cases h2 : y < x
      · have h3 : ¬ x = y := fun e => by subst e; exact h1 h2
        simp [h1, h2, h3]
      · have e : x = y := UInt8.le_antisymm (UInt8.not_lt.1 h2) (UInt8.not_lt.1 h1)
        subst e
        have ih := bytes_le r q
        simp only [h1, if_false, decide_false, Bool.false_or]
        rw [← ih]
        simp
theorem str_le (m p : ByteArray) : (Op.bytesLess m.toList p.toList || m.toList == p.toList) = decide (cmpS m p ≤ 0) := by
  rw [bytes_le, Go.ByteArray.toList_eq, Go.ByteArray.toList_eq]
  rfl
section
variable (u : ByteArray → Bool)
theorem checkL_stop (d : Nat) : ∀ (l : List V) (j : Nat) (x : V), (∀ (i : Nat) (x : V), i < j → l[i]? = some x → check u d x = 0) → l[j]? = some x → check u d x ≠ 0 → checkL u d l = check u d x
  | [], _, _, _, h, _ => by simp at h
  | y :: r, 0, x, _, h, h1 => by
    simp only [List.getElem?_cons_zero, Option.some.injEq] at h
    subst h
    rw [checkL, if_pos h1]
  | y :: r, j + 1, x, h0, h, h1 => by
    rw [checkL, if_neg (by simp [h0 0 y (by omega) rfl])]
    exact checkL_stop d r j x (fun i x hi hx => h0 (i + 1) x (by omega) (by simpa using hx)) (by simpa using h) h1
theorem checkL_all (d : Nat) : ∀ (l : List V), (∀ (i : Nat) (x : V), l[i]? = some x → check u d x = 0) → checkL u d l = 0
  | [], _ => by rw [checkL]
  | y :: r, h => by
    rw [checkL, if_neg (by simp [h 0 y rfl])]
    exact checkL_all d r (fun i x hx => h (i + 1) x (by simpa using hx))
/-- why a field is not right, the name ahead of it at hand -/
def check1 (d : Nat) (p : Option ByteArray) (a : ByteArray × V) : Nat :=
  if nameErr u a.1 ≠ 0 then nameErr u a.1 else if notUp a.1 p = true then 18 else check u d a.2
theorem checkF_cons (d : Nat) (p : Option ByteArray) (a : ByteArray × V) (r : List (ByteArray × V)) : checkF u d p (a :: r) = if check1 u d p a ≠ 0 then check1 u d p a else checkF u d (some a.1) r := by
  obtain ⟨m, x⟩ := a
  rw [checkF, check1]
  by_cases h : nameErr u m = 0
  · by_cases h1 : notUp m p = true
    · simp [h, h1]
    · simp [h, h1]
  · simp [h]
end
/-- the name ahead of a place -/
def prevAt (p : Option ByteArray) : List (ByteArray × V) → Nat → Option ByteArray
  | _, 0 => p
  | [], _ + 1 => none
  | a :: r, i + 1 => prevAt (some a.1) r i
theorem prevAt_succ : ∀ (f : List (ByteArray × V)) (p : Option ByteArray) (i : Nat) (a : ByteArray × V), f[i]? = some a → prevAt p f (i + 1) = some a.1
  | [], _, _, _, h => by simp at h
  | b :: r, p, 0, a, h => by
    simp only [List.getElem?_cons_zero, Option.some.injEq] at h
    subst h
    rw [prevAt, prevAt]
  | b :: r, p, i + 1, a, h => by
    rw [prevAt]
    exact prevAt_succ r (some b.1) i a (by simpa using h)
section
variable (u : ByteArray → Bool)
theorem checkF_stop (d : Nat) : ∀ (f : List (ByteArray × V)) (p : Option ByteArray) (j : Nat) (a : ByteArray × V), (∀ (i : Nat) (a : ByteArray × V), i < j → f[i]? = some a → check1 u d (prevAt p f i) a = 0) → f[j]? = some a → check1 u d (prevAt p f j) a ≠ 0 → checkF u d p f = check1 u d (prevAt p f j) a
  | [], _, _, _, _, h, _ => by simp at h
  | b :: r, p, 0, a, _, h, h1 => by
    simp only [List.getElem?_cons_zero, Option.some.injEq] at h
    subst h
    rw [prevAt] at h1 ⊢
    rw [checkF_cons, if_pos h1]
  | b :: r, p, j + 1, a, h0, h, h1 => by
    have h2 := h0 0 b (by omega) rfl
    rw [prevAt] at h2
    rw [prevAt] at h1 ⊢
    rw [checkF_cons, if_neg (by simp [h2])]
    exact checkF_stop d r (some b.1) j a (fun i x hi hx => by have := h0 (i + 1) x (by omega) (by simpa using hx); rwa [prevAt] at this) (by simpa using h) h1
theorem checkF_all (d : Nat) : ∀ (f : List (ByteArray × V)) (p : Option ByteArray), (∀ (i : Nat) (a : ByteArray × V), f[i]? = some a → check1 u d (prevAt p f i) a = 0) → checkF u d p f = 0
  | [], _, _ => by rw [checkF]
  | b :: r, p, h => by
    have h2 := h 0 b rfl
    rw [prevAt] at h2
    rw [checkF_cons, if_neg (by simp [h2])]
    exact checkF_all d r (some b.1) (fun i x hx => by have := h (i + 1) x (by simpa using hx); rwa [prevAt] at this)
/-- parts are looked at only within six -/
theorem alone_depth {d k : Nat} {b : Bool} {n : Int} {s : ByteArray} {l : List V} {f : List (ByteArray × V)} (h : alone u d ⟨k, b, n, s, l, f⟩ = 0) (hp : 0 < l.length ∨ 0 < f.length) : d < 6 := by
  rw [alone] at h
  by_cases h3 : 7 ≤ k ∨ strange ⟨k, b, n, s, l, f⟩ = true
  · rw [if_pos h3] at h; cases h
  · rw [if_neg h3] at h
    rw [not_or] at h3
    have h4 := h3.2
    simp only [strange, Bool.or_eq_true, Bool.and_eq_true, decide_eq_true_eq, not_or, not_and, ne_eq, Decidable.not_not] at h4
    obtain ⟨⟨⟨⟨a1, a2⟩, a3⟩, a4⟩, a5⟩ := h4
    have hk : k = 5 ∨ k = 6 := by
      rcases hp with hp | hp
      · exact Or.inl (a4 hp)
      · exact Or.inr (a5 hp)
    split at h
    · cases h
    · split at h
      · cases h
      · split at h
        · cases h
        · split at h
          · cases h
          · rename_i c; omega
end
end Vl
end Go.Proofs.YtkigenldiinioabGreatDoor
