/- checkAlone and checkName, walked over whatever the library answers of a text's being UTF-8. -/
import Derived.Test.YtbogggnnmbjlfaaDoorStrange
namespace Go.Proofs.YtbogggnnmbjlfaaDoor
open Go.RowKit
open Vl (V)
/-- what the library answers of texts: u, in worlds in which its tables lie (T); new blocks leave these alone -/
structure Utf (u : ByteArray → Bool) (T : World → Prop) : Prop where
  stays : ∀ w w' : World, T w → Below w.heap.size w w' → T w'
  says : ∀ (s : ByteArray) (w : World), s.size ≤ maxLen → T w → Calls Tryd.prog 103 #[.string s] w fun e w' => e = .returned (.bool (u s)) ∧ Below w.heap.size w w'
set_option maxHeartbeats 4000000 in
set_option maxRecDepth 100000 in
theorem name49 {u : ByteArray → Bool} {T : World → Prop} (hU : Utf u T) (m : ByteArray) (hm : m.size ≤ maxLen) (w : World) (hT : T w) :
    Calls Tryd.prog 90 #[.string m] w fun e w' => e = .returned (.int .i64 ((Vl.nameErr u m : Nat) : Int)) ∧ Below w.heap.size w w' := by
  obtain ⟨q, hq⟩ : ∃ q, q = u m := ⟨_, rfl⟩
  have C64 : Hid (Calls Tryd.prog 103 #[.string m] w fun e w' => e = .returned (.bool q) ∧ Below w.heap.size w w') := by rw [hq]; exact hU.says m w hm hT
  obtain ⟨r, hr⟩ : ∃ r, r = Vl.nameErr u m := ⟨_, rfl⟩
  have HR : Hid (r = if m.size = 0 ∨ 1024 < m.size then 4 else if q = false then 9 else 0) := by
    show _ = _
    rw [hr, Vl.nameErr, hq]
  have HML : Hid (m.size ≤ 9223372036854775807) := maxLen_lt hm
  rw [← hr]
  clear hr hq hm hT hU
  by_cases h0 : m.size = 0
  · have h1 : m.toList = [] := (str_nil m).2 h0
    have h2 : r = 4 := by rw [HR.out, if_pos (Or.inl h0)]
    subst h2
    clear h0
    go_enter Tryd.func90, Tryd.ntmps90
    go_wp2
    exact ⟨rfl, _, results_tmp (by rfl) _ _ _, rfl, Below.refl _ _⟩
  · have h1 : ¬ m.toList = [] := fun h => h0 ((str_nil m).1 h)
    by_cases h3 : 1024 < m.size
    · have h2 : r = 4 := by rw [HR.out, if_pos (Or.inr h3)]
      subst h2
      have h4 := HML.out
      go_enter Tryd.func90, Tryd.ntmps90
      go_wp2
      exact ⟨rfl, _, results_tmp (by rfl) _ _ _, rfl, Below.refl _ _⟩
    · have h2 : r = if q = false then 9 else 0 := by rw [HR.out, if_neg (by omega)]
      have h4 : m.size ≤ 1024 := by omega
      have h5 : m.toList.isEmpty = false := by simpa using h1
      have h6 : decide ((1024 : Int) < (m.size : Int)) = false := by simp; omega
      cases q
      · subst h2
        go_enter Tryd.func90, Tryd.ntmps90
        go_wp2_with (go_at_call 103; refine C64.out.mono ?_; rintro e w3 ⟨rfl, hb3⟩)
        exact ⟨rfl, _, results_tmp (by rfl) _ _ _, rfl, hb3⟩
      · subst h2
        go_enter Tryd.func90, Tryd.ntmps90
        go_wp2_with (go_at_call 103; refine C64.out.mono ?_; rintro e w3 ⟨rfl, hb3⟩)
        exact ⟨rfl, _, results_tmp (by rfl) _ _ _, rfl, hb3⟩
set_option maxHeartbeats 16000000 in
set_option maxRecDepth 100000 in
theorem alone48_five (k : Nat) (b : Bool) (n : Int) (s : ByteArray) (ao : Option Addr) (ll ac : Nat) (fo : Option Addr) (fl fc : Nat) (d : Nat) (w : World) (q st : Bool) (r : Nat)
    (C63 : Hid (∀ W, Calls Tryd.prog 102 #[.agg #[.int .u8 (k : Int), .bool b, .int .i64 n, .string s, .slice ao ll ac, .slice fo fl fc]] W fun e w' => e = .returned (.bool st) ∧ Below W.heap.size W w'))
    (hs : s.size ≤ 9223372036854775807) (hl : ll ≤ 9223372036854775807) (hf : fl ≤ 9223372036854775807) (hd : d ≤ 9223372036854775807)
    (HR : Hid (r = if 7 ≤ k ∨ st = true then 5 else if 1024 < s.size then 4 else if k = 3 ∧ q = false then 9 else if 64 < ll ∨ 64 < fl then 3 else if (k = 5 ∨ k = 6) ∧ 6 ≤ d then 10 else 0)) (hk : k = 5) :
    Calls Tryd.prog 89 #[.agg #[.int .u8 (k : Int), .bool b, .int .i64 n, .string s, .slice ao ll ac, .slice fo fl fc], .int .i64 (d : Int)] w fun e w' => e = .returned (.int .i64 (r : Int)) ∧ Below w.heap.size w w' := by
  subst hk
  go_enter Tryd.func89, Tryd.ntmps89
  go_wp2_with (first
    | (go_at_call 102; refine (C63.out _).mono ?_; rintro e w3 ⟨rfl, hb3⟩
       have q0 : w3.cell? ⟨w.heap.size, 0, none⟩ = some (.int .u8 5) := (hb3.cell (p := ⟨w.heap.size, 0, none⟩) (by simp)).trans (by rw [cell_of_row _ _ _ _ _ _ (heap_alloc_new w _)]; rfl)
       have q3 : w3.cell? ⟨w.heap.size, 3, none⟩ = some (.string s) := (hb3.cell (p := ⟨w.heap.size, 3, none⟩) (by simp)).trans (by rw [cell_of_row _ _ _ _ _ _ (heap_alloc_new w _)]; rfl)
       have q4 : w3.cell? ⟨w.heap.size, 4, none⟩ = some (.slice ao ll ac) := (hb3.cell (p := ⟨w.heap.size, 4, none⟩) (by simp)).trans (by rw [cell_of_row _ _ _ _ _ _ (heap_alloc_new w _)]; rfl)
       have q5 : w3.cell? ⟨w.heap.size, 5, none⟩ = some (.slice fo fl fc) := (hb3.cell (p := ⟨w.heap.size, 5, none⟩) (by simp)).trans (by rw [cell_of_row _ _ _ _ _ _ (heap_alloc_new w _)]; rfl)
       have HB3 : Hid (Below w.heap.size w w3) := (below_new _ _).trans (hb3.mono (below_new _ _).size)
       have HS3 : Hid (w.heap.size + 1 ≤ w3.heap.size) := by have := hb3.size; simp at this; exact this
       clear hb3))
  all_goals
    refine ⟨rfl, _, results_tmp (by rfl) _ _ _, ?_, ?_⟩
    · refine congrArg (fun z => Ending.returned (Value.int .i64 z)) (Eq.symm ?_)
      rw [HR.out]
      clear HR
      try clear q0 q3 q4 q5
      (repeat' split) <;> first | rfl | (exfalso; simp_all; done) | (exfalso; simp_all; omega)
    · first | exact HB3.out | exact below_new _ _
set_option maxHeartbeats 16000000 in
set_option maxRecDepth 100000 in
theorem alone48_six (k : Nat) (b : Bool) (n : Int) (s : ByteArray) (ao : Option Addr) (ll ac : Nat) (fo : Option Addr) (fl fc : Nat) (d : Nat) (w : World) (q st : Bool) (r : Nat)
    (C63 : Hid (∀ W, Calls Tryd.prog 102 #[.agg #[.int .u8 (k : Int), .bool b, .int .i64 n, .string s, .slice ao ll ac, .slice fo fl fc]] W fun e w' => e = .returned (.bool st) ∧ Below W.heap.size W w'))
    (hs : s.size ≤ 9223372036854775807) (hl : ll ≤ 9223372036854775807) (hf : fl ≤ 9223372036854775807) (hd : d ≤ 9223372036854775807)
    (HR : Hid (r = if 7 ≤ k ∨ st = true then 5 else if 1024 < s.size then 4 else if k = 3 ∧ q = false then 9 else if 64 < ll ∨ 64 < fl then 3 else if (k = 5 ∨ k = 6) ∧ 6 ≤ d then 10 else 0)) (hk : k = 6) :
    Calls Tryd.prog 89 #[.agg #[.int .u8 (k : Int), .bool b, .int .i64 n, .string s, .slice ao ll ac, .slice fo fl fc], .int .i64 (d : Int)] w fun e w' => e = .returned (.int .i64 (r : Int)) ∧ Below w.heap.size w w' := by
  subst hk
  go_enter Tryd.func89, Tryd.ntmps89
  go_wp2_with (first
    | (go_at_call 102; refine (C63.out _).mono ?_; rintro e w3 ⟨rfl, hb3⟩
       have q0 : w3.cell? ⟨w.heap.size, 0, none⟩ = some (.int .u8 6) := (hb3.cell (p := ⟨w.heap.size, 0, none⟩) (by simp)).trans (by rw [cell_of_row _ _ _ _ _ _ (heap_alloc_new w _)]; rfl)
       have q3 : w3.cell? ⟨w.heap.size, 3, none⟩ = some (.string s) := (hb3.cell (p := ⟨w.heap.size, 3, none⟩) (by simp)).trans (by rw [cell_of_row _ _ _ _ _ _ (heap_alloc_new w _)]; rfl)
       have q4 : w3.cell? ⟨w.heap.size, 4, none⟩ = some (.slice ao ll ac) := (hb3.cell (p := ⟨w.heap.size, 4, none⟩) (by simp)).trans (by rw [cell_of_row _ _ _ _ _ _ (heap_alloc_new w _)]; rfl)
       have q5 : w3.cell? ⟨w.heap.size, 5, none⟩ = some (.slice fo fl fc) := (hb3.cell (p := ⟨w.heap.size, 5, none⟩) (by simp)).trans (by rw [cell_of_row _ _ _ _ _ _ (heap_alloc_new w _)]; rfl)
       have HB3 : Hid (Below w.heap.size w w3) := (below_new _ _).trans (hb3.mono (below_new _ _).size)
       have HS3 : Hid (w.heap.size + 1 ≤ w3.heap.size) := by have := hb3.size; simp at this; exact this
       clear hb3))
  all_goals
    refine ⟨rfl, _, results_tmp (by rfl) _ _ _, ?_, ?_⟩
    · refine congrArg (fun z => Ending.returned (Value.int .i64 z)) (Eq.symm ?_)
      rw [HR.out]
      clear HR
      try clear q0 q3 q4 q5
      (repeat' split) <;> first | rfl | (exfalso; simp_all; done) | (exfalso; simp_all; omega)
    · first | exact HB3.out | exact below_new _ _
set_option maxHeartbeats 16000000 in
set_option maxRecDepth 100000 in
theorem alone48_three (k : Nat) (b : Bool) (n : Int) (s : ByteArray) (ao : Option Addr) (ll ac : Nat) (fo : Option Addr) (fl fc : Nat) (d : Nat) (w : World) (q st : Bool) (r : Nat)
    (C64 : Hid (∀ W, Below w.heap.size w W → Calls Tryd.prog 103 #[.string s] W fun e w' => e = .returned (.bool q) ∧ Below W.heap.size W w'))
    (C63 : Hid (∀ W, Calls Tryd.prog 102 #[.agg #[.int .u8 (k : Int), .bool b, .int .i64 n, .string s, .slice ao ll ac, .slice fo fl fc]] W fun e w' => e = .returned (.bool st) ∧ Below W.heap.size W w'))
    (hs : s.size ≤ 9223372036854775807) (hl : ll ≤ 9223372036854775807) (hf : fl ≤ 9223372036854775807)
    (HR : Hid (r = if 7 ≤ k ∨ st = true then 5 else if 1024 < s.size then 4 else if k = 3 ∧ q = false then 9 else if 64 < ll ∨ 64 < fl then 3 else if (k = 5 ∨ k = 6) ∧ 6 ≤ d then 10 else 0)) (hk : k = 3) :
    Calls Tryd.prog 89 #[.agg #[.int .u8 (k : Int), .bool b, .int .i64 n, .string s, .slice ao ll ac, .slice fo fl fc], .int .i64 (d : Int)] w fun e w' => e = .returned (.int .i64 (r : Int)) ∧ Below w.heap.size w w' := by
  subst hk
  go_enter Tryd.func89, Tryd.ntmps89
  go_wp2_with (first
    | (go_at_call 102; refine (C63.out _).mono ?_; rintro e w3 ⟨rfl, hb3⟩
       have q0 : w3.cell? ⟨w.heap.size, 0, none⟩ = some (.int .u8 3) := (hb3.cell (p := ⟨w.heap.size, 0, none⟩) (by simp)).trans (by rw [cell_of_row _ _ _ _ _ _ (heap_alloc_new w _)]; rfl)
       have q3 : w3.cell? ⟨w.heap.size, 3, none⟩ = some (.string s) := (hb3.cell (p := ⟨w.heap.size, 3, none⟩) (by simp)).trans (by rw [cell_of_row _ _ _ _ _ _ (heap_alloc_new w _)]; rfl)
       have q4 : w3.cell? ⟨w.heap.size, 4, none⟩ = some (.slice ao ll ac) := (hb3.cell (p := ⟨w.heap.size, 4, none⟩) (by simp)).trans (by rw [cell_of_row _ _ _ _ _ _ (heap_alloc_new w _)]; rfl)
       have q5 : w3.cell? ⟨w.heap.size, 5, none⟩ = some (.slice fo fl fc) := (hb3.cell (p := ⟨w.heap.size, 5, none⟩) (by simp)).trans (by rw [cell_of_row _ _ _ _ _ _ (heap_alloc_new w _)]; rfl)
       have HB3 : Hid (Below w.heap.size w w3) := (below_new _ _).trans (hb3.mono (below_new _ _).size)
       have HS3 : Hid (w.heap.size + 1 ≤ w3.heap.size) := by have := hb3.size; simp at this; exact this
       clear hb3)
    | (go_at_call 103; refine (C64.out _ HB3.out).mono ?_; rintro e w4 ⟨rfl, hb4⟩
       have p4 : w4.cell? ⟨w.heap.size, 4, none⟩ = some (.slice ao ll ac) := (hb4.cell (p := ⟨w.heap.size, 4, none⟩) HS3.out).trans q4
       have p5 : w4.cell? ⟨w.heap.size, 5, none⟩ = some (.slice fo fl fc) := (hb4.cell (p := ⟨w.heap.size, 5, none⟩) HS3.out).trans q5
       have HB4 : Hid (Below w.heap.size w w4) := HB3.out.trans (hb4.mono HB3.out.size)
       clear hb4))
  all_goals
    refine ⟨rfl, _, results_tmp (by rfl) _ _ _, ?_, ?_⟩
    · refine congrArg (fun z => Ending.returned (Value.int .i64 z)) (Eq.symm ?_)
      rw [HR.out]
      clear HR
      try clear p4 p5
      try clear q0 q3 q4 q5
      (repeat' split) <;> first | rfl | (exfalso; simp_all; done) | (exfalso; simp_all; omega)
    · first | exact HB4.out | exact HB3.out | exact below_new _ _
set_option maxHeartbeats 16000000 in
set_option maxRecDepth 100000 in
theorem alone48_else (k : Nat) (b : Bool) (n : Int) (s : ByteArray) (ao : Option Addr) (ll ac : Nat) (fo : Option Addr) (fl fc : Nat) (d : Nat) (w : World) (q st : Bool) (r : Nat)
    (C63 : Hid (∀ W, Calls Tryd.prog 102 #[.agg #[.int .u8 (k : Int), .bool b, .int .i64 n, .string s, .slice ao ll ac, .slice fo fl fc]] W fun e w' => e = .returned (.bool st) ∧ Below W.heap.size W w'))
    (hs : s.size ≤ 9223372036854775807) (hl : ll ≤ 9223372036854775807) (hf : fl ≤ 9223372036854775807)
    (HR : Hid (r = if 7 ≤ k ∨ st = true then 5 else if 1024 < s.size then 4 else if k = 3 ∧ q = false then 9 else if 64 < ll ∨ 64 < fl then 3 else if (k = 5 ∨ k = 6) ∧ 6 ≤ d then 10 else 0)) (hk3 : ¬ (k : Int) = 3) (hk5 : ¬ (k : Int) = 5) (hk6 : ¬ (k : Int) = 6) :
    Calls Tryd.prog 89 #[.agg #[.int .u8 (k : Int), .bool b, .int .i64 n, .string s, .slice ao ll ac, .slice fo fl fc], .int .i64 (d : Int)] w fun e w' => e = .returned (.int .i64 (r : Int)) ∧ Below w.heap.size w w' := by
  go_enter Tryd.func89, Tryd.ntmps89
  go_wp2_with (first
    | (go_at_call 102; refine (C63.out _).mono ?_; rintro e w3 ⟨rfl, hb3⟩
       have q0 : w3.cell? ⟨w.heap.size, 0, none⟩ = some (.int .u8 (k : Int)) := (hb3.cell (p := ⟨w.heap.size, 0, none⟩) (by simp)).trans (by rw [cell_of_row _ _ _ _ _ _ (heap_alloc_new w _)]; rfl)
       have q3 : w3.cell? ⟨w.heap.size, 3, none⟩ = some (.string s) := (hb3.cell (p := ⟨w.heap.size, 3, none⟩) (by simp)).trans (by rw [cell_of_row _ _ _ _ _ _ (heap_alloc_new w _)]; rfl)
       have q4 : w3.cell? ⟨w.heap.size, 4, none⟩ = some (.slice ao ll ac) := (hb3.cell (p := ⟨w.heap.size, 4, none⟩) (by simp)).trans (by rw [cell_of_row _ _ _ _ _ _ (heap_alloc_new w _)]; rfl)
       have q5 : w3.cell? ⟨w.heap.size, 5, none⟩ = some (.slice fo fl fc) := (hb3.cell (p := ⟨w.heap.size, 5, none⟩) (by simp)).trans (by rw [cell_of_row _ _ _ _ _ _ (heap_alloc_new w _)]; rfl)
       have HB3 : Hid (Below w.heap.size w w3) := (below_new _ _).trans (hb3.mono (below_new _ _).size)
       have HS3 : Hid (w.heap.size + 1 ≤ w3.heap.size) := by have := hb3.size; simp at this; exact this
       clear hb3))
  all_goals
    refine ⟨rfl, _, results_tmp (by rfl) _ _ _, ?_, ?_⟩
    · refine congrArg (fun z => Ending.returned (Value.int .i64 z)) (Eq.symm ?_)
      rw [HR.out]
      clear HR
      try clear q0 q3 q4 q5
      (repeat' split) <;> first | rfl | (exfalso; simp_all; done) | (exfalso; simp_all; omega)
    · first | exact HB3.out | exact below_new _ _
theorem alone48 {u : ByteArray → Bool} {T : World → Prop} (hU : Utf u T) (k : Nat) (b : Bool) (n : Int) (s : ByteArray) (l : List V) (f : List (ByteArray × V)) (ao : Option Addr) (ac : Nat) (fo : Option Addr) (fc : Nat) (d : Nat) (w : World) (hT : T w)
    (hs : s.size ≤ maxLen) (hl : l.length ≤ maxLen) (hf : f.length ≤ maxLen) (hd : d ≤ 9223372036854775807) :
    Calls Tryd.prog 89 #[.agg #[.int .u8 (k : Int), .bool b, .int .i64 n, .string s, .slice ao l.length ac, .slice fo f.length fc], .int .i64 (d : Int)] w fun e w' => e = .returned (.int .i64 ((Vl.alone u d ⟨k, b, n, s, l, f⟩ : Nat) : Int)) ∧ Below w.heap.size w w' := by
  have C64 : Hid (∀ W, Below w.heap.size w W → Calls Tryd.prog 103 #[.string s] W fun e w' => e = .returned (.bool (u s)) ∧ Below W.heap.size W w') := fun W hW => hU.says s W hs (hU.stays w W hT hW)
  have C63 : Hid (∀ W, Calls Tryd.prog 102 #[.agg #[.int .u8 (k : Int), .bool b, .int .i64 n, .string s, .slice ao l.length ac, .slice fo f.length fc]] W fun e w' => e = .returned (.bool (Vl.strange ⟨k, b, n, s, l, f⟩)) ∧ Below W.heap.size W w') := fun W => strange63 k b n s l f ao ac fo fc W
  have HR : Hid (Vl.alone u d ⟨k, b, n, s, l, f⟩ = if 7 ≤ k ∨ Vl.strange ⟨k, b, n, s, l, f⟩ = true then 5 else if 1024 < s.size then 4 else if k = 3 ∧ u s = false then 9 else if 64 < l.length ∨ 64 < f.length then 3 else if (k = 5 ∨ k = 6) ∧ 6 ≤ d then 10 else 0) := by
    show _ = _
    rw [Vl.alone]
  by_cases h5 : k = 5
  · exact alone48_five k b n s ao l.length ac fo f.length fc d w (u s) _ _ C63 (maxLen_lt hs) (maxLen_lt hl) (maxLen_lt hf) hd HR h5
  by_cases h6 : k = 6
  · exact alone48_six k b n s ao l.length ac fo f.length fc d w (u s) _ _ C63 (maxLen_lt hs) (maxLen_lt hl) (maxLen_lt hf) hd HR h6
  by_cases h3 : k = 3
  · exact alone48_three k b n s ao l.length ac fo f.length fc d w (u s) _ _ C64 C63 (maxLen_lt hs) (maxLen_lt hl) (maxLen_lt hf) HR h3
  · exact alone48_else k b n s ao l.length ac fo f.length fc d w (u s) _ _ C63 (maxLen_lt hs) (maxLen_lt hl) (maxLen_lt hf) HR (by omega) (by omega) (by omega)
end Go.Proofs.YtbogggnnmbjlfaaDoor
