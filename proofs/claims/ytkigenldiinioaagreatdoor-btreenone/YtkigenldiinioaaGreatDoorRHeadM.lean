/- The document's check, walked where the value is wrong by itself. -/
import Derived.Test.YtkigenldiinioaaGreatDoorRNameM
import Derived.Test.YtkigenldiinioaaGreatDoorRZeroM
namespace Go.Proofs.YtkigenldiinioaaGreatDoor
open Go.RowKit
open Vl (V)
set_option maxHeartbeats 8000000 in
set_option maxRecDepth 100000 in
theorem rcheck42_head (k : Nat) (b : Bool) (n : Int) (s : ByteArray) (ao : Option Addr) (ll ac : Nat) (fo : Option Addr) (fl fc : Nat) (d : Nat) (w : World) (z q : Bool) (r : Nat)
    (C58 : Hid (∀ W, Calls Tryz.prog 58 #[.agg #[.int .u8 (k : Int), .bool b, .int .i64 n, .string s, .slice ao ll ac, .slice fo fl fc]] W fun e w' => e = .returned (.bool z) ∧ Below W.heap.size W w'))
    (C59 : Hid (s.size ≤ 1024 → ∀ W, Calls Tryz.prog 59 #[.string s] W fun e w' => e = .returned (.bool q) ∧ Below W.heap.size W w'))
    (hs : s.size ≤ 9223372036854775807) (hl : ll ≤ 9223372036854775807) (hf : fl ≤ 9223372036854775807) (hd : d ≤ 9223372036854775807)
    (HR : Hid (r = if z = false then 5 else if 1024 < s.size then 4 else if k = 3 ∧ q = false then 9 else if 64 < ll ∨ 64 < fl then 3 else if (k = 5 ∨ k = 6) ∧ 6 ≤ d then 10 else 0)) (hr0 : Hid (r ≠ 0)) :
    Calls Tryz.prog 35 #[.agg #[.int .u8 (k : Int), .bool b, .int .i64 n, .string s, .slice ao ll ac, .slice fo fl fc], .int .i64 (d : Int)] w fun e w' => e = .returned (.int .i64 (r : Int)) ∧ Below w.heap.size w w' := by
  cases z
  · have e : r = 5 := by rw [HR.out, if_pos rfl]
    subst e
    clear HR hr0
    go_enter Tryz.func35, Tryz.ntmps35
    go_wp2_with (first
        | (go_at_call 58; refine (C58.out _).mono ?_; rintro e w3 ⟨rfl, hb3⟩
           have q0 : w3.cell? ⟨w.heap.size, 0, none⟩ = some (.int .u8 (k : Int)) := (hb3.cell (p := ⟨w.heap.size, 0, none⟩) (by simp)).trans (by rw [cell_of_row _ _ _ _ _ _ (heap_alloc_new w _)]; rfl)
           have q3 : w3.cell? ⟨w.heap.size, 3, none⟩ = some (.string s) := (hb3.cell (p := ⟨w.heap.size, 3, none⟩) (by simp)).trans (by rw [cell_of_row _ _ _ _ _ _ (heap_alloc_new w _)]; rfl)
           have q4 : w3.cell? ⟨w.heap.size, 4, none⟩ = some (.slice ao ll ac) := (hb3.cell (p := ⟨w.heap.size, 4, none⟩) (by simp)).trans (by rw [cell_of_row _ _ _ _ _ _ (heap_alloc_new w _)]; rfl)
           have q5 : w3.cell? ⟨w.heap.size, 5, none⟩ = some (.slice fo fl fc) := (hb3.cell (p := ⟨w.heap.size, 5, none⟩) (by simp)).trans (by rw [cell_of_row _ _ _ _ _ _ (heap_alloc_new w _)]; rfl)
           have HB3 : Hid (Below w.heap.size w w3) := (below_new _ _).trans (hb3.mono (below_new _ _).size)
           have HS3 : Hid (w.heap.size + 1 ≤ w3.heap.size) := by have := hb3.size; simp at this; exact this
           clear hb3))
    exact ⟨rfl, _, results_tmp (by rfl) _ _ _, rfl, HB3.out⟩
  · by_cases h1 : 1024 < s.size
    · have e : r = 4 := by rw [HR.out, if_neg (by decide), if_pos h1]
      subst e
      clear HR hr0
      have i1 : (1024 : Int) < (s.size : Int) := by omega
      go_enter Tryz.func35, Tryz.ntmps35
      go_wp2_with (first
          | (go_at_call 58; refine (C58.out _).mono ?_; rintro e w3 ⟨rfl, hb3⟩
             have q0 : w3.cell? ⟨w.heap.size, 0, none⟩ = some (.int .u8 (k : Int)) := (hb3.cell (p := ⟨w.heap.size, 0, none⟩) (by simp)).trans (by rw [cell_of_row _ _ _ _ _ _ (heap_alloc_new w _)]; rfl)
             have q3 : w3.cell? ⟨w.heap.size, 3, none⟩ = some (.string s) := (hb3.cell (p := ⟨w.heap.size, 3, none⟩) (by simp)).trans (by rw [cell_of_row _ _ _ _ _ _ (heap_alloc_new w _)]; rfl)
             have q4 : w3.cell? ⟨w.heap.size, 4, none⟩ = some (.slice ao ll ac) := (hb3.cell (p := ⟨w.heap.size, 4, none⟩) (by simp)).trans (by rw [cell_of_row _ _ _ _ _ _ (heap_alloc_new w _)]; rfl)
             have q5 : w3.cell? ⟨w.heap.size, 5, none⟩ = some (.slice fo fl fc) := (hb3.cell (p := ⟨w.heap.size, 5, none⟩) (by simp)).trans (by rw [cell_of_row _ _ _ _ _ _ (heap_alloc_new w _)]; rfl)
             have HB3 : Hid (Below w.heap.size w w3) := (below_new _ _).trans (hb3.mono (below_new _ _).size)
             have HS3 : Hid (w.heap.size + 1 ≤ w3.heap.size) := by have := hb3.size; simp at this; exact this
             clear hb3))
      exact ⟨rfl, _, results_tmp (by rfl) _ _ _, rfl, HB3.out⟩
    · have i1 : ¬ (1024 : Int) < (s.size : Int) := by omega
      by_cases h2 : k = 3
      · subst h2
        cases q
        · have e : r = 9 := by rw [HR.out, if_neg (by decide), if_neg h1, if_pos ⟨rfl, rfl⟩]
          subst e
          clear HR hr0
          go_enter Tryz.func35, Tryz.ntmps35
          go_wp2_with (first
              | (go_at_call 58; refine (C58.out _).mono ?_; rintro e w3 ⟨rfl, hb3⟩
                 have q0 : w3.cell? ⟨w.heap.size, 0, none⟩ = some (.int .u8 3) := (hb3.cell (p := ⟨w.heap.size, 0, none⟩) (by simp)).trans (by rw [cell_of_row _ _ _ _ _ _ (heap_alloc_new w _)]; rfl)
                 have q3 : w3.cell? ⟨w.heap.size, 3, none⟩ = some (.string s) := (hb3.cell (p := ⟨w.heap.size, 3, none⟩) (by simp)).trans (by rw [cell_of_row _ _ _ _ _ _ (heap_alloc_new w _)]; rfl)
                 have q4 : w3.cell? ⟨w.heap.size, 4, none⟩ = some (.slice ao ll ac) := (hb3.cell (p := ⟨w.heap.size, 4, none⟩) (by simp)).trans (by rw [cell_of_row _ _ _ _ _ _ (heap_alloc_new w _)]; rfl)
                 have q5 : w3.cell? ⟨w.heap.size, 5, none⟩ = some (.slice fo fl fc) := (hb3.cell (p := ⟨w.heap.size, 5, none⟩) (by simp)).trans (by rw [cell_of_row _ _ _ _ _ _ (heap_alloc_new w _)]; rfl)
                 have HB3 : Hid (Below w.heap.size w w3) := (below_new _ _).trans (hb3.mono (below_new _ _).size)
                 have HS3 : Hid (w.heap.size + 1 ≤ w3.heap.size) := by have := hb3.size; simp at this; exact this
                 clear hb3)
              | (go_at_call 59; refine (C59.out (Nat.le_of_not_lt h1) _).mono ?_; rintro e w4 ⟨rfl, hb4⟩
                 have p0 : w4.cell? ⟨w.heap.size, 0, none⟩ = some (.int .u8 3) := (hb4.cell (p := ⟨w.heap.size, 0, none⟩) (by have := HS3.out; simp; omega)).trans q0
                 have p3 : w4.cell? ⟨w.heap.size, 3, none⟩ = some (.string s) := (hb4.cell (p := ⟨w.heap.size, 3, none⟩) (by have := HS3.out; simp; omega)).trans q3
                 have p4 : w4.cell? ⟨w.heap.size, 4, none⟩ = some (.slice ao ll ac) := (hb4.cell (p := ⟨w.heap.size, 4, none⟩) (by have := HS3.out; simp; omega)).trans q4
                 have p5 : w4.cell? ⟨w.heap.size, 5, none⟩ = some (.slice fo fl fc) := (hb4.cell (p := ⟨w.heap.size, 5, none⟩) (by have := HS3.out; simp; omega)).trans q5
                 have HB4 : Hid (Below w.heap.size w w4) := HB3.out.trans (hb4.mono HB3.out.size)
                 clear hb4))
          exact ⟨rfl, _, results_tmp (by rfl) _ _ _, rfl, HB4.out⟩
        · by_cases h3 : 64 < ll
          · have e : r = 3 := by rw [HR.out, if_neg (by decide), if_neg h1, if_neg (by simp), if_pos (Or.inl h3)]
            subst e
            clear HR hr0
            have i3 : (64 : Int) < (ll : Int) := by omega
            go_enter Tryz.func35, Tryz.ntmps35
            go_wp2_with (first
                | (go_at_call 58; refine (C58.out _).mono ?_; rintro e w3 ⟨rfl, hb3⟩
                   have q0 : w3.cell? ⟨w.heap.size, 0, none⟩ = some (.int .u8 3) := (hb3.cell (p := ⟨w.heap.size, 0, none⟩) (by simp)).trans (by rw [cell_of_row _ _ _ _ _ _ (heap_alloc_new w _)]; rfl)
                   have q3 : w3.cell? ⟨w.heap.size, 3, none⟩ = some (.string s) := (hb3.cell (p := ⟨w.heap.size, 3, none⟩) (by simp)).trans (by rw [cell_of_row _ _ _ _ _ _ (heap_alloc_new w _)]; rfl)
                   have q4 : w3.cell? ⟨w.heap.size, 4, none⟩ = some (.slice ao ll ac) := (hb3.cell (p := ⟨w.heap.size, 4, none⟩) (by simp)).trans (by rw [cell_of_row _ _ _ _ _ _ (heap_alloc_new w _)]; rfl)
                   have q5 : w3.cell? ⟨w.heap.size, 5, none⟩ = some (.slice fo fl fc) := (hb3.cell (p := ⟨w.heap.size, 5, none⟩) (by simp)).trans (by rw [cell_of_row _ _ _ _ _ _ (heap_alloc_new w _)]; rfl)
                   have HB3 : Hid (Below w.heap.size w w3) := (below_new _ _).trans (hb3.mono (below_new _ _).size)
                   have HS3 : Hid (w.heap.size + 1 ≤ w3.heap.size) := by have := hb3.size; simp at this; exact this
                   clear hb3)
                | (go_at_call 59; refine (C59.out (Nat.le_of_not_lt h1) _).mono ?_; rintro e w4 ⟨rfl, hb4⟩
                   have p0 : w4.cell? ⟨w.heap.size, 0, none⟩ = some (.int .u8 3) := (hb4.cell (p := ⟨w.heap.size, 0, none⟩) (by have := HS3.out; simp; omega)).trans q0
                   have p3 : w4.cell? ⟨w.heap.size, 3, none⟩ = some (.string s) := (hb4.cell (p := ⟨w.heap.size, 3, none⟩) (by have := HS3.out; simp; omega)).trans q3
                   have p4 : w4.cell? ⟨w.heap.size, 4, none⟩ = some (.slice ao ll ac) := (hb4.cell (p := ⟨w.heap.size, 4, none⟩) (by have := HS3.out; simp; omega)).trans q4
                   have p5 : w4.cell? ⟨w.heap.size, 5, none⟩ = some (.slice fo fl fc) := (hb4.cell (p := ⟨w.heap.size, 5, none⟩) (by have := HS3.out; simp; omega)).trans q5
                   have HB4 : Hid (Below w.heap.size w w4) := HB3.out.trans (hb4.mono HB3.out.size)
                   clear hb4))
            exact ⟨rfl, _, results_tmp (by rfl) _ _ _, rfl, HB4.out⟩
          · by_cases h4 : 64 < fl
            · have e : r = 3 := by rw [HR.out, if_neg (by decide), if_neg h1, if_neg (by simp), if_pos (Or.inr h4)]
              subst e
              clear HR hr0
              have i3 : ¬ (64 : Int) < (ll : Int) := by omega
              have i4 : (64 : Int) < (fl : Int) := by omega
              go_enter Tryz.func35, Tryz.ntmps35
              go_wp2_with (first
                  | (go_at_call 58; refine (C58.out _).mono ?_; rintro e w3 ⟨rfl, hb3⟩
                     have q0 : w3.cell? ⟨w.heap.size, 0, none⟩ = some (.int .u8 3) := (hb3.cell (p := ⟨w.heap.size, 0, none⟩) (by simp)).trans (by rw [cell_of_row _ _ _ _ _ _ (heap_alloc_new w _)]; rfl)
                     have q3 : w3.cell? ⟨w.heap.size, 3, none⟩ = some (.string s) := (hb3.cell (p := ⟨w.heap.size, 3, none⟩) (by simp)).trans (by rw [cell_of_row _ _ _ _ _ _ (heap_alloc_new w _)]; rfl)
                     have q4 : w3.cell? ⟨w.heap.size, 4, none⟩ = some (.slice ao ll ac) := (hb3.cell (p := ⟨w.heap.size, 4, none⟩) (by simp)).trans (by rw [cell_of_row _ _ _ _ _ _ (heap_alloc_new w _)]; rfl)
                     have q5 : w3.cell? ⟨w.heap.size, 5, none⟩ = some (.slice fo fl fc) := (hb3.cell (p := ⟨w.heap.size, 5, none⟩) (by simp)).trans (by rw [cell_of_row _ _ _ _ _ _ (heap_alloc_new w _)]; rfl)
                     have HB3 : Hid (Below w.heap.size w w3) := (below_new _ _).trans (hb3.mono (below_new _ _).size)
                     have HS3 : Hid (w.heap.size + 1 ≤ w3.heap.size) := by have := hb3.size; simp at this; exact this
                     clear hb3)
                  | (go_at_call 59; refine (C59.out (Nat.le_of_not_lt h1) _).mono ?_; rintro e w4 ⟨rfl, hb4⟩
                     have p0 : w4.cell? ⟨w.heap.size, 0, none⟩ = some (.int .u8 3) := (hb4.cell (p := ⟨w.heap.size, 0, none⟩) (by have := HS3.out; simp; omega)).trans q0
                     have p3 : w4.cell? ⟨w.heap.size, 3, none⟩ = some (.string s) := (hb4.cell (p := ⟨w.heap.size, 3, none⟩) (by have := HS3.out; simp; omega)).trans q3
                     have p4 : w4.cell? ⟨w.heap.size, 4, none⟩ = some (.slice ao ll ac) := (hb4.cell (p := ⟨w.heap.size, 4, none⟩) (by have := HS3.out; simp; omega)).trans q4
                     have p5 : w4.cell? ⟨w.heap.size, 5, none⟩ = some (.slice fo fl fc) := (hb4.cell (p := ⟨w.heap.size, 5, none⟩) (by have := HS3.out; simp; omega)).trans q5
                     have HB4 : Hid (Below w.heap.size w w4) := HB3.out.trans (hb4.mono HB3.out.size)
                     clear hb4))
              exact ⟨rfl, _, results_tmp (by rfl) _ _ _, rfl, HB4.out⟩
            · exfalso
              apply hr0.out
              rw [HR.out, if_neg (by decide), if_neg h1, if_neg (by simp), if_neg (by omega), if_neg (by omega)]
      · have i2 : ((k : Int) == 3) = false := by simp; omega
        by_cases h3 : 64 < ll
        · have e : r = 3 := by rw [HR.out, if_neg (by decide), if_neg h1, if_neg (fun h => h2 h.1), if_pos (Or.inl h3)]
          subst e
          clear HR hr0
          have i3 : (64 : Int) < (ll : Int) := by omega
          go_enter Tryz.func35, Tryz.ntmps35
          go_wp2_with (first
              | (go_at_call 58; refine (C58.out _).mono ?_; rintro e w3 ⟨rfl, hb3⟩
                 have q0 : w3.cell? ⟨w.heap.size, 0, none⟩ = some (.int .u8 (k : Int)) := (hb3.cell (p := ⟨w.heap.size, 0, none⟩) (by simp)).trans (by rw [cell_of_row _ _ _ _ _ _ (heap_alloc_new w _)]; rfl)
                 have q3 : w3.cell? ⟨w.heap.size, 3, none⟩ = some (.string s) := (hb3.cell (p := ⟨w.heap.size, 3, none⟩) (by simp)).trans (by rw [cell_of_row _ _ _ _ _ _ (heap_alloc_new w _)]; rfl)
                 have q4 : w3.cell? ⟨w.heap.size, 4, none⟩ = some (.slice ao ll ac) := (hb3.cell (p := ⟨w.heap.size, 4, none⟩) (by simp)).trans (by rw [cell_of_row _ _ _ _ _ _ (heap_alloc_new w _)]; rfl)
                 have q5 : w3.cell? ⟨w.heap.size, 5, none⟩ = some (.slice fo fl fc) := (hb3.cell (p := ⟨w.heap.size, 5, none⟩) (by simp)).trans (by rw [cell_of_row _ _ _ _ _ _ (heap_alloc_new w _)]; rfl)
                 have HB3 : Hid (Below w.heap.size w w3) := (below_new _ _).trans (hb3.mono (below_new _ _).size)
                 have HS3 : Hid (w.heap.size + 1 ≤ w3.heap.size) := by have := hb3.size; simp at this; exact this
                 clear hb3))
          exact ⟨rfl, _, results_tmp (by rfl) _ _ _, rfl, HB3.out⟩
        · have i3 : ¬ (64 : Int) < (ll : Int) := by omega
          by_cases h4 : 64 < fl
          · have e : r = 3 := by rw [HR.out, if_neg (by decide), if_neg h1, if_neg (fun h => h2 h.1), if_pos (Or.inr h4)]
            subst e
            clear HR hr0
            have i4 : (64 : Int) < (fl : Int) := by omega
            go_enter Tryz.func35, Tryz.ntmps35
            go_wp2_with (first
                | (go_at_call 58; refine (C58.out _).mono ?_; rintro e w3 ⟨rfl, hb3⟩
                   have q0 : w3.cell? ⟨w.heap.size, 0, none⟩ = some (.int .u8 (k : Int)) := (hb3.cell (p := ⟨w.heap.size, 0, none⟩) (by simp)).trans (by rw [cell_of_row _ _ _ _ _ _ (heap_alloc_new w _)]; rfl)
                   have q3 : w3.cell? ⟨w.heap.size, 3, none⟩ = some (.string s) := (hb3.cell (p := ⟨w.heap.size, 3, none⟩) (by simp)).trans (by rw [cell_of_row _ _ _ _ _ _ (heap_alloc_new w _)]; rfl)
                   have q4 : w3.cell? ⟨w.heap.size, 4, none⟩ = some (.slice ao ll ac) := (hb3.cell (p := ⟨w.heap.size, 4, none⟩) (by simp)).trans (by rw [cell_of_row _ _ _ _ _ _ (heap_alloc_new w _)]; rfl)
                   have q5 : w3.cell? ⟨w.heap.size, 5, none⟩ = some (.slice fo fl fc) := (hb3.cell (p := ⟨w.heap.size, 5, none⟩) (by simp)).trans (by rw [cell_of_row _ _ _ _ _ _ (heap_alloc_new w _)]; rfl)
                   have HB3 : Hid (Below w.heap.size w w3) := (below_new _ _).trans (hb3.mono (below_new _ _).size)
                   have HS3 : Hid (w.heap.size + 1 ≤ w3.heap.size) := by have := hb3.size; simp at this; exact this
                   clear hb3))
            exact ⟨rfl, _, results_tmp (by rfl) _ _ _, rfl, HB3.out⟩
          · have i4 : ¬ (64 : Int) < (fl : Int) := by omega
            by_cases h5 : (k = 5 ∨ k = 6) ∧ 6 ≤ d
            · have e : r = 10 := by rw [HR.out, if_neg (by decide), if_neg h1, if_neg (fun h => h2 h.1), if_neg (by omega), if_pos h5]
              subst e
              clear HR hr0
              obtain ⟨h5, h6⟩ := h5
              have i6 : (6 : Int) ≤ (d : Int) := by omega
              rcases h5 with rfl | rfl
              · go_enter Tryz.func35, Tryz.ntmps35
                go_wp2_with (first
                    | (go_at_call 58; refine (C58.out _).mono ?_; rintro e w3 ⟨rfl, hb3⟩
                       have q0 : w3.cell? ⟨w.heap.size, 0, none⟩ = some (.int .u8 5) := (hb3.cell (p := ⟨w.heap.size, 0, none⟩) (by simp)).trans (by rw [cell_of_row _ _ _ _ _ _ (heap_alloc_new w _)]; rfl)
                       have q3 : w3.cell? ⟨w.heap.size, 3, none⟩ = some (.string s) := (hb3.cell (p := ⟨w.heap.size, 3, none⟩) (by simp)).trans (by rw [cell_of_row _ _ _ _ _ _ (heap_alloc_new w _)]; rfl)
                       have q4 : w3.cell? ⟨w.heap.size, 4, none⟩ = some (.slice ao ll ac) := (hb3.cell (p := ⟨w.heap.size, 4, none⟩) (by simp)).trans (by rw [cell_of_row _ _ _ _ _ _ (heap_alloc_new w _)]; rfl)
                       have q5 : w3.cell? ⟨w.heap.size, 5, none⟩ = some (.slice fo fl fc) := (hb3.cell (p := ⟨w.heap.size, 5, none⟩) (by simp)).trans (by rw [cell_of_row _ _ _ _ _ _ (heap_alloc_new w _)]; rfl)
                       have HB3 : Hid (Below w.heap.size w w3) := (below_new _ _).trans (hb3.mono (below_new _ _).size)
                       have HS3 : Hid (w.heap.size + 1 ≤ w3.heap.size) := by have := hb3.size; simp at this; exact this
                       clear hb3))
                exact ⟨rfl, _, results_tmp (by rfl) _ _ _, rfl, HB3.out⟩
              · go_enter Tryz.func35, Tryz.ntmps35
                go_wp2_with (first
                    | (go_at_call 58; refine (C58.out _).mono ?_; rintro e w3 ⟨rfl, hb3⟩
                       have q0 : w3.cell? ⟨w.heap.size, 0, none⟩ = some (.int .u8 6) := (hb3.cell (p := ⟨w.heap.size, 0, none⟩) (by simp)).trans (by rw [cell_of_row _ _ _ _ _ _ (heap_alloc_new w _)]; rfl)
                       have q3 : w3.cell? ⟨w.heap.size, 3, none⟩ = some (.string s) := (hb3.cell (p := ⟨w.heap.size, 3, none⟩) (by simp)).trans (by rw [cell_of_row _ _ _ _ _ _ (heap_alloc_new w _)]; rfl)
                       have q4 : w3.cell? ⟨w.heap.size, 4, none⟩ = some (.slice ao ll ac) := (hb3.cell (p := ⟨w.heap.size, 4, none⟩) (by simp)).trans (by rw [cell_of_row _ _ _ _ _ _ (heap_alloc_new w _)]; rfl)
                       have q5 : w3.cell? ⟨w.heap.size, 5, none⟩ = some (.slice fo fl fc) := (hb3.cell (p := ⟨w.heap.size, 5, none⟩) (by simp)).trans (by rw [cell_of_row _ _ _ _ _ _ (heap_alloc_new w _)]; rfl)
                       have HB3 : Hid (Below w.heap.size w w3) := (below_new _ _).trans (hb3.mono (below_new _ _).size)
                       have HS3 : Hid (w.heap.size + 1 ≤ w3.heap.size) := by have := hb3.size; simp at this; exact this
                       clear hb3))
                exact ⟨rfl, _, results_tmp (by rfl) _ _ _, rfl, HB3.out⟩
            · exfalso
              apply hr0.out
              rw [HR.out, if_neg (by decide), if_neg h1, if_neg (fun h => h2 h.1), if_neg (by omega), if_neg h5]
end Go.Proofs.YtkigenldiinioaaGreatDoor
