/- Several texts, joined: RHead, BinRUtf -/
import Derived.Test.YtkigenldiinioaaGreatDoorQ36M
import Derived.Test.YtkigenldiinioaaGreatDoorQ15M
import Derived.Laws.RangeAny
import Derived.Lib.TrimUEq
import Derived.Lib.MapLaws
/- The document's check, walked where the value is wrong by itself. -/
namespace Go.Proofs.YtkigenldiinioaaGreatDoor
open Go.RowKit
open Vl (V)
set_option maxHeartbeats 8000000 in
set_option maxRecDepth 100000 in
theorem rcheck42_head (k : Nat) (b : Bool) (n : Int) (s : ByteArray) (ao : Option Addr) (ll ac : Nat) (fo : Option Addr) (fl fc : Nat) (d : Nat) (w : World) (z q : Bool) (r : Nat)
    (C58 : Hid (∀ W, Calls Tryz.prog 58 #[.agg #[.int .u8 (k : Int), .bool b, .int .i64 n, .string s, .slice ao ll ac, .slice fo fl fc]] W fun e w' => e = .returned (.bool z) ∧ Below W.heap.size W w'))
    (C59 : Hid (s.size ≤ 1024 → ∀ W, Calls Tryz.prog 59 #[.string s] W fun e w' => e = .returned (.bool q) ∧ Below W.heap.size W w'))
    (hs : s.size ≤ 9223372036854775807) (hl : ll ≤ 9223372036854775807) (hf : fl ≤ 9223372036854775807) (hd : d ≤ 9223372036854775807)
    (HR : Hid (r = if z = false then 5 else if 1024 < s.size then 4 else if k = 3 ∧ q = false then 9 else if 64 < ll ∨ 64 < fl then 3 else if (k = 5 ∨ k = 6) ∧ 6 ≤ d then 10 else 0)) (hr0 : Hid (r ≠ 0)) :
    Calls Tryz.prog 35 #[.agg #[.int .u8 (k : Int), .bool b, .int .i64 n, .string s, .slice ao ll ac, .slice fo fl fc], .int .i64 (d : Int)] w fun e w' => e = .returned (.int .i64 (r : Int)) ∧ Below w.heap.size w w' := by
  cases z
  · have e : r = 5 := by rw [HR.out, if_pos rfl]
    subst e
    clear HR hr0
    go_enter Tryz.func35, Tryz.ntmps35
    go_wp2_with (first
        | (go_at_call 58; refine (C58.out _).mono ?_; rintro e w3 ⟨rfl, hb3⟩
           have q0 : w3.cell? ⟨w.heap.size, 0, none⟩ = some (.int .u8 (k : Int)) := (hb3.cell (p := ⟨w.heap.size, 0, none⟩) (by simp)).trans (by rw [cell_of_row _ _ _ _ _ _ (heap_alloc_new w _)]; rfl)
           have q3 : w3.cell? ⟨w.heap.size, 3, none⟩ = some (.string s) := (hb3.cell (p := ⟨w.heap.size, 3, none⟩) (by simp)).trans (by rw [cell_of_row _ _ _ _ _ _ (heap_alloc_new w _)]; rfl)
           have q4 : w3.cell? ⟨w.heap.size, 4, none⟩ = some (.slice ao ll ac) := (hb3.cell (p := ⟨w.heap.size, 4, none⟩) (by simp)).trans (by rw [cell_of_row _ _ _ _ _ _ (heap_alloc_new w _)]; rfl)
           have q5 : w3.cell? ⟨w.heap.size, 5, none⟩ = some (.slice fo fl fc) := (hb3.cell (p := ⟨w.heap.size, 5, none⟩) (by simp)).trans (by rw [cell_of_row _ _ _ _ _ _ (heap_alloc_new w _)]; rfl)
           have HB3 : Hid (Below w.heap.size w w3) := (below_new _ _).trans (hb3.mono (below_new _ _).size)
           have HS3 : Hid (w.heap.size + 1 ≤ w3.heap.size) := by have := hb3.size; simp at this; exact this
           clear hb3))
    exact ⟨rfl, _, results_tmp (by rfl) _ _ _, rfl, HB3.out⟩
  · by_cases h1 : 1024 < s.size
    · have e : r = 4 := by rw [HR.out, if_neg (by decide), if_pos h1]
      subst e
      clear HR hr0
      have i1 : (1024 : Int) < (s.size : Int) := by omega
      go_enter Tryz.func35, Tryz.ntmps35
      go_wp2_with (first
          | (go_at_call 58; refine (C58.out _).mono ?_; rintro e w3 ⟨rfl, hb3⟩
             have q0 : w3.cell? ⟨w.heap.size, 0, none⟩ = some (.int .u8 (k : Int)) := (hb3.cell (p := ⟨w.heap.size, 0, none⟩) (by simp)).trans (by rw [cell_of_row _ _ _ _ _ _ (heap_alloc_new w _)]; rfl)
             have q3 : w3.cell? ⟨w.heap.size, 3, none⟩ = some (.string s) := (hb3.cell (p := ⟨w.heap.size, 3, none⟩) (by simp)).trans (by rw [cell_of_row _ _ _ _ _ _ (heap_alloc_new w _)]; rfl)
             have q4 : w3.cell? ⟨w.heap.size, 4, none⟩ = some (.slice ao ll ac) := (hb3.cell (p := ⟨w.heap.size, 4, none⟩) (by simp)).trans (by rw [cell_of_row _ _ _ _ _ _ (heap_alloc_new w _)]; rfl)
             have q5 : w3.cell? ⟨w.heap.size, 5, none⟩ = some (.slice fo fl fc) := (hb3.cell (p := ⟨w.heap.size, 5, none⟩) (by simp)).trans (by rw [cell_of_row _ _ _ _ _ _ (heap_alloc_new w _)]; rfl)
             have HB3 : Hid (Below w.heap.size w w3) := (below_new _ _).trans (hb3.mono (below_new _ _).size)
             have HS3 : Hid (w.heap.size + 1 ≤ w3.heap.size) := by have := hb3.size; simp at this; exact this
             clear hb3))
      exact ⟨rfl, _, results_tmp (by rfl) _ _ _, rfl, HB3.out⟩
    · have i1 : ¬ (1024 : Int) < (s.size : Int) := by omega
      by_cases h2 : k = 3
      · subst h2
        cases q
        · have e : r = 9 := by rw [HR.out, if_neg (by decide), if_neg h1, if_pos ⟨rfl, rfl⟩]
          subst e
          clear HR hr0
          go_enter Tryz.func35, Tryz.ntmps35
          go_wp2_with (first
              | (go_at_call 58; refine (C58.out _).mono ?_; rintro e w3 ⟨rfl, hb3⟩
                 have q0 : w3.cell? ⟨w.heap.size, 0, none⟩ = some (.int .u8 3) := (hb3.cell (p := ⟨w.heap.size, 0, none⟩) (by simp)).trans (by rw [cell_of_row _ _ _ _ _ _ (heap_alloc_new w _)]; rfl)
                 have q3 : w3.cell? ⟨w.heap.size, 3, none⟩ = some (.string s) := (hb3.cell (p := ⟨w.heap.size, 3, none⟩) (by simp)).trans (by rw [cell_of_row _ _ _ _ _ _ (heap_alloc_new w _)]; rfl)
                 have q4 : w3.cell? ⟨w.heap.size, 4, none⟩ = some (.slice ao ll ac) := (hb3.cell (p := ⟨w.heap.size, 4, none⟩) (by simp)).trans (by rw [cell_of_row _ _ _ _ _ _ (heap_alloc_new w _)]; rfl)
                 have q5 : w3.cell? ⟨w.heap.size, 5, none⟩ = some (.slice fo fl fc) := (hb3.cell (p := ⟨w.heap.size, 5, none⟩) (by simp)).trans (by rw [cell_of_row _ _ _ _ _ _ (heap_alloc_new w _)]; rfl)
                 have HB3 : Hid (Below w.heap.size w w3) := (below_new _ _).trans (hb3.mono (below_new _ _).size)
                 have HS3 : Hid (w.heap.size + 1 ≤ w3.heap.size) := by have := hb3.size; simp at this; exact this
                 clear hb3)
              | (go_at_call 59; refine (C59.out (Nat.le_of_not_lt h1) _).mono ?_; rintro e w4 ⟨rfl, hb4⟩
                 have p0 : w4.cell? ⟨w.heap.size, 0, none⟩ = some (.int .u8 3) := (hb4.cell (p := ⟨w.heap.size, 0, none⟩) (by have := HS3.out; simp; omega)).trans q0
                 have p3 : w4.cell? ⟨w.heap.size, 3, none⟩ = some (.string s) := (hb4.cell (p := ⟨w.heap.size, 3, none⟩) (by have := HS3.out; simp; omega)).trans q3
                 have p4 : w4.cell? ⟨w.heap.size, 4, none⟩ = some (.slice ao ll ac) := (hb4.cell (p := ⟨w.heap.size, 4, none⟩) (by have := HS3.out; simp; omega)).trans q4
                 have p5 : w4.cell? ⟨w.heap.size, 5, none⟩ = some (.slice fo fl fc) := (hb4.cell (p := ⟨w.heap.size, 5, none⟩) (by have := HS3.out; simp; omega)).trans q5
                 have HB4 : Hid (Below w.heap.size w w4) := HB3.out.trans (hb4.mono HB3.out.size)
                 clear hb4))
          exact ⟨rfl, _, results_tmp (by rfl) _ _ _, rfl, HB4.out⟩
        · by_cases h3 : 64 < ll
          · have e : r = 3 := by rw [HR.out, if_neg (by decide), if_neg h1, if_neg (by simp), if_pos (Or.inl h3)]
            subst e
            clear HR hr0
            have i3 : (64 : Int) < (ll : Int) := by omega
            go_enter Tryz.func35, Tryz.ntmps35
            go_wp2_with (first
                | (go_at_call 58; refine (C58.out _).mono ?_; rintro e w3 ⟨rfl, hb3⟩
                   have q0 : w3.cell? ⟨w.heap.size, 0, none⟩ = some (.int .u8 3) := (hb3.cell (p := ⟨w.heap.size, 0, none⟩) (by simp)).trans (by rw [cell_of_row _ _ _ _ _ _ (heap_alloc_new w _)]; rfl)
                   have q3 : w3.cell? ⟨w.heap.size, 3, none⟩ = some (.string s) := (hb3.cell (p := ⟨w.heap.size, 3, none⟩) (by simp)).trans (by rw [cell_of_row _ _ _ _ _ _ (heap_alloc_new w _)]; rfl)
                   have q4 : w3.cell? ⟨w.heap.size, 4, none⟩ = some (.slice ao ll ac) := (hb3.cell (p := ⟨w.heap.size, 4, none⟩) (by simp)).trans (by rw [cell_of_row _ _ _ _ _ _ (heap_alloc_new w _)]; rfl)
                   have q5 : w3.cell? ⟨w.heap.size, 5, none⟩ = some (.slice fo fl fc) := (hb3.cell (p := ⟨w.heap.size, 5, none⟩) (by simp)).trans (by rw [cell_of_row _ _ _ _ _ _ (heap_alloc_new w _)]; rfl)
                   have HB3 : Hid (Below w.heap.size w w3) := (below_new _ _).trans (hb3.mono (below_new _ _).size)
                   have HS3 : Hid (w.heap.size + 1 ≤ w3.heap.size) := by have := hb3.size; simp at this; exact this
                   clear hb3)
                | (go_at_call 59; refine (C59.out (Nat.le_of_not_lt h1) _).mono ?_; rintro e w4 ⟨rfl, hb4⟩
                   have p0 : w4.cell? ⟨w.heap.size, 0, none⟩ = some (.int .u8 3) := (hb4.cell (p := ⟨w.heap.size, 0, none⟩) (by have := HS3.out; simp; omega)).trans q0
                   have p3 : w4.cell? ⟨w.heap.size, 3, none⟩ = some (.string s) := (hb4.cell (p := ⟨w.heap.size, 3, none⟩) (by have := HS3.out; simp; omega)).trans q3
                   have p4 : w4.cell? ⟨w.heap.size, 4, none⟩ = some (.slice ao ll ac) := (hb4.cell (p := ⟨w.heap.size, 4, none⟩) (by have := HS3.out; simp; omega)).trans q4
                   have p5 : w4.cell? ⟨w.heap.size, 5, none⟩ = some (.slice fo fl fc) := (hb4.cell (p := ⟨w.heap.size, 5, none⟩) (by have := HS3.out; simp; omega)).trans q5
                   have HB4 : Hid (Below w.heap.size w w4) := HB3.out.trans (hb4.mono HB3.out.size)
                   clear hb4))
            exact ⟨rfl, _, results_tmp (by rfl) _ _ _, rfl, HB4.out⟩
          · by_cases h4 : 64 < fl
            · have e : r = 3 := by rw [HR.out, if_neg (by decide), if_neg h1, if_neg (by simp), if_pos (Or.inr h4)]
              subst e
              clear HR hr0
              have i3 : ¬ (64 : Int) < (ll : Int) := by omega
              have i4 : (64 : Int) < (fl : Int) := by omega
              go_enter Tryz.func35, Tryz.ntmps35
              go_wp2_with (first
                  | (go_at_call 58; refine (C58.out _).mono ?_; rintro e w3 ⟨rfl, hb3⟩
                     have q0 : w3.cell? ⟨w.heap.size, 0, none⟩ = some (.int .u8 3) := (hb3.cell (p := ⟨w.heap.size, 0, none⟩) (by simp)).trans (by rw [cell_of_row _ _ _ _ _ _ (heap_alloc_new w _)]; rfl)
                     have q3 : w3.cell? ⟨w.heap.size, 3, none⟩ = some (.string s) := (hb3.cell (p := ⟨w.heap.size, 3, none⟩) (by simp)).trans (by rw [cell_of_row _ _ _ _ _ _ (heap_alloc_new w _)]; rfl)
                     have q4 : w3.cell? ⟨w.heap.size, 4, none⟩ = some (.slice ao ll ac) := (hb3.cell (p := ⟨w.heap.size, 4, none⟩) (by simp)).trans (by rw [cell_of_row _ _ _ _ _ _ (heap_alloc_new w _)]; rfl)
                     have q5 : w3.cell? ⟨w.heap.size, 5, none⟩ = some (.slice fo fl fc) := (hb3.cell (p := ⟨w.heap.size, 5, none⟩) (by simp)).trans (by rw [cell_of_row _ _ _ _ _ _ (heap_alloc_new w _)]; rfl)
                     have HB3 : Hid (Below w.heap.size w w3) := (below_new _ _).trans (hb3.mono (below_new _ _).size)
                     have HS3 : Hid (w.heap.size + 1 ≤ w3.heap.size) := by have := hb3.size; simp at this; exact this
                     clear hb3)
                  | (go_at_call 59; refine (C59.out (Nat.le_of_not_lt h1) _).mono ?_; rintro e w4 ⟨rfl, hb4⟩
                     have p0 : w4.cell? ⟨w.heap.size, 0, none⟩ = some (.int .u8 3) := (hb4.cell (p := ⟨w.heap.size, 0, none⟩) (by have := HS3.out; simp; omega)).trans q0
                     have p3 : w4.cell? ⟨w.heap.size, 3, none⟩ = some (.string s) := (hb4.cell (p := ⟨w.heap.size, 3, none⟩) (by have := HS3.out; simp; omega)).trans q3
                     have p4 : w4.cell? ⟨w.heap.size, 4, none⟩ = some (.slice ao ll ac) := (hb4.cell (p := ⟨w.heap.size, 4, none⟩) (by have := HS3.out; simp; omega)).trans q4
                     have p5 : w4.cell? ⟨w.heap.size, 5, none⟩ = some (.slice fo fl fc) := (hb4.cell (p := ⟨w.heap.size, 5, none⟩) (by have := HS3.out; simp; omega)).trans q5
                     have HB4 : Hid (Below w.heap.size w w4) := HB3.out.trans (hb4.mono HB3.out.size)
                     clear hb4))
              exact ⟨rfl, _, results_tmp (by rfl) _ _ _, rfl, HB4.out⟩
            · exfalso
              apply hr0.out
              rw [HR.out, if_neg (by decide), if_neg h1, if_neg (by simp), if_neg (by omega), if_neg (by omega)]
      · have i2 : ((k : Int) == 3) = false := by simp; omega
        by_cases h3 : 64 < ll
        · have e : r = 3 := by rw [HR.out, if_neg (by decide), if_neg h1, if_neg (fun h => h2 h.1), if_pos (Or.inl h3)]
          subst e
          clear HR hr0
          have i3 : (64 : Int) < (ll : Int) := by omega
          go_enter Tryz.func35, Tryz.ntmps35
          go_wp2_with (first
              | (go_at_call 58; refine (C58.out _).mono ?_; rintro e w3 ⟨rfl, hb3⟩
                 have q0 : w3.cell? ⟨w.heap.size, 0, none⟩ = some (.int .u8 (k : Int)) := (hb3.cell (p := ⟨w.heap.size, 0, none⟩) (by simp)).trans (by rw [cell_of_row _ _ _ _ _ _ (heap_alloc_new w _)]; rfl)
                 have q3 : w3.cell? ⟨w.heap.size, 3, none⟩ = some (.string s) := (hb3.cell (p := ⟨w.heap.size, 3, none⟩) (by simp)).trans (by rw [cell_of_row _ _ _ _ _ _ (heap_alloc_new w _)]; rfl)
                 have q4 : w3.cell? ⟨w.heap.size, 4, none⟩ = some (.slice ao ll ac) := (hb3.cell (p := ⟨w.heap.size, 4, none⟩) (by simp)).trans (by rw [cell_of_row _ _ _ _ _ _ (heap_alloc_new w _)]; rfl)
                 have q5 : w3.cell? ⟨w.heap.size, 5, none⟩ = some (.slice fo fl fc) := (hb3.cell (p := ⟨w.heap.size, 5, none⟩) (by simp)).trans (by rw [cell_of_row _ _ _ _ _ _ (heap_alloc_new w _)]; rfl)
                 have HB3 : Hid (Below w.heap.size w w3) := (below_new _ _).trans (hb3.mono (below_new _ _).size)
                 have HS3 : Hid (w.heap.size + 1 ≤ w3.heap.size) := by have := hb3.size; simp at this; exact this
                 clear hb3))
          exact ⟨rfl, _, results_tmp (by rfl) _ _ _, rfl, HB3.out⟩
        · have i3 : ¬ (64 : Int) < (ll : Int) := by omega
          by_cases h4 : 64 < fl
          · have e : r = 3 := by rw [HR.out, if_neg (by decide), if_neg h1, if_neg (fun h => h2 h.1), if_pos (Or.inr h4)]
            subst e
            clear HR hr0
            have i4 : (64 : Int) < (fl : Int) := by omega
            go_enter Tryz.func35, Tryz.ntmps35
            go_wp2_with (first
                | (go_at_call 58; refine (C58.out _).mono ?_; rintro e w3 ⟨rfl, hb3⟩
                   have q0 : w3.cell? ⟨w.heap.size, 0, none⟩ = some (.int .u8 (k : Int)) := (hb3.cell (p := ⟨w.heap.size, 0, none⟩) (by simp)).trans (by rw [cell_of_row _ _ _ _ _ _ (heap_alloc_new w _)]; rfl)
                   have q3 : w3.cell? ⟨w.heap.size, 3, none⟩ = some (.string s) := (hb3.cell (p := ⟨w.heap.size, 3, none⟩) (by simp)).trans (by rw [cell_of_row _ _ _ _ _ _ (heap_alloc_new w _)]; rfl)
                   have q4 : w3.cell? ⟨w.heap.size, 4, none⟩ = some (.slice ao ll ac) := (hb3.cell (p := ⟨w.heap.size, 4, none⟩) (by simp)).trans (by rw [cell_of_row _ _ _ _ _ _ (heap_alloc_new w _)]; rfl)
                   have q5 : w3.cell? ⟨w.heap.size, 5, none⟩ = some (.slice fo fl fc) := (hb3.cell (p := ⟨w.heap.size, 5, none⟩) (by simp)).trans (by rw [cell_of_row _ _ _ _ _ _ (heap_alloc_new w _)]; rfl)
                   have HB3 : Hid (Below w.heap.size w w3) := (below_new _ _).trans (hb3.mono (below_new _ _).size)
                   have HS3 : Hid (w.heap.size + 1 ≤ w3.heap.size) := by have := hb3.size; simp at this; exact this
                   clear hb3))
            exact ⟨rfl, _, results_tmp (by rfl) _ _ _, rfl, HB3.out⟩
          · have i4 : ¬ (64 : Int) < (fl : Int) := by omega
            by_cases h5 : (k = 5 ∨ k = 6) ∧ 6 ≤ d
            · have e : r = 10 := by rw [HR.out, if_neg (by decide), if_neg h1, if_neg (fun h => h2 h.1), if_neg (by omega), if_pos h5]
              subst e
              clear HR hr0
              obtain ⟨h5, h6⟩ := h5
              have i6 : (6 : Int) ≤ (d : Int) := by omega
              rcases h5 with rfl | rfl
              · go_enter Tryz.func35, Tryz.ntmps35
                go_wp2_with (first
                    | (go_at_call 58; refine (C58.out _).mono ?_; rintro e w3 ⟨rfl, hb3⟩
                       have q0 : w3.cell? ⟨w.heap.size, 0, none⟩ = some (.int .u8 5) := (hb3.cell (p := ⟨w.heap.size, 0, none⟩) (by simp)).trans (by rw [cell_of_row _ _ _ _ _ _ (heap_alloc_new w _)]; rfl)
                       have q3 : w3.cell? ⟨w.heap.size, 3, none⟩ = some (.string s) := (hb3.cell (p := ⟨w.heap.size, 3, none⟩) (by simp)).trans (by rw [cell_of_row _ _ _ _ _ _ (heap_alloc_new w _)]; rfl)
                       have q4 : w3.cell? ⟨w.heap.size, 4, none⟩ = some (.slice ao ll ac) := (hb3.cell (p := ⟨w.heap.size, 4, none⟩) (by simp)).trans (by rw [cell_of_row _ _ _ _ _ _ (heap_alloc_new w _)]; rfl)
                       have q5 : w3.cell? ⟨w.heap.size, 5, none⟩ = some (.slice fo fl fc) := (hb3.cell (p := ⟨w.heap.size, 5, none⟩) (by simp)).trans (by rw [cell_of_row _ _ _ _ _ _ (heap_alloc_new w _)]; rfl)
                       have HB3 : Hid (Below w.heap.size w w3) := (below_new _ _).trans (hb3.mono (below_new _ _).size)
                       have HS3 : Hid (w.heap.size + 1 ≤ w3.heap.size) := by have := hb3.size; simp at this; exact this
                       clear hb3))
                exact ⟨rfl, _, results_tmp (by rfl) _ _ _, rfl, HB3.out⟩
              · go_enter Tryz.func35, Tryz.ntmps35
                go_wp2_with (first
                    | (go_at_call 58; refine (C58.out _).mono ?_; rintro e w3 ⟨rfl, hb3⟩
                       have q0 : w3.cell? ⟨w.heap.size, 0, none⟩ = some (.int .u8 6) := (hb3.cell (p := ⟨w.heap.size, 0, none⟩) (by simp)).trans (by rw [cell_of_row _ _ _ _ _ _ (heap_alloc_new w _)]; rfl)
                       have q3 : w3.cell? ⟨w.heap.size, 3, none⟩ = some (.string s) := (hb3.cell (p := ⟨w.heap.size, 3, none⟩) (by simp)).trans (by rw [cell_of_row _ _ _ _ _ _ (heap_alloc_new w _)]; rfl)
                       have q4 : w3.cell? ⟨w.heap.size, 4, none⟩ = some (.slice ao ll ac) := (hb3.cell (p := ⟨w.heap.size, 4, none⟩) (by simp)).trans (by rw [cell_of_row _ _ _ _ _ _ (heap_alloc_new w _)]; rfl)
                       have q5 : w3.cell? ⟨w.heap.size, 5, none⟩ = some (.slice fo fl fc) := (hb3.cell (p := ⟨w.heap.size, 5, none⟩) (by simp)).trans (by rw [cell_of_row _ _ _ _ _ _ (heap_alloc_new w _)]; rfl)
                       have HB3 : Hid (Below w.heap.size w w3) := (below_new _ _).trans (hb3.mono (below_new _ _).size)
                       have HS3 : Hid (w.heap.size + 1 ≤ w3.heap.size) := by have := hb3.size; simp at this; exact this
                       clear hb3))
                exact ⟨rfl, _, results_tmp (by rfl) _ _ _, rfl, HB3.out⟩
            · exfalso
              apply hr0.out
              rw [HR.out, if_neg (by decide), if_neg h1, if_neg (fun h => h2 h.1), if_neg (by omega), if_neg h5]
end Go.Proofs.YtkigenldiinioaaGreatDoor
/- The document's Utf, walked: of a text within the limit it answers whether it is UTF-8, as the library does. -/
namespace Go.Proofs.YtkigenldiinioaaGreatDoor
open Go.RowKit
theorem drop_nonempty (s : ByteArray) (pos : Nat) (h : pos < s.size) : s.data.toList.drop pos ≠ [] := by
  intro e
  have := List.drop_eq_nil_iff.1 e
  have h2 : s.data.toList.length = s.size := rfl
  omega
theorem extract3 (s : ByteArray) (pos : Nat) : (s.extract pos (pos + 3)).toList = (s.data.toList.drop pos).take 3 := by
  rw [Go.ByteArray.toList_eq]
  rw [ByteArray.data_extract, Array.toList_extract, List.extract_eq_take_drop]
  congr 1
  omega
/-- the sign that stands for what is none, three bytes wide -/
theorem fffd_wide (s : ByteArray) (pos : Nat) (h : pos < s.size) (h1 : (Utf8.decode s pos).1 = 65533) (h2 : (Utf8.decode s pos).2 ≠ 1) : pos + 3 ≤ s.size ∧ (s.extract pos (pos + 3)).toList = [239, 191, 189] := by
  have hne := drop_nonempty s pos h
  have he := Lib.encode_decode (s.data.toList.drop pos) hne (by rw [Lib.decodeL_drop]; exact fun hh => h2 hh.2)
  rw [Lib.decodeL_drop, h1] at he
  have e3 : Lib.encodeRune ((65533 : Nat) : Int) = [239, 191, 189] := by decide
  rw [e3] at he
  have hl := congrArg List.length he
  simp only [List.length_take, List.length_drop, List.length_cons, List.length_nil] at hl
  have h4 : s.data.toList.length = s.size := rfl
  refine ⟨by omega, ?_⟩
  rw [extract3]
  have h5 := congrArg (List.take 3) he
  rw [List.take_take] at h5
  have h6 : min 3 (Utf8.decode s pos).2 = 3 := by omega
  rw [h6] at h5
  exact h5.symm
theorem fffd_true (s : ByteArray) (pos : Nat) (h : (s.extract pos (pos + 3)).toList = [239, 191, 189]) : (Utf8.decode s pos).2 ≠ 1 := by
  rw [extract3] at h
  rw [← Lib.decodeL_drop]
  obtain ⟨l, hl⟩ : ∃ l, l = s.data.toList.drop pos := ⟨_, rfl⟩
  rw [← hl] at h ⊢
  match l, h with
  | a :: b :: c :: r, h =>
    simp only [List.take_succ_cons, List.take_zero, List.cons.injEq, and_true] at h
    obtain ⟨rfl, rfl, rfl⟩ := h
    simp [Lib.decodeL, Utf8.decode, ByteArray.get!, ByteArray.size, Utf8.valid]
theorem below_iter (w : World) (s : ByteArray) (p : Nat) : Below w.heap.size w (w.iter s p) := below_new _ _
theorem valid_nil (b : Nat) : Lib.validGoD b [] = true := by
  cases b <;> simp [Lib.validGoD]
set_option maxHeartbeats 4000000 in
set_option maxRecDepth 100000 in
theorem rutf59 (s : ByteArray) (w : World) (hs : s.size ≤ 1024) : Calls Tryz.prog 59 #[.string s] w fun e w' => e = .returned (.bool (Bn.u8 s)) ∧ Below w.heap.size w w' := by
  go_enter Tryz.func59, Tryz.ntmps59
  go_wp2
  go_loopw [2] (fun v w' => v = .bool false ∧ ∃ (pos b : Nat), w' = w.iter s pos ∧ Lib.validGoD b (s.data.toList.drop pos) = Bn.u8 s ∧ s.size ≤ pos + b) (fun _ w' => s.size - w'.iterPos w.heap.size)
  case atStart => exact ⟨rfl, 0, s.size, rfl, by rw [Bn.u8, Lib.validD, List.drop_zero]; rfl, by omega⟩
  case round =>
    obtain ⟨rfl, pos, b, rfl, hv, hb⟩ := hrel
    by_cases hp : pos < s.size
    · have hnx : ∀ ty, (Instr.next (.pointer (some ⟨w.heap.size, 0, none⟩)) true ty).run Tryz.prog (w.iter s pos) = _ := fun ty => run_next_any w s pos ty hp
      have hwd := Lib.width_pos s pos
      cases b with
      | zero => omega
      | succ b =>
        have hne := drop_nonempty s pos hp
        rw [Lib.validGoD, if_neg hne, Lib.decodeL_drop, List.drop_drop] at hv
        have HV : Hid ((if (Utf8.decode s pos).1 = 65533 ∧ (Utf8.decode s pos).2 = 1 then false else Lib.validGoD b (s.data.toList.drop (pos + (Utf8.decode s pos).2))) = Bn.u8 s) := hv
        clear hv hne
        by_cases hr1 : (Utf8.decode s pos).1 = 65533
        · have hri : ((Utf8.decode s pos).1 : Int) = 65533 := by omega
          have e3 : wrap64 ((pos : Int) + 3) = ((pos + 3 : Nat) : Int) := by unfold wrap64; omega
          by_cases h3 : pos + 3 ≤ s.size
          · have i3 : ((pos + 3 : Nat) : Int) ≤ (s.size : Int) := by omega
            by_cases hx : (s.extract pos (pos + 3)).toList = [239, 191, 189]
            · have HX : Hid ((Utf8.decode s pos).2 ≠ 1) := fffd_true s pos hx
              have hx1 : ((s.extract pos (pos + 3)).toList == [239, 191, 189]) = true := by rw [hx]; rfl
              go_wp2
              go_roundw
              case rel => exact ⟨rfl, pos + (Utf8.decode s pos).2, b, rfl, by rw [← HV.out, if_neg (fun h => HX.out h.2)], by omega⟩
              case measure => simp; omega
            · have HX : Hid ((Utf8.decode s pos).2 = 1) := by
                show _ = _
                exact Decidable.byContradiction fun h => hx (fffd_wide s pos hp hr1 h).2
              have hx1 : ((s.extract pos (pos + 3)).toList == [239, 191, 189]) = false := by simpa using hx
              go_wp2
              exact ⟨rfl, _, results_tmp (by rfl) _ _ _, by rw [← HV.out, if_pos ⟨hr1, HX.out⟩]; rfl, below_iter _ _ _⟩
          · have i3 : ¬ ((pos + 3 : Nat) : Int) ≤ (s.size : Int) := by omega
            have HX : Hid ((Utf8.decode s pos).2 = 1) := by
              show _ = _
              exact Decidable.byContradiction fun h => h3 (fffd_wide s pos hp hr1 h).1
            go_wp2
            exact ⟨rfl, _, results_tmp (by rfl) _ _ _, by rw [← HV.out, if_pos ⟨hr1, HX.out⟩]; rfl, below_iter _ _ _⟩
        · have hri : ¬ ((Utf8.decode s pos).1 : Int) = 65533 := by omega
          go_wp2
          go_roundw
          case rel => exact ⟨rfl, pos + (Utf8.decode s pos).2, b, rfl, by rw [← HV.out, if_neg (fun h => hr1 h.1)], by omega⟩
          case measure => simp; omega
    · have hnx : ∀ ty, (Instr.next (.pointer (some ⟨w.heap.size, 0, none⟩)) true ty).run Tryz.prog (w.iter s pos) = _ := fun ty => run_next_end w s pos ty hp
      have HV : Hid (true = Bn.u8 s) := by
        show _ = _
        rw [← hv, List.drop_eq_nil_of_le (by have h2 : s.data.toList.length = s.size := rfl
                                             omega), valid_nil]
      go_wp2
      exact ⟨rfl, _, results_tmp (by rfl) _ _ _, by rw [← HV.out]; rfl, below_iter _ _ _⟩
end Go.Proofs.YtkigenldiinioaaGreatDoor
