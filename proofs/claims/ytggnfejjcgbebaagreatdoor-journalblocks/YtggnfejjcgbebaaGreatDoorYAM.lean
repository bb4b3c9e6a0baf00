/- Several texts, joined: RName, RZero, RHead -/
import Derived.Test.YtggnfejjcgbebaaGreatDoorJBM
/- The document's Name and Check's door, walked over whatever its Utf answers. -/
namespace Go.Proofs.YtggnfejjcgbebaaGreatDoor
open Go.RowKit
open Vl (V)
/-- what the document's Utf answers of texts within the limit: u -/
def RUtf (u : ByteArray → Bool) : Prop :=
  ∀ (s : ByteArray) (w : World), s.size ≤ 1024 → Calls Tryz.prog 72 #[.string s] w fun e w' => e = .returned (.bool (u s)) ∧ Below w.heap.size w w'
set_option maxHeartbeats 4000000 in
set_option maxRecDepth 100000 in
theorem rname60 {u : ByteArray → Bool} (hU : RUtf u) (m : ByteArray) (hm : m.size ≤ maxLen) (w : World) :
    Calls Tryz.prog 89 #[.string m] w fun e w' => e = .returned (.int .i64 ((Vl.nameErr u m : Nat) : Int)) ∧ Below w.heap.size w w' := by
  obtain ⟨q, hq⟩ : ∃ q, q = u m := ⟨_, rfl⟩
  have C59 : Hid (m.size ≤ 1024 → Calls Tryz.prog 72 #[.string m] w fun e w' => e = .returned (.bool q) ∧ Below w.heap.size w w') := fun h => by rw [hq]; exact hU m w h
  obtain ⟨r, hr⟩ : ∃ r, r = Vl.nameErr u m := ⟨_, rfl⟩
  have HR : Hid (r = if m.size = 0 ∨ 1024 < m.size then 4 else if q = false then 9 else 0) := by
    show _ = _
    rw [hr, Vl.nameErr, hq]
  have HML : Hid (m.size ≤ 9223372036854775807) := maxLen_lt hm
  rw [← hr]
  clear hr hq hm hU
  by_cases h0 : m.size = 0
  · have h1 : m.toList = [] := (str_nil m).2 h0
    have h2 : r = 4 := by rw [HR.out, if_pos (Or.inl h0)]
    subst h2
    clear h0
    go_enter Tryz.func89, Tryz.ntmps89
    go_wp2
    exact ⟨rfl, _, results_tmp (by rfl) _ _ _, rfl, Below.refl _ _⟩
  · have h1 : ¬ m.toList = [] := fun h => h0 ((str_nil m).1 h)
    by_cases h3 : 1024 < m.size
    · have h2 : r = 4 := by rw [HR.out, if_pos (Or.inr h3)]
      subst h2
      have h4 := HML.out
      go_enter Tryz.func89, Tryz.ntmps89
      go_wp2
      exact ⟨rfl, _, results_tmp (by rfl) _ _ _, rfl, Below.refl _ _⟩
    · have h2 : r = if q = false then 9 else 0 := by rw [HR.out, if_neg (by omega)]
      have h4 : m.size ≤ 1024 := by omega
      have h5 : m.toList.isEmpty = false := by simpa using h1
      have h6 : decide ((1024 : Int) < (m.size : Int)) = false := by simp; omega
      cases q
      · subst h2
        go_enter Tryz.func89, Tryz.ntmps89
        go_wp2_with (go_at_call 72; refine (C59.out h4).mono ?_; rintro e w3 ⟨rfl, hb3⟩)
        exact ⟨rfl, _, results_tmp (by rfl) _ _ _, rfl, hb3⟩
      · subst h2
        go_enter Tryz.func89, Tryz.ntmps89
        go_wp2_with (go_at_call 72; refine (C59.out h4).mono ?_; rintro e w3 ⟨rfl, hb3⟩)
        exact ⟨rfl, _, results_tmp (by rfl) _ _ _, rfl, hb3⟩
end Go.Proofs.YtggnfejjcgbebaaGreatDoor
/- The document's zero, walked: whether the kind is one and every field that it has not is zero. -/
namespace Go.Proofs.YtggnfejjcgbebaaGreatDoor
open Go.RowKit
open Vl (V)
theorem str_emp (s : ByteArray) : s.toList.isEmpty = decide (s.size = 0) := by
  rw [Bool.eq_iff_iff, List.isEmpty_iff, str_nil, decide_eq_true_eq]
set_option maxHeartbeats 4000000 in
set_option maxRecDepth 100000 in
theorem rzero58 (k : Nat) (b : Bool) (n : Int) (s : ByteArray) (l : List V) (f : List (ByteArray × V)) (ao : Option Addr) (ac : Nat) (fo : Option Addr) (fc : Nat) (w : World) :
    Calls Tryz.prog 143 #[.agg #[.int .u8 (k : Int), .bool b, .int .i64 n, .string s, .slice ao l.length ac, .slice fo f.length fc]] w fun e w' => e = .returned (.bool (decide (k < 7) && !Vl.strange ⟨k, b, n, s, l, f⟩)) ∧ Below w.heap.size w w' := by
  obtain ⟨ll, hll⟩ : ∃ n, n = l.length := ⟨_, rfl⟩
  obtain ⟨fl, hfl⟩ : ∃ n, n = f.length := ⟨_, rfl⟩
  obtain ⟨r, hr⟩ : ∃ r, r = (decide (k < 7) && !Vl.strange ⟨k, b, n, s, l, f⟩) := ⟨_, rfl⟩
  have HR : Hid (r = (decide (k < 7) && !((b && decide (k ≠ 1)) || (decide (n ≠ 0) && decide (k ≠ 2)) || (decide (s.size ≠ 0) && decide (k ≠ 3) && decide (k ≠ 4)) || (decide (0 < ll) && decide (k ≠ 5)) || (decide (0 < fl) && decide (k ≠ 6))))) := by
    show _ = _
    rw [hr, Vl.strange, hll, hfl]
  rw [← hr, ← hll, ← hfl]
  clear hr hll hfl
  go_enter Tryz.func143, Tryz.ntmps143
  go_wp2
  all_goals
    refine ⟨rfl, _, results_tmp (by rfl) _ _ _, ?_, below_new _ _⟩
    refine congrArg (fun z => Ending.returned (Value.bool z)) (Eq.symm ?_)
    rw [HR.out]
    try simp only [str_emp] at *
    first
      | (simp_all; done)
      | (simp_all; omega)
      | (have hk : k = 1 ∨ k = 2 ∨ k = 3 ∨ k = 4 ∨ k = 5 ∨ k = 6 ∨ (k ≠ 1 ∧ k ≠ 2 ∧ k ≠ 3 ∧ k ≠ 4 ∧ k ≠ 5 ∧ k ≠ 6) := by omega
         clear HR
         rcases Nat.eq_zero_or_pos fl with hf | hf
         all_goals
           rcases hk with hk | hk | hk | hk | hk | hk | hk
           all_goals first
             | omega
             | (subst hk; simp_all; done)
             | (subst hk; simp_all; omega)
             | (simp_all; done)
             | (simp_all; omega))
end Go.Proofs.YtggnfejjcgbebaaGreatDoor
/- The document's check, walked where the value is wrong by itself. -/
namespace Go.Proofs.YtggnfejjcgbebaaGreatDoor
open Go.RowKit
open Vl (V)
set_option maxHeartbeats 8000000 in
set_option maxRecDepth 100000 in
theorem rcheck42_head (k : Nat) (b : Bool) (n : Int) (s : ByteArray) (ao : Option Addr) (ll ac : Nat) (fo : Option Addr) (fl fc : Nat) (d : Nat) (w : World) (z q : Bool) (r : Nat)
    (C58 : Hid (∀ W, Calls Tryz.prog 143 #[.agg #[.int .u8 (k : Int), .bool b, .int .i64 n, .string s, .slice ao ll ac, .slice fo fl fc]] W fun e w' => e = .returned (.bool z) ∧ Below W.heap.size W w'))
    (C59 : Hid (s.size ≤ 1024 → ∀ W, Calls Tryz.prog 72 #[.string s] W fun e w' => e = .returned (.bool q) ∧ Below W.heap.size W w'))
    (hs : s.size ≤ 9223372036854775807) (hl : ll ≤ 9223372036854775807) (hf : fl ≤ 9223372036854775807) (hd : d ≤ 9223372036854775807)
    (HR : Hid (r = if z = false then 5 else if 1024 < s.size then 4 else if k = 3 ∧ q = false then 9 else if 64 < ll ∨ 64 < fl then 3 else if (k = 5 ∨ k = 6) ∧ 6 ≤ d then 10 else 0)) (hr0 : Hid (r ≠ 0)) :
    Calls Tryz.prog 103 #[.agg #[.int .u8 (k : Int), .bool b, .int .i64 n, .string s, .slice ao ll ac, .slice fo fl fc], .int .i64 (d : Int)] w fun e w' => e = .returned (.int .i64 (r : Int)) ∧ Below w.heap.size w w' := by
  cases z
  · have e : r = 5 := by rw [HR.out, if_pos rfl]
    subst e
    clear HR hr0
    go_enter Tryz.func103, Tryz.ntmps103
    go_wp2_with (first
        | (go_at_call 143; refine (C58.out _).mono ?_; rintro e w3 ⟨rfl, hb3⟩
           have q0 : w3.cell? ⟨w.heap.size, 0, none⟩ = some (.int .u8 (k : Int)) := (hb3.cell (p := ⟨w.heap.size, 0, none⟩) (by simp)).trans (by rw [cell_of_row _ _ _ _ _ _ (heap_alloc_new w _)]; rfl)
           have q3 : w3.cell? ⟨w.heap.size, 3, none⟩ = some (.string s) := (hb3.cell (p := ⟨w.heap.size, 3, none⟩) (by simp)).trans (by rw [cell_of_row _ _ _ _ _ _ (heap_alloc_new w _)]; rfl)
           have q4 : w3.cell? ⟨w.heap.size, 4, none⟩ = some (.slice ao ll ac) := (hb3.cell (p := ⟨w.heap.size, 4, none⟩) (by simp)).trans (by rw [cell_of_row _ _ _ _ _ _ (heap_alloc_new w _)]; rfl)
           have q5 : w3.cell? ⟨w.heap.size, 5, none⟩ = some (.slice fo fl fc) := (hb3.cell (p := ⟨w.heap.size, 5, none⟩) (by simp)).trans (by rw [cell_of_row _ _ _ _ _ _ (heap_alloc_new w _)]; rfl)
           have HB3 : Hid (Below w.heap.size w w3) := (below_new _ _).trans (hb3.mono (below_new _ _).size)
           have HS3 : Hid (w.heap.size + 1 ≤ w3.heap.size) := by have := hb3.size; simp at this; exact this
           clear hb3))
    exact ⟨rfl, _, results_tmp (by rfl) _ _ _, rfl, HB3.out⟩
  · by_cases h1 : 1024 < s.size
    · have e : r = 4 := by rw [HR.out, if_neg (by decide), if_pos h1]
      subst e
      clear HR hr0
      have i1 : (1024 : Int) < (s.size : Int) := by omega
      go_enter Tryz.func103, Tryz.ntmps103
      go_wp2_with (first
          | (go_at_call 143; refine (C58.out _).mono ?_; rintro e w3 ⟨rfl, hb3⟩
             have q0 : w3.cell? ⟨w.heap.size, 0, none⟩ = some (.int .u8 (k : Int)) := (hb3.cell (p := ⟨w.heap.size, 0, none⟩) (by simp)).trans (by rw [cell_of_row _ _ _ _ _ _ (heap_alloc_new w _)]; rfl)
             have q3 : w3.cell? ⟨w.heap.size, 3, none⟩ = some (.string s) := (hb3.cell (p := ⟨w.heap.size, 3, none⟩) (by simp)).trans (by rw [cell_of_row _ _ _ _ _ _ (heap_alloc_new w _)]; rfl)
             have q4 : w3.cell? ⟨w.heap.size, 4, none⟩ = some (.slice ao ll ac) := (hb3.cell (p := ⟨w.heap.size, 4, none⟩) (by simp)).trans (by rw [cell_of_row _ _ _ _ _ _ (heap_alloc_new w _)]; rfl)
             have q5 : w3.cell? ⟨w.heap.size, 5, none⟩ = some (.slice fo fl fc) := (hb3.cell (p := ⟨w.heap.size, 5, none⟩) (by simp)).trans (by rw [cell_of_row _ _ _ _ _ _ (heap_alloc_new w _)]; rfl)
             have HB3 : Hid (Below w.heap.size w w3) := (below_new _ _).trans (hb3.mono (below_new _ _).size)
             have HS3 : Hid (w.heap.size + 1 ≤ w3.heap.size) := by have := hb3.size; simp at this; exact this
             clear hb3))
      exact ⟨rfl, _, results_tmp (by rfl) _ _ _, rfl, HB3.out⟩
    · have i1 : ¬ (1024 : Int) < (s.size : Int) := by omega
      by_cases h2 : k = 3
      · subst h2
        cases q
        · have e : r = 9 := by rw [HR.out, if_neg (by decide), if_neg h1, if_pos ⟨rfl, rfl⟩]
          subst e
          clear HR hr0
          go_enter Tryz.func103, Tryz.ntmps103
          go_wp2_with (first
              | (go_at_call 143; refine (C58.out _).mono ?_; rintro e w3 ⟨rfl, hb3⟩
                 have q0 : w3.cell? ⟨w.heap.size, 0, none⟩ = some (.int .u8 3) := (hb3.cell (p := ⟨w.heap.size, 0, none⟩) (by simp)).trans (by rw [cell_of_row _ _ _ _ _ _ (heap_alloc_new w _)]; rfl)
                 have q3 : w3.cell? ⟨w.heap.size, 3, none⟩ = some (.string s) := (hb3.cell (p := ⟨w.heap.size, 3, none⟩) (by simp)).trans (by rw [cell_of_row _ _ _ _ _ _ (heap_alloc_new w _)]; rfl)
                 have q4 : w3.cell? ⟨w.heap.size, 4, none⟩ = some (.slice ao ll ac) := (hb3.cell (p := ⟨w.heap.size, 4, none⟩) (by simp)).trans (by rw [cell_of_row _ _ _ _ _ _ (heap_alloc_new w _)]; rfl)
                 have q5 : w3.cell? ⟨w.heap.size, 5, none⟩ = some (.slice fo fl fc) := (hb3.cell (p := ⟨w.heap.size, 5, none⟩) (by simp)).trans (by rw [cell_of_row _ _ _ _ _ _ (heap_alloc_new w _)]; rfl)
                 have HB3 : Hid (Below w.heap.size w w3) := (below_new _ _).trans (hb3.mono (below_new _ _).size)
                 have HS3 : Hid (w.heap.size + 1 ≤ w3.heap.size) := by have := hb3.size; simp at this; exact this
                 clear hb3)
              | (go_at_call 72; refine (C59.out (Nat.le_of_not_lt h1) _).mono ?_; rintro e w4 ⟨rfl, hb4⟩
                 have p0 : w4.cell? ⟨w.heap.size, 0, none⟩ = some (.int .u8 3) := (hb4.cell (p := ⟨w.heap.size, 0, none⟩) (by have := HS3.out; simp; omega)).trans q0
                 have p3 : w4.cell? ⟨w.heap.size, 3, none⟩ = some (.string s) := (hb4.cell (p := ⟨w.heap.size, 3, none⟩) (by have := HS3.out; simp; omega)).trans q3
                 have p4 : w4.cell? ⟨w.heap.size, 4, none⟩ = some (.slice ao ll ac) := (hb4.cell (p := ⟨w.heap.size, 4, none⟩) (by have := HS3.out; simp; omega)).trans q4
                 have p5 : w4.cell? ⟨w.heap.size, 5, none⟩ = some (.slice fo fl fc) := (hb4.cell (p := ⟨w.heap.size, 5, none⟩) (by have := HS3.out; simp; omega)).trans q5
                 have HB4 : Hid (Below w.heap.size w w4) := HB3.out.trans (hb4.mono HB3.out.size)
                 clear hb4))
          exact ⟨rfl, _, results_tmp (by rfl) _ _ _, rfl, HB4.out⟩
        · by_cases h3 : 64 < ll
          · have e : r = 3 := by rw [HR.out, if_neg (by decide), if_neg h1, if_neg (by simp), if_pos (Or.inl h3)]
            subst e
            clear HR hr0
            have i3 : (64 : Int) < (ll : Int) := by omega
            go_enter Tryz.func103, Tryz.ntmps103
            go_wp2_with (first
                | (go_at_call 143; refine (C58.out _).mono ?_; rintro e w3 ⟨rfl, hb3⟩
                   have q0 : w3.cell? ⟨w.heap.size, 0, none⟩ = some (.int .u8 3) := (hb3.cell (p := ⟨w.heap.size, 0, none⟩) (by simp)).trans (by rw [cell_of_row _ _ _ _ _ _ (heap_alloc_new w _)]; rfl)
                   have q3 : w3.cell? ⟨w.heap.size, 3, none⟩ = some (.string s) := (hb3.cell (p := ⟨w.heap.size, 3, none⟩) (by simp)).trans (by rw [cell_of_row _ _ _ _ _ _ (heap_alloc_new w _)]; rfl)
                   have q4 : w3.cell? ⟨w.heap.size, 4, none⟩ = some (.slice ao ll ac) := (hb3.cell (p := ⟨w.heap.size, 4, none⟩) (by simp)).trans (by rw [cell_of_row _ _ _ _ _ _ (heap_alloc_new w _)]; rfl)
                   have q5 : w3.cell? ⟨w.heap.size, 5, none⟩ = some (.slice fo fl fc) := (hb3.cell (p := ⟨w.heap.size, 5, none⟩) (by simp)).trans (by rw [cell_of_row _ _ _ _ _ _ (heap_alloc_new w _)]; rfl)
                   have HB3 : Hid (Below w.heap.size w w3) := (below_new _ _).trans (hb3.mono (below_new _ _).size)
                   have HS3 : Hid (w.heap.size + 1 ≤ w3.heap.size) := by have := hb3.size; simp at this; exact this
                   clear hb3)
                | (go_at_call 72; refine (C59.out (Nat.le_of_not_lt h1) _).mono ?_; rintro e w4 ⟨rfl, hb4⟩
                   have p0 : w4.cell? ⟨w.heap.size, 0, none⟩ = some (.int .u8 3) := (hb4.cell (p := ⟨w.heap.size, 0, none⟩) (by have := HS3.out; simp; omega)).trans q0
                   have p3 : w4.cell? ⟨w.heap.size, 3, none⟩ = some (.string s) := (hb4.cell (p := ⟨w.heap.size, 3, none⟩) (by have := HS3.out; simp; omega)).trans q3
                   have p4 : w4.cell? ⟨w.heap.size, 4, none⟩ = some (.slice ao ll ac) := (hb4.cell (p := ⟨w.heap.size, 4, none⟩) (by have := HS3.out; simp; omega)).trans q4
                   have p5 : w4.cell? ⟨w.heap.size, 5, none⟩ = some (.slice fo fl fc) := (hb4.cell (p := ⟨w.heap.size, 5, none⟩) (by have := HS3.out; simp; omega)).trans q5
                   have HB4 : Hid (Below w.heap.size w w4) := HB3.out.trans (hb4.mono HB3.out.size)
                   clear hb4))
            exact ⟨rfl, _, results_tmp (by rfl) _ _ _, rfl, HB4.out⟩
          · by_cases h4 : 64 < fl
            · have e : r = 3 := by rw [HR.out, if_neg (by decide), if_neg h1, if_neg (by simp), if_pos (Or.inr h4)]
              subst e
              clear HR hr0
              have i3 : ¬ (64 : Int) < (ll : Int) := by omega
              have i4 : (64 : Int) < (fl : Int) := by omega
              go_enter Tryz.func103, Tryz.ntmps103
              go_wp2_with (first
                  | (go_at_call 143; refine (C58.out _).mono ?_; rintro e w3 ⟨rfl, hb3⟩
                     have q0 : w3.cell? ⟨w.heap.size, 0, none⟩ = some (.int .u8 3) := (hb3.cell (p := ⟨w.heap.size, 0, none⟩) (by simp)).trans (by rw [cell_of_row _ _ _ _ _ _ (heap_alloc_new w _)]; rfl)
                     have q3 : w3.cell? ⟨w.heap.size, 3, none⟩ = some (.string s) := (hb3.cell (p := ⟨w.heap.size, 3, none⟩) (by simp)).trans (by rw [cell_of_row _ _ _ _ _ _ (heap_alloc_new w _)]; rfl)
                     have q4 : w3.cell? ⟨w.heap.size, 4, none⟩ = some (.slice ao ll ac) := (hb3.cell (p := ⟨w.heap.size, 4, none⟩) (by simp)).trans (by rw [cell_of_row _ _ _ _ _ _ (heap_alloc_new w _)]; rfl)
                     have q5 : w3.cell? ⟨w.heap.size, 5, none⟩ = some (.slice fo fl fc) := (hb3.cell (p := ⟨w.heap.size, 5, none⟩) (by simp)).trans (by rw [cell_of_row _ _ _ _ _ _ (heap_alloc_new w _)]; rfl)
                     have HB3 : Hid (Below w.heap.size w w3) := (below_new _ _).trans (hb3.mono (below_new _ _).size)
                     have HS3 : Hid (w.heap.size + 1 ≤ w3.heap.size) := by have := hb3.size; simp at this; exact this
                     clear hb3)
                  | (go_at_call 72; refine (C59.out (Nat.le_of_not_lt h1) _).mono ?_; rintro e w4 ⟨rfl, hb4⟩
                     have p0 : w4.cell? ⟨w.heap.size, 0, none⟩ = some (.int .u8 3) := (hb4.cell (p := ⟨w.heap.size, 0, none⟩) (by have := HS3.out; simp; omega)).trans q0
                     have p3 : w4.cell? ⟨w.heap.size, 3, none⟩ = some (.string s) := (hb4.cell (p := ⟨w.heap.size, 3, none⟩) (by have := HS3.out; simp; omega)).trans q3
                     have p4 : w4.cell? ⟨w.heap.size, 4, none⟩ = some (.slice ao ll ac) := (hb4.cell (p := ⟨w.heap.size, 4, none⟩) (by have := HS3.out; simp; omega)).trans q4
                     have p5 : w4.cell? ⟨w.heap.size, 5, none⟩ = some (.slice fo fl fc) := (hb4.cell (p := ⟨w.heap.size, 5, none⟩) (by have := HS3.out; simp; omega)).trans q5
                     have HB4 : Hid (Below w.heap.size w w4) := HB3.out.trans (hb4.mono HB3.out.size)
                     clear hb4))
              exact ⟨rfl, _, results_tmp (by rfl) _ _ _, rfl, HB4.out⟩
            · exfalso
              apply hr0.out
              rw [HR.out, if_neg (by decide), if_neg h1, if_neg (by simp), if_neg (by omega), if_neg (by omega)]
      · have i2 : ((k : Int) == 3) = false := by simp; omega
        by_cases h3 : 64 < ll
        · have e : r = 3 := by rw [HR.out, if_neg (by decide), if_neg h1, if_neg (fun h => h2 h.1), if_pos (Or.inl h3)]
          subst e
          clear HR hr0
          have i3 : (64 : Int) < (ll : Int) := by omega
          go_enter Tryz.func103, Tryz.ntmps103
          go_wp2_with (first
              | (go_at_call 143; refine (C58.out _).mono ?_; rintro e w3 ⟨rfl, hb3⟩
                 have q0 : w3.cell? ⟨w.heap.size, 0, none⟩ = some (.int .u8 (k : Int)) := (hb3.cell (p := ⟨w.heap.size, 0, none⟩) (by simp)).trans (by rw [cell_of_row _ _ _ _ _ _ (heap_alloc_new w _)]; rfl)
                 have q3 : w3.cell? ⟨w.heap.size, 3, none⟩ = some (.string s) := (hb3.cell (p := ⟨w.heap.size, 3, none⟩) (by simp)).trans (by rw [cell_of_row _ _ _ _ _ _ (heap_alloc_new w _)]; rfl)
                 have q4 : w3.cell? ⟨w.heap.size, 4, none⟩ = some (.slice ao ll ac) := (hb3.cell (p := ⟨w.heap.size, 4, none⟩) (by simp)).trans (by rw [cell_of_row _ _ _ _ _ _ (heap_alloc_new w _)]; rfl)
                 have q5 : w3.cell? ⟨w.heap.size, 5, none⟩ = some (.slice fo fl fc) := (hb3.cell (p := ⟨w.heap.size, 5, none⟩) (by simp)).trans (by rw [cell_of_row _ _ _ _ _ _ (heap_alloc_new w _)]; rfl)
                 have HB3 : Hid (Below w.heap.size w w3) := (below_new _ _).trans (hb3.mono (below_new _ _).size)
                 have HS3 : Hid (w.heap.size + 1 ≤ w3.heap.size) := by have := hb3.size; simp at this; exact this
                 clear hb3))
          exact ⟨rfl, _, results_tmp (by rfl) _ _ _, rfl, HB3.out⟩
        · have i3 : ¬ (64 : Int) < (ll : Int) := by omega
          by_cases h4 : 64 < fl
          · have e : r = 3 := by rw [HR.out, if_neg (by decide), if_neg h1, if_neg (fun h => h2 h.1), if_pos (Or.inr h4)]
            subst e
            clear HR hr0
            have i4 : (64 : Int) < (fl : Int) := by omega
            go_enter Tryz.func103, Tryz.ntmps103
            go_wp2_with (first
                | (go_at_call 143; refine (C58.out _).mono ?_; rintro e w3 ⟨rfl, hb3⟩
                   have q0 : w3.cell? ⟨w.heap.size, 0, none⟩ = some (.int .u8 (k : Int)) := (hb3.cell (p := ⟨w.heap.size, 0, none⟩) (by simp)).trans (by rw [cell_of_row _ _ _ _ _ _ (heap_alloc_new w _)]; rfl)
                   have q3 : w3.cell? ⟨w.heap.size, 3, none⟩ = some (.string s) := (hb3.cell (p := ⟨w.heap.size, 3, none⟩) (by simp)).trans (by rw [cell_of_row _ _ _ _ _ _ (heap_alloc_new w _)]; rfl)
                   have q4 : w3.cell? ⟨w.heap.size, 4, none⟩ = some (.slice ao ll ac) := (hb3.cell (p := ⟨w.heap.size, 4, none⟩) (by simp)).trans (by rw [cell_of_row _ _ _ _ _ _ (heap_alloc_new w _)]; rfl)
                   have q5 : w3.cell? ⟨w.heap.size, 5, none⟩ = some (.slice fo fl fc) := (hb3.cell (p := ⟨w.heap.size, 5, none⟩) (by simp)).trans (by rw [cell_of_row _ _ _ _ _ _ (heap_alloc_new w _)]; rfl)
                   have HB3 : Hid (Below w.heap.size w w3) := (below_new _ _).trans (hb3.mono (below_new _ _).size)
                   have HS3 : Hid (w.heap.size + 1 ≤ w3.heap.size) := by have := hb3.size; simp at this; exact this
                   clear hb3))
            exact ⟨rfl, _, results_tmp (by rfl) _ _ _, rfl, HB3.out⟩
          · have i4 : ¬ (64 : Int) < (fl : Int) := by omega
            by_cases h5 : (k = 5 ∨ k = 6) ∧ 6 ≤ d
            · have e : r = 10 := by rw [HR.out, if_neg (by decide), if_neg h1, if_neg (fun h => h2 h.1), if_neg (by omega), if_pos h5]
              subst e
              clear HR hr0
              obtain ⟨h5, h6⟩ := h5
              have i6 : (6 : Int) ≤ (d : Int) := by omega
              rcases h5 with rfl | rfl
              · go_enter Tryz.func103, Tryz.ntmps103
                go_wp2_with (first
                    | (go_at_call 143; refine (C58.out _).mono ?_; rintro e w3 ⟨rfl, hb3⟩
                       have q0 : w3.cell? ⟨w.heap.size, 0, none⟩ = some (.int .u8 5) := (hb3.cell (p := ⟨w.heap.size, 0, none⟩) (by simp)).trans (by rw [cell_of_row _ _ _ _ _ _ (heap_alloc_new w _)]; rfl)
                       have q3 : w3.cell? ⟨w.heap.size, 3, none⟩ = some (.string s) := (hb3.cell (p := ⟨w.heap.size, 3, none⟩) (by simp)).trans (by rw [cell_of_row _ _ _ _ _ _ (heap_alloc_new w _)]; rfl)
                       have q4 : w3.cell? ⟨w.heap.size, 4, none⟩ = some (.slice ao ll ac) := (hb3.cell (p := ⟨w.heap.size, 4, none⟩) (by simp)).trans (by rw [cell_of_row _ _ _ _ _ _ (heap_alloc_new w _)]; rfl)
                       have q5 : w3.cell? ⟨w.heap.size, 5, none⟩ = some (.slice fo fl fc) := (hb3.cell (p := ⟨w.heap.size, 5, none⟩) (by simp)).trans (by rw [cell_of_row _ _ _ _ _ _ (heap_alloc_new w _)]; rfl)
                       have HB3 : Hid (Below w.heap.size w w3) := (below_new _ _).trans (hb3.mono (below_new _ _).size)
                       have HS3 : Hid (w.heap.size + 1 ≤ w3.heap.size) := by have := hb3.size; simp at this; exact this
                       clear hb3))
                exact ⟨rfl, _, results_tmp (by rfl) _ _ _, rfl, HB3.out⟩
              · go_enter Tryz.func103, Tryz.ntmps103
                go_wp2_with (first
                    | (go_at_call 143; refine (C58.out _).mono ?_; rintro e w3 ⟨rfl, hb3⟩
                       have q0 : w3.cell? ⟨w.heap.size, 0, none⟩ = some (.int .u8 6) := (hb3.cell (p := ⟨w.heap.size, 0, none⟩) (by simp)).trans (by rw [cell_of_row _ _ _ _ _ _ (heap_alloc_new w _)]; rfl)
                       have q3 : w3.cell? ⟨w.heap.size, 3, none⟩ = some (.string s) := (hb3.cell (p := ⟨w.heap.size, 3, none⟩) (by simp)).trans (by rw [cell_of_row _ _ _ _ _ _ (heap_alloc_new w _)]; rfl)
                       have q4 : w3.cell? ⟨w.heap.size, 4, none⟩ = some (.slice ao ll ac) := (hb3.cell (p := ⟨w.heap.size, 4, none⟩) (by simp)).trans (by rw [cell_of_row _ _ _ _ _ _ (heap_alloc_new w _)]; rfl)
                       have q5 : w3.cell? ⟨w.heap.size, 5, none⟩ = some (.slice fo fl fc) := (hb3.cell (p := ⟨w.heap.size, 5, none⟩) (by simp)).trans (by rw [cell_of_row _ _ _ _ _ _ (heap_alloc_new w _)]; rfl)
                       have HB3 : Hid (Below w.heap.size w w3) := (below_new _ _).trans (hb3.mono (below_new _ _).size)
                       have HS3 : Hid (w.heap.size + 1 ≤ w3.heap.size) := by have := hb3.size; simp at this; exact this
                       clear hb3))
                exact ⟨rfl, _, results_tmp (by rfl) _ _ _, rfl, HB3.out⟩
            · exfalso
              apply hr0.out
              rw [HR.out, if_neg (by decide), if_neg h1, if_neg (fun h => h2 h.1), if_neg (by omega), if_neg h5]
end Go.Proofs.YtggnfejjcgbebaaGreatDoor
