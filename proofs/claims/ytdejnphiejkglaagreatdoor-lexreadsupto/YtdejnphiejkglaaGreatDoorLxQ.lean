/- lives, walked: it answers true. -/
import Derived.Test.YtdejnphiejkglaaGreatDoorLxP
namespace Go.Proofs.YtdejnphiejkglaaGreatDoor
open Go.RowKit
namespace Lx
def in1 : Bs := [115, 101, 108, 101, 99, 116, 32, 97, 46, 98, 44, 32, 39, 105, 116, 39, 39, 115, 39, 32, 60, 61, 32, 55]
def out1 : List Tk := [⟨2, [83, 69, 76, 69, 67, 84], 0, 0⟩, ⟨1, [97], 0, 7⟩, ⟨5, [46], 0, 8⟩, ⟨1, [98], 0, 9⟩, ⟨5, [44], 0, 10⟩, ⟨4, [105, 116, 39, 115], 0, 12⟩, ⟨5, [60, 61], 0, 20⟩, ⟨3, [], 7, 23⟩]
theorem lex1 : lex in1 = ⟨out1, 0, 0⟩ := by decide +kernel
theorem lex2 : lex [97, 32, 48, 49] = ⟨[], 13, 2⟩ := by decide +kernel
theorem shw1 : shw 4 [105, 116, 39, 115] 0 = some [39, 105, 116, 39, 39, 115, 39] := by decide +kernel
theorem key1 : isKey [87, 104, 101, 114, 101] = true := by decide +kernel
end Lx
set_option maxHeartbeats 4000000 in
set_option maxRecDepth 100000 in
theorem livesL_c (w : World) (hL : HasL w) : Calls Tryz.prog 8 #[] w fun e w' => e = .returned (.bool true) ∧ Below w.heap.size w w' := by
  have HL : Hid (∀ W, Below w.heap.size w W → HasL W) := fun W hW => hL.stays hW
  have C1 : Hid (Calls Tryz.prog 4 #[.string { data := #[115, 101, 108, 101, 99, 116, 32, 97, 46, 98, 44, 32, 39, 105, 116, 39, 39, 115, 39, 32, 60, 61, 32, 55] }] w fun e w' => Below w.heap.size w w' ∧ ∃ g cap, e = .returned (.tuple #[.slice (some ⟨g, 0, none⟩) 8 cap, .int .i64 0, .int .i64 0]) ∧ g < w'.heap.size ∧ ∀ (j : Nat) (u : Value), (Lx.tcs Lx.out1)[j]? = some u → w'.cell? ⟨g, j, none⟩ = some u) := by
    have h := lex_c Lx.in1 (by decide) w hL
    rw [Lx.lex1] at h
    refine Calls.mono h ?_
    rintro e w' ⟨hb, lv, rfl, hrow⟩
    obtain ⟨g, cap, rfl, hg, hc⟩ := own_cellsL (by decide) hrow
    exact ⟨hb, g, cap, rfl, hg, hc⟩
  have C2 : Hid (∀ W, Below w.heap.size w W → Calls Tryz.prog 4 #[.string { data := #[97, 32, 48, 49] }] W fun e w' => ∃ lv, e = .returned (.tuple #[lv, .int .i64 13, .int .i64 2]) ∧ Below W.heap.size W w') := fun W hW => by
    have h := lex_c [97, 32, 48, 49] (by decide) W (HL.out W hW)
    rw [Lx.lex2] at h
    refine Calls.mono h ?_
    rintro e w' ⟨hb, lv, rfl, _⟩
    exact ⟨lv, rfl, hb⟩
  have C3 : Hid (∀ W, Below w.heap.size w W → Calls Tryz.prog 6 #[.agg #[.int .u8 4, .string { data := #[105, 116, 39, 115] }, .int .i64 0, .int .i64 0]] W fun e w' => e = .returned (.tuple #[.string { data := #[39, 105, 116, 39, 39, 115, 39] }, .int .i64 0]) ∧ Below W.heap.size W w') := fun W hW => by
    have h := show_c 4 [105, 116, 39, 115] 0 0 (by decide) W (HL.out W hW)
    rw [Lx.shw1] at h
    exact h
  have C4 : Hid (∀ W, Calls Tryz.prog 10 #[.string { data := #[87, 104, 101, 114, 101] }] W fun e w' => e = .returned (.bool true) ∧ Below W.heap.size W w') := fun W => by
    have h := keyword_c { data := #[87, 104, 101, 114, 101] } W
    rw [show Lx.isKey ({ data := #[87, 104, 101, 114, 101] } : ByteArray).data.toList = true from Lx.key1] at h
    exact h
  clear hL
  go_enter Tryz.func8, Tryz.ntmps8
  go_wp2_with fail
  refine Calls.mono C1.out ?_
  rintro e w1 ⟨hb1, g, cap, rfl, hg, hc⟩
  have X1 : Hid (Below w.heap.size w w1 ∧ g < w1.heap.size ∧ ∀ (j : Nat) (u : Value), (Lx.tcs Lx.out1)[j]? = some u → w1.cell? ⟨g, j, none⟩ = some u) := ⟨hb1, hg, hc⟩
  clear hb1 hg hc C1
  go_wp2_with fail
  refine Calls.mono (C2.out _ X1.out.1) ?_
  rintro e w2 ⟨lv, rfl, hb2⟩
  have X2 : Hid (Below w.heap.size w w2 ∧ g < w2.heap.size ∧ ∀ (j : Nat) (u : Value), (Lx.tcs Lx.out1)[j]? = some u → w2.cell? ⟨g, j, none⟩ = some u) := ⟨X1.out.1.trans (hb2.mono X1.out.1.size), Nat.lt_of_lt_of_le X1.out.2.1 hb2.size, fun j u hu => (hb2.cell (p := ⟨g, j, none⟩) X1.out.2.1).trans (X1.out.2.2 j u hu)⟩
  clear hb2 X1 C2
  go_wp2_with fail
  refine Calls.mono (C3.out _ X2.out.1) ?_
  rintro e w3 ⟨rfl, hb3⟩
  have X3 : Hid (Below w.heap.size w w3 ∧ g < w3.heap.size ∧ ∀ (j : Nat) (u : Value), (Lx.tcs Lx.out1)[j]? = some u → w3.cell? ⟨g, j, none⟩ = some u) := ⟨X2.out.1.trans (hb3.mono X2.out.1.size), Nat.lt_of_lt_of_le X2.out.2.1 hb3.size, fun j u hu => (hb3.cell (p := ⟨g, j, none⟩) X2.out.2.1).trans (X2.out.2.2 j u hu)⟩
  clear hb3 X2 C3
  have c1 : w3.cell? ⟨g, 1, none⟩ = some (.string { data := #[83, 69, 76, 69, 67, 84] }) := X3.out.2.2 1 _ rfl
  have c21 : w3.cell? ⟨g, 21, none⟩ = some (.string { data := #[105, 116, 39, 115] }) := X3.out.2.2 21 _ rfl
  have c25 : w3.cell? ⟨g, 25, none⟩ = some (.string { data := #[60, 61] }) := X3.out.2.2 25 _ rfl
  have c30 : w3.cell? ⟨g, 30, none⟩ = some (.int .i64 7) := X3.out.2.2 30 _ rfl
  have HBX : Hid (Below w.heap.size w w3) := X3.out.1
  clear X3
  go_wp2_with fail
  refine Calls.mono (C4.out _) ?_
  rintro e w4 ⟨rfl, hb4⟩
  have HF := HBX.out.trans (hb4.mono HBX.out.size)
  clear hb4
  go_wp2
  go_ret
  exact ⟨rfl, HF⟩
end Go.Proofs.YtdejnphiejkglaaGreatDoor
