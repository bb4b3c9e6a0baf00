/- A node of few keys, laid: walked. -/
import Derived.Test.YtkigenldiinioabGreatDoorBtPM
import Derived.Shelf.SlicesE.Clone
namespace Go.Proofs
open Go.Shelf
def Tryz.laysCe_ren : Go.Shelf.Ren := ⟨fun | 41 => 67 | n => n, fun | 22 => 84 | 23 => 60 | 4 => 4 | n => n, fun | n => n⟩
theorem Tryz.laysCe : Go.Proofs.SlLaysE0.n41 Tryz.prog Tryz.laysCe_ren := {
  mixed := by kernel_rfl
  f41 := ⟨Tryz.f67.name, by decide, Tryz.func67.trans (congrArg some (by kernel_rfl))⟩
  t4 := Tryz.underlying4
  a4 := Tryz.isAgg4
  z4 := Tryz.sizeOf4
  v4 := Tryz.zeroValue4
  t22 := Tryz.underlying84
  a22 := Tryz.isAgg84
  z22 := Tryz.sizeOf84
  v22 := Tryz.zeroValue84 }
end Go.Proofs
namespace Go.Proofs.YtkigenldiinioabGreatDoor
open Go.RowKit Go.Lib
open Vl (V)
attribute [local go_sem ↓] Go.wp_at_zero Go.wp_at_succ
theorem cloneE_c (b off n c : Nat) (l : List Nat) (w : World) (hl : l.length = n) (hn : n ≤ 1000000) (hc : ∀ j e, l[j]? = some e → w.cell? ⟨b, off + j, none⟩ = some (.pointer (some ⟨e, 0, none⟩))) :
    Calls Tryz.prog 67 #[.slice (some ⟨b, off, none⟩) n c] w fun e w' => ∃ v', e = .returned v' ∧ w'.ownsRow w.heap.size 60 1 v' n (Bt.ptrs l) ∧ v' ≠ .slice none 0 0 ∧ Below w.heap.size w w' := by
  obtain ⟨i0, hi0, hz0, hz1, hz2⟩ := info_parts all_info
  refine AnyE.slices_Clone Tryz.laysCe i0 _ 1 8 hi0 hz0 hz1 hz2 rfl (by decide) Tryz.sizeOf60 b off n c (Bt.ptrs l) w (by rw [Bt.ptrs, List.length_map, hl, Nat.mul_one]) (by unfold maxLen; omega) (by omega) (fun j u hj => ?_) (fun u hu => ?_)
  · rw [Bt.ptrs, List.getElem?_map] at hj
    cases he : l[j]? with
    | none => rw [he] at hj; cases hj
    | some e => rw [he] at hj; cases hj; exact hc j e he
  · rw [Bt.ptrs, List.mem_map] at hu
    obtain ⟨e, _, rfl⟩ := hu
    rfl
theorem lay_nil (a : Option Addr) (c : Nat) (w : World) : Calls Tryz.prog 52 #[.slice a 0 c] w fun e w' => e = .returned (.pointer none) ∧ w' = w := by
  go_enter Tryz.func52, Tryz.ntmps52
  go_wp2
  go_ret
  exact ⟨rfl, rfl⟩
set_option maxHeartbeats 4000000 in
set_option maxRecDepth 100000 in
theorem lay_small (b off n c : Nat) (l : List Nat) (w : World) (hl : l.length = n) (h1 : 1 ≤ n) (h3 : n ≤ 3) (hc : ∀ j e, l[j]? = some e → w.cell? ⟨b, off + j, none⟩ = some (.pointer (some ⟨e, 0, none⟩))) :
    Calls Tryz.prog 52 #[.slice (some ⟨b, off, none⟩) n c] w fun e w' => ∃ g r, e = .returned (.pointer (some ⟨g, 0, none⟩)) ∧ Below w.heap.size w w' ∧ NT w' (.node g r l .nil .nil .nil .nil) ∧ w.heap.size ≤ g ∧ w.heap.size ≤ r := by
  have C : Hid (Calls Tryz.prog 67 #[.slice (some ⟨b, off, none⟩) n c] w fun e w' => ∃ r cap, e = .returned (.slice (some ⟨r, 0, none⟩) n cap) ∧ Hid (w'.ownsRow w.heap.size 60 1 (.slice (some ⟨r, 0, none⟩) n cap) n (Bt.ptrs l) ∧ w.heap.size ≤ r ∧ Below w.heap.size w w')) := by
    refine (cloneE_c b off n c l w hl (by omega) hc).mono ?_
    rintro e w' ⟨v', rfl, ho, _, hb⟩
    rcases ho.2 with ⟨_, h0⟩ | ⟨r, cap, cur, rfl, h2, h3⟩
    · omega
    · exact ⟨r, cap, rfl, ho, h2, hb⟩
  have HL : Hid (l.length = n ∧ n ≤ 3) := ⟨hl, h3⟩
  have q0 : ¬ ((n : Int) = 0) := by omega
  have q1 : ((n : Int) == 0) = false := by simp; omega
  have q2 : (n : Int) ≤ 3 := by omega
  clear hl h1 h3 hc
  go_enter Tryz.func52, Tryz.ntmps52
  go_wp2_with (go_at_call 67; refine C.out.mono ?_; rintro e w2 ⟨r, cap, rfl, HV⟩)
  go_ret
  obtain ⟨ho, hr, hb⟩ := HV.out
  refine ⟨w2.heap.size, r, rfl, hb.alloc hb.size _, ⟨⟨cap, ?_, ?_⟩, trivial, trivial, trivial, trivial⟩, hb.size, hr⟩
  · rw [Bt.flat_one _ _ _ (by have := HL.out; omega), HL.out.1]
    exact heap_alloc_new w2 _
  · rw [HL.out.1]
    refine ⟨by rw [List.length_map, HL.out.1, Nat.mul_one], ?_⟩
    rcases ho.2 with ⟨h, _⟩ | ⟨g, cap', cur, e, h2, h4, h5⟩
    · cases h
    · exact .inr ⟨g, cap', cur, e, Nat.zero_le _, (Below.heap_alloc _ _ _ (lt_of_row h4)).trans h4, h5⟩
end Go.Proofs.YtkigenldiinioabGreatDoor
