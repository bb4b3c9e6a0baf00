/- The law MerkleGrown for all texts, numbers and others. -/
import Derived.Test.YtoldfepeldbcpaaDoorMkGro
namespace Go.Proofs.YtoldfepeldbcpaaDoor
open Go.RowKit
attribute [local go_sem ↓] Go.wp_at_zero Go.wp_at_succ
theorem sl_take {W : World} {H n m c : Nat} {a : Option Addr} {l : List (List UInt8)} (h : Sl W H (.slice a n c) l) (hm : m ≤ n) : Sl W H (.slice a m c) (l.take m) := by
  have hl := h.len
  rcases Nat.eq_zero_or_pos m with h0 | h0
  · subst h0
    exact .inl ⟨by simp, _, _, rfl⟩
  · obtain ⟨b, off, e, _⟩ := h.at (by omega)
    subst e
    exact Sl.take h m c (by omega)
set_option maxHeartbeats 16000000 in
set_option maxRecDepth 10000 in
theorem grown_all (a : Option Addr) (c n : Nat) (hnc : n ≤ c) (l : List (List UInt8)) (hx : ∀ x ∈ l, x.length ≤ 140737488355328) (i : Int) (s : ByteArray) (w : World) (hK : HasK w) (hS : Sl w w.heap.size (.slice a n c) l) :
    Calls Tryd.prog 3 #[.slice a n c, .int .i64 i, .string s] w fun e w' => e = .returned (.bool true) ∧ Below w.heap.size w w' := by
  have CL : Hid (Calls Tryd.prog 4 #[] w fun e w' => e = .returned (.bool true) ∧ Below w.heap.size w w') := lives_c w hK
  by_cases hbig : 1024 < n
  · have CN : Hid (∀ W, Calls Tryd.prog 5 #[.slice a n c] W _) := fun W => new_no a c n hbig W
    clear hS hK hx
    go_enter Tryd.func3, Tryd.ntmps3
    go_wp2_with fail
    refine CL.out.mono ?_
    rintro e w1 ⟨rfl, hb⟩
    clear CL
    go_wp2_with fail
    refine (CN.out _).mono ?_
    rintro e w2 ⟨rfl, rfl⟩
    clear CN
    go_wp2
    go_ret
    exact ⟨rfl, hb⟩
  have hn : n ≤ 1024 := by omega
  have hnl : n = l.length := hS.len
  by_cases hi : 0 ≤ i ∧ i ≤ (n : Int)
  · obtain ⟨m, rfl⟩ : ∃ m : Nat, i = (m : Int) := ⟨i.toNat, by omega⟩
    have hm : m ≤ n := by omega
    exact grown_c a c n hnc l hx hn m hm s w hK hS (sl_take hS hm)
  · have hout : i < 0 ∨ ((l.length : Nat) : Int) < i := by omega
    have CN1 : Hid (∀ W, Below w.heap.size w W → Calls Tryd.prog 5 #[.slice a n c] W fun e w' => ∃ b : Nat, e = .returned (.tuple #[.pointer (some ⟨b, 0, none⟩), .int .i64 0]) ∧ Tr w' b l ∧ Below W.heap.size W w') := fun W hW => by
      refine (new_yes a c n hn w.heap.size l hx W hW.size (hS.stays hW (Nat.le_refl _))).mono ?_
      rintro e w' ⟨b, rfl, hb, hT, hB⟩
      have hsz := hW.size
      have h0 : 0 < w.heap.size := Nat.lt_of_le_of_lt (Nat.zero_le _) hK.1
      exact ⟨b, rfl, hT.tr (by omega), hB⟩
    have CGO : Hid (∀ W b, Tr W b l → Calls Tryd.prog 6 #[.pointer (some ⟨b, 0, none⟩), .int .i64 i] W fun e w' => e = .returned (.tuple #[.slice none 0 0, .int .i64 2]) ∧ W = w') := fun W b hT =>
      growth_out b l.length i W hT.cells.1 hout
    have q0 : i < 0 ∨ ¬ i < 0 ∧ (n : Int) < i := by omega
    clear hS hK hx hnl hout hi
    rcases q0 with q0 | ⟨q1, q2⟩
    · go_enter Tryd.func3, Tryd.ntmps3
      go_wp2_with fail
      refine CL.out.mono ?_
      rintro e w1 ⟨rfl, hb1⟩
      have B1 : Hid (Below w.heap.size w w1) := hb1
      clear CL hb1
      go_wp2_with fail
      refine (CN1.out _ B1.out).mono ?_
      rintro e w2 ⟨b1, rfl, hT1, hB2⟩
      have B2 : Hid (Below w.heap.size w w2) := B1.out.trans (hB2.mono B1.out.size)
      have T2 : Hid (Tr w2 b1 l) := hT1
      clear CN1 hT1 hB2 B1
      go_wp2_with fail
      refine (CGO.out _ _ T2.out).mono ?_
      rintro e w3 ⟨rfl, rfl⟩
      clear CGO T2
      go_wp2
      go_ret
      exact ⟨rfl, B2.out⟩
    · go_enter Tryd.func3, Tryd.ntmps3
      go_wp2_with fail
      refine CL.out.mono ?_
      rintro e w1 ⟨rfl, hb1⟩
      have B1 : Hid (Below w.heap.size w w1) := hb1
      clear CL hb1
      go_wp2_with fail
      refine (CN1.out _ B1.out).mono ?_
      rintro e w2 ⟨b1, rfl, hT1, hB2⟩
      have B2 : Hid (Below w.heap.size w w2) := B1.out.trans (hB2.mono B1.out.size)
      have T2 : Hid (Tr w2 b1 l) := hT1
      clear CN1 hT1 hB2 B1
      go_wp2_with fail
      refine (CGO.out _ _ T2.out).mono ?_
      rintro e w3 ⟨rfl, rfl⟩
      clear CGO T2
      go_wp2
      go_ret
      exact ⟨rfl, B2.out⟩
end Go.Proofs.YtoldfepeldbcpaaDoor
