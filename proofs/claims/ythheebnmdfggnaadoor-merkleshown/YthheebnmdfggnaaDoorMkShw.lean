/- The law MerkleShown, walked whole. -/
import Derived.Test.YthheebnmdfggnaaDoorMkShn
namespace Go.Proofs.YthheebnmdfggnaaDoor
open Go.RowKit
attribute [local go_sem ↓] Go.wp_at_zero Go.wp_at_succ
set_option maxHeartbeats 8000000 in
set_option maxRecDepth 10000 in
theorem shown_c (a : Option Addr) (c n : Nat) (l : List (List UInt8)) (hx : ∀ x ∈ l, x.length ≤ 140737488355328) (i : Int) (s : ByteArray) (hs : s.size ≤ 140737488355328) (qa : Option Addr) (qn qc : Nat) (q : List (List UInt8)) (hql : q.length ≤ 9223372036854775807) (w : World) (hK : HasK w) (hS : Sl w w.heap.size (.slice a n c) l) (hQ : Sl w w.heap.size (.slice qa qn qc) q) :
    Calls Tryd.prog 4 #[.slice a n c, .int .i64 i, .string s, .slice qa qn qc] w fun e w' => e = .returned (.bool true) ∧ Below w.heap.size w w' := by
  have CL : Hid (Calls Tryd.prog 12 #[] w fun e w' => e = .returned (.bool true) ∧ Below w.heap.size w w') := lives_c w hK
  by_cases hbig : 1024 < n
  · have CN : Hid (∀ W, Calls Tryd.prog 14 #[.slice a n c] W _) := fun W => new_no a c n hbig W
    clear hS hK hx hQ hql hs
    go_enter Tryd.func4, Tryd.ntmps4
    go_wp2_with fail
    refine CL.out.mono ?_
    rintro e w1 ⟨rfl, hb⟩
    clear CL
    go_wp2_with fail
    refine (CN.out _).mono ?_
    rintro e w2 ⟨rfl, rfl⟩
    clear CN
    go_wp2
    go_ret
    exact ⟨rfl, hb⟩
  have hn : n ≤ 1024 := by omega
  by_cases hout : n = 0 ∨ i < 0
  · have CN : Hid (∀ W, Below w.heap.size w W → Calls Tryd.prog 14 #[.slice a n c] W fun e w' => ∃ b : Nat, e = .returned (.tuple #[.pointer (some ⟨b, 0, none⟩), .int .i64 0]) ∧ Below w.heap.size w w') := fun W hW => by
      refine (new_yes a c n hn w.heap.size l hx W hW.size (hS.stays hW (Nat.le_refl _))).mono ?_
      rintro e w' ⟨b, rfl, _, _, hB⟩
      exact ⟨b, rfl, hW.trans (hB.mono hW.size)⟩
    clear hS hK hx hQ hql hs hbig
    by_cases h0 : n = 0
    · subst h0
      clear hout
      go_enter Tryd.func4, Tryd.ntmps4
      go_wp2_with fail
      refine CL.out.mono ?_
      rintro e w1 ⟨rfl, hb⟩
      clear CL
      go_wp2_with fail
      refine (CN.out _ hb).mono ?_
      rintro e w2 ⟨b, rfl, hb2⟩
      clear CN hb
      go_wp2
      go_ret
      exact ⟨rfl, hb2⟩
    · have hneg : i < 0 := hout.resolve_left h0
      have q0 : ((n : Int) == 0) = false := by rw [beq_eq_false_iff_ne]; omega
      clear hout
      go_enter Tryd.func4, Tryd.ntmps4
      go_wp2_with fail
      refine CL.out.mono ?_
      rintro e w1 ⟨rfl, hb⟩
      clear CL
      go_wp2_with fail
      refine (CN.out _ hb).mono ?_
      rintro e w2 ⟨b, rfl, hb2⟩
      clear CN hb
      go_wp2
      go_ret
      exact ⟨rfl, hb2⟩
  · obtain ⟨j, rfl⟩ := Int.eq_ofNat_of_zero_le (show 0 ≤ i by omega)
    obtain ⟨b, off, rfl, -, -, -⟩ := hS.at (by have := hS.len; omega)
    exact shown_in b off c n l hx hn j s hs qa qn qc q hql w hK hS hQ (by omega)
end Go.Proofs.YthheebnmdfggnaaDoor
