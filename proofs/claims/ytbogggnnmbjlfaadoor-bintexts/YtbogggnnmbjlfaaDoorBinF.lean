/- The writer's truth, and the number that stands for an int. -/
import Derived.Test.YtbogggnnmbjlfaaDoorBinW
namespace Go.Proofs.YtbogggnnmbjlfaaDoor
open Go.RowKit
/-- a truth's byte -/
def Bn.truth (b : Bool) : UInt8 := if b then 2 else 1
theorem truth68 (g : Nat) (l : List UInt8) (hl : l.length ≤ 4294967296) (b : Bool) (v : Value) (w : World) (h : Out g l v w) :
    Calls Tryd.prog 68 #[.pointer (some ⟨g, 0, none⟩), .bool b] w fun e w' => e = .returned (.tuple #[]) ∧ ∃ v', Out g (l ++ [Bn.truth b]) v' w' ∧ Wrote g v v' w w' := by
  have C : Hid (∀ x : UInt8, Calls Tryd.prog 67 #[.pointer (some ⟨g, 0, none⟩), .int .u8 (x.toNat : Int)] w fun e w' => e = .returned (.tuple #[]) ∧ ∃ v', Out g (l ++ [x]) v' w' ∧ Wrote g v v' w w') := fun x => first67 g l hl x v w h
  clear h hl
  cases b with
  | true =>
    go_enter Tryd.func68, Tryd.ntmps68
    go_wp2_with (first | (go_at_call 67; refine (C.out 2).mono ?_; rintro e w' ⟨rfl, v', h1, h2⟩; have H1 : Hid (Out g (l ++ [2]) v' w') := h1; have H2 : Hid (Wrote g v v' w w') := h2; clear h1 h2))
    go_end0
    exact ⟨rfl, v', H1.out, H2.out⟩
  | false =>
    go_enter Tryd.func68, Tryd.ntmps68
    go_wp2_with (first | (go_at_call 67; refine (C.out 1).mono ?_; rintro e w' ⟨rfl, v', h1, h2⟩; have H1 : Hid (Out g (l ++ [1]) v' w') := h1; have H2 : Hid (Wrote g v v' w w') := h2; clear h1 h2))
    go_end0
    exact ⟨rfl, v', H1.out, H2.out⟩
/-- the number that stands for an int -/
def Bn.fold (n : Int) : Nat := if 0 ≤ n then (2 * n).toNat else (-2 * n - 1).toNat
theorem Bn.xor_ones (a : Nat) (h : a < 18446744073709551616) : a ^^^ 18446744073709551615 = 18446744073709551615 - a := by
  have h2 : (BitVec.ofNat 64 a ^^^ BitVec.allOnes 64).toNat = (~~~ (BitVec.ofNat 64 a)).toNat := by rw [BitVec.xor_allOnes]
  rw [BitVec.toNat_xor, BitVec.toNat_not, BitVec.toNat_ofNat, Nat.mod_eq_of_lt h, BitVec.toNat_allOnes] at h2
  exact h2
theorem Bn.fold_eq (n : Int) (h0 : -9223372036854775808 ≤ n) (h1 : n ≤ 9223372036854775807) :
    bits .xor .u64 (IntKind.u64.wrap (IntKind.u64.wrap n * 2)) (IntKind.u64.wrap (n / 9223372036854775808)) = (Bn.fold n : Int) := by
  rw [IntKind.wrap_u64, IntKind.wrap_u64, IntKind.wrap_u64]
  by_cases hn : 0 ≤ n
  · obtain ⟨a, ha⟩ : ∃ a : Nat, a = (2 * n).toNat := ⟨_, rfl⟩
    have e1 : n % 18446744073709551616 * 2 % 18446744073709551616 = (a : Int) := by omega
    have e2 : n / 9223372036854775808 % 18446744073709551616 = ((0 : Nat) : Int) := by omega
    rw [e1, e2, u64_xor_nat a 0 (by omega) (by omega), Nat.xor_zero, Bn.fold, if_pos hn, ha]
  · obtain ⟨a, ha⟩ : ∃ a : Nat, a = (2 * n + 18446744073709551616).toNat := ⟨_, rfl⟩
    have e1 : n % 18446744073709551616 * 2 % 18446744073709551616 = (a : Int) := by omega
    have e2 : n / 9223372036854775808 % 18446744073709551616 = ((18446744073709551615 : Nat) : Int) := by omega
    rw [e1, e2, u64_xor_nat a _ (by omega) (by omega), Bn.xor_ones a (by omega), Bn.fold, if_neg hn]
    omega
theorem Bn.fold_lt (n : Int) (h0 : -9223372036854775808 ≤ n) (h1 : n ≤ 9223372036854775807) : Bn.fold n < 18446744073709551616 := by
  rw [Bn.fold]; split <;> omega
theorem Bn.fold_inj {a b : Int} (h : Bn.fold a = Bn.fold b) : a = b := by
  rw [Bn.fold, Bn.fold] at h; split at h <;> split at h <;> omega
theorem folded70 (n : Int) (h0 : -9223372036854775808 ≤ n) (h1 : n ≤ 9223372036854775807) (w : World) :
    Calls Tryd.prog 70 #[.int .i64 n] w fun e w' => e = .returned (.int .u64 (Bn.fold n : Int)) ∧ w' = w := by
  go_enter Tryd.func70, Tryd.ntmps70
  go_wp2
  go_ret
  refine ⟨?_, rfl⟩
  rw [← Bn.fold_eq n h0 h1]
  rfl
end Go.Proofs.YtbogggnnmbjlfaaDoor
