/- Several texts, joined: BinRNum, BinRRead, BinRZ -/
import Derived.Test.YtggnfejjcgbebaaGreatDoorJCM
import Derived.Test.YtggnfejjcgbebaaGreatDoorJLM
import Derived.Deep.QuietTactic
import Derived.BigQuiet
/- The document's bytes of a number. -/
namespace Go.Proofs.YtggnfejjcgbebaaGreatDoor
open Go.RowKit
set_option maxHeartbeats 2000000 in
set_option maxRecDepth 10000 in
theorem rnumber26 (n : Nat) (hn : n < 18446744073709551616) (w : World) :
    Calls Tryz.prog 104 #[.int .u64 n] w fun e w' => e = .returned (.string ⟨(Bn.num n).toArray⟩) ∧ Below w.heap.size w w' := by
  obtain ⟨i0, hi, hz0, hz1, hz2⟩ := Go.info_parts Bn.info5
  have HO : Hid (w.ownsRow w.heap.size 5 1 (.slice none 0 0) 0 []) := ⟨rfl, Or.inl ⟨rfl, rfl⟩⟩
  go_enter Tryz.func104, Tryz.ntmps104
  go_wp2
  go_loopw [0, 3] (fun nv v wr => ∃ (m : Nat) (l : List UInt8), nv = .int .u64 m ∧ m < 18446744073709551616 ∧ Bn.num n = l ++ Bn.num m ∧ (m + 1) * 2 ^ l.length ≤ 18446744073709551616 ∧ wr.ownsRow w.heap.size 5 1 v l.length (Lib.byteCells l) ∧ Below w.heap.size w wr ∧ w.heap.size ≤ wr.heap.size) (fun nv _ _ => (intOf nv).toNat)
  case atStart => exact ⟨n, [], rfl, hn, rfl, by simp; omega, HO.out, Below.refl _ _, Nat.le_refl _⟩
  case round =>
    obtain ⟨m, l, rfl, hm, hnum, hpw, hown, hnx, hsz⟩ := hrel
    clear HO
    have HL : Hid (l.length ≤ 64) := Bn.len_le hpw
    have HB63 : Hid (l.length + 1 ≤ maxLen) := by have := HL.out; show _ ≤ _; unfold maxLen; omega
    have HB47 : Hid ((l.length + 1) * 1 ≤ 140737488355328) := by have := HL.out; show _ ≤ _; omega
    have HBS : Hid (∀ k, _ → _) := Bn.block_le hown
    have HOW : Hid (wr.ownsRow _ _ _ _ _ _) := hown
    have HPW : Hid ((m + 1) * 2 ^ l.length ≤ 18446744073709551616) := hpw
    have HNUM : Hid (Bn.num n = l ++ Bn.num m) := hnum
    clear hown hpw hnum
    by_cases hge : 128 ≤ m
    · have q1 : (128 : Int) ≤ (m : Int) := by omega
      have HNX : Hid (Lib.byteCells (l ++ [UInt8.ofNat (m % 128 + 128)]) = Lib.byteCells l ++ [.int .u8 ((m : Int) % 128 + 128)]) := Bn.snoc _ _ _ (Bn.toNat_hi m)
      have hq0 : ((m : Int) % 128 + 128) % 18446744073709551616 = (m : Int) % 128 + 128 := by omega
      have hq1 : ((m : Int) % 128 + 128) % 256 = (m : Int) % 128 + 128 := by omega
      go_wp2_with (first | (at_builtin; refine wpList_append_own _ rfl _ _ 61 rfl w.heap.size 5 i0 (.int .u8 0) 1 1 Tryz.underlying61 hi hz0 hz1 hz2 rfl (by decide) _ _ _ rfl (HOW.out.alloc _) ⟨wr.heap.size, 0, none⟩ 1 1 [.int .u8 ((m : Int) % 128 + 128)] rfl rfl (Bn.cell_new _ _ _) ?c2 ?c3 ?c4 ?c5 ?_))
      case c2 => intro u hu; simp at hu; subst hu; rfl
      case c3 => exact HB63.out
      case c4 => exact HB47.out
      case c5 => simp; omega
      · intro v' w1 hown' hgrow _
        have R1 : Hid (w1.ownsRow w.heap.size 5 1 v' (l ++ [UInt8.ofNat (m % 128 + 128)]).length (Lib.byteCells (l ++ [UInt8.ofNat (m % 128 + 128)]))) := by
          rw [HNX.out, List.length_append]
          exact hown'
        have R2 : Hid (Below w.heap.size w w1) := (hnx.alloc (by omega) _).grown hgrow (by simp; omega) HBS.out
        have R3 : Hid (w.heap.size ≤ w1.heap.size) := by
          have := hgrow.size
          simp at this
          show _ ≤ _
          omega
        have R4 : Hid (Bn.num n = (l ++ [UInt8.ofNat (m % 128 + 128)]) ++ Bn.num (m / 128)) := by
          show _ = _
          rw [HNUM.out, Bn.num_high hge]; simp
        have R5 : Hid ((m / 128 + 1) * 2 ^ (l ++ [UInt8.ofNat (m % 128 + 128)]).length ≤ 18446744073709551616) := by
          rw [List.length_append]; exact Bn.len_next hge HPW.out
        clear hown' hgrow hnx hsz
        obtain ⟨q, hq⟩ : ∃ q, q = m / 128 := ⟨_, rfl⟩
        have hqm : q < m := by omega
        rw [← hq] at R4 R5
        have q2 : (m : Int) / 128 = (q : Int) := by omega
        clear hq
        go_wp2
        go_roundw
        case rel => exact ⟨q, _, rfl, by omega, R4.out, R5.out, R1.out, R2.out, R3.out⟩
        case measure => simp [intOf]; omega
    · have q1 : ¬ (128 : Int) ≤ (m : Int) := by omega
      have q2 : (m : Int) % 256 = (m : Int) := by omega
      have HNX : Hid (Lib.byteCells (l ++ [UInt8.ofNat m]) = Lib.byteCells l ++ [.int .u8 (m : Int)]) := Bn.snoc _ _ _ (Bn.toNat_lo hge)
      have HALL : Hid (Bn.num n = l ++ [UInt8.ofNat m]) := by
        show _ = _
        rw [HNUM.out, Bn.num_low (by omega)]
      have HSZ : Hid (w.heap.size ≤ (wr.alloc (.cells #[.int .u8 (m : Int)] 5)).heap.size) := by show _ ≤ _; simp; omega
      go_wp2_with (first | (at_builtin; refine wpList_append_own _ rfl _ _ 61 rfl w.heap.size 5 i0 (.int .u8 0) 1 1 Tryz.underlying61 hi hz0 hz1 hz2 rfl (by decide) _ _ _ rfl (HOW.out.alloc _) ⟨wr.heap.size, 0, none⟩ 1 1 [.int .u8 (m : Int)] rfl rfl (Bn.cell_new _ _ _) (by intro u hu; simp at hu; subst hu; rfl) HB63.out HB47.out HSZ.out ?_; intro v' w1 hown' hgrow hx; have R1 := hown'; rw [← HNX.out] at R1; obtain ⟨g, k, cap, str, hv, hconv, hstr⟩ := Bn.own_string (l := l ++ [UInt8.ofNat m]) (by rw [List.length_append]; exact R1) (by simp); have R2 : Hid (Below w.heap.size w w1) := (hnx.alloc (by omega) _).grown hgrow (by simp; omega) HBS.out; clear R1 hown' hgrow hnx hsz hx; subst hv))
      all_goals
        go_ret
        exact ⟨ret_strV (by rw [hstr.out, HALL.out]), R2.out⟩
end Go.Proofs.YtggnfejjcgbebaaGreatDoor
/- The reference's ReadNumber, walked: the number whose bytes a text begins with, or none. -/
namespace Go.Proofs.YtggnfejjcgbebaaGreatDoor
open Go.RowKit
namespace Bn
end Bn
end Go.Proofs.YtggnfejjcgbebaaGreatDoor
/- The document's zig, Bytes, zag and bytes, walked. -/
namespace Go.Proofs.YtggnfejjcgbebaaGreatDoor
open Go.RowKit
open Vl (V)
theorem zig76 (n : Int) (h0 : -9223372036854775808 ≤ n) (h1 : n ≤ 9223372036854775807) (w : World) :
    Calls Tryz.prog 105 #[.int .i64 n] w fun e w' => e = .returned (.int .u64 (Bn.fold n : Int)) ∧ w' = w := by
  obtain ⟨z, hz⟩ : ∃ z : Int, z = (Bn.fold n : Int) := ⟨_, rfl⟩
  rw [← hz]
  by_cases hn : 0 ≤ n
  · have e : Hid (2 * n = z) := by show _ = _; rw [hz, Bn.fold, if_pos hn]; omega
    clear hz
    go_enter Tryz.func105, Tryz.ntmps105
    go_wp2
    go_ret
    exact ⟨congrArg (fun z => Ending.returned (Value.int .u64 z)) e.out, rfl⟩
  · have e : Hid (2 * -(n + 1) + 1 = z) := by show _ = _; rw [hz, Bn.fold, if_neg hn]; omega
    clear hz
    go_enter Tryz.func105, Tryz.ntmps105
    go_wp2
    go_ret
    exact ⟨congrArg (fun z => Ending.returned (Value.int .u64 z)) e.out, rfl⟩
theorem Bn.str_text (s : ByteArray) : (⟨(Bn.num s.size).toArray⟩ : ByteArray) ++ s = ⟨(Bn.text s).toArray⟩ := by
  apply Bn.data_ext
  rw [ByteArray.data_append, Array.toList_append]
  rfl
theorem bytes77 (s : ByteArray) (hs : s.size ≤ 4294967296) (w : World) :
    Calls Tryz.prog 106 #[.string s] w fun e w' => e = .returned (.string ⟨(Bn.text s).toArray⟩) ∧ Below w.heap.size w w' := by
  obtain ⟨n, hn⟩ : ∃ n, n = s.size := ⟨_, rfl⟩
  obtain ⟨m, hm⟩ : ∃ m : ByteArray, m = ⟨(Bn.num n).toArray⟩ := ⟨_, rfl⟩
  have hms : m.size ≤ 10 := by rw [Lib.size_eq, hm]; exact Bn.num_len10 (by omega)
  have C26 : Hid (∀ W, Calls Tryz.prog 104 #[.int .u64 (n : Int)] W fun e w' => e = .returned (.string m) ∧ Below W.heap.size W w') := fun W => by rw [hm]; exact rnumber26 n (by omega) W
  have e1 : (s.size : Int) = (n : Int) := by omega
  have q1 : (n : Int) < 18446744073709551616 := by omega
  have hcat : ¬ 9223372036854775807 < m.size + s.size := by omega
  have HE : Hid (m ++ s = ⟨(Bn.text s).toArray⟩) := by show _ = _; rw [hm, hn]; exact Bn.str_text s
  clear hn hm hms hs
  go_enter Tryz.func106, Tryz.ntmps106
  go_wp2_with (first
    | (go_at_call 104; refine (C26.out _).mono ?_; rintro e w2 ⟨rfl, hb2⟩))
  go_ret
  exact ⟨by rw [← HE.out]; rfl, hb2⟩
theorem Bn.below_drewN (w : World) : ∀ k, Below w.heap.size w (w.drewN k)
  | 0 => Below.refl _ _
  | k + 1 => (Bn.below_drewN w k).drew
end Go.Proofs.YtggnfejjcgbebaaGreatDoor
