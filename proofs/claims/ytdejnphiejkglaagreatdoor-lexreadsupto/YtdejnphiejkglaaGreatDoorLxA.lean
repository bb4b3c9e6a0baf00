/- Letters, digits, the size of a word, walked. -/
import Derived.Test.YtdejnphiejkglaaGreatDoorLxM
import Derived.Test.YtdejnphiejkglaaGreatDoorShelf
import Derived.OwnWalk
import Derived.Deep.AppendLies
import Derived.Laws.BitsAllLaws
import Derived.Laws.IdiomStrings
import Derived.Laws.OwnMore
import Derived.Lib.UnsafeStr
import Derived.Lib.Strings
import Derived.Deep.Upon
namespace Go.Proofs.YtdejnphiejkglaaGreatDoor
open Go.RowKit
theorem Lx.index_byte (b : ByteArray) (i : Int) (h0 : 0 ≤ i) (h1 : i < b.size) (wx : World) :
    (Instr.index 9 (.string b) (.int .i64 i)).run Tryz.prog wx = .ok (.int .u8 (((b.data.toList.getD i.toNat 0).toNat : Nat) : Int)) wx := by
  rw [run_index_string (P := Tryz.prog) wx 9 b .i64 i Tryz.underlying9, dif_pos ⟨h0, h1⟩]
  have h2 : i.toNat < b.size := by omega
  have h3 : i.toNat < b.data.toList.length := by rw [← Lib.size_eq]; exact h2
  have e : b[i.toNat] = b.data.toList.getD i.toNat 0 := by
    rw [List.getD_eq_getElem?_getD, List.getElem?_eq_getElem h3]
    rfl
  rw [e]
set_option maxHeartbeats 4000000 in
theorem isLetter_c (b : Nat) (w : World) : Calls Tryz.prog 24 #[.int .u8 (b : Int)] w fun e w' => e = .returned (.bool (Lx.isL b)) ∧ w' = w := by
  go_enter Tryz.func24, Tryz.ntmps24
  rcases Nat.lt_or_ge b 65 with h | h
  · have e : Lx.isL b = false := by simp [Lx.isL]; omega
    rw [e]
    have q1 : ¬ (97 : Int) ≤ (b : Int) := by omega
    have q2 : ¬ (65 : Int) ≤ (b : Int) := by omega
    have q3 : ((b : Int) == 95) = false := by rw [beq_eq_false_iff_ne]; omega
    go_wp2
    go_ret
    exact ⟨rfl, rfl⟩
  · have q2 : (65 : Int) ≤ (b : Int) := by omega
    by_cases h1 : 97 ≤ b
    · have q1 : (97 : Int) ≤ (b : Int) := by omega
      by_cases h3 : b ≤ 122
      · have q3 : (b : Int) ≤ 122 := by omega
        have e : Lx.isL b = true := by simp [Lx.isL]; omega
        rw [e]
        go_wp2
        go_ret
        exact ⟨rfl, rfl⟩
      · have q3 : ¬ (b : Int) ≤ 122 := by omega
        have q4 : ¬ (b : Int) ≤ 90 := by omega
        have q5 : ((b : Int) == 95) = false := by rw [beq_eq_false_iff_ne]; omega
        have e : Lx.isL b = false := by simp [Lx.isL]; omega
        rw [e]
        go_wp2
        go_ret
        exact ⟨rfl, rfl⟩
    · have q1 : ¬ (97 : Int) ≤ (b : Int) := by omega
      by_cases h3 : b ≤ 90
      · have q3 : (b : Int) ≤ 90 := by omega
        have e : Lx.isL b = true := by simp [Lx.isL]; omega
        rw [e]
        go_wp2
        go_ret
        exact ⟨rfl, rfl⟩
      · have q3 : ¬ (b : Int) ≤ 90 := by omega
        by_cases h4 : b = 95
        · subst h4
          have e : Lx.isL 95 = true := by decide
          rw [e]
          go_wp2
          go_ret
          exact ⟨rfl, rfl⟩
        · have q4 : ((b : Int) == 95) = false := by rw [beq_eq_false_iff_ne]; omega
          have e : Lx.isL b = false := by simp [Lx.isL]; omega
          rw [e]
          go_wp2
          go_ret
          exact ⟨rfl, rfl⟩
set_option maxHeartbeats 4000000 in
theorem isDigit_c (b : Nat) (w : World) : Calls Tryz.prog 27 #[.int .u8 (b : Int)] w fun e w' => e = .returned (.bool (Lx.isD b)) ∧ w' = w := by
  go_enter Tryz.func27, Tryz.ntmps27
  by_cases h : 48 ≤ b
  · have q1 : (48 : Int) ≤ (b : Int) := by omega
    by_cases h3 : b ≤ 57
    · have q3 : (b : Int) ≤ 57 := by omega
      have e : Lx.isD b = true := by simp [Lx.isD]; omega
      rw [e]
      go_wp2
      go_ret
      exact ⟨rfl, rfl⟩
    · have q3 : ¬ (b : Int) ≤ 57 := by omega
      have e : Lx.isD b = false := by simp [Lx.isD]; omega
      rw [e]
      go_wp2
      go_ret
      exact ⟨rfl, rfl⟩
  · have q1 : ¬ (48 : Int) ≤ (b : Int) := by omega
    have e : Lx.isD b = false := by simp [Lx.isD]; omega
    rw [e]
    go_wp2
    go_ret
    exact ⟨rfl, rfl⟩
set_option maxHeartbeats 4000000 in
theorem wordSize_c (s : ByteArray) (hs : s.size ≤ maxLen) (w : World) : Calls Tryz.prog 45 #[.string s] w fun e w' => e = .returned (.int .i64 ((Lx.wsz s.data.toList : Nat) : Int)) ∧ w' = w := by
  have HSZ : Hid (s.size ≤ 9223372036854775807) := by show _ ≤ _; unfold maxLen at hs; omega
  have CL : Hid (∀ b : Nat, Calls Tryz.prog 24 #[.int .u8 (b : Int)] w fun e w' => e = .returned (.bool (Lx.isL b)) ∧ w' = w) := fun b => isLetter_c b w
  have CD : Hid (∀ b : Nat, Calls Tryz.prog 27 #[.int .u8 (b : Int)] w fun e w' => e = .returned (.bool (Lx.isD b)) ∧ w' = w) := fun b => isDigit_c b w
  clear hs
  go_enter Tryz.func45, Tryz.ntmps45
  go_wp2
  go_loopw [3] (fun i wr => ∃ j : Nat, j ≤ s.size ∧ i = .int .i64 (j : Int) ∧ wr = w ∧ ∀ k, k < j → ∃ b, s.data.toList[k]? = some b ∧ Lx.isW b = true) (fun i _ => s.size - (intOf i).toNat)
  case atStart => exact ⟨0, Nat.zero_le _, rfl, rfl, fun k hk => by omega⟩
  case round =>
    obtain ⟨j, hj, rfl, hwr, hin⟩ := hrel
    subst hwr
    have HIN : Hid (∀ k, k < j → ∃ b, s.data.toList[k]? = some b ∧ Lx.isW b = true) := hin
    clear hin
    by_cases hlt : j < s.size
    · have hj63 : (j : Int) + 1 ≤ 9223372036854775807 := by have := HSZ.out; omega
      have hw1 : wrap64 ((j : Int) + 1) = (j : Int) + 1 := by unfold wrap64; omega
      obtain ⟨b, hb⟩ : ∃ b, b = s.data.toList.getD j 0 := ⟨_, rfl⟩
      have hix : ∀ wx, (Instr.index 9 (.string s) (.int .i64 (j : Int))).run Tryz.prog wx = .ok (.int .u8 (b.toNat : Int)) wx := fun wx => by rw [hb]; exact Lx.index_byte s j (by omega) (by omega) wx
      have HB : Hid (s.data.toList[j]? = some b) := by
        have h3 : j < s.data.toList.length := by rw [← Lib.size_eq]; exact hlt
        show _ = _
        rw [hb, List.getD_eq_getElem?_getD, List.getElem?_eq_getElem h3]; rfl
      clear hb
      have q0 : (j : Int) < (s.size : Int) := by omega
      obtain ⟨l1, hl1⟩ : ∃ l1, l1 = Lx.isL b.toNat := ⟨_, rfl⟩
      obtain ⟨d1, hd1⟩ : ∃ d1, d1 = Lx.isD b.toNat := ⟨_, rfl⟩
      have HLD : Hid (l1 = Lx.isL b.toNat ∧ d1 = Lx.isD b.toNat) := ⟨hl1, hd1⟩
      have C1 : Hid (Calls Tryz.prog 24 #[.int .u8 (b.toNat : Int)] wr fun e w' => e = .returned (.bool l1) ∧ w' = wr) := by rw [hl1]; exact CL.out b.toNat
      have C2 : Hid (Calls Tryz.prog 27 #[.int .u8 (b.toNat : Int)] wr fun e w' => e = .returned (.bool d1) ∧ w' = wr) := by rw [hd1]; exact CD.out b.toNat
      clear hl1 hd1
      go_wp2_with fail
      refine C1.out.mono ?_
      rintro e w' ⟨rfl, rfl⟩
      cases l1 with
      | true =>
        go_wp2
        go_roundw
        case rel => exact ⟨j + 1, by omega, by go_num, trivial, fun k hk => by
          rcases Nat.lt_or_ge k j with h | h
          · exact HIN.out k h
          · obtain rfl : k = j := by omega
            exact ⟨b, HB.out, by rw [Lx.isW, ← HLD.out.1]; rfl⟩⟩
        case measure => simp [intOf]; omega
      | false =>
        go_wp2_with fail
        refine C2.out.mono ?_
        rintro e w'' ⟨rfl, rfl⟩
        cases d1 with
        | true =>
          go_wp2
          go_roundw
          case rel => exact ⟨j + 1, by omega, by go_num, trivial, fun k hk => by
            rcases Nat.lt_or_ge k j with h | h
            · exact HIN.out k h
            · obtain rfl : k = j := by omega
              exact ⟨b, HB.out, by rw [Lx.isW, ← HLD.out.1, ← HLD.out.2]; rfl⟩⟩
          case measure => simp [intOf]; omega
        | false =>
          have HF : Hid (Lx.wsz s.data.toList = j) := Lx.wsz_of _ j HIN.out (fun c hc => by
            have h := HB.out
            rw [hc] at h
            cases h
            rw [Lx.isW, ← HLD.out.1, ← HLD.out.2]; rfl)
          go_wp2
          go_ret
          exact ⟨by rw [HF.out]; rfl, rfl⟩
    · have q0 : ¬ (j : Int) < (s.size : Int) := by omega
      have HF : Hid (Lx.wsz s.data.toList = j) := Lx.wsz_of _ j HIN.out (fun c hc => by
        have := (List.getElem?_eq_some_iff.1 hc).1
        rw [← Lib.size_eq] at this
        omega)
      go_wp2
      go_ret
      exact ⟨by rw [HF.out]; rfl, rfl⟩
end Go.Proofs.YtdejnphiejkglaaGreatDoor
