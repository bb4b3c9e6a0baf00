/- BinOrder, walked. -/
import Derived.Test.YtbogggnnmbjlfabDoorBinQ
namespace Go.Proofs.YtbogggnnmbjlfabDoor
open Go.RowKit
open Vl (V)
set_option maxHeartbeats 8000000 in
set_option maxRecDepth 10000 in
theorem order4 (n m : Nat) (hn : n < 18446744073709551616) (hm : m < 18446744073709551616) (w : World) (hT : Bn.HasU w) :
    Calls Tryd.prog 4 #[.int .u64 (n : Int), .int .u64 (m : Int)] w fun e w' => e = .returned (.bool true) ∧ Below w.heap.size w w' := by
  have C6 : Hid (∀ W, Below w.heap.size w W → Calls Tryd.prog 6 #[] W fun e w' => e = .returned (.bool true) ∧ Below W.heap.size W w') := fun W hW => lives22 W (hT.stays hW)
  obtain ⟨s, hs⟩ : ∃ s : ByteArray, s = ⟨(Bn.num n).toArray⟩ := ⟨_, rfl⟩
  obtain ⟨t, ht⟩ : ∃ t : ByteArray, t = ⟨(Bn.num m).toArray⟩ := ⟨_, rfl⟩
  have C9 : Hid (∀ W, Calls Tryd.prog 9 #[.int .u64 (n : Int)] W fun e w' => e = .returned (.string s) ∧ Below W.heap.size W w') := fun W => by rw [hs]; exact number25 n hn W
  have D9 : Hid (∀ W, Calls Tryd.prog 9 #[.int .u64 (m : Int)] W fun e w' => e = .returned (.string t) ∧ Below W.heap.size W w') := fun W => by rw [ht]; exact number25 m hm W
  have hsl : s.data.toList = Bn.num n := by rw [hs]
  have htl : t.data.toList = Bn.num m := by rw [ht]
  have hss : s.size = (Bn.num n).length := by rw [Lib.size_eq, hsl]
  have hts : t.size = (Bn.num m).length := by rw [Lib.size_eq, htl]
  obtain ⟨k, hk⟩ : ∃ k, k = s.size := ⟨_, rfl⟩
  obtain ⟨j, hj⟩ : ∃ j, j = t.size := ⟨_, rfl⟩
  have k1 : 1 ≤ k := by rw [hk, hss]; exact Bn.num_pos n
  have j1 : 1 ≤ j := by rw [hj, hts]; exact Bn.num_pos m
  have k10 : k ≤ 10 := by rw [hk, hss]; exact Bn.num_len10 hn
  have j10 : j ≤ 10 := by rw [hj, hts]; exact Bn.num_len10 hm
  have hmono : n ≤ m → k ≤ j := fun h => by rw [hk, hj, hss, hts]; exact Bn.num_len_mono n m h
  have hmono2 : m ≤ n → j ≤ k := fun h => by rw [hk, hj, hss, hts]; exact Bn.num_len_mono m n h
  have heq : s = t ↔ n = m := ⟨fun e => Bn.num_inj (by rw [← hsl, ← htl, e]), fun e => by rw [hs, ht, e]⟩
  have ls : ((s.data.toList.getD (k - 1) 0).toNat ≠ 0) ∨ k = 1 := by rw [hk, hss, hsl]; exact Bn.num_last_or n
  have lt : ((t.data.toList.getD (j - 1) 0).toNat ≠ 0) ∨ j = 1 := by rw [hj, hts, htl]; exact Bn.num_last_or m
  obtain ⟨a, ha⟩ : ∃ a, a = (s.data.toList.getD (k - 1) 0).toNat := ⟨_, rfl⟩
  obtain ⟨b, hb⟩ : ∃ b, b = (t.data.toList.getD (j - 1) 0).toNat := ⟨_, rfl⟩
  obtain ⟨p, hp⟩ : ∃ p, p = k - 1 := ⟨_, rfl⟩
  obtain ⟨q, hq⟩ : ∃ q, q = j - 1 := ⟨_, rfl⟩
  have IS : ∀ wx, (Instr.index 9 (.string s) (.int .i64 (p : Int))).run Tryd.prog wx = .ok (.int .u8 (a : Int)) wx := fun wx => by
    rw [Bn.index_byte s (p : Int) (by omega) (by omega) wx, ha, Int.toNat_natCast, hp]
  have IT : ∀ wx, (Instr.index 9 (.string t) (.int .i64 (q : Int))).run Tryd.prog wx = .ok (.int .u8 (b : Int)) wx := fun wx => by
    rw [Bn.index_byte t (q : Int) (by omega) (by omega) wx, hb, Int.toNat_natCast, hq]
  rw [← ha] at ls
  rw [← hb] at lt
  have E1 : Hid ((s.size : Int) = (k : Int)) := by show _ = _; omega
  have E2 : Hid ((t.size : Int) = (j : Int)) := by show _ = _; omega
  have E3 : Hid (wrap64 ((k : Int) - 1) = (p : Int)) := by show _ = _; unfold wrap64; omega
  have E4 : Hid (wrap64 ((j : Int) - 1) = (q : Int)) := by show _ = _; unfold wrap64; omega
  have E5 : Hid ((k : Int) - 1 = (p : Int)) := by show _ = _; omega
  have E6 : Hid ((j : Int) - 1 = (q : Int)) := by show _ = _; omega
  have I1 : Hid ((1 : Int) ≤ (k : Int) ∧ (k : Int) ≤ 10) := ⟨by omega, by omega⟩
  have I2 : Hid ((1 : Int) ≤ (j : Int) ∧ (j : Int) ≤ 10) := ⟨by omega, by omega⟩
  have HIS : Hid (∀ wx, (Instr.index 9 (.string s) (.int .i64 (p : Int))).run Tryd.prog wx = .ok (.int .u8 (a : Int)) wx) := IS
  have HIT : Hid (∀ wx, (Instr.index 9 (.string t) (.int .i64 (q : Int))).run Tryd.prog wx = .ok (.int .u8 (b : Int)) wx) := IT
  have HLS : Hid (decide ((a : Int) = 0) = false ∨ decide ((k : Int) = 1) = true) := by
    rcases ls with h | h
    · exact Or.inl (by simp; omega)
    · exact Or.inr (by simp; omega)
  have HLT : Hid (decide ((b : Int) = 0) = false ∨ decide ((j : Int) = 1) = true) := by
    rcases lt with h | h
    · exact Or.inl (by simp; omega)
    · exact Or.inr (by simp; omega)
  have HM1 : Hid (n ≤ m → (k : Int) ≤ (j : Int)) := fun h => by have := hmono h; omega
  have HM2 : Hid (m ≤ n → (j : Int) ≤ (k : Int)) := fun h => by have := hmono2 h; omega
  have HEQ : Hid (s = t ↔ n = m) := heq
  clear heq ls lt hsl htl hss hts hk hj hs ht hmono hmono2 ha hb hp hq hn hm k1 j1 k10 j10 IS IT
  go_enter Tryd.func4, Tryd.ntmps4
  go_upto_region 4 with (first
    | (go_at_call 6; refine (C6.out _ (Below.refl _ _)).mono ?_; rintro e w2 ⟨rfl, hb2⟩
       have B2 : Hid (Below w.heap.size w w2) := hb2
       clear hb2)
    | (go_at_call_of 9 (Value.int .u64 (n : Int)); refine (C9.out _).mono ?_; rintro e w3 ⟨rfl, hb3⟩
       have B3 : Hid (Below w.heap.size w w3) := B2.out.trans (hb3.mono B2.out.size)
       clear hb3)
    | (go_at_call_of 9 (Value.int .u64 (m : Int)); refine (D9.out _).mono ?_; rintro e w4 ⟨rfl, hb4⟩
       have B4 : Hid (Below w.heap.size w w4) := B3.out.trans (hb4.mono B3.out.size)
       clear hb4))
  clear C6 C9 D9
  by_cases hgt : m < n
  · have g1 : (m : Int) < (n : Int) := by omega
    go_upto_region 6 with fail
    have e2 := E2.out
    have e4 := E4.out
    have i2 := I2.out.1
    have IT := HIT.out
    clear g1
    go_upto_region 7 with fail
    have e1 := E1.out
    have i3 := I2.out.2
    have i1 := I1.out.1
    have i4 := I1.out.2
    have g2 := HM2.out (by omega)
    have g3 : ¬ (n : Int) = (m : Int) := by omega
    have g5 : ((n : Int) == (m : Int)) = false := by simpa using g3
    have g4 := Bn.neq (show ¬ t = s from fun e => absurd (HEQ.out.1 e.symm) (by omega))
    clear e4 IT
    by_cases hb0 : (b : Int) = 0
    · have hj1 : (j : Int) = 1 := by
        rcases HLT.out with h | h
        · exact absurd hb0 (of_decide_eq_false h)
        · exact of_decide_eq_true h
      clear i2 i3
      go_wp2
      go_ret
      exact ⟨rfl, B4.out⟩
    · go_wp2
      go_ret
      exact ⟨rfl, B4.out⟩
  · have g1 : ¬ (m : Int) < (n : Int) := by omega
    go_upto_region 6 with fail
    have e1 := E1.out
    have e3 := E3.out
    have i1 := I1.out.1
    have IS := HIS.out
    clear g1
    go_upto_region 7 with fail
    have e2 := E2.out
    have i2 := I2.out.1
    have i3 := I2.out.2
    have i4 := I1.out.2
    have g2 := HM1.out (by omega)
    clear e3 IS
    by_cases hnm : n = m
    · have hst := HEQ.out.2 hnm
      subst hst hnm
      by_cases hb0 : (a : Int) = 0
      · have hj1 : (k : Int) = 1 := by
          rcases HLS.out with h | h
          · exact absurd hb0 (of_decide_eq_false h)
          · exact of_decide_eq_true h
        have hkj : (j : Int) = (k : Int) := by rw [← e1, ← e2]
        clear i1 i4 e2
        go_wp2
        go_ret
        exact ⟨rfl, B4.out⟩
      · have hkj : (j : Int) = (k : Int) := by rw [← e1, ← e2]
        clear e2
        go_wp2
        go_ret
        exact ⟨rfl, B4.out⟩
    · have g3 : ¬ (n : Int) = (m : Int) := by omega
      have g5 : ((n : Int) == (m : Int)) = false := by simpa using g3
      have g4 := Bn.neq (show ¬ s = t from fun e => hnm (HEQ.out.1 e))
      by_cases hb0 : (a : Int) = 0
      · have hj1 : (k : Int) = 1 := by
          rcases HLS.out with h | h
          · exact absurd hb0 (of_decide_eq_false h)
          · exact of_decide_eq_true h
        clear i1 i4
        go_wp2
        go_ret
        exact ⟨rfl, B4.out⟩
      · go_wp2
        go_ret
        exact ⟨rfl, B4.out⟩
end Go.Proofs.YtbogggnnmbjlfabDoor
