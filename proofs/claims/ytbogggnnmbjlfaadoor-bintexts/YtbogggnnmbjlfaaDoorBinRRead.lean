/- The reference's ReadNumber, walked: the number whose bytes a text begins with, or none. -/
import Derived.Test.YtbogggnnmbjlfaaDoorBinRead
namespace Go.Proofs.YtbogggnnmbjlfaaDoor
open Go.RowKit
namespace Bn
theorem reads_nine {s : List UInt8} (hi : 9 < s.length) (hh : high (s.take 9)) (hb : 1 < (s.getD 9 0).toNat) :
    Reads s (.returned (.tuple #[.int .u64 0, .int .i64 0, .int .i64 11])) := by
  refine Or.inr ⟨fun n hn hp => ?_, rfl⟩
  by_cases h128 : (s.getD 9 0).toNat < 128
  · have e : s = s.take 9 ++ s.getD 9 0 :: s.drop (9 + 1) := by
      rw [List.append_cons, ← take_next hi, List.take_append_drop]
    have hp2 := hp
    rw [e] at hp2
    have h1 := num_ends hh h128 hp2
    have h2 := congrArg val h1
    rw [val_num, val_append, val, val, List.length_take, show min 9 s.length = 9 by omega, Nat.mod_eq_of_lt h128] at h2
    omega
  · refine none_high hn ?_ hp
    intro y hy
    rw [take_next hi, List.mem_append, List.mem_singleton] at hy
    rcases hy with hy | rfl
    · exact hh y hy
    · omega
theorem add_step (l : List UInt8) (b : UInt8) (i : Nat) (hl : l.length = i) (x : Nat) (hx : x = b.toNat % 128) :
    (val l % 18446744073709551616 + 128 ^ i % 18446744073709551616 * x % 18446744073709551616) % 18446744073709551616 = val (l ++ [b]) % 18446744073709551616 := by
  rw [val_append, val, val, Nat.mul_zero, Nat.add_zero, hl, ← hx, Nat.mod_mul_mod, ← Nat.add_mod]
theorem unit_step (i : Nat) : 128 ^ i % 18446744073709551616 * 128 % 18446744073709551616 = 128 ^ (i + 1) % 18446744073709551616 := by
  rw [Nat.mod_mul_mod, Nat.pow_succ]
theorem wrap_nat (m : Nat) (x : Int) (h : x = (m : Int)) : IntKind.u64.wrap x = ((m % 18446744073709551616 : Nat) : Int) := by
  rw [h, IntKind.wrap_u64, Int.natCast_emod]; rfl
end Bn
set_option maxHeartbeats 2000000 in
set_option maxRecDepth 10000 in
theorem rread24 (s : ByteArray) (w : World) :
    Calls Tryd.prog 24 #[.string s] w fun e w' => Bn.Reads s.data.toList e ∧ Below w.heap.size w w' := by
  obtain ⟨L, hL⟩ : ∃ L : Nat, L = min s.size 10 := ⟨_, rfl⟩
  go_enter Tryd.func24, Tryd.ntmps24
  go_wp2
  go_loopw [5, 6, 7] (fun nv uv c wr => ∃ i : Nat, i ≤ L ∧ c = .int .i64 (i : Int) ∧ nv = .int .u64 ((Bn.val (s.data.toList.take i) % 18446744073709551616 : Nat) : Int) ∧ uv = .int .u64 ((128 ^ i % 18446744073709551616 : Nat) : Int) ∧ Bn.high (s.data.toList.take i) ∧ Below w.heap.size w wr) (fun _ _ c _ => L - (intOf c).toNat)
  case atStart => exact ⟨0, by omega, rfl, rfl, rfl, by simp [Bn.high], Below.refl _ _⟩
  case round =>
      obtain ⟨i, hi, rfl, rfl, rfl, hhi, hnx⟩ := hrel
      by_cases hlt : i < L
      · obtain ⟨b, hb⟩ : ∃ b, b = s.data.toList.getD i 0 := ⟨_, rfl⟩
        have hbl : b.toNat < 256 := UInt8.toNat_lt _
        have hix : ∀ wx, (Instr.index 9 (.string s) (.int .i64 (i : Int))).run Tryd.prog wx = .ok (.int .u8 (b.toNat : Int)) wx := fun wx => by rw [hb]; exact Bn.index_byte s i (by omega) (by omega) wx
        obtain ⟨x, hx⟩ : ∃ x, x = b.toNat % 128 := ⟨_, rfl⟩
        have han : (b.toNat : Int) % 128 = (x : Int) := by omega
        obtain ⟨A, hA⟩ : ∃ A, A = Bn.val (s.data.toList.take i) % 18446744073709551616 := ⟨_, rfl⟩
        obtain ⟨U, hU⟩ : ∃ A, A = 128 ^ i % 18446744073709551616 := ⟨_, rfl⟩
        rw [← hA, ← hU]
        have q1 : (i : Int) < (s.size : Int) := by omega
        have q2 : (i : Int) < 10 := by omega
        have q3 : (x : Int) < 128 := by omega
        have q0 : i < s.size := by omega
        have hil : i < s.data.toList.length := by rw [← Lib.size_eq]; omega
        obtain ⟨P, hP⟩ : ∃ P, P = U * x % 18446744073709551616 := ⟨_, rfl⟩
        have hmul : IntKind.u64.wrap ((U : Int) * (x : Int)) = (P : Int) := by rw [hP]; exact Bn.wrap_nat _ _ rfl
        obtain ⟨U2, hU2⟩ : ∃ P, P = U * 128 % 18446744073709551616 := ⟨_, rfl⟩
        have hmul2 : IntKind.u64.wrap ((U : Int) * 128) = (U2 : Int) := by rw [hU2]; exact Bn.wrap_nat _ _ rfl
        have HU2 : Hid (U2 = 128 ^ (i + 1) % 18446744073709551616) := by show _ = _; rw [hU2, hU]; exact Bn.unit_step i
        obtain ⟨A2, hA2'⟩ : ∃ A, A = Bn.val (s.data.toList.take (i + 1)) % 18446744073709551616 := ⟨_, rfl⟩
        have hadd : IntKind.u64.wrap ((A : Int) + (P : Int)) = (A2 : Int) := by
          rw [hA2', Bn.take_next hil, ← hb, ← Bn.add_step _ b i (by rw [List.length_take]; omega) x hx, ← hA, ← hU, ← hP]
          exact Bn.wrap_nat _ _ rfl
        have HLT : Hid (A2 < 18446744073709551616) := by show _ < _; rw [hA2']; exact Nat.mod_lt _ (by omega)
        have HA2 : Hid (A2 = Bn.val (s.data.toList.take (i + 1)) % 18446744073709551616) := hA2'
        have HBB : Hid (b = s.data.toList.getD i 0) := hb
        have HIL : Hid (i < s.data.toList.length) := hil
        obtain ⟨str, hstr⟩ : ∃ str : ByteArray, str = ⟨(Bn.num A2).toArray⟩ := ⟨_, rfl⟩
        have C26 : Hid (∀ W, Calls Tryd.prog 26 #[.int .u64 (A2 : Int)] W fun e w' => e = .returned (.string str) ∧ Below W.heap.size W w') := fun W => by
          rw [hstr]; exact rnumber26 A2 HLT.out W
        obtain ⟨cut, hcut⟩ : ∃ c : ByteArray, c = s.extract 0 (i + 1) := ⟨_, rfl⟩
        have hsl : ∀ wx, (Instr.slice 9 (.string s) none (some (.int .i64 ((i : Int) + 1))) none).run Tryd.prog wx = .ok (.string cut) wx := fun wx => by
          rw [hcut]; exact Bn.slice_to s _ (by omega) (by omega) wx
        have HEQ : Hid (str.data.toList = Bn.num A2 ∧ cut.data.toList = s.data.toList.take (i + 1)) := by
          refine ⟨by rw [hstr], ?_⟩
          rw [hcut, Lib.extract_data]; simp
        clear hb hx hA hL hA2' hstr hcut hil hU hP hU2
        by_cases h91 : i = 9
        · subst h91
          have hix9 : ∀ wx, (Instr.index 9 (.string s) (.int .i64 9)).run Tryd.prog wx = .ok (.int .u8 (b.toNat : Int)) wx := hix
          have hsl9 : ∀ wx, (Instr.slice 9 (.string s) none (some (.int .i64 10)) none).run Tryd.prog wx = .ok (.string cut) wx := hsl
          have r1 : (9 : Int) < (s.size : Int) := by omega
          clear hix hsl q1 q2
          by_cases h92 : 1 < b.toNat
          · have q5 : (1 : Int) < (b.toNat : Int) := by omega
            go_wp2
            go_ret3
            exact ⟨Bn.reads_nine HIL.out hhi (by rw [← HBB.out]; exact h92), hnx⟩
          · have q5 : ¬ (1 : Int) < (b.toNat : Int) := by omega
            have q6 : (b.toNat : Int) < 128 := by omega
            have r2 : (10 : Int) ≤ (s.size : Int) := by omega
            have r3 : IntKind.i64.wrap 10 = 10 := by decide
            have r4 : IntKind.i64.wrap (9 + 1) = 10 := by decide
            go_wp2
            clear hadd hmul hmul2 han hix9 q3
            go_region_law (first | (go_simp; go_at_call 26; refine (C26.out _).mono ?_; rintro e w3 ⟨rfl, hb3⟩))
            all_goals
              have HB3 : Hid (Below w.heap.size w w3) := hnx.trans (((Below.refl _ _).drew.trans hb3).mono hnx.size)
              clear hb3 hnx
              by_cases hsc : str = cut
              · have hq : (str.toList == cut.toList) = true := by rw [hsc]; exact beq_self_eq_true _
                rw [hq, Bool.not_true]
                clear hq
                go_wp2
                go_ret3
                refine ⟨Bn.reads_yes HIL.out (by rw [← HA2.out, ← HEQ.out.1, ← HEQ.out.2, hsc]) (by rw [← HA2.out]; rfl), HB3.out⟩
              · have hq : (str.toList == cut.toList) = false := Bn.neq hsc
                rw [hq, Bool.not_false]
                clear hq
                go_wp2
                go_ret3
                exact ⟨Bn.reads_no HIL.out hhi (by rw [← HBB.out]; omega) (fun h => hsc (by rw [← HA2.out, ← HEQ.out.1, ← HEQ.out.2] at h; exact Bn.data_ext h)), HB3.out⟩
        have q9 : ¬ (i : Int) = 9 := by omega
        by_cases hge : 128 ≤ b.toNat
        · have q4 : (128 : Int) ≤ (b.toNat : Int) := by omega
          go_wp2
          go_roundw
          case rel =>
            refine ⟨i + 1, by omega, by go_num, by rw [← HA2.out], by rw [← HU2.out], ?_, hnx⟩
            intro y hy
            rw [Bn.take_next HIL.out, List.mem_append, List.mem_singleton, ← HBB.out] at hy
            rcases hy with hy | rfl
            · exact hhi y hy
            · exact hge
          case measure => simp [intOf]; omega
        · have q4 : ¬ (128 : Int) ≤ (b.toNat : Int) := by omega
          obtain ⟨j, hj, hw⟩ := Bn.wrap_next (i := i) (by omega)
          have HJ : Hid (j = i + 1) := hj
          have hsl2 : ∀ wx, (Instr.slice 9 (.string s) none (some (.int .i64 (j : Int))) none).run Tryd.prog wx = .ok (.string cut) wx := fun wx => by
            rw [show (j : Int) = (i : Int) + 1 by rw [hj]; rfl]; exact hsl wx
          clear hj hsl
          go_wp2
          clear hadd hmul hmul2 han hix q1 q3
          go_region_law (first | (go_simp; go_at_call 26; refine (C26.out _).mono ?_; rintro e w3 ⟨rfl, hb3⟩))
          all_goals
            have HB3 : Hid (Below w.heap.size w w3) := hnx.trans (((Below.refl _ _).drew.trans hb3).mono hnx.size)
            clear hb3 hnx
            by_cases hsc : str = cut
            · have hq : (str.toList == cut.toList) = true := by rw [hsc]; exact beq_self_eq_true _
              rw [hq, Bool.not_true]
              clear hq
              go_wp2
              go_ret3
              refine ⟨Bn.reads_yes HIL.out (by rw [← HA2.out, ← HEQ.out.1, ← HEQ.out.2, hsc]) (by rw [← HA2.out, HJ.out]; rfl), HB3.out⟩
            · have hq : (str.toList == cut.toList) = false := Bn.neq hsc
              rw [hq, Bool.not_false]
              clear hq
              go_wp2
              go_ret3
              exact ⟨Bn.reads_no HIL.out hhi (by rw [← HBB.out]; omega) (fun h => hsc (by rw [← HA2.out, ← HEQ.out.1, ← HEQ.out.2] at h; exact Bn.data_ext h)), HB3.out⟩
      · have hiL : i = L := by omega
        have HHI : Hid (Bn.high (s.data.toList.take L)) := by rw [← hiL]; exact hhi
        have HL : Hid (L = min s.data.toList.length 10) := by rw [← Lib.size_eq]; exact hL
        by_cases hls : i < s.size
        · have q1 : (i : Int) < (s.size : Int) := by omega
          have q2 : ¬ (i : Int) < 10 := by omega
          go_wp2
          go_ret3
          exact ⟨Bn.reads_end HL.out HHI.out, hnx⟩
        · have q1 : ¬ (i : Int) < (s.size : Int) := by omega
          go_wp2
          go_ret3
          exact ⟨Bn.reads_end HL.out HHI.out, hnx⟩
end Go.Proofs.YtbogggnnmbjlfaaDoor
