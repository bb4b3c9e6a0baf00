/- bin.ReadNumber, walked: the number whose bytes a text begins with, or none. -/
import Derived.Test.YtbogggnnmbjlfaaDoorBinRM
import Derived.Lib.Strings
import Derived.Deep.Upon
import Derived.Deep.RegionLawGrows
namespace Go.Proofs.YtbogggnnmbjlfaaDoor
open Go.RowKit
namespace Bn
theorem index_byte (b : ByteArray) (i : Int) (h0 : 0 ≤ i) (h1 : i < b.size) (wx : World) :
    (Instr.index 9 (.string b) (.int .i64 i)).run Tryd.prog wx = .ok (.int .u8 (((b.data.toList.getD i.toNat 0).toNat : Nat) : Int)) wx := by
  rw [run_index_string (P := Tryd.prog) wx 9 b .i64 i Tryd.underlying9, dif_pos ⟨h0, h1⟩]
  have h2 : i.toNat < b.size := by omega
  have h3 : i.toNat < b.data.toList.length := by rw [← Lib.size_eq]; exact h2
  have e : b[i.toNat] = b.data.toList.getD i.toNat 0 := by
    rw [List.getD_eq_getElem?_getD, List.getElem?_eq_getElem h3]
    rfl
  rw [e]
theorem and127 (b : Nat) (hb : b < 256) : bits .and .u8 (b : Int) 127 = ((b % 128 : Nat) : Int) := by
  rw [show (127 : Int) = ((127 : Nat) : Int) from rfl, u8_and_nat _ _ hb (by decide), nat_mask7]
theorem or_step (l : List UInt8) (b : UInt8) (i : Nat) (hi : i ≤ 9) (hl : l.length = i) (x : Nat) (hx : x = b.toNat % 128) :
    bits .or .u64 ((val l % 18446744073709551616 : Nat) : Int) (IntKind.u64.wrap ((x : Int) * 2 ^ (7 * i))) = ((val (l ++ [b]) % 18446744073709551616 : Nat) : Int) := by
  have e128 : 128 ^ i = 2 ^ (7 * i) := by rw [Nat.pow_mul]
  have h1 : val l < 2 ^ (7 * i) := by rw [← e128, ← hl]; exact val_lt l
  have e64 : (18446744073709551616 : Nat) = 2 ^ (64 - 7 * i) * 2 ^ (7 * i) := by
    rw [← Nat.pow_add, show 64 - 7 * i + 7 * i = 64 by omega]
  have ew : IntKind.u64.wrap ((x : Int) * 2 ^ (7 * i)) = ((x * 2 ^ (7 * i) % 18446744073709551616 : Nat) : Int) := by
    rw [IntKind.wrap_u64, Int.natCast_emod, Int.natCast_mul, Int.natCast_pow]; rfl
  obtain ⟨z, hz⟩ : ∃ z, z = x % 2 ^ (64 - 7 * i) := ⟨_, rfl⟩
  have ey : x * 2 ^ (7 * i) % 18446744073709551616 = z * 2 ^ (7 * i) := by rw [e64, Nat.mul_mod_mul_right, hz]
  have hzl : z + 1 ≤ 2 ^ (64 - 7 * i) := by rw [hz]; exact Nat.mod_lt _ (Nat.two_pow_pos _)
  have hsum : val l + z * 2 ^ (7 * i) < 18446744073709551616 := by
    have h2 : (z + 1) * 2 ^ (7 * i) ≤ 18446744073709551616 := by
      rw [e64]; exact Nat.mul_le_mul_right _ hzl
    rw [Nat.add_mul, Nat.one_mul] at h2
    omega
  have hv : val l % 18446744073709551616 = val l := Nat.mod_eq_of_lt (by omega)
  rw [ew, ey, hv, u64_or_nat _ _ (by omega) (by omega)]
  have eo : val l ||| z * 2 ^ (7 * i) = val l + z * 2 ^ (7 * i) := by
    have := Nat.shiftLeft_add_eq_or_of_lt h1 z
    rw [Nat.shiftLeft_eq] at this
    rw [Nat.or_comm, ← this, Nat.add_comm]
  rw [eo, val_append, val, val, Nat.mul_zero, Nat.add_zero, hl, e128, ← hx, Nat.mul_comm (2 ^ (7 * i)) x, ← Nat.add_mod_mod, ey, Nat.mod_eq_of_lt hsum]
theorem take_next {l : List UInt8} {i : Nat} (h : i < l.length) : l.take (i + 1) = l.take i ++ [l.getD i 0] := by
  rw [List.take_succ_eq_append_getElem h, List.getD_eq_getElem?_getD, List.getElem?_eq_getElem h]; rfl
theorem reads_yes {s : List UInt8} {i : Nat} {e : Ending} (hi : i < s.length) (h : num (val (s.take (i + 1)) % 18446744073709551616) = s.take (i + 1))
    (he : e = .returned (.tuple #[.int .u64 ((val (s.take (i + 1)) % 18446744073709551616 : Nat) : Int), .int .i64 ((i : Int) + 1), .int .i64 0])) : Reads s e := by
  refine Or.inl ⟨_, Nat.mod_lt _ (by omega), by rw [h]; exact List.take_prefix _ _, ?_⟩
  rw [he, h, List.length_take, show min (i + 1) s.length = i + 1 by omega]
  rfl
theorem reads_no {s : List UInt8} {i : Nat} (hi : i < s.length) (hh : high (s.take i)) (hb : (s.getD i 0).toNat < 128) (h : num (val (s.take (i + 1)) % 18446744073709551616) ≠ s.take (i + 1)) :
    Reads s (.returned (.tuple #[.int .u64 0, .int .i64 0, .int .i64 11])) := by
  refine Or.inr ⟨fun n hn hp => h ?_, rfl⟩
  have e : s = s.take i ++ s.getD i 0 :: s.drop (i + 1) := by
    rw [List.append_cons, ← take_next hi, List.take_append_drop]
  rw [e] at hp
  have h1 := num_ends hh hb hp
  rw [← take_next hi] at h1
  rw [← h1, val_num, Nat.mod_eq_of_lt hn]
theorem reads_end {s : List UInt8} {L : Nat} (hL : L = min s.length 10) (hh : high (s.take L)) : Reads s (.returned (.tuple #[.int .u64 0, .int .i64 0, .int .i64 11])) := by
  refine Or.inr ⟨fun n hn => none_high hn ?_, rfl⟩
  have : s.take 10 = s.take L := by
    rcases Nat.le_total s.length 10 with h | h
    · rw [List.take_of_length_le h, List.take_of_length_le (by omega)]
    · rw [show L = 10 by omega]
  rw [this]; exact hh
theorem wrap_next {i : Nat} (h : i ≤ 9) : ∃ j : Nat, j = i + 1 ∧ IntKind.i64.wrap ((i : Int) + 1) = (j : Int) :=
  ⟨i + 1, rfl, by rw [IntKind.wrap_i64]; omega⟩
theorem data_ext {a m : ByteArray} (e : a.data.toList = m.data.toList) : a = m := by
  cases a; cases m
  exact congrArg ByteArray.mk (Array.toList_inj.1 e)
theorem neq {a m : ByteArray} (h : ¬ a = m) : (a.toList == m.toList) = false := by
  rw [Go.ByteArray.toList_eq, Go.ByteArray.toList_eq, beq_eq_false_iff_ne]
  exact fun e => h (data_ext e)
theorem slice_to (s : ByteArray) (j : Int) (h0 : 0 ≤ j) (h2 : j ≤ s.size) (wx : World) :
    (Instr.slice 9 (.string s) none (some (.int .i64 j)) none).run Tryd.prog wx = .ok (.string (s.extract 0 j.toNat)) wx := by
  rw [run_slice_string_to_if (P := Tryd.prog) wx 9 s .i64 j Tryd.underlying9, if_pos ⟨h0, h2⟩]
end Bn
set_option maxHeartbeats 2000000 in
set_option maxRecDepth 10000 in
theorem read23 (s : ByteArray) (w : World) :
    Calls Tryd.prog 23 #[.string s] w fun e w' => Bn.Reads s.data.toList e ∧ Below w.heap.size w w' := by
  obtain ⟨L, hL⟩ : ∃ L : Nat, L = min s.size 10 := ⟨_, rfl⟩
  have hmin : min (s.size : Int) 10 = (L : Int) := by omega
  go_enter Tryd.func23, Tryd.ntmps23
  go_wp2
  all_goals
    first | rw [show (10 : Int) = (L : Int) by omega] | rw [show (s.size : Int) = (L : Int) by omega]
    go_loopw [5, 6, 10] (fun nv iv c wr => ∃ i : Nat, i ≤ L ∧ c = .int .i64 (i : Int) ∧ nv = .int .u64 ((Bn.val (s.data.toList.take i) % 18446744073709551616 : Nat) : Int) ∧ Bn.high (s.data.toList.take i) ∧ Below w.heap.size w wr) (fun _ _ c _ => L - (intOf c).toNat)
    case atStart => exact ⟨0, by omega, rfl, rfl, by simp [Bn.high], Below.refl _ _⟩
    case round =>
      obtain ⟨i, hi, rfl, rfl, hhi, hnx⟩ := hrel
      by_cases hlt : i < L
      · obtain ⟨b, hb⟩ : ∃ b, b = s.data.toList.getD i 0 := ⟨_, rfl⟩
        have hbl : b.toNat < 256 := UInt8.toNat_lt _
        have hix : ∀ wx, (Instr.index 9 (.string s) (.int .i64 (i : Int))).run Tryd.prog wx = .ok (.int .u8 (b.toNat : Int)) wx := fun wx => by rw [hb]; exact Bn.index_byte s i (by omega) (by omega) wx
        obtain ⟨x, hx⟩ : ∃ x, x = b.toNat % 128 := ⟨_, rfl⟩
        have han : bits .and .u8 (b.toNat : Int) 127 = (x : Int) := by rw [Bn.and127 _ hbl, hx]
        obtain ⟨A, hA⟩ : ∃ A, A = Bn.val (s.data.toList.take i) % 18446744073709551616 := ⟨_, rfl⟩
        have hA2 : A < 18446744073709551616 := by rw [hA]; exact Nat.mod_lt _ (by omega)
        rw [← hA]
        have q1 : (i : Int) < (L : Int) := by omega
        have q2 : (i : Int) ≤ 9 := by omega
        have q3 : (x : Int) < 128 := by omega
        have q0 : i < s.size := by omega
        have hil : i < s.data.toList.length := by rw [← Lib.size_eq]; omega
        obtain ⟨A2, hA2'⟩ : ∃ A, A = Bn.val (s.data.toList.take (i + 1)) % 18446744073709551616 := ⟨_, rfl⟩
        have hor : bits .or .u64 (A : Int) (IntKind.u64.wrap ((x : Int) * 2 ^ (7 * i))) = (A2 : Int) := by
          rw [hA, hA2', Bn.take_next hil, ← hb]
          exact Bn.or_step _ b i (by omega) (by rw [List.length_take]; omega) x hx
        have HLT : Hid (A2 < 18446744073709551616) := by show _ < _; rw [hA2']; exact Nat.mod_lt _ (by omega)
        have HA2 : Hid (A2 = Bn.val (s.data.toList.take (i + 1)) % 18446744073709551616) := hA2'
        have HBB : Hid (b = s.data.toList.getD i 0) := hb
        have HIL : Hid (i < s.data.toList.length) := hil
        obtain ⟨str, hstr⟩ : ∃ str : ByteArray, str = ⟨(Bn.num A2).toArray⟩ := ⟨_, rfl⟩
        have C25 : Hid (∀ W, Calls Tryd.prog 25 #[.int .u64 (A2 : Int)] W fun e w' => e = .returned (.string str) ∧ Below W.heap.size W w') := fun W => by
          rw [hstr]; exact number25 A2 HLT.out W
        obtain ⟨cut, hcut⟩ : ∃ c : ByteArray, c = s.extract 0 (i + 1) := ⟨_, rfl⟩
        have hsl : ∀ wx, (Instr.slice 9 (.string s) none (some (.int .i64 ((i : Int) + 1))) none).run Tryd.prog wx = .ok (.string cut) wx := fun wx => by
          rw [hcut]; exact Bn.slice_to s _ (by omega) (by omega) wx
        have HEQ : Hid (str.data.toList = Bn.num A2 ∧ cut.data.toList = s.data.toList.take (i + 1)) := by
          refine ⟨by rw [hstr], ?_⟩
          rw [hcut, Lib.extract_data]; simp
        clear hb hx hA hL hmin hA2' hstr hcut hil
        by_cases hge : 128 ≤ b.toNat
        · have q4 : (128 : Int) ≤ (b.toNat : Int) := by omega
          go_wp2
          go_roundw
          case rel =>
            refine ⟨i + 1, by omega, by go_num, by rw [← HA2.out], ?_, hnx⟩
            intro y hy
            rw [Bn.take_next HIL.out, List.mem_append, List.mem_singleton, ← HBB.out] at hy
            rcases hy with hy | rfl
            · exact hhi y hy
            · exact hge
          case measure => simp [intOf]; omega
        · have q4 : ¬ (128 : Int) ≤ (b.toNat : Int) := by omega
          obtain ⟨j, hj, hw⟩ := Bn.wrap_next (i := i) (by omega)
          have HJ : Hid (j = i + 1) := hj
          have hsl2 : ∀ wx, (Instr.slice 9 (.string s) none (some (.int .i64 (j : Int))) none).run Tryd.prog wx = .ok (.string cut) wx := fun wx => by
            rw [show (j : Int) = (i : Int) + 1 by rw [hj]; rfl]; exact hsl wx
          clear hj hsl
          go_wp2
          clear hor han hix q1 q3 hA2
          go_region_law (first | (go_simp; go_at_call 25; refine (C25.out _).mono ?_; rintro e w3 ⟨rfl, hb3⟩))
          all_goals
            have HB3 : Hid (Below w.heap.size w w3) := hnx.trans (((Below.refl _ _).drew.trans hb3).mono hnx.size)
            clear hb3 hnx
            by_cases hsc : str = cut
            · have hq : (str.toList == cut.toList) = true := by rw [hsc]; exact beq_self_eq_true _
              rw [hq, Bool.not_true]
              clear hq
              go_wp2
              go_ret3
              refine ⟨Bn.reads_yes HIL.out (by rw [← HA2.out, ← HEQ.out.1, ← HEQ.out.2, hsc]) (by rw [← HA2.out, HJ.out]; rfl), HB3.out⟩
            · have hq : (str.toList == cut.toList) = false := Bn.neq hsc
              rw [hq, Bool.not_false]
              clear hq
              go_wp2
              go_ret3
              exact ⟨Bn.reads_no HIL.out hhi (by rw [← HBB.out]; omega) (fun h => hsc (by rw [← HA2.out, ← HEQ.out.1, ← HEQ.out.2] at h; exact Bn.data_ext h)), HB3.out⟩
      · have hiL : i = L := by omega
        subst hiL
        have q1 : ¬ (i : Int) < (i : Int) := by omega
        go_wp2
        go_ret3
        exact ⟨Bn.reads_end (by rw [← Lib.size_eq]; exact hL) hhi, hnx⟩
end Go.Proofs.YtbogggnnmbjlfaaDoor
