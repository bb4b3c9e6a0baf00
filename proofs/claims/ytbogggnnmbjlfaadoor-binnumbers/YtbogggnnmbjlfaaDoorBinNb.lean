/- BinNumbers, walked. -/
import Derived.Test.YtbogggnnmbjlfaaDoorBinL
import Derived.Test.YtbogggnnmbjlfaaDoorBinRRead
namespace Go.Proofs.YtbogggnnmbjlfaaDoor
open Go.RowKit
open Vl (V)
theorem Bn.reads_one (s : List UInt8) : ∃ A K E : Int, ∀ e, Bn.Reads s e → e = .returned (.tuple #[.int .u64 A, .int .i64 K, .int .i64 E]) := by
  by_cases h : ∃ n, n < 18446744073709551616 ∧ Bn.num n <+: s
  · obtain ⟨n, hn, hp⟩ := h
    refine ⟨n, (Bn.num n).length, 0, fun e he => ?_⟩
    rcases he with ⟨m, hm, hq, rfl⟩ | ⟨hno, _⟩
    · obtain rfl := Bn.num_prefix_eq hp hq
      rfl
    · exact absurd hp (hno n hn)
  · refine ⟨0, 0, 11, fun e he => ?_⟩
    rcases he with ⟨m, hm, hq, _⟩ | ⟨_, e⟩
    · exact absurd ⟨m, hm, hq⟩ h
    · exact e
theorem Bn.reads_num {s r : List UInt8} {n : Nat} (hn : n < 18446744073709551616) (h : s = Bn.num n ++ r) : ∀ e, Bn.Reads s e → e = .returned (.tuple #[.int .u64 (n : Int), .int .i64 ((Bn.num n).length : Int), .int .i64 0]) := by
  intro e he
  have hp : Bn.num n <+: s := by rw [h]; exact List.prefix_append _ _
  rcases he with ⟨m, hm, hq, rfl⟩ | ⟨hno, _⟩
  · obtain rfl := Bn.num_prefix_eq hp hq
    rfl
  · exact absurd hp (hno n hn)
set_option maxHeartbeats 8000000 in
set_option maxRecDepth 10000 in
theorem numbers6 (n : Nat) (hn : n < 18446744073709551616) (s : ByteArray) (hs : s.size ≤ 140737488351232) (w : World) (hT : Bn.HasU w) :
    Calls Tryd.prog 6 #[.int .u64 (n : Int), .string s] w fun e w' => e = .returned (.bool true) ∧ Below w.heap.size w w' := by
  obtain ⟨A, K, E, hAKE⟩ := Bn.reads_one s.data.toList
  have C23 : Hid (∀ W, Calls Tryd.prog 23 #[.string s] W fun e w' => e = .returned (.tuple #[.int .u64 A, .int .i64 K, .int .i64 E]) ∧ Below W.heap.size W w') := fun W => (read23 s W).mono (fun e w' ⟨h1, h2⟩ => ⟨hAKE e h1, h2⟩)
  have C24 : Hid (∀ W, Calls Tryd.prog 24 #[.string s] W fun e w' => e = .returned (.tuple #[.int .u64 A, .int .i64 K, .int .i64 E]) ∧ Below W.heap.size W w') := fun W => (rread24 s W).mono (fun e w' ⟨h1, h2⟩ => ⟨hAKE e h1, h2⟩)
  obtain ⟨m, hm⟩ : ∃ m : ByteArray, m = ⟨(Bn.num n).toArray⟩ := ⟨_, rfl⟩
  obtain ⟨k, hk⟩ : ∃ k, k = m.size := ⟨_, rfl⟩
  have hml : m.data.toList = Bn.num n := by rw [hm]
  have hkl : k = (Bn.num n).length := by rw [hk, Lib.size_eq, hml]
  have hk10 : k ≤ 10 := by rw [hkl]; exact Bn.num_len10 hn
  have C25 : Hid (∀ W, Calls Tryd.prog 25 #[.int .u64 (n : Int)] W fun e w' => e = .returned (.string m) ∧ Below W.heap.size W w') := fun W => by rw [hm]; exact number25 n hn W
  have C26 : Hid (∀ W, Calls Tryd.prog 26 #[.int .u64 (n : Int)] W fun e w' => e = .returned (.string m) ∧ Below W.heap.size W w') := fun W => by rw [hm]; exact rnumber26 n hn W
  have C22 : Hid (∀ W, Below w.heap.size w W → Calls Tryd.prog 22 #[] W fun e w' => e = .returned (.bool true) ∧ Below W.heap.size W w') := fun W hW => lives22 W (hT.stays hW)
  have D23 : Hid (∀ W, Calls Tryd.prog 23 #[.string (m ++ s)] W fun e w' => e = .returned (.tuple #[.int .u64 (n : Int), .int .i64 (k : Int), .int .i64 0]) ∧ Below W.heap.size W w') := fun W => (read23 (m ++ s) W).mono (fun e w' ⟨h1, h2⟩ => ⟨by rw [hkl]; exact Bn.reads_num hn (by rw [ByteArray.data_append, Array.toList_append, hml]) e h1, h2⟩)
  have hsz : (m.size : Int) = (k : Int) := by omega
  have hcat : ¬ 9223372036854775807 < m.size + s.size := by omega
  clear hAKE hm hml hkl hk hT hn
  go_enter Tryd.func6, Tryd.ntmps6
  go_upto_region 3 with (first
    | (go_at_call 23; refine (C23.out _).mono ?_; rintro e w2 ⟨rfl, hb2⟩
       have B2 : Hid (Below w.heap.size w w2) := hb2
       clear hb2)
    | (go_at_call 24; refine (C24.out _).mono ?_; rintro e w3 ⟨rfl, hb3⟩
       have B3 : Hid (Below w.heap.size w w3) := B2.out.trans (hb3.mono B2.out.size)
       clear hb3))
  go_upto_region 4 with (first
    | (go_at_call 25; refine (C25.out _).mono ?_; rintro e w4 ⟨rfl, hb4⟩
       have B4 : Hid (Below w.heap.size w w4) := B3.out.trans (hb4.mono B3.out.size)
       clear hb4)
    | (go_at_call 23; refine (D23.out _).mono ?_; rintro e w5 ⟨rfl, hb5⟩
       have B5 : Hid (Below w.heap.size w w5) := B4.out.trans (hb5.mono B4.out.size)
       clear hb5))
  go_wp2_with (first
    | (go_at_call 22; refine (C22.out _ B5.out).mono ?_; rintro e w6 ⟨rfl, hb6⟩
       have B6 : Hid (Below w.heap.size w w6) := B5.out.trans (hb6.mono B5.out.size)
       clear hb6)
    | (go_at_call 26; refine (C26.out _).mono ?_; rintro e w8 ⟨rfl, hb8⟩
       have B8 : Hid (Below w.heap.size w w8) := B7.out.trans (hb8.mono B7.out.size)
       clear hb8)
    | (revert B8; intro B8; go_at_call 25; refine (C25.out _).mono ?_; rintro e w9 ⟨rfl, hb9⟩
       have B9 : Hid (Below w.heap.size w w9) := B8.out.trans (hb9.mono B8.out.size)
       clear hb9)
    | (go_at_call 25; refine (C25.out _).mono ?_; rintro e w7 ⟨rfl, hb7⟩
       have B7 : Hid (Below w.heap.size w w7) := B6.out.trans (hb7.mono B6.out.size)
       clear hb7))
  go_ret
  exact ⟨rfl, B9.out⟩
end Go.Proofs.YtbogggnnmbjlfaaDoor
