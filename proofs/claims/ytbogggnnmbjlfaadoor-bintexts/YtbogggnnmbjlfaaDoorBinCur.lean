/- A cursor in memory: what is left of a text, and whether it was not as it must be; fail, take, number, unfolded. -/
import Derived.Test.YtbogggnnmbjlfaaDoorBinM
import Derived.Test.YtbogggnnmbjlfaaDoorBinC
import Derived.Test.YtbogggnnmbjlfaaDoorRepA
namespace Go.Proofs.YtbogggnnmbjlfaaDoor
open Go.RowKit
open Vl (V)
/-- the cursor at block c -/
structure Cur (c : Nat) (s : ByteArray) (bad : Bool) (w : World) : Prop where
  lt : c < w.heap.size
  row : w.heap[c]? = some (.cells #[.string s, .bool bad] 71 (0, 0))
/-- nothing but the cursor's own block is changed -/
structure Curw (c : Nat) (w w' : World) : Prop where
  os : w'.os = w.os
  tape : w'.tape = w.tape
  output : w'.output = w.output
  size : w.heap.size ≤ w'.heap.size
  block : ∀ k, k < w.heap.size → k ≠ c → w'.heap[k]? = w.heap[k]?
theorem Curw.refl (c : Nat) (w : World) : Curw c w w := ⟨rfl, rfl, rfl, Nat.le_refl _, fun _ _ _ => rfl⟩
theorem Curw.trans {c : Nat} {w w' w'' : World} (h : Curw c w w') (k : Curw c w' w'') : Curw c w w'' :=
  ⟨k.os.trans h.os, k.tape.trans h.tape, k.output.trans h.output, Nat.le_trans h.size k.size, fun i hi hc => (k.block i (Nat.lt_of_lt_of_le hi h.size) hc).trans (h.block i hi hc)⟩
theorem Curw.of {c : Nat} {w w' : World} (h : Below w.heap.size w w') : Curw c w w' := ⟨h.os, h.tape, h.output, h.size, fun k hk _ => h.block k hk⟩
theorem Curw.below {c B : Nat} {w w' : World} (h : Curw c w w') (hB : B ≤ c) (hs : B ≤ w.heap.size) : Below B w w' := ⟨h.os, h.tape, h.output, h.size, fun k hk => h.block k (by omega) (by omega)⟩
theorem Curw.set {c o : Nat} {w w' : World} (h : Curw c w w') (v : Value) : Curw c w (w'.setCell ⟨c, o, none⟩ v) :=
  ⟨h.os, h.tape, h.output, by simpa using h.size, fun k hk hc => (heap_setCell_other _ _ _ _ hc).trans (h.block k hk hc)⟩
theorem Cur.call {c : Nat} {s : ByteArray} {bad : Bool} {w w' : World} (h : Cur c s bad w) (b : Below w.heap.size w w') : Cur c s bad w' :=
  ⟨Nat.lt_of_lt_of_le h.lt b.size, (b.block c h.lt).trans h.row⟩
theorem Cur.cells {c : Nat} {s : ByteArray} {bad : Bool} {w : World} (h : Cur c s bad w) : w.cell? ⟨c, 0, none⟩ = some (.string s) ∧ w.cell? ⟨c, 1, none⟩ = some (.bool bad) ∧ w.frozen? ⟨c, 0, none⟩ = false ∧ w.frozen? ⟨c, 1, none⟩ = false :=
  ⟨block_cells h.row 0 _ rfl, block_cells h.row 1 _ rfl, row_free h.row 0, row_free h.row 1⟩
theorem Cur.set0 {c : Nat} {s : ByteArray} {bad : Bool} {w : World} (h : Cur c s bad w) (t : ByteArray) : Cur c t bad (w.setCell ⟨c, 0, none⟩ (.string t)) :=
  ⟨by simpa using h.lt, heap_setCell_same w c 0 _ 71 (.string t) h.row⟩
theorem Cur.set1 {c : Nat} {s : ByteArray} {bad : Bool} {w : World} (h : Cur c s bad w) (b : Bool) : Cur c s b (w.setCell ⟨c, 1, none⟩ (.bool b)) :=
  ⟨by simpa using h.lt, heap_setCell_same w c 1 _ 71 (.bool b) h.row⟩
theorem fail86 (c : Nat) (s : ByteArray) (bad : Bool) (w : World) (h : Cur c s bad w) :
    Calls Tryd.prog 86 #[.pointer (some ⟨c, 0, none⟩)] w fun e w' => e = .returned (.tuple #[]) ∧ Cur c ⟨#[]⟩ true w' ∧ Curw c w w' := by
  obtain ⟨c0, c1, f0, f1⟩ := h.cells
  have H : Hid (Cur c ⟨#[]⟩ true ((w.setCell ⟨c, 0, none⟩ (.string ⟨#[]⟩)).setCell ⟨c, 1, none⟩ (.bool true)) ∧ Curw c w ((w.setCell ⟨c, 0, none⟩ (.string ⟨#[]⟩)).setCell ⟨c, 1, none⟩ (.bool true))) := ⟨(h.set0 ⟨#[]⟩).set1 true, ((Curw.refl c w).set _).set _⟩
  clear h
  go_enter Tryd.func86, Tryd.ntmps86
  go_wp2
  go_end0
  exact ⟨rfl, H.out⟩
namespace Bn
theorem extract_take (s : ByteArray) (n : Nat) : (s.extract 0 n).data.toList = s.data.toList.take n := by
  simp [ByteArray.data_extract]
theorem extract_drop (s : ByteArray) (n : Nat) : (s.extract n s.size).data.toList = s.data.toList.drop n := by
  have e : s.size = s.data.toList.length := Lib.size_eq s
  rw [e]
  simp only [ByteArray.data_extract, Array.toList_extract, List.extract_eq_take_drop]
  exact List.take_of_length_le (by simp)
theorem slice_u (s : ByteArray) (j : Int) (h0 : 0 ≤ j) (h2 : j ≤ s.size) (wx : World) :
    (Instr.slice 9 (.string s) none (some (.int .u64 j)) none).run Tryd.prog wx = .ok (.string (s.extract 0 j.toNat)) wx := by
  rw [run_slice_string_to_if (P := Tryd.prog) wx 9 s .u64 j Tryd.underlying9, if_pos ⟨h0, h2⟩]
end Bn
set_option maxHeartbeats 1000000 in
theorem take78 (c : Nat) (s : ByteArray) (hs : s.size ≤ 4294967296) (bad : Bool) (n : Nat) (hn : n < 18446744073709551616) (w : World) (h : Cur c s bad w) :
    Calls Tryd.prog 78 #[.pointer (some ⟨c, 0, none⟩), .int .u64 (n : Int)] w fun e w' => Curw c w w' ∧ ((s.size < n ∧ e = .returned (.string ⟨#[]⟩) ∧ Cur c ⟨#[]⟩ true w') ∨ (n ≤ s.size ∧ e = .returned (.string (s.extract 0 n)) ∧ Cur c (s.extract n s.size) bad w')) := by
  obtain ⟨c0, c1, f0, f1⟩ := h.cells
  have q1 : (s.size : Int) < 18446744073709551616 := by omega
  by_cases hlt : s.size < n
  · have C86 : Hid (Calls Tryd.prog 86 #[.pointer (some ⟨c, 0, none⟩)] w fun e w' => e = .returned (.tuple #[]) ∧ Cur c ⟨#[]⟩ true w' ∧ Curw c w w') := fail86 c s bad w h
    clear h
    go_enter Tryd.func78, Tryd.ntmps78
    go_wp2_with (first
      | (go_at_call 86; refine C86.out.mono ?_; rintro e w2 ⟨rfl, h1, h2⟩
         have H1 : Hid (Cur c ⟨#[]⟩ true w2) := h1
         have H2 : Hid (Curw c w w2) := h2
         clear h1 h2))
    go_ret
    exact ⟨H2.out, Or.inl ⟨hlt, rfl, H1.out⟩⟩
  · have S1 := Bn.slice_u s (n : Int) (by omega) (by omega)
    have H : Hid (Cur c (s.extract n s.size) bad (w.setCell ⟨c, 0, none⟩ (.string (s.extract n s.size))) ∧ Curw c w (w.setCell ⟨c, 0, none⟩ (.string (s.extract n s.size)))) := ⟨h.set0 _, (Curw.refl c w).set _⟩
    clear h
    go_enter Tryd.func78, Tryd.ntmps78
    go_wp2
    go_ret
    exact ⟨H.out.2, Or.inr ⟨by omega, rfl, H.out.1⟩⟩
set_option maxHeartbeats 1000000 in
theorem number80 (c : Nat) (s : ByteArray) (hs : s.size ≤ 4294967296) (bad : Bool) (w : World) (h : Cur c s bad w) :
    Calls Tryd.prog 80 #[.pointer (some ⟨c, 0, none⟩)] w fun e w' => Curw c w w' ∧ ∃ (n : Nat) (s' : ByteArray) (bad' : Bool), n < 18446744073709551616 ∧ e = .returned (.int .u64 (n : Int)) ∧ Cur c s' bad' w' ∧
      ((s.data.toList = Bn.num n ++ s'.data.toList ∧ bad' = bad) ∨ (n = 0 ∧ s' = ⟨#[]⟩ ∧ bad' = true ∧ Bn.noNum s.data.toList)) := by
  have C23 : Hid (Calls Tryd.prog 23 #[.string s] w fun e w' => Bn.Reads s.data.toList e ∧ Below w.heap.size w w') := read23 s w
  obtain ⟨c0, c1, f0, f1⟩ := h.cells
  have H : Hid (Cur c s bad w) := h
  have hsl : s.size = s.data.toList.length := Lib.size_eq s
  clear h
  by_cases hnum : ∃ n, n < 18446744073709551616 ∧ Bn.num n <+: s.data.toList
  · obtain ⟨n, hn, hp⟩ := hnum
    obtain ⟨r, hr⟩ := hp
    obtain ⟨m, hm⟩ : ∃ m, m = (Bn.num n).length := ⟨_, rfl⟩
    have hms : m ≤ s.size := by rw [hsl, ← hr, List.length_append]; omega
    have D23 : Hid (Calls Tryd.prog 23 #[.string s] w fun e w' => e = .returned (.tuple #[.int .u64 (n : Int), .int .i64 (m : Int), .int .i64 0]) ∧ Below w.heap.size w w') := C23.out.mono (fun e w' ⟨h1, h2⟩ => by
      refine ⟨?_, h2⟩
      rcases h1 with ⟨n', hn', hp', e'⟩ | ⟨hno, _⟩
      · obtain rfl := Bn.num_prefix_eq hp' (hr ▸ List.prefix_append _ _)
        rw [e', hm]
      · exact absurd (hr ▸ List.prefix_append _ _) (hno n hn))
    have HD : Hid (s.data.toList = Bn.num n ++ (s.extract m s.size).data.toList) := by
      show _ = _
      rw [Bn.extract_drop, ← hr, hm, List.drop_left]
    have C78 : Hid (∀ W, Cur c s bad W → Calls Tryd.prog 78 #[.pointer (some ⟨c, 0, none⟩), .int .u64 (m : Int)] W fun e w' => e = .returned (.string (s.extract 0 m)) ∧ Curw c W w' ∧ Cur c (s.extract m s.size) bad w') := fun W hW => (take78 c s hs bad m (by omega) W hW).mono (fun e w' ⟨h1, h2⟩ => by
      rcases h2 with ⟨h3, _⟩ | ⟨_, h4, h5⟩
      · omega
      · exact ⟨h4, h1, h5⟩)
    have q1 : (m : Int) < 18446744073709551616 := by omega
    have HN : Hid (n < 18446744073709551616) := hn
    clear C23 hr hm hsl hms hs
    go_enter Tryd.func80, Tryd.ntmps80
    go_wp2_with (first
      | (go_at_call 23; refine D23.out.mono ?_; rintro e w2 ⟨rfl, hb⟩
         have H2 : Hid (Cur c s bad w2) := H.out.call hb
         have K2 : Hid (Curw c w w2) := Curw.of hb
         clear hb)
      | (go_at_call 78; refine (C78.out _ H2.out).mono ?_; rintro e w3 ⟨rfl, h1, h2⟩
         have H3 : Hid (Cur c (s.extract m s.size) bad w3) := h2
         have K3 : Hid (Curw c w w3) := K2.out.trans h1
         clear h1 h2))
    go_ret
    exact ⟨K3.out, n, _, bad, HN.out, rfl, H3.out, Or.inl ⟨HD.out, rfl⟩⟩
  · have HNO : Hid (Bn.noNum s.data.toList) := fun n hn hp => hnum ⟨n, hn, hp⟩
    have D23 : Hid (Calls Tryd.prog 23 #[.string s] w fun e w' => e = .returned (.tuple #[.int .u64 0, .int .i64 0, .int .i64 11]) ∧ Below w.heap.size w w') := C23.out.mono (fun e w' ⟨h1, h2⟩ => by
      refine ⟨?_, h2⟩
      rcases h1 with ⟨n', hn', hp', e'⟩ | ⟨_, e'⟩
      · exact absurd ⟨n', hn', hp'⟩ hnum
      · exact e')
    have C86 : Hid (∀ W, Cur c s bad W → Calls Tryd.prog 86 #[.pointer (some ⟨c, 0, none⟩)] W fun e w' => e = .returned (.tuple #[]) ∧ Cur c ⟨#[]⟩ true w' ∧ Curw c W w') := fun W hW => fail86 c s bad W hW
    have C78 : Hid (∀ W, Cur c ⟨#[]⟩ true W → Calls Tryd.prog 78 #[.pointer (some ⟨c, 0, none⟩), .int .u64 0] W fun e w' => e = .returned (.string ⟨#[]⟩) ∧ Curw c W w' ∧ Cur c ⟨#[]⟩ true w') := fun W hW => (take78 c ⟨#[]⟩ (by decide) true 0 (by omega) W hW).mono (fun e w' ⟨h1, h2⟩ => by
      rcases h2 with ⟨h3, _⟩ | ⟨_, h4, h5⟩
      · omega
      · exact ⟨h4, h1, h5⟩)
    clear C23 hsl hs hnum
    go_enter Tryd.func80, Tryd.ntmps80
    go_wp2_with (first
      | (go_at_call 23; refine D23.out.mono ?_; rintro e w2 ⟨rfl, hb⟩
         have H2 : Hid (Cur c s bad w2) := H.out.call hb
         have K2 : Hid (Curw c w w2) := Curw.of hb
         clear hb)
      | (go_at_call 86; refine (C86.out _ H2.out).mono ?_; rintro e w3 ⟨rfl, h1, h2⟩
         have H3 : Hid (Cur c ⟨#[]⟩ true w3) := h1
         have K3 : Hid (Curw c w w3) := K2.out.trans h2
         clear h1 h2)
      | (go_at_call 78; refine (C78.out _ H3.out).mono ?_; rintro e w4 ⟨rfl, h1, h2⟩
         have H4 : Hid (Cur c ⟨#[]⟩ true w4) := h2
         have K4 : Hid (Curw c w w4) := K3.out.trans h1
         clear h1 h2))
    go_ret
    exact ⟨K4.out, 0, _, true, by omega, rfl, H4.out, Or.inr ⟨rfl, rfl, rfl, HNO.out⟩⟩
/-- the int that a number stands for -/
def Bn.zag (n : Nat) : Int := if n % 2 = 0 then ((n / 2 : Nat) : Int) else -((n / 2 : Nat) : Int) - 1
theorem Bn.zag_fold {n : Nat} (h : n < 18446744073709551616) : Bn.fold (Bn.zag n) = n ∧ -9223372036854775808 ≤ Bn.zag n ∧ Bn.zag n ≤ 9223372036854775807 := by
  unfold Bn.zag Bn.fold
  split <;> split <;> omega
theorem Bn.zag_eq {n : Nat} (hn : n < 18446744073709551616) : bits .xor .i64 ((n : Int) / 2) (wrap64 (-wrap64 (bits .and .u64 (n : Int) 1))) = Bn.zag n := by
  have e1 : bits .and .u64 (n : Int) 1 = ((n % 2 : Nat) : Int) := by
    rw [show (1 : Int) = ((1 : Nat) : Int) from rfl, u64_and_nat n 1 hn (by decide), nat_mask1]
  have e2 : (n : Int) / 2 = ((n / 2 : Nat) : Int) := by omega
  rw [e1, e2]
  have hb : ∀ x y : Int, bits .xor .i64 x y = IntKind.i64.wrap ((BitVec.ofInt 64 x ^^^ BitVec.ofInt 64 y).toNat : Int) := fun x y => rfl
  rw [Bn.zag]
  rcases Nat.mod_two_eq_zero_or_one n with h | h
  · rw [if_pos h, h]
    have e3 : wrap64 (-wrap64 ((0 : Nat) : Int)) = ((0 : Nat) : Int) := by unfold wrap64; omega
    rw [e3, hb, BitVec.toNat_xor, ofInt_u64 _ (by omega), ofInt_u64 _ (by omega), Nat.xor_zero, IntKind.wrap_i64]
    omega
  · rw [if_neg (by omega), h]
    have e3 : wrap64 (-wrap64 ((1 : Nat) : Int)) = -1 := by unfold wrap64; omega
    have e4 : (BitVec.ofInt 64 (-1)).toNat = 18446744073709551615 := by decide
    rw [e3, hb, BitVec.toNat_xor, ofInt_u64 _ (by omega), e4, Bn.xor_ones _ (by omega), IntKind.wrap_i64]
    omega
theorem unfolded79 (n : Nat) (hn : n < 18446744073709551616) (w : World) :
    Calls Tryd.prog 79 #[.int .u64 (n : Int)] w fun e w' => e = .returned (.int .i64 (Bn.zag n)) ∧ w' = w := by
  go_enter Tryd.func79, Tryd.ntmps79
  go_wp2
  go_ret
  refine ⟨?_, rfl⟩
  rw [← Bn.zag_eq hn]
  rfl
end Go.Proofs.YtbogggnnmbjlfaaDoor
