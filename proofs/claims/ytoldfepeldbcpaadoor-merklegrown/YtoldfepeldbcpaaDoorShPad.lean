/- What sha.padding lays behind a text of so many bytes. -/
import Derived.Test.YtoldfepeldbcpaaDoorShAppend
import Derived.Laws.IdiomStrings
import Derived.Laws.OwnMore
namespace Go.Proofs.YtoldfepeldbcpaaDoor
open Go.RowKit
namespace Sh
/-- how many noughts -/
def nz (c : Nat) : Nat := (119 - c % 64) % 64
/-- the bytes behind a text of c bytes -/
def pad (c : Nat) : List UInt8 := ([128] ++ List.replicate (nz c) 0) ++ bytesOf (8 * c) 8
end Sh
theorem ret_str {a b : ByteArray} (h : a = b) : Ending.returned (.string a) = .returned (.string b) := by rw [h]
/-- a row of bytes that is owned, as a text -/
theorem own_string {w : World} {base : Nat} {v : Value} {l : List UInt8} (h : w.ownsRow base 5 1 v l.length (Lib.byteCells l)) (hl : l ≠ []) :
    ∃ g n cap str, v = .slice (some ⟨g, 0, none⟩) n cap ∧ (Go.convert 96 9 (.slice (some ⟨g, 0, none⟩) n cap)).run Tryd.prog w = .ok (.string str) w ∧ Hid (str = ⟨l.toArray⟩) := by
  have h0 : l.length ≠ 0 := fun e => hl (List.eq_nil_of_length_eq_zero e)
  rcases h.2 with ⟨_, h'⟩ | ⟨g, cap, cur, rfl, _⟩
  · exact absurd h' h0
  · refine ⟨g, l.length, cap, _, rfl, run_convert_bytes_back w 96 9 5 ⟨g, 0, none⟩ cap l Tryd.underlying96 Tryd.underlying5 Tryd.underlying9 (fun j hj => ?_), rfl⟩
    have e : (⟨g, 0, none⟩ : Addr).add j = ⟨g, j, none⟩ := by rw [Addr.add_mid]; simp
    rw [e, h.cellAt j (by omega)]
    simp [Lib.byteCells, hj]
theorem append26_8 (base : Nat) (v : Value) (l : List UInt8) (n : Nat) (N : Int) (hN : N = (n : Int)) (hn : n < 18446744073709551616) (hl : l.length ≤ 4294967296) (w : World) (hB : base ≤ w.heap.size)
    (ho : w.ownsRow base 5 1 v l.length (Lib.byteCells l)) :
    Calls Tryd.prog 51 #[v, .int .u64 N, .int .i64 8] w fun e w' => ∃ v', e = .returned v' ∧ w'.ownsRow base 5 1 v' (l ++ Sh.bytesOf n 8).length (Lib.byteCells (l ++ Sh.bytesOf n 8)) ∧ Below base w w' := by
  subst hN
  exact append26 base v l n 8 (by omega) hn hl w hB ho
theorem append26_4 (base : Nat) (v : Value) (l : List UInt8) (n : Nat) (N : Int) (hN : N = (n : Int)) (hn : n < 18446744073709551616) (hl : l.length ≤ 4294967296) (w : World) (hB : base ≤ w.heap.size)
    (ho : w.ownsRow base 5 1 v l.length (Lib.byteCells l)) :
    Calls Tryd.prog 51 #[v, .int .u64 N, .int .i64 4] w fun e w' => ∃ v', e = .returned v' ∧ w'.ownsRow base 5 1 v' (l ++ Sh.bytesOf n 4).length (Lib.byteCells (l ++ Sh.bytesOf n 4)) ∧ Below base w w' := by
  subst hN
  exact append26 base v l n 4 (by omega) hn hl w hB ho
theorem pad_own (w : World) (z : Nat) (hz : z < 64) (M : Array Value) (hM : M.toList = List.replicate (9 + z) (.int .u8 0)) :
    (w.alloc (.cells (M.setIfInBounds 0 (.int .u8 128)) 5)).ownsRow w.heap.size 5 1 (.slice (some ⟨w.heap.size, 0, none⟩) (1 + z) (9 + z)) ([(128 : UInt8)] ++ List.replicate z 0).length (Lib.byteCells ([128] ++ List.replicate z 0)) := by
  have hs : M.size = 9 + z := by rw [← Array.length_toList, hM]; simp
  have hln : ([(128 : UInt8)] ++ List.replicate z 0 : List UInt8).length = z + 1 := by simp
  refine ⟨by simp [Lib.byteCells], Or.inr ⟨w.heap.size, 9 + z, M.setIfInBounds 0 (.int .u8 128), ?_, Nat.le_refl _, heap_alloc_new w _, by simp; omega, ?_, by simp [hs], ?_⟩⟩
  · rw [hln, Nat.add_comm]
  · unfold maxLen; omega
  · rw [Array.toList_setIfInBounds, hM, show 9 + z = (z + 8) + 1 by omega, List.replicate_succ, List.set_cons_zero, hln, Nat.mul_one, List.take_succ_cons, List.take_replicate, show min z (z + 8) = z by omega]
    simp [Lib.byteCells]
set_option maxHeartbeats 1000000 in
theorem padding25 (c : Nat) (hc : c < 1152921504606846976) (w : World) :
    Calls Tryd.prog 50 #[.int .u64 c] w fun e w' => e = .returned (.string ⟨(Sh.pad c).toArray⟩) ∧ Below w.heap.size w w' := by
  obtain ⟨i0, hi, hz0, hz1, hz2⟩ := info_parts info5
  obtain ⟨z, hz⟩ : ∃ z, z = Sh.nz c := ⟨_, rfl⟩
  have hzz : (119 - (c : Int)) % 64 = z := by rw [hz]; unfold Sh.nz; omega
  have hz64 : z < 64 := by rw [hz]; unfold Sh.nz; omega
  obtain ⟨M, hM⟩ : ∃ M, M = madeCells (Value.int .u8 0).cells ((1 + (119 - (c : Int)) % 64 + 8).toNat * i0.size) := ⟨_, rfl⟩
  have hMl : M.toList = List.replicate (9 + z) (.int .u8 0) := by
    rw [hM, hz1, hzz, show (1 + (z : Int) + 8).toNat * 1 = 9 + z by omega]
    exact toList_madeCells_one (.int .u8 0) (9 + z)
  have hmk : ∀ u : World, (Instr.makeSlice 96 (.int .u64 (1 + (119 - (c : Int)) % 64)) (.int .u64 (1 + (119 - (c : Int)) % 64 + 8))).run Tryd.prog u = .ok (.slice (some ⟨u.heap.size, 0, none⟩) (1 + z) (9 + z)) (u.alloc (.cells M 5)) := fun u => by
    have h := run_make (P := Tryd.prog) u 96 5 i0 (.int .u8 0) Tryd.underlying96 hi hz0 .u64 .u64 (1 + (119 - (c : Int)) % 64) (1 + (119 - (c : Int)) % 64 + 8) (by omega) (by omega) (by rw [hz2]; omega) (by omega)
    rw [← hM, show (1 + (119 - (c : Int)) % 64).toNat = 1 + z by omega, show (1 + (119 - (c : Int)) % 64 + 8).toNat = 9 + z by omega] at h
    exact h
  have hMs : M.size = 9 + z := by rw [← Array.length_toList, hMl]; simp
  have hM0 : M[0]? = some (.int .u8 0) := by rw [← Array.getElem?_toList, hMl, List.getElem?_replicate]; simp
  have HO : Hid ((w.alloc (.cells (M.setIfInBounds 0 (.int .u8 128)) 5)).ownsRow w.heap.size 5 1 (.slice (some ⟨w.heap.size, 0, none⟩) (1 + z) (9 + z)) ([(128 : UInt8)] ++ List.replicate z 0).length (Lib.byteCells ([128] ++ List.replicate z 0))) := pad_own w z hz64 M hMl
  have HZ : Hid (z = Sh.nz c) := hz
  have hlen : Hid (([(128 : UInt8)] ++ List.replicate z 0).length ≤ 4294967296) := by show _ ≤ _; simp; omega
  clear hz hM hMl hzz hi hz0 hz1 hz2
  have q1 : (0 : Int) < 1 + (z : Int) := by omega
  go_enter Tryd.func50, Tryd.ntmps50
  go_wp2_with fail
  refine (append26_8 w.heap.size _ ([(128 : UInt8)] ++ List.replicate z 0) (8 * c) _ (by omega) (by omega) hlen.out _ (by simp) HO.out).mono ?_
  rintro e w1 ⟨v', rfl, ho', hb'⟩
  obtain ⟨g, n, cap, str, hv, hconv, hstr⟩ := own_string ho' (by simp)
  rw [hv]
  have hB1 : Below w.heap.size w w1 := (((Below.refl _ w).alloc (Nat.le_refl _) _)).trans hb'
  have HB : Hid (Below w.heap.size w w1) := hB1
  clear ho' hb' hB1 hv
  go_wp2
  go_ret
  exact ⟨ret_str (by rw [hstr.out, Sh.pad, ← HZ.out]), HB.out⟩
end Go.Proofs.YtoldfepeldbcpaaDoor
