/- written, Show: walked. -/
import Derived.Test.YtdejnphiejkglaaGreatDoorLxU
import Derived.Lib.ReplaceLaws
import Derived.Lib.SplitLaws
namespace Go.Proofs.YtdejnphiejkglaaGreatDoor
open Go.RowKit
namespace Lx
/-- a text, each ' twice -/
def dbl : Bs → Bs
  | [] => []
  | b :: r => if b = 39 then 39 :: 39 :: dbl r else b :: dbl r
theorem index_ne {b : UInt8} {l : Bs} (h : b ≠ 39) : Lib.index (b :: l) [39] = if Lib.index l [39] == -1 then -1 else Lib.index l [39] + 1 := by
  rw [Lib.index, if_neg (by simp [List.isPrefixOf]; exact fun e => h e.symm)]
theorem replaceK_ne {b : UInt8} {l : Bs} (h : b ≠ 39) : ∀ k, Lib.replaceK [39] [39, 39] k (b :: l) = b :: Lib.replaceK [39] [39, 39] k l
  | 0 => rfl
  | k + 1 => by
    have hg := Lib.index_ge l [39]
    rw [Lib.replaceK, Lib.replaceK, index_ne h]
    by_cases hi : Lib.index l [39] == -1
    · rw [if_pos hi, if_pos hi]; rfl
    · rw [if_neg hi, if_neg hi]
      rw [beq_iff_eq] at hi
      rw [if_neg (by rw [beq_iff_eq]; omega)]
      obtain ⟨i, hi2⟩ : ∃ i : Nat, Lib.index l [39] = (i : Int) := ⟨(Lib.index l [39]).toNat, by omega⟩
      rw [hi2, show ((i : Int) + 1).toNat = i + 1 by omega, Int.toNat_natCast]
      rfl
theorem replaceK_eq (l : Bs) (k : Nat) : Lib.replaceK [39] [39, 39] (k + 1) (39 :: l) = 39 :: 39 :: Lib.replaceK [39] [39, 39] k l := by
  have e : Lib.index (39 :: l) [39] = 0 := by rw [Lib.index, if_pos (by simp [List.isPrefixOf])]
  rw [Lib.replaceK, e]
  rfl
theorem replaceK_dbl : ∀ (l : Bs) (k : Nat), l.count 39 ≤ k → Lib.replaceK [39] [39, 39] k l = dbl l
  | [], k, _ => by
    cases k with
    | zero => rfl
    | succ k => rw [Lib.replaceK, if_pos (by rfl)]; rfl
  | b :: r, k, h => by
    by_cases hb : b = 39
    · subst hb
      rw [List.count_cons_self] at h
      obtain ⟨k', rfl⟩ : ∃ k', k = k' + 1 := ⟨k - 1, by omega⟩
      rw [replaceK_eq, dbl, if_pos rfl, replaceK_dbl r k' (by omega)]
    · rw [List.count_cons_of_ne hb] at h
      rw [replaceK_ne hb, dbl, if_neg hb, replaceK_dbl r k h]
theorem replaceAll_dbl (t : Bs) : Lib.replaceAll t [39] [39, 39] = dbl t := by
  rw [Lib.replaceAll, Lib.replace, if_neg (by decide), Lib.replaceNum, if_pos (.inl (by decide)), Lib.count_one]
  exact replaceK_dbl t _ (Nat.le_refl _)
theorem dbl_len : ∀ t : Bs, (dbl t).length ≤ 2 * t.length
  | [] => Nat.le_refl _
  | b :: r => by
    have := dbl_len r
    rw [dbl]
    split <;> simp <;> omega
/-- what a token is read from -/
def wr (k : Nat) (t : Bs) (n : Int) : Bs := if k = 3 then Lib.itoa n else if k = 4 then [39] ++ dbl t ++ [39] else t
theorem cat3 (a b c : Bs) : ((bs a) ++ (bs b)) ++ (bs c) = bs (a ++ b ++ c) := by
  apply ByteArray.ext
  simp [bs, ByteArray.data_append]
end Lx
/-- a token's box -/
def TB (W : World) (Q : Nat) (k : Nat) (t : Lx.Bs) (n a : Int) : Prop := W.heap[Q]? = some (.cells #[.int .u8 (k : Int), .string (Lx.bs t), .int .i64 n, .int .i64 a] 24 (0, 0))
theorem TB.call {W W' : World} {Q k : Nat} {t : Lx.Bs} {n a : Int} (h : TB W Q k t n a) (hb : Below W.heap.size W W') : TB W' Q k t n a := (hb.block _ (Array.getElem?_eq_some_iff.1 h).1).trans h
theorem TB.cells {W : World} {Q k : Nat} {t : Lx.Bs} {n a : Int} (h : TB W Q k t n a) : W.cell? ⟨Q, 0, none⟩ = some (.int .u8 (k : Int)) ∧ W.cell? ⟨Q, 1, none⟩ = some (.string (Lx.bs t)) ∧ W.cell? ⟨Q, 2, none⟩ = some (.int .i64 n) ∧ W.cell? ⟨Q, 3, none⟩ = some (.int .i64 a) := by
  refine ⟨?_, ?_, ?_, ?_⟩ <;> (rw [cell_of_row _ _ _ _ _ _ h]; rfl)
set_option maxHeartbeats 2000000 in
set_option maxRecDepth 100000 in
theorem written_c (k : Nat) (t : Lx.Bs) (n a : Int) (ht : t.length ≤ 1024) (hn : -9223372036854775808 ≤ n ∧ n ≤ 9223372036854775807) (w : World) (hL : HasL w) : Calls Tryz.prog 17 #[.agg #[.int .u8 (k : Int), .string (Lx.bs t), .int .i64 n, .int .i64 a]] w fun e w' => e = .returned (.string (Lx.bs (Lx.wr k t n))) ∧ Below w.heap.size w w' := by
  obtain ⟨w1, hw1⟩ : ∃ w1, w1 = w.alloc (.cells #[.int .u8 (k : Int), .string (Lx.bs t), .int .i64 n, .int .i64 a] 24) := ⟨_, rfl⟩
  have hb1 : Below w.heap.size w w1 := by rw [hw1]; exact (Below.refl _ _).alloc (Nat.le_refl _) _
  have X1 : Hid (TB w1 w.heap.size k t n a ∧ Below w.heap.size w w1) := ⟨by rw [hw1]; exact heap_alloc_new w _, hb1⟩
  have CF : Hid (Calls Tryz.prog 42 #[.int .i64 n, .int .i64 10] w1 fun e w' => e = .returned (.string (Lx.bs (Lib.itoa n))) ∧ Below w1.heap.size w1 w') := format_c n hn.1 hn.2 w1 (hL.stays hb1)
  obtain ⟨R, hR⟩ : ∃ R, R = Lx.bs (Lx.dbl t) := ⟨_, rfl⟩
  have hRs : (R.size : Int) ≤ 4096 := by have := Lx.dbl_len t; rw [hR, Lx.bs_size]; omega
  have CR : Hid (Calls Tryz.prog 43 #[.string (Lx.bs t), .string { data := #[39] }, .string { data := #[39, 39] }] w1 fun e w' => e = .returned (.string R) ∧ Below w1.heap.size w1 w') := by
    obtain ⟨m, hm⟩ := (hL.stays hb1).mx
    have hsz := Lx.bs_size t
    have hc := Lib.countB_mul_le { data := #[39] } (by decide) _ (Lx.bs t) (Nat.le_refl _)
    have h := Tryz.strings_ReplaceAll (Lx.bs t) { data := #[39] } { data := #[39, 39] } m w1 (by omega) hm (by decide) (by
      have e1 : ({ data := #[39] } : ByteArray).size = 1 := rfl
      have e2 : ({ data := #[39, 39] } : ByteArray).size = 2 := rfl
      rw [e1] at hc
      rw [e2]
      omega)
    rw [Lx.bs_data] at h
    rw [hR, ← Lx.replaceAll_dbl]
    exact h
  have HCAT : Hid (({ data := #[39] } : ByteArray) ++ R ++ { data := #[39] } = Lx.bs ([39] ++ Lx.dbl t ++ [39])) := by
    rw [hR]; exact Lx.cat3 [39] _ [39]
  clear hb1 hR hL hn ht
  go_enter Tryz.func17, Tryz.ntmps17
  go_upto_region 1 with fail
  rw [← hw1]
  clear hw1
  obtain ⟨p0, p1, p2, p3⟩ := X1.out.1.cells
  have HB1 : Hid (Below w.heap.size w w1) := X1.out.2
  by_cases h3 : k = 3
  · subst h3
    have q3 : (((3 : Nat) : Int) == 3) = true := rfl
    have HR : Hid (Lx.wr 3 t n = Lib.itoa n) := by show _ = _; rw [Lx.wr, if_pos rfl]
    go_wp2_with fail
    refine Calls.mono CF.out ?_
    rintro e w2 ⟨rfl, hb2⟩
    have HF := HB1.out.trans (hb2.mono HB1.out.size)
    clear hb2
    go_wp2
    go_ret
    exact ⟨by rw [HR.out]; rfl, HF⟩
  · have q3 : ((k : Int) == 3) = false := by rw [beq_eq_false_iff_ne]; omega
    by_cases h4 : k = 4
    · subst h4
      have HR : Hid (Lx.wr 4 t n = [39] ++ Lx.dbl t ++ [39]) := by show _ = _; rw [Lx.wr, if_neg (by decide), if_pos rfl]
      go_wp2_with fail
      refine Calls.mono CR.out ?_
      rintro e w2 ⟨rfl, hb2⟩
      have HF := HB1.out.trans (hb2.mono HB1.out.size)
      clear hb2
      have e1 : (({ data := #[39] } : ByteArray).size : Int) = 1 := rfl
      have e2 : (({ data := #[39] } ++ R : ByteArray).size : Int) = 1 + (R.size : Int) := by rw [ByteArray.size_append]; show ((1 + R.size : Nat) : Int) = _; omega
      go_wp2
      all_goals first
        | (exfalso; simp at *; omega)
        | (go_ret; exact ⟨by rw [HR.out, ← HCAT.out]; rfl, HF⟩)
    · have q4 : ((k : Int) == 4) = false := by rw [beq_eq_false_iff_ne]; omega
      have HR : Hid (Lx.wr k t n = t) := by show _ = _; rw [Lx.wr, if_neg h3, if_neg h4]
      have HF := HB1.out
      go_wp2
      go_ret
      exact ⟨by rw [HR.out]; rfl, HF⟩
end Go.Proofs.YtdejnphiejkglaaGreatDoor
