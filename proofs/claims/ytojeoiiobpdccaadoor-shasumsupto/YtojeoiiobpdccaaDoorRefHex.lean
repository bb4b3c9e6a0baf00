/- What the reference's Hex makes of a text: two digits for each byte. -/
import Derived.Test.YtojeoiiobpdccaaDoorHex
import Derived.Deep.RegionHeld3
namespace Go.Proofs.YtojeoiiobpdccaaDoor
open Go.RowKit
attribute [local go_sem ↓] Go.wp_at_zero Go.wp_at_succ
set_option maxHeartbeats 2000000 in
set_option maxRecDepth 10000 in
theorem hex12 (s : ByteArray) (hs : s.size ≤ 2147483648) (w : World) :
    Calls Tryd.prog 12 #[.string s] w fun e w' => e = .returned (.string ⟨(Sh.hexOf s.data.toList).toArray⟩) ∧ Below w.heap.size w w' := by
  obtain ⟨i0, hi, hz0, hz1, hz2⟩ := info_parts info5
  go_enter Tryd.func12, Tryd.ntmps12
  go_wp2
  go_loopw [3, 4] (fun v i wr => ∃ k : Nat, k ≤ s.size ∧ i = .int .i64 k ∧ wr.ownsRow w.heap.size 5 1 v (Sh.hexOf (s.data.toList.take k)).length (Lib.byteCells (Sh.hexOf (s.data.toList.take k))) ∧ Below w.heap.size w wr ∧ w.heap.size ≤ wr.heap.size) (fun _ i _ => s.size - (intOf i).toNat)
  case atStart => exact ⟨0, by omega, rfl, World.ownsRow_nil _ _ _ _, Below.refl _ _, Nat.le_refl _⟩
  case round =>
    obtain ⟨k, hk, rfl, hown, hnx, hsz⟩ := hrel
    by_cases hlt : k < s.size
    · obtain ⟨b, hb⟩ : ∃ b, b = s.data.toList.getD k 0 := ⟨_, rfl⟩
      have hbl : b.toNat < 256 := UInt8.toNat_lt _
      have hix : ∀ wx, (Instr.index 9 (.string s) (.int .i64 (k : Int))).run Tryd.prog wx = .ok (.int .u8 (b.toNat : Int)) wx := fun wx => by rw [hb]; exact index_byte s k (by omega) (by omega) wx
      obtain ⟨q, hq⟩ : ∃ q : Nat, q = b.toNat / 16 := ⟨_, rfl⟩
      obtain ⟨r, hr⟩ : ∃ r : Nat, r = b.toNat % 16 := ⟨_, rfl⟩
      have hsh : (b.toNat : Int) / 16 = (q : Int) := by omega
      have han : (b.toNat : Int) % 16 = (r : Int) := by omega
      have hsh2 : (b.toNat : Int).tdiv 16 = (q : Int) := by rw [Int.tdiv_eq_ediv_of_nonneg (by omega)]; omega
      have han2 : (b.toNat : Int).tmod 16 = (r : Int) := by rw [Int.tmod_eq_emod_of_nonneg (by omega)]; omega
      have hwq : IntKind.u8.wrap (q : Int) = (q : Int) := by rw [IntKind.wrap_u8]; omega
      have d1 : ∀ wx, (Instr.index 9 (.string ⟨#[48, 49, 50, 51, 52, 53, 54, 55, 56, 57, 97, 98, 99, 100, 101, 102]⟩) (.int .u8 (q : Int))).run Tryd.prog wx = .ok (.int .u8 (((Sh.digit q).toNat : Nat) : Int)) wx := index_digit q (by omega)
      have d2 : ∀ wx, (Instr.index 9 (.string ⟨#[48, 49, 50, 51, 52, 53, 54, 55, 56, 57, 97, 98, 99, 100, 101, 102]⟩) (.int .u8 (r : Int))).run Tryd.prog wx = .ok (.int .u8 (((Sh.digit r).toNat : Nat) : Int)) wx := index_digit r (by omega)
      obtain ⟨x1, hx1⟩ : ∃ x : Nat, x = (Sh.digit q).toNat := ⟨_, rfl⟩
      obtain ⟨x2, hx2⟩ : ∃ x : Nat, x = (Sh.digit r).toNat := ⟨_, rfl⟩
      rw [← hx1] at d1
      rw [← hx2] at d2
      have hlen : (Sh.hexOf (s.data.toList.take k)).length = 2 * k := by rw [Sh.hexOf_length, List.length_take, ← Lib.size_eq]; omega
      have hnext : Hid (Lib.byteCells (Sh.hexOf (s.data.toList.take (k + 1))) = Lib.byteCells (Sh.hexOf (s.data.toList.take k)) ++ [.int .u8 (x1 : Int), .int .u8 (x2 : Int)] ∧ (Sh.hexOf (s.data.toList.take (k + 1))).length = (Sh.hexOf (s.data.toList.take k)).length + 2) := by
        show _ ∧ _
        have hkl : k < s.data.toList.length := by rw [← Lib.size_eq]; exact hlt
        have e : s.data.toList[k] = b := by rw [hb, List.getD_eq_getElem?_getD, List.getElem?_eq_getElem hkl]; rfl
        rw [List.take_succ_eq_append_getElem hkl, Sh.hexOf_append, e, hx1, hx2, hq, hr]
        exact ⟨by simp [Lib.byteCells, Sh.hexOf], by simp [Sh.hexOf]⟩
      have hbs := own_block_le hown
      have HBS : Hid (∀ k, _ → _) := hbs
      have HOW : Hid (wr.ownsRow _ _ _ _ _ _) := hown
      have hb63 : Hid ((Sh.hexOf (s.data.toList.take k)).length + 2 ≤ maxLen) := by show _ ≤ _; unfold maxLen; omega
      have hb47 : Hid (((Sh.hexOf (s.data.toList.take k)).length + 2) * 1 ≤ 140737488355328) := by show _ ≤ _; omega
      clear hown hbs hb hq hr hx1 hx2 hlen
      have k0 : (0 : Int) ≤ (k : Int) := by omega
      have k1 : (k : Int) < (s.size : Int) := by omega
      go_wp2
      go_region_held3 (fun _ => True) (trivial) ((refine step_append_lies _ (by rfl) _ _ _ (by rfl) w.heap.size 5 i0 _ 1 1 Tryd.underlying44 hi hz0 hz1 hz2 rfl (by omega) _ _ _ (by rfl) ((HOW.out.alloc _).drew) ⟨wr.heap.size, 0, none⟩ 2 2 [.int .u8 (x1 : Int), .int .u8 (x2 : Int)] (by rfl) (by rfl) (two_new _ _ _ _) (by simp [Value.oneCell']) (by omega) hb63.out hb47.out (by simp; omega) (wr.heap.size + 1) (by simp) ?_; intro gg cap w1 hown1 hgrow hat hglt))
      all_goals
        have R1 : Hid (w1.ownsRow w.heap.size 5 1 (.slice (some ⟨gg, 0, none⟩) ((Sh.hexOf (s.data.toList.take k)).length + 2) cap) (Sh.hexOf (s.data.toList.take (k + 1))).length (Lib.byteCells (Sh.hexOf (s.data.toList.take (k + 1))))) := by
          rw [hnext.out.1, hnext.out.2]
          exact hown1
        have R2 : Hid (Below w.heap.size w w1) := (hnx.alloc (by omega) _).drew.grown hgrow (by simp; omega) HBS.out
        have R3 : w.heap.size ≤ w1.heap.size := by
          have := hgrow.size
          simp at this
          omega
        clear hown1 hgrow hat hglt hnx hsz
        go_wp2
        go_roundw
        case rel => first | exact ⟨k + 1, by omega, by go_num, R1.out, R2.out, R3⟩ | ((repeat apply Exists.intro); exact ⟨⟨k + 1, by omega, by go_num, R1.out, R2.out, R3⟩, rfl⟩)
        case measure => simp [intOf]; omega
    · have hk8 : k = s.size := by omega
      subst hk8
      have hall : s.data.toList.take s.size = s.data.toList := List.take_of_length_le (by rw [← Lib.size_eq]; exact Nat.le_refl _)
      rw [hall] at hown
      obtain ⟨a, n, cap, str, hv, hconv, hstr⟩ := own_string_any hown
      rw [hv]
      clear hown hv hall
      go_wp2
      go_ret
      exact ⟨ret_str hstr.out, hnx⟩
end Go.Proofs.YtojeoiiobpdccaaDoor
