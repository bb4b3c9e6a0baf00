/- The law ValueOrder, walked: it answers true whatever the values. -/
import Derived.Test.YtcgkoogdgagddaaDoorLivesW
namespace Go.Proofs.YtcgkoogdgagddaaDoor
open Go.RowKit
open Vl (V)
namespace Vl
theorem int_bound (a b : Int) : -1 ≤ Lib.compareInt a b ∧ Lib.compareInt a b ≤ 1 := by
  unfold Lib.compareInt
  (repeat' split) <;> omega
theorem bytes_bound : ∀ a b : List UInt8, -1 ≤ Lib.compareBytes a b ∧ Lib.compareBytes a b ≤ 1
  | [], [] => by simp [Lib.compareBytes]
  | [], _ :: _ => by simp [Lib.compareBytes]
  | _ :: _, [] => by simp [Lib.compareBytes]
  | x :: r, y :: q => by
    rw [Lib.compareBytes]
    split
    · omega
    · split
      · omega
      · exact bytes_bound r q
theorem bool_bound (a b : Bool) : -1 ≤ cmpBool a b ∧ cmpBool a b ≤ 1 := by cases a <;> cases b <;> simp [cmpBool]
mutual
theorem cmp_bound : ∀ a b : V, -1 ≤ cmp a b ∧ cmp a b ≤ 1
  | ⟨k, b, n, s, l, f⟩, ⟨k', b', n', s', l', f'⟩ => by
    have h1 := int_bound (k : Int) (k' : Int)
    have h2 := bool_bound b b'
    have h3 := int_bound n n'
    have h4 : -1 ≤ cmpS s s' ∧ cmpS s s' ≤ 1 := bytes_bound _ _
    have h5 := cmpL_bound l l'
    have h6 := cmpF_bound f f'
    rw [cmp]
    (repeat' split) <;> omega
theorem cmpL_bound : ∀ a b : List V, -1 ≤ cmpL a b ∧ cmpL a b ≤ 1
  | [], [] => by simp [cmpL]
  | [], _ :: _ => by simp [cmpL]
  | _ :: _, [] => by simp [cmpL]
  | x :: r, y :: q => by
    have h1 := cmp_bound x y
    have h2 := cmpL_bound r q
    rw [cmpL]
    split <;> omega
theorem cmpF_bound : ∀ a b : List (ByteArray × V), -1 ≤ cmpF a b ∧ cmpF a b ≤ 1
  | [], [] => by simp [cmpF]
  | [], _ :: _ => by simp [cmpF]
  | _ :: _, [] => by simp [cmpF]
  | (m, x) :: r, (p, y) :: q => by
    have h0 : -1 ≤ cmpS m p ∧ cmpS m p ≤ 1 := bytes_bound _ _
    have h1 := cmp_bound x y
    have h2 := cmpF_bound r q
    rw [cmpF]
    (repeat' split) <;> omega
end
/-- right values are the same just if there is no order between -/
theorem zero_same (u : ByteArray → Bool) (a b : V) (ha : check u 0 a = 0) (hb : check u 0 b = 0) : decide (cmp a b = 0) = same a b := by
  by_cases h : cmp a b = 0
  · have e := cmp_same u a b 0 0 ha hb h
    subst e
    rw [same_refl, decide_eq_true h]
  · rw [decide_eq_false h]
    cases hs : same a b
    · rfl
    · have e := same_eq a b hs
      subst e
      exact absurd (cmp_refl a) h
end Vl
/-- the three values in boxes -/
structure OS (w W : World) (H : Nat) (a b c : V) (a0 a1 a2 a3 a4 a5 b0 b1 b2 b3 b4 b5 c0 c1 c2 c3 c4 c5 : Value) : Prop where
  below : Below w.heap.size w W
  low : H ≤ w.heap.size
  t : HasT W
  ra : Row6 W w.heap.size a0 a1 a2 a3 a4 a5
  rb : Row6 W (w.heap.size + 1) b0 b1 b2 b3 b4 b5
  rc : Row6 W (w.heap.size + 1 + 1) c0 c1 c2 c3 c4 c5
  va : Rep W H a (.agg #[a0, a1, a2, a3, a4, a5])
  vb : Rep W H b (.agg #[b0, b1, b2, b3, b4, b5])
  vc : Rep W H c (.agg #[c0, c1, c2, c3, c4, c5])
theorem OS.call {w W W' : World} {H : Nat} {a b c : V} {a0 a1 a2 a3 a4 a5 b0 b1 b2 b3 b4 b5 c0 c1 c2 c3 c4 c5 : Value} (h : OS w W H a b c a0 a1 a2 a3 a4 a5 b0 b1 b2 b3 b4 b5 c0 c1 c2 c3 c4 c5) (hb : Below W.heap.size W W') : OS w W' H a b c a0 a1 a2 a3 a4 a5 b0 b1 b2 b3 b4 b5 c0 c1 c2 c3 c4 c5 := by
  have hH : H ≤ W.heap.size := Nat.le_trans h.low h.below.size
  exact ⟨h.below.trans (hb.mono h.below.size), h.low, h.t.stays hb, h.ra.call hb, h.rb.call hb, h.rc.call hb, rep_stays (hb.mono hH) (Nat.le_refl _) a _ h.va, rep_stays (hb.mono hH) (Nat.le_refl _) b _ h.vb, rep_stays (hb.mono hH) (Nat.le_refl _) c _ h.vc⟩
end Go.Proofs.YtcgkoogdgagddaaDoor
